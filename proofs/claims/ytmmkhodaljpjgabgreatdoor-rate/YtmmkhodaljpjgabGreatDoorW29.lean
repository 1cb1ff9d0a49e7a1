import Derived.Test.YtmmkhodaljpjgabGreatDoorW28
namespace Go.Proofs.YtmmkhodaljpjgabGreatDoor
open Go.RowKit
/-- Another number of entries. -/
theorem Tri.reset {q : Tq} {B m n : Nat} {s : Sv} {F : Nat → Prop} {w W : World} (h : Tri q B m n s F w) (n' : Nat) (n1 : 1 ≤ n') (n2 : n' ≤ q.N) (hr : TrRow q.bt (.pointer (some ⟨q.bx, 0, none⟩)) q.up q.ex (.slice (some ⟨q.g, 0, none⟩) q.N q.cap) n' q.mode q.win W) (ho : Off (fun j => j = q.bt) w W) : Tri q B m n' s F W := by
  refine ⟨hr, h.ok, fun i hi => ?_, Nat.lt_of_lt_of_le h.lg ho.size, h.ps.keep (fun k hk => ho.block k (h.ps.lt hk) (fun e => h.fb (by rw [← e]; exact hk))), h.fb, h.fg, h.gt, h.lo, h.hb, h.hg, Nat.le_trans h.hs ho.size, n1, n2, h.inv, h.ld, h.wd, h.em, h.ew, h.rf, h.bs.imp fun _ ⟨a1, b1, c1, d1⟩ => ⟨a1, b1, c1, d1.trans (ho.below (fun k e => by rw [e]; exact h.hb) h.hs)⟩⟩
  have c := h.lies i hi
  have k : ∀ j, W.cell? ⟨q.g, j, none⟩ = w.cell? ⟨q.g, j, none⟩ := fun j => World.cell?_of_block (ho.block q.g h.lg h.gt)
  exact ⟨(k _).trans c.1, (k _).trans c.2⟩
theorem Tri.load {q : Tq} {B m n : Nat} {s : Sv} {F F' : Nat → Prop} {w w' : World} (h : Tri q B m n s F w) (t : ByteArray) (hp : PS q.bx (s.load (Txt.parse t)).2.2 F' w') (ho : Off F w w') (hf : ∀ k, F' k → F k ∨ w.heap.size ≤ k) : Tri q B (m + 1) n (s.load (Txt.parse t)).2.2 F' w' := by
  have g := (Sv.goes_load h.ld (Txt.parse t)).1
  exact h.next hp ho hf (h.inv.load t) g.ld (Sv.wd_load h.inv h.wd t) g.mode g.win (m + 1) (by have := Sv.load_ref h.ld (Txt.parse t); have := h.rf; omega)
/-- A trial's file. -/
theorem Tri.file {q : Tq} {B m n : Nat} {s : Sv} {F : Nat → Prop} {w : World} (h : Tri q B m n s F w) (short : Bool) :
    Calls Tryz.prog 19 #[.pointer (some ⟨q.bt, 0, none⟩), .bool short] w fun e w' => ∃ t : ByteArray, e = .returned (.string t) ∧ t.size ≤ 1000000 ∧ Below w.heap.size w w' :=
  (k_file q.bt _ q.up q.ex q.mode q.win q.g q.N q.cap n q.ls short w h.row h.ok.len h.lies h.lg h.n1 h.n2 h.ok.N12 h.ok.bd h.ok.u0 h.ok.u1 h.ok.x0 h.ok.x1 h.tb h.pw).mono fun e w' ⟨a, b⟩ => ⟨_, a, printed_size _ _ _ (by rw [List.length_take]; have := h.ok.len; have := h.ok.N12; omega), b⟩
theorem Tri.loads {q : Tq} {B m n : Nat} {s : Sv} {F : Nat → Prop} {w : World} (h : Tri q B m n s F w) (hm : m ≤ 1000) (t : ByteArray) (ht : t.size ≤ 1000000) :
    Calls Tryz.prog 20 #[.pointer (some ⟨q.bx, 0, none⟩), .string t] w fun e w' => e = .returned (.tuple #[.int .i64 (s.load (Txt.parse t)).1, .int .i64 (s.load (Txt.parse t)).2.1]) ∧ ∃ F', Tri q B (m + 1) n (s.load (Txt.parse t)).2.2 F' w' ∧ Off F w w' ∧ ∀ k, F' k → F k ∨ w.heap.size ≤ k :=
  Calls.mono (p_load s t h.inv (by have := h.rf; omega) ht q.bx F w h.ps h.tb) fun e w' ⟨a, F', hp, ho, hf⟩ => ⟨a, F', h.load t hp ho hf, ho, hf⟩
theorem Tri.done {q : Tq} {B m n : Nat} {s : Sv} {F F' : Nat → Prop} {w w' : World} (a b : Int) (t : ByteArray) (h : Tri q B (m + 1) n (s.load (Txt.parse t)).2.2 F' w') (hb : Off (fun j => F j ∨ j = q.bt) w w' ∧ ∀ j, F' j → F j ∨ w.heap.size ≤ j) : DoesP' q B m s F w 2 a b (.returned (.int .i64 (s.load (Txt.parse t)).1)) w' :=
  ⟨_, _, _, _, rfl, h, hb, ⟨fun e => by omega, fun _ => ⟨t, rfl, rfl⟩, fun _ e => absurd rfl e⟩⟩
set_option maxRecDepth 100000 in
set_option maxHeartbeats 6400000 in
theorem does_load (q : Tq) (B m n : Nat) (s : Sv) (F : Nat → Prop) (w : World) (a b : Int) (wa : (Lit.int .i64 a).wf = true) (wb : (Lit.int .i64 b).wf = true) (hm : m ≤ 1000) (h : Tri q B m n s F w) :
    Calls Tryz.prog 11 #[.pointer (some ⟨q.bt, 0, none⟩), .agg #[.int .i64 2, .int .i64 a, .int .i64 b]] w fun e w' => DoesP' q B m s F w 2 a b e w' := by
  have B0 := hid' ((Below.refl w.heap.size w).alloc (Nat.le_refl _) (.cells #[.int .i64 2, .int .i64 a, .int .i64 b] 43))
  have R0 := hid' (heap_alloc_new w (.cells #[.int .i64 2, .int .i64 a, .int .i64 b] 43))
  have TV := hid' (h.keep B0.out)
  have BV := hid' (B0.out.mono h.hs)
  have lb := lt_of_heap h.row
  have n1 := h.n1
  have n2 := h.n2
  have N12 := h.ok.N12
  have ka := kpick_bd a 3 (by omega)
  have kb := kpick_bd b 2 (by omega)
  have P4 := hid' (fun W => keep_pick a 3 W wa (by omega) (by omega))
  have P5 := hid' (fun W => keep_pick b 2 W wb (by omega) (by omega))
  have HB := hid' h.hb
  have HM := hid' hm
  clear h hm
  obtain ⟨bt, bx, g, N, cap, up, ex, mode, win, ls⟩ := q
  simp only at *
  generalize kpick a 3 = d at *
  generalize kpick b 2 = f at *
  obtain ⟨d, rfl⟩ : ∃ d' : Nat, d = d' := ⟨d.toNat, by omega⟩
  go_enter Tryz.func11, Tryz.ntmps11
  go_upto_region 1 with fail
  generalize w.alloc (.cells #[.int .i64 2, .int .i64 a, .int .i64 b] 43) = V at *
  have T0 := hid' TV.out.row
  have c0 := cell_of_row _ _ 0 _ _ _ T0.out
  have c3 := cell_of_row _ _ 3 _ _ _ T0.out
  have c4 := cell_of_row _ _ 4 _ _ _ T0.out
  have fz := frozen_of_row _ _ 4 _ _ T0.out
  have d0 := cell_of_row _ _ 0 _ _ _ R0.out
  have d1 := cell_of_row _ _ 1 _ _ _ R0.out
  have d2 := cell_of_row _ _ 2 _ _ _ R0.out
  simp at c0 c3 c4 d0 d1 d2
  go_wp2_with fail
  refine (P4.out _).mono ?_
  rintro e w2 ⟨rfl, rfl⟩
  have NS : ¬ w.heap.size = bt := by omega
  have R1 := hid' (heap_setCell_same _ bt 4 _ 31 (.int .i64 ((n : Int) + d)) T0.out)
  have e2 : #[Value.pointer (some ⟨bx, 0, none⟩), .int .i64 up, .int .i64 ex, .slice (some ⟨g, 0, none⟩) N cap, .int .i64 (n : Int), .int .i64 mode, .int .i64 win].setIfInBounds 4 (.int .i64 ((n : Int) + d)) = #[.pointer (some ⟨bx, 0, none⟩), .int .i64 up, .int .i64 ex, .slice (some ⟨g, 0, none⟩) N cap, .int .i64 ((n : Int) + d), .int .i64 mode, .int .i64 win] := rfl
  rw [e2] at R1
  clear e2
  have q0 := cell_of_row _ _ 0 _ _ _ R1.out
  have q3 := cell_of_row _ _ 3 _ _ _ R1.out
  have q4 := cell_of_row _ _ 4 _ _ _ R1.out
  have fz1 := frozen_of_row _ _ 4 _ _ R1.out
  simp at q0 q3 q4
  go_upto_region 7 with fail
  by_cases hgt : n + d ≤ N
  · have hgt' : ¬ (N : Int) < (n : Int) + d := by omega
    go_quiet (fail)
    have OQ := hid' (((Off.refl (fun j => j = bt) w2).setCell (p := ⟨bt, 4, none⟩) (fun _ => rfl) (.int .i64 ((n : Int) + d))).drewN nq)
    have RQ := hid' (((below_drewN (Below.refl _ _) nq).block bt (lt_of_heap R1.out)).trans R1.out)
    have RW : Hid (TrRow bt (.pointer (some ⟨bx, 0, none⟩)) up ex (.slice (some ⟨g, 0, none⟩) N cap) ((n + d : Nat) : Int) mode win ((w2.setCell ⟨bt, 4, none⟩ (.int .i64 ((n : Int) + d))).drewN nq)) := by
      show _ = _
      rw [show ((n + d : Nat) : Int) = (n : Int) + d by omega]
      exact RQ.out
    have OW := hid' ((Off.of_below (F := fun j => F j ∨ j = bt) B0.out).trans OQ.out (fun _ _ c => .inr c))
    have RS := hid' ((OQ.out.block _ (lt_of_heap R0.out) NS).trans R0.out)
    have TW := hid' (TV.out.reset (n + d) (by omega) hgt RW.out OQ.out)
    generalize (w2.setCell ⟨bt, 4, none⟩ (.int .i64 ((n : Int) + d))).drewN nq = W at *
    have x0 := cell_of_row _ _ 0 _ _ _ TW.out.row
    have x3 := cell_of_row _ _ 3 _ _ _ TW.out.row
    have x4 := cell_of_row _ _ 4 _ _ _ TW.out.row
    have y2 := cell_of_row _ _ 2 _ _ _ RS.out
    simp at x0 x3 x4 y2
    clear d0 d1 d2 c0 c3 c4 fz T0 R0 TV q0 q3 q4 fz1 R1 RW RQ OQ
    go_wp2_with fail
    refine (P5.out _).mono ?_
    rintro e w9 ⟨rfl, rfl⟩
    have FI := hid' (fun short => TW.out.file short)
    go_wp2_with fail
    refine Calls.mono (FI.out _) ?_
    rintro e w3 ⟨t, rfl, tz, b3⟩
    have T3 := hid' (TW.out.keep b3)
    have O3 := hid' (OW.out.then b3)
    have LD := hid' (T3.out.loads HM.out t tz)
    have z0 := cell_of_row _ _ 0 _ _ _ T3.out.row
    simp at z0
    clear b3 FI x0 x3 x4 y2
    go_wp2_with fail
    refine Calls.mono LD.out ?_
    rintro e w4 ⟨rfl, F4, tri4, o4, f4⟩
    have O4 := hid' (O3.out.trans o4 (fun _ _ c => .inl c))
    have FF : Hid (∀ j, F4 j → F j ∨ w.heap.size ≤ j) := fun j c => (f4 j c).imp (fun e => e) (Nat.le_trans O3.out.size)
    have D0 := hid' (Tri.done (F := F) a b t tri4 ⟨O4.out, FF.out⟩)
    have D1 := hid' (Tri.done (F := F) a b t (tri4.setN n n1 n2) ⟨O4.out.setCell (p := ⟨bt, 4, none⟩) (fun _ => .inr rfl) _, FF.out⟩)
    have z4 := cell_of_row _ _ 4 _ _ _ tri4.row
    have fz4 := frozen_of_row _ _ 4 _ _ tri4.row
    simp at z4
    clear LD tri4 o4 f4 z0
    generalize (s.load (Txt.parse t)).1 = ev at *
    generalize (s.load (Txt.parse t)).2.1 = nv at *
    by_cases he : ev = 0
    · subst he
      go_wp2
      go_ret
      exact D0.out
    · have he' : (ev != 0) = true := bne_iff_ne.2 he
      go_wp2
      go_ret
      exact D1.out
  · have hgt' : (N : Int) < (n : Int) + d := by omega
    go_quiet (fail)
    have RQ := hid' (((below_drewN (Below.refl _ _) nq).block bt (lt_of_heap R1.out)).trans R1.out)
    have OQ := hid' ((((Off.refl (fun j => j = bt) w2).setCell (p := ⟨bt, 4, none⟩) (fun _ => rfl) (.int .i64 ((n : Int) + d))).drewN nq).setCell (p := ⟨bt, 4, none⟩) (fun _ => rfl) (.int .i64 (N : Int)))
    have RW : Hid (TrRow bt (.pointer (some ⟨bx, 0, none⟩)) up ex (.slice (some ⟨g, 0, none⟩) N cap) (N : Int) mode win (((w2.setCell ⟨bt, 4, none⟩ (.int .i64 ((n : Int) + d))).drewN nq).setCell ⟨bt, 4, none⟩ (.int .i64 (N : Int)))) := by
      have e1 := heap_setCell_same _ bt 4 _ 31 (.int .i64 (N : Int)) RQ.out
      exact e1
    go_upto_region 9 with fail
    have OW := hid' ((Off.of_below (F := fun j => F j ∨ j = bt) B0.out).trans OQ.out (fun _ _ c => .inr c))
    have RS := hid' ((OQ.out.block _ (lt_of_heap R0.out) NS).trans R0.out)
    have TW := hid' (TV.out.reset N (by omega) (Nat.le_refl _) RW.out OQ.out)
    generalize ((w2.setCell ⟨bt, 4, none⟩ (.int .i64 ((n : Int) + d))).drewN nq).setCell ⟨bt, 4, none⟩ (.int .i64 (N : Int)) = W at *
    have x0 := cell_of_row _ _ 0 _ _ _ TW.out.row
    have x3 := cell_of_row _ _ 3 _ _ _ TW.out.row
    have x4 := cell_of_row _ _ 4 _ _ _ TW.out.row
    have y2 := cell_of_row _ _ 2 _ _ _ RS.out
    simp at x0 x3 x4 y2
    clear d0 d1 d2 c0 c3 c4 fz T0 R0 TV q0 q3 q4 fz1 R1 RW RQ OQ
    go_wp2_with fail
    refine (P5.out _).mono ?_
    rintro e w9 ⟨rfl, rfl⟩
    have FI := hid' (fun short => TW.out.file short)
    go_wp2_with fail
    refine Calls.mono (FI.out _) ?_
    rintro e w3 ⟨t, rfl, tz, b3⟩
    have T3 := hid' (TW.out.keep b3)
    have O3 := hid' (OW.out.then b3)
    have LD := hid' (T3.out.loads HM.out t tz)
    have z0 := cell_of_row _ _ 0 _ _ _ T3.out.row
    simp at z0
    clear b3 FI x0 x3 x4 y2
    go_wp2_with fail
    refine Calls.mono LD.out ?_
    rintro e w4 ⟨rfl, F4, tri4, o4, f4⟩
    have O4 := hid' (O3.out.trans o4 (fun _ _ c => .inl c))
    have FF : Hid (∀ j, F4 j → F j ∨ w.heap.size ≤ j) := fun j c => (f4 j c).imp (fun e => e) (Nat.le_trans O3.out.size)
    have D0 := hid' (Tri.done (F := F) a b t tri4 ⟨O4.out, FF.out⟩)
    have D1 := hid' (Tri.done (F := F) a b t (tri4.setN n n1 n2) ⟨O4.out.setCell (p := ⟨bt, 4, none⟩) (fun _ => .inr rfl) _, FF.out⟩)
    have z4 := cell_of_row _ _ 4 _ _ _ tri4.row
    have fz4 := frozen_of_row _ _ 4 _ _ tri4.row
    simp at z4
    clear LD tri4 o4 f4 z0
    generalize (s.load (Txt.parse t)).1 = ev at *
    generalize (s.load (Txt.parse t)).2.1 = nv at *
    by_cases he : ev = 0
    · subst he
      go_wp2
      go_ret
      exact D0.out
    · have he' : (ev != 0) = true := bne_iff_ne.2 he
      go_wp2
      go_ret
      exact D1.out
theorem does_step (q : Tq) (B m n : Nat) (s : Sv) (F : Nat → Prop) (w : World) (k a b : Int) (wa : (Lit.int .i64 a).wf = true) (wb : (Lit.int .i64 b).wf = true) (hm : m ≤ 1000) (h : Tri q B m n s F w) :
    Calls Tryz.prog 11 #[.pointer (some ⟨q.bt, 0, none⟩), .agg #[.int .i64 k, .int .i64 a, .int .i64 b]] w fun e w' => DoesP' q B m s F w k a b e w' := by
  by_cases k1 : k = 1
  · subst k1; exact does_hear q B m n s F w a b h
  · by_cases k2 : k = 2
    · subst k2; exact does_load q B m n s F w a b wa wb hm h
    · by_cases k3 : k = 3
      · subst k3; exact does_leap q B m n s F w a b wa h
      · by_cases k4 : k = 4
        · subst k4; exact does_far q B m n s F w a b wa h
        · exact does_any q B m n s F w k a b wa wb h k1 k2 k3 k4
theorem Tri.more {q : Tq} {B m m' n : Nat} {s : Sv} {F : Nat → Prop} {w : World} (h : Tri q B m n s F w) (hm : m ≤ m') : Tri q B m' n s F w :=
  ⟨h.row, h.ok, h.lies, h.lg, h.ps, h.fb, h.fg, h.gt, h.lo, h.hb, h.hg, h.hs, h.n1, h.n2, h.inv, h.ld, h.wd, h.em, h.ew, by have := h.rf; omega, h.bs⟩
/-- The cells of what a look showed. -/
def seenC (s : Sv) (g cap : Nat) (ao : Option Addr) (cp : Nat) : Array Value := #[.int .i64 s.ns, .int .i64 s.nf, .bool s.ld, .int .i64 s.up, .int .i64 s.ex, .slice (some ⟨g, 0, none⟩) s.done.length cap, .slice ao s.com.length cp, .int .i64 s.ref]
/-- What a look showed lies at block z. -/
structure Seen (F : Nat → Prop) (bt z g cap : Nat) (ao : Option Addr) (cp : Nat) (s : Sv) (w : World) : Prop where
  row : w.heap[z]? = some (.cells (seenC s g cap ao cp) 36 (0, 0))
  lies : Lies w g s.done
  lg : g < w.heap.size
  fz : ¬ F z
  fg : ¬ F g
  zb : z ≠ bt
  gb : g ≠ bt
  gz : g ≠ z
theorem Lies.off {F : Nat → Prop} {w w' : World} {g : Nat} {ls : List (Int × Int)} (h : Lies w g ls) (hg : g < w.heap.size) (ho : Off F w w') (hF : ¬ F g) : Lies w' g ls := fun i hi => by
  have c := h i hi
  have k : ∀ j, w'.cell? ⟨g, j, none⟩ = w.cell? ⟨g, j, none⟩ := fun j => World.cell?_of_block (ho.block g hg hF)
  exact ⟨(k _).trans c.1, (k _).trans c.2⟩
theorem Seen.off {F F' : Nat → Prop} {bt z g cap : Nat} {ao : Option Addr} {cp : Nat} {s : Sv} {w w' : World} (h : Seen F bt z g cap ao cp s w) (ho : Off (fun j => F j ∨ j = bt) w w') (hf : ∀ j, F' j → F j ∨ w.heap.size ≤ j) : Seen F' bt z g cap ao cp s w' := by
  have lz := lt_of_heap h.row
  have lg := h.lg
  refine ⟨ho.heap h.row (fun c => c.elim h.fz h.zb), h.lies.off h.lg ho (fun c => c.elim h.fg h.gb), Nat.lt_of_lt_of_le h.lg ho.size, fun c => ?_, fun c => ?_, h.zb, h.gb, h.gz⟩
  · rcases hf _ c with a | a
    · exact h.fz a
    · omega
  · rcases hf _ c with a | a
    · exact h.fg a
    · omega
theorem Seen.below {F : Nat → Prop} {bt z g cap : Nat} {ao : Option Addr} {cp : Nat} {s : Sv} {w w' : World} (h : Seen F bt z g cap ao cp s w) (hb : Below w.heap.size w w') : Seen F bt z g cap ao cp s w' :=
  ⟨(hb.block _ (lt_of_heap h.row)).trans h.row, h.lies.below h.lg hb, Nat.lt_of_lt_of_le h.lg hb.size, h.fz, h.fg, h.zb, h.gb, h.gz⟩
/-- A look, stored. -/
theorem Seen.make {q : Tq} {B m n : Nat} {s : Sv} {F : Nat → Prop} {w w' : World} {dv cv : Value} (h : Tri q B m n s F w) (od : w'.ownsRow w.heap.size 49 2 dv s.done.length (flat s.done)) (oc : w'.ownsRow w.heap.size 84 5 cv s.com.length (flatC s.com)) (hb : Below w.heap.size w w') :
    ∃ g cap ao cp, dv = .slice (some ⟨g, 0, none⟩) s.done.length cap ∧ cv = .slice ao s.com.length cp ∧ Seen F q.bt w'.heap.size g cap ao cp s (w'.alloc (.cells (seenC s g cap ao cp) 36)) := by
  have mi := h.inv.mid h.ld
  have lb := lt_of_heap h.row
  have sz := hb.size
  obtain ⟨g, cap, rfl⟩ := own_some od mi.pos
  obtain ⟨ao, cp, ecv⟩ := own_slice oc
  have lg : g < w'.heap.size := (od.lt _ rfl).2
  have gg := own_ge od g rfl
  have a := (Below.refl w'.heap.size w').alloc (Nat.le_refl _) (.cells (seenC s g cap ao cp) 36)
  refine ⟨g, cap, ao, cp, rfl, ecv, heap_alloc_new w' _, (lies_of od rfl).below lg a, Nat.lt_of_lt_of_le lg a.size, fun c => ?_, fun c => ?_, by omega, by omega, by omega⟩
  · have := h.ps.lt c; omega
  · have := h.ps.lt c; omega
/-- A look, copied to where another lay. -/
theorem put8_row {w : World} {z : Nat} {t : TypeId} {p0 p1 p2 p3 p4 p5 p6 p7 a b c d e f g h : Value} (hr : w.heap[z]? = some (.cells #[p0, p1, p2, p3, p4, p5, p6, p7] t (0, 0))) : ((((((((w.setCell ⟨z, 0, none⟩ a).setCell ⟨z, 1, none⟩ b).setCell ⟨z, 2, none⟩ c).setCell ⟨z, 3, none⟩ d).setCell ⟨z, 4, none⟩ e).setCell ⟨z, 5, none⟩ f).setCell ⟨z, 6, none⟩ g).setCell ⟨z, 7, none⟩ h).heap[z]? = some (.cells #[a, b, c, d, e, f, g, h] t (0, 0)) := by
  have e0 := heap_setCell_same _ z 0 _ t a hr
  have e1 := heap_setCell_same _ z 1 _ t b e0
  have e2 := heap_setCell_same _ z 2 _ t c e1
  have e3 := heap_setCell_same _ z 3 _ t d e2
  have e4 := heap_setCell_same _ z 4 _ t e e3
  have e5 := heap_setCell_same _ z 5 _ t f e4
  have e6 := heap_setCell_same _ z 6 _ t g e5
  have e7 := heap_setCell_same _ z 7 _ t h e6
  simpa using e7
theorem put8_off (w : World) (z : Nat) (a b c d e f g h : Value) : Off (fun j => j = z) w ((((((((w.setCell ⟨z, 0, none⟩ a).setCell ⟨z, 1, none⟩ b).setCell ⟨z, 2, none⟩ c).setCell ⟨z, 3, none⟩ d).setCell ⟨z, 4, none⟩ e).setCell ⟨z, 5, none⟩ f).setCell ⟨z, 6, none⟩ g).setCell ⟨z, 7, none⟩ h) :=
  ((((((((Off.refl (fun j => j = z) w).setCell (p := ⟨z, 0, none⟩) (fun _ => rfl) a).setCell (p := ⟨z, 1, none⟩) (fun _ => rfl) b).setCell (p := ⟨z, 2, none⟩) (fun _ => rfl) c).setCell (p := ⟨z, 3, none⟩) (fun _ => rfl) d).setCell (p := ⟨z, 4, none⟩) (fun _ => rfl) e).setCell (p := ⟨z, 5, none⟩) (fun _ => rfl) f).setCell (p := ⟨z, 6, none⟩) (fun _ => rfl) g).setCell (p := ⟨z, 7, none⟩) (fun _ => rfl) h
theorem Seen.put {F : Nat → Prop} {bt z y g cap g' cap' : Nat} {ao ao' : Option Addr} {cp cp' : Nat} {s s' : Sv} {w : World} (h : Seen F bt z g cap ao cp s w) (n : Seen F bt y g' cap' ao' cp' s' w) (hg : g' ≠ z) :
    Seen F bt z g' cap' ao' cp' s' ((((((((w.setCell ⟨z, 0, none⟩ (.int .i64 s'.ns)).setCell ⟨z, 1, none⟩ (.int .i64 s'.nf)).setCell ⟨z, 2, none⟩ (.bool s'.ld)).setCell ⟨z, 3, none⟩ (.int .i64 s'.up)).setCell ⟨z, 4, none⟩ (.int .i64 s'.ex)).setCell ⟨z, 5, none⟩ (.slice (some ⟨g', 0, none⟩) s'.done.length cap')).setCell ⟨z, 6, none⟩ (.slice ao' s'.com.length cp')).setCell ⟨z, 7, none⟩ (.int .i64 s'.ref)) := by
  have o := put8_off w z (.int .i64 s'.ns) (.int .i64 s'.nf) (.bool s'.ld) (.int .i64 s'.up) (.int .i64 s'.ex) (.slice (some ⟨g', 0, none⟩) s'.done.length cap') (.slice ao' s'.com.length cp') (.int .i64 s'.ref)
  exact ⟨put8_row h.row, n.lies.off n.lg o hg, Nat.lt_of_lt_of_le n.lg o.size, h.fz, n.fg, h.zb, n.gb, hg⟩
/-- A trial, where another block was written. -/
theorem Tri.other {q : Tq} {B m n z : Nat} {s : Sv} {F : Nat → Prop} {w W : World} (h : Tri q B m n s F w) (ho : Off (fun j => j = z) w W) (fz : ¬ F z) (zb : z ≠ q.bt) (zg : z ≠ q.g) (zB : B ≤ z) : Tri q B m n s F W := by
  refine ⟨ho.heap h.row (fun e => zb e.symm), h.ok, h.lies.off h.lg ho (fun e => zg e.symm), Nat.lt_of_lt_of_le h.lg ho.size, h.ps.keep (fun k hk => ho.block k (h.ps.lt hk) (fun e => fz (by rw [← e]; exact hk))), h.fb, h.fg, h.gt, h.lo, h.hb, h.hg, Nat.le_trans h.hs ho.size, h.n1, h.n2, h.inv, h.ld, h.wd, h.em, h.ew, h.rf, h.bs.imp fun _ ⟨a1, b1, c1, d1⟩ => ⟨a1, b1, c1, d1.trans (ho.below (fun k e => by rw [e]; exact zB) h.hs)⟩⟩
/-- A time lies at block z. -/
structure TimeAt (F : Nat → Prop) (bt z : Nat) (a b : Int) (w : World) : Prop where
  row : w.heap[z]? = some (.cells #[.int .i64 a, .int .i64 b] 33 (0, 0))
  fz : ¬ F z
  zb : z ≠ bt
theorem TimeAt.off {F F' : Nat → Prop} {bt z : Nat} {a b : Int} {w w' : World} (h : TimeAt F bt z a b w) (ho : Off (fun j => F j ∨ j = bt) w w') (hf : ∀ j, F' j → F j ∨ w.heap.size ≤ j) : TimeAt F' bt z a b w' := by
  have lz := lt_of_heap h.row
  refine ⟨ho.heap h.row (fun c => c.elim h.fz h.zb), fun c => ?_, h.zb⟩
  rcases hf _ c with a | a
  · exact h.fz a
  · omega
theorem TimeAt.below {F : Nat → Prop} {bt z : Nat} {a b : Int} {w w' : World} (h : TimeAt F bt z a b w) (hb : Below w.heap.size w w') : TimeAt F bt z a b w' := ⟨(hb.block _ (lt_of_heap h.row)).trans h.row, h.fz, h.zb⟩
theorem TimeAt.make {q : Tq} {B m n : Nat} {s : Sv} {F : Nat → Prop} {w w' : World} (h : Tri q B m n s F w) (hb : Below w.heap.size w w') (a b : Int) : TimeAt F q.bt w'.heap.size a b (w'.alloc (.cells #[.int .i64 a, .int .i64 b] 33)) := by
  have lb := lt_of_heap h.row
  have sz := hb.size
  exact ⟨heap_alloc_new w' _, fun c => by have := h.ps.lt c; omega, by omega⟩
end Go.Proofs.YtmmkhodaljpjgabGreatDoor
