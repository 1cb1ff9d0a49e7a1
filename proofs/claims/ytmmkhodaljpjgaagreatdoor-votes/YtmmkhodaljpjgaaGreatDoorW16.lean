import Derived.Test.YtmmkhodaljpjgaaGreatDoorW15
import Derived.Deep.QuietTactic
import Derived.BigQuiet
import Derived.Deep.RegionLaw
import Derived.Test.YtmmkhodaljpjgaaGreatDoorW03
import Derived.Test.YtmmkhodaljpjgaaGreatDoorW14
import Derived.Test.YtmmkhodaljpjgaaGreatDoorW12
import Derived.Deep.Cut
import Derived.Deep.CutBlock
import Derived.Deep.CutRange
namespace Go.Proofs.YtmmkhodaljpjgaaGreatDoor
open Go.RowKit
set_option maxRecDepth 100000 in
set_option maxHeartbeats 1600000 in
theorem ref_opens (b : Nat) (x : Sv) (dv bv cv hv : Value) (t : Int) (w : World) (hr : RSrv b x dv bv cv hv w) (h0 : 0 ≤ x.win) (h1 : x.win ≤ 1000000) (t0 : 0 ≤ t) (t1 : t ≤ 1000000000000) :
    Calls Tryz.prog 112 #[.pointer (some ⟨b, 0, none⟩), .int .i64 t] w fun e w' => e = .returned (.agg #[.int .i64 (x.opens t).1, .int .i64 (x.opens t).2]) ∧ Below w.heap.size w w' := by
  obtain ⟨mode, win, fresh, ns, nf, ld, up, ex, done, began, com, ref, said⟩ := x
  have q1 := cell_of_row _ _ 1 _ _ _ hr.row
  have q3 := cell_of_row _ _ 3 _ _ _ hr.row
  have q4 := cell_of_row _ _ 4 _ _ _ hr.row
  have lb := lt_of_heap hr.row
  simp at q1 q3 q4
  simp only at h0 h1
  clear hr
  have HLA := hid' (fun W => ref_later ns nf (t - win / 2) 0 W)
  have HOP : Hid (Sv.opens ⟨mode, win, fresh, ns, nf, ld, up, ex, done, began, com, ref, said⟩ t = if tLater ns nf (t - win / 2) 0 = true then (ns, nf) else (t - win / 2, 0)) := rfl
  generalize Sv.opens ⟨mode, win, fresh, ns, nf, ld, up, ex, done, began, com, ref, said⟩ t = r at *
  generalize tLater ns nf (t - win / 2) 0 = lt at *
  have HB0 := hid' (((Below.refl w.heap.size w).alloc (Nat.le_refl _) (.cells #[.int .i64 0, .int .i64 0] 35)).alloc (by simp) (.cells #[.int .i64 (t - win / 2), .int .i64 0] 35)).drew
  have HR0 := hid' (heap_alloc2_old w (.cells #[.int .i64 0, .int .i64 0] 35) (.cells #[.int .i64 (t - win / 2), .int .i64 0] 35))
  have HR1 := hid' (heap_alloc2_new w (.cells #[.int .i64 0, .int .i64 0] 35) (.cells #[.int .i64 (t - win / 2), .int .i64 0] 35))
  go_enter Tryz.func112, Tryz.ntmps112
  go_wp2_with fail
  go_region_with (go_at_call 140; refine (HLA.out _).mono ?_; rintro e w1 ⟨rfl, hb1⟩; have HB1 := hid' (HB0.out.trans (hb1.mono (by exact HB0.out.size))); have a0 := (hb1.block _ (by simp <;> omega)).trans HR0.out; have a1 := (hb1.block _ (by simp <;> omega)).trans HR1.out; have HA0 := hid' a0; have HA1 := hid' a1; clear hb1 a0 a1)
  all_goals
    have x0 := cell_of_row _ _ 0 _ _ _ HA0.out
    have x1 := cell_of_row _ _ 1 _ _ _ HA0.out
    have f0 := frozen_of_row _ _ 0 _ _ HA0.out
    have f1 := frozen_of_row _ _ 1 _ _ HA0.out
    have y0 := cell_of_row _ _ 0 _ _ _ HA1.out
    have y1 := cell_of_row _ _ 1 _ _ _ HA1.out
    have p3 := (HB1.out.cell (p := ⟨b, 3, none⟩) lb).trans q3
    have p4 := (HB1.out.cell (p := ⟨b, 4, none⟩) lb).trans q4
    simp at x0 x1 y0 y1
    clear q1 q3 q4
    cases lt with
    | true =>
      have H : Hid (r = (ns, nf)) := HOP.out
      go_wp2
      try simp only [Exit.inBlock, Exit.then]
      refine bodyPost_ret (results_cell_row rfl _ _ w.heap.size 35 #[.int .i64 ns, .int .i64 nf] (0, 0) _ rfl (two_row HA0.out) Tryz.underlying35 rfl (by kernel_rfl)) rfl ?_
      exact ⟨ret_agg2 (by rw [H.out]) (by rw [H.out]), (HB1.out.setCell (p := ⟨w.heap.size, 0, none⟩) (Nat.le_refl _) _).setCell (p := ⟨w.heap.size, 1, none⟩) (Nat.le_refl _) _⟩
    | false =>
      have H : Hid (r = (t - win / 2, 0)) := HOP.out
      go_wp2
      try simp only [Exit.inBlock, Exit.then]
      refine bodyPost_ret (results_cell_row rfl _ _ w.heap.size 35 #[.int .i64 (t - win / 2), .int .i64 0] (0, 0) _ rfl (two_row HA0.out) Tryz.underlying35 rfl (by kernel_rfl)) rfl ?_
      exact ⟨ret_agg2 (by rw [H.out]) (by rw [H.out]), (HB1.out.setCell (p := ⟨w.heap.size, 0, none⟩) (Nat.le_refl _) _).setCell (p := ⟨w.heap.size, 1, none⟩) (Nat.le_refl _) _⟩
set_option maxRecDepth 100000 in
set_option maxHeartbeats 1600000 in
theorem ref_utc (b : Nat) (x : Sv) (dv bv cv hv : Value) (w : World) (hr : RSrv b x dv bv cv hv w) (hf : Fine x.done) (hl : x.done.length ≤ 1000) (h0 : 0 ≤ Tab.lastAt x.done x.ns x.done.length) (n0 : 0 ≤ x.ns) (n1 : x.ns ≤ 1000000000000) :
    Calls Tryz.prog 92 #[.pointer (some ⟨b, 0, none⟩)] w fun e w' => e = .returned (.int .i64 x.utc) ∧ ∃ m, w' = w.drewN m := by
  obtain ⟨mode, win, fresh, ns, nf, ld, up, ex, done, began, com, ref, said⟩ := x
  simp only at hf hl h0 n0 n1
  have q3 := cell_of_row _ _ 3 _ _ _ hr.row
  have q8 := cell_of_row _ _ 8 _ _ _ hr.row
  have hlb := Tab.lastAt_bd done ns done.length
  have hpos : 0 < done.length := by omega
  obtain ⟨g, cap, hdv⟩ := own_some hr.dd hpos
  subst hdv
  have HL := hid' (lies_of hr.dd rfl)
  simp at q3 q8
  obtain ⟨k, hk⟩ : ∃ k : Nat, Tab.lastAt done ns done.length = (k : Int) := ⟨(Tab.lastAt done ns done.length).toNat, by omega⟩
  have hkl : k < done.length := by omega
  have HAT : ∀ w1, Lies w1 g done → Hid (Calls Tryz.prog 83 #[.slice (some ⟨g, 0, none⟩) done.length cap, .int .i64 ns] w1 fun e w' => e = .returned (.int .i64 (k : Int)) ∧ w' = w1) := fun w1 h => by rw [← hk]; exact ref_at g cap done.length done ns w1 rfl h hf (by omega)
  have H : Hid (Sv.utc ⟨mode, win, fresh, ns, nf, ld, up, ex, done, began, com, ref, said⟩ = ns - done[k].2) := by
    show ns - (done.getD (Tab.lastAt done ns done.length).toNat (0, 0)).2 = _
    rw [hk, Int.toNat_natCast, getD_at k hkl]
  have a1 := (HL.out k hkl).2
  have fk := (hf _ (List.getElem_mem hkl)).2
  have HA := hid' (fun m : Nat => HAT (w.drewN m) HL.out)
  generalize Sv.utc ⟨mode, win, fresh, ns, nf, ld, up, ex, done, began, com, ref, said⟩ = r at *
  generalize done[k] = p at *
  obtain ⟨pa, po⟩ := p
  simp only at a1 fk H
  have z0 : (0 : Int) ≤ (k : Int) := by omega
  have z1 : (k : Int) < (done.length : Int) := by omega
  clear hr hf hk hlb HAT h0
  go_enter Tryz.func92, Tryz.ntmps92
  go_wp2_with fail
  go_quiet (first | (go_at_call 83; exact Calls.quiet_of_same (HA.out _).out))
  go_wp2_with fail
  go_quiet (fail)
  go_wp2
  go_ret
  exact ⟨ret_int H.out.symm, _, World.drewN_drewN _ _ _⟩
end Go.Proofs.YtmmkhodaljpjgaaGreatDoor
namespace Go.Proofs.YtmmkhodaljpjgaaGreatDoor
open Go.RowKit
attribute [local go_sem ↓] Go.wp_at_zero Go.wp_at_succ
theorem infoRComing : (Tryz.prog.info? 123).map (fun i => (i.zero, i.size, i.bytes)) = some (some (.agg #[.int .i64 0, .int .i64 0, .int .i64 0, .int .i64 0, .bool false]), 5, 40) := by kernel_rfl
theorem infoRTime : (Tryz.prog.info? 35).map (fun i => (i.zero, i.size, i.bytes)) = some (some (.agg #[.int .i64 0, .int .i64 0]), 2, 16) := by kernel_rfl
/-- What a step on the document's server leaves. -/
def RPost (b : Nat) (F : Nat → Prop) (w : World) (s : Sv) (w' : World) : Prop := ∃ dv bv cv hv, RSrv b s dv bv cv hv w' ∧ Off F w w' ∧ ∀ k, rFoot b dv bv cv hv k → F k ∨ w.heap.size ≤ k
theorem RSrv.post {b : Nat} {s : Sv} {dv bv cv hv : Value} {w : World} (h : RSrv b s dv bv cv hv w) : RPost b (rFoot b dv bv cv hv) w s w := ⟨dv, bv, cv, hv, h, Off.refl _ w, fun _ e => .inl e⟩
theorem RPost.below {b : Nat} {F : Nat → Prop} {s : Sv} {w w' w'' : World} (h : RPost b F w s w') (hb : Below w'.heap.size w' w'') : RPost b F w s w'' := by
  obtain ⟨dv, bv, cv, hv, r, o, f⟩ := h
  exact ⟨dv, bv, cv, hv, r.below hb, o.then hb, f⟩
/-- One step behind another. -/
theorem RPost.trans {b : Nat} {F : Nat → Prop} {s s' : Sv} {w w' w'' : World} (h : RPost b F w s w') (g : ∀ dv bv cv hv, RSrv b s dv bv cv hv w' → RPost b (rFoot b dv bv cv hv) w' s' w'') : RPost b F w s' w'' := by
  obtain ⟨dv, bv, cv, hv, r, o, f⟩ := h
  obtain ⟨dv', bv', cv', hv', r', o', f'⟩ := g dv bv cv hv r
  have sz := o.size
  refine ⟨dv', bv', cv', hv', r', o.trans o' (fun k hk e => ?_), fun k e => ?_⟩
  · rcases f k e with h | h
    · exact h
    · omega
  · rcases f' k e with h | h
    · exact f k h
    · exact .inr (by omega)
theorem RSrv.all {b : Nat} {s : Sv} {dv bv cv hv : Value} {w w' : World} (h : RSrv b s dv bv cv hv w) (hK : ∀ t, Keep t w w') : RSrv b s dv bv cv hv w' :=
  ⟨hK _ _ _ _ h.row, own_keep h.dd (hK _), own_keep h.bb (hK _), own_keep h.cc (hK _), own_keep h.ss (hK _)⟩
/-- The list of what has begun grows. -/
theorem RSrv.putD {b : Nat} {s : Sv} {dv bv cv hv dv' : Value} {w w1 : World} {L : List (Int × Int)} (h : RSrv b s dv bv cv hv w) (hg : w.grownBy w1 dv.ownBlock) (ho : w1.ownsRow 0 46 2 dv' L.length (flat L)) :
    RSrv b { s with done := L } dv' bv cv hv (w1.setCell ⟨b, 8, none⟩ dv') := by
  have row := grown_heap (t := 119) hg h.dd h.row (by decide)
  have kb := own_grown h.bb hg h.dd (by decide)
  have kc := own_grown h.cc hg h.dd (by decide)
  have ks := own_grown h.ss hg h.dd (by decide)
  refine ⟨?_, own_set (p := ⟨b, 8, none⟩) ho row (by decide) _, own_set (p := ⟨b, 8, none⟩) kb row (by decide) _, own_set (p := ⟨b, 8, none⟩) kc row (by decide) _, own_set (p := ⟨b, 8, none⟩) ks row (by decide) _⟩
  rw [heap_setCell_same _ _ _ _ _ _ row]; rfl
theorem RSrv.putB {b : Nat} {s : Sv} {dv bv cv hv bv' : Value} {w w1 : World} {L : List (Int × Int)} (h : RSrv b s dv bv cv hv w) (hg : w.grownBy w1 bv.ownBlock) (ho : w1.ownsRow 0 35 2 bv' L.length (flat L)) :
    RSrv b { s with began := L } dv bv' cv hv (w1.setCell ⟨b, 9, none⟩ bv') := by
  have row := grown_heap (t := 119) hg h.bb h.row (by decide)
  have kb := own_grown h.dd hg h.bb (by decide)
  have kc := own_grown h.cc hg h.bb (by decide)
  have ks := own_grown h.ss hg h.bb (by decide)
  refine ⟨?_, own_set (p := ⟨b, 9, none⟩) kb row (by decide) _, own_set (p := ⟨b, 9, none⟩) ho row (by decide) _, own_set (p := ⟨b, 9, none⟩) kc row (by decide) _, own_set (p := ⟨b, 9, none⟩) ks row (by decide) _⟩
  rw [heap_setCell_same _ _ _ _ _ _ row]; rfl
/-- Another list is to come. -/
theorem RSrv.putC {b : Nat} {s : Sv} {dv bv cv hv cv' : Value} {w : World} {L : List Cm} (h : RSrv b s dv bv cv hv w) (ho : w.ownsRow 0 123 5 cv' L.length (flatC L)) :
    RSrv b { s with com := L } dv bv cv' hv (w.setCell ⟨b, 10, none⟩ cv') := by
  have row := h.row
  refine ⟨?_, own_set (p := ⟨b, 10, none⟩) h.dd row (by decide) _, own_set (p := ⟨b, 10, none⟩) h.bb row (by decide) _, own_set (p := ⟨b, 10, none⟩) ho row (by decide) _, own_set (p := ⟨b, 10, none⟩) h.ss row (by decide) _⟩
  rw [heap_setCell_same _ _ _ _ _ _ row]; rfl
theorem coming_size : ∀ w : World, (sizeOf (Tryz.prog.elem 116)).run Tryz.prog w = .ok 5 w := fun _ => by kernel_rfl
theorem tail_run (g n cap : Nat) (h : 1 ≤ n) (w : World) :
    (Instr.slice 116 (.slice (some ⟨g, 0, none⟩) n cap) (some (.int .i64 1)) none none).run Tryz.prog w = .ok (.slice (some (if cap = 1 then ⟨g, 0, none⟩ else ⟨g, 5, none⟩)) (n - 1) (cap - 1)) w := by
  rw [run_slice_l (P := Tryz.prog) w 116 (some ⟨g, 0, none⟩) n cap (by kernel_rfl) .i64 1 (by omega) (by omega), coming_size]
  by_cases c : cap = 1
  · simp [sliced, Result.andThen, c]
  · simp [sliced, Addr.add, Result.andThen, c]
end Go.Proofs.YtmmkhodaljpjgaaGreatDoor
namespace Go.Proofs.YtmmkhodaljpjgaaGreatDoor
open Go.RowKit
/-- What is said of the program's server at a block: its state, its blocks. -/
structure PLaw (P : Nat → Sv → (Nat → Prop) → World → Prop) : Prop where
  keep : ∀ {b : Nat} {s : Sv} {F : Nat → Prop} {w w' : World}, P b s F w → (∀ k, F k → w'.heap[k]? = w.heap[k]?) → P b s F w'
  low : ∀ {b : Nat} {s : Sv} {F : Nat → Prop} {w : World}, P b s F w → ∀ k, F k → ∃ cs e fr, w.heap[k]? = some (.cells cs e fr) ∧ 38 ≠ e ∧ 9 ≠ e
/-- No block is of both. -/
def Apart (F G : Nat → Prop) : Prop := ∀ k, F k → ¬ G k
theorem Apart.symm {F G : Nat → Prop} (h : Apart F G) : Apart G F := fun k a b => h k b a
/-- The law's server at block bc; the states of the server, of its twin, of the document's. -/
structure CS (P : Nat → Sv → (Nat → Prop) → World → Prop) (bc bx by' br : Nat) (hv : Value) (m : Int) (hs : List Vw) (sx sy sr : Sv) (Fx Fy Fr Fv : Nat → Prop) (w : World) : Prop where
  c : w.heap[bc]? = some (.cells #[.pointer (some ⟨bx, 0, none⟩), .pointer (some ⟨by', 0, none⟩), .pointer (some ⟨br, 0, none⟩), hv, .int .i64 m] 60 (0, 0))
  hh : w.ownsRow 0 126 4 hv hs.length (flatV hs)
  ok : ∀ v ∈ hs, VwOk w v
  x : P bx sx Fx w
  y : P by' sy Fy w
  r : ∃ dv bv cv rh, RSrv br sr dv bv cv rh w ∧ ∀ k, rFoot br dv bv cv rh k ↔ Fr k
  fv : ∀ k, Fv k ↔ k = bc ∨ hv.ownBlock = some k ∨ ∃ v ∈ hs, vwFoot v k
  xy : Apart Fx Fy
  xr : Apart Fx Fr
  xv : Apart Fx Fv
  yr : Apart Fy Fr
  yv : Apart Fy Fv
  rv : Apart Fr Fv
theorem CS.vlow {P : Nat → Sv → (Nat → Prop) → World → Prop} {bc bx by' br : Nat} {hv : Value} {m : Int} {hs : List Vw} {sx sy sr : Sv} {Fx Fy Fr Fv : Nat → Prop} {w : World} (h : CS P bc bx by' br hv m hs sx sy sr Fx Fy Fr Fv w) : ∀ k, Fv k → k < w.heap.size := fun k hk => by
  rcases (h.fv k).1 hk with rfl | e | ⟨v, hv, e⟩
  · exact lt_of_heap h.c
  · obtain ⟨_, _, hh⟩ := own_typ h.hh e; exact lt_of_heap hh
  · rcases (h.ok v hv).typ e with ⟨_, _, hh⟩ | ⟨_, _, hh⟩
    · exact lt_of_heap hh
    · exact lt_of_heap hh
theorem CS.rlow {P : Nat → Sv → (Nat → Prop) → World → Prop} {bc bx by' br : Nat} {hv : Value} {m : Int} {hs : List Vw} {sx sy sr : Sv} {Fx Fy Fr Fv : Nat → Prop} {w : World} (h : CS P bc bx by' br hv m hs sx sy sr Fx Fy Fr Fv w) : ∀ k, Fr k → k < w.heap.size := fun k hk => by
  obtain ⟨dv, bv, cv, rh, r, e⟩ := h.r
  obtain ⟨_, _, _, hh, _⟩ := r.typ ((e k).2 hk)
  exact lt_of_heap hh
/-- The parts whose blocks are as they were. -/
theorem CS.own {P : Nat → Sv → (Nat → Prop) → World → Prop} {bc bx by' br : Nat} {hv : Value} {m : Int} {hs : List Vw} {sx sy sr : Sv} {Fx Fy Fr Fv : Nat → Prop} {w w' : World} (h : CS P bc bx by' br hv m hs sx sy sr Fx Fy Fr Fv w) (hk : ∀ k, Fv k → w'.heap[k]? = w.heap[k]?) :
    w'.heap[bc]? = some (.cells #[.pointer (some ⟨bx, 0, none⟩), .pointer (some ⟨by', 0, none⟩), .pointer (some ⟨br, 0, none⟩), hv, .int .i64 m] 60 (0, 0)) ∧ w'.ownsRow 0 126 4 hv hs.length (flatV hs) ∧ ∀ v ∈ hs, VwOk w' v :=
  ⟨(hk bc ((h.fv bc).2 (.inl rfl))).trans h.c, own_same h.hh (fun k e => hk k ((h.fv k).2 (.inr (.inl e)))), fun v hv => (h.ok v hv).keep (fun k e => hk k ((h.fv k).2 (.inr (.inr ⟨v, hv, e⟩))))⟩
/-- The server turns. -/
theorem CS.turnX {P : Nat → Sv → (Nat → Prop) → World → Prop} {bc bx by' br : Nat} {hv : Value} {m : Int} {hs : List Vw} {sx sy sr : Sv} {Fx Fy Fr Fv : Nat → Prop} {w w' : World} (hP : PLaw P) (h : CS P bc bx by' br hv m hs sx sy sr Fx Fy Fr Fv w) {s' : Sv} {F' : Nat → Prop} (hp : P bx s' F' w') (ho : Off Fx w w') (hF : ∀ k, F' k → Fx k ∨ w.heap.size ≤ k) : CS P bc bx by' br hv m hs s' sy sr F' Fy Fr Fv w' := by
  have ap : ∀ {G : Nat → Prop}, Apart Fx G → (∀ k, G k → k < w.heap.size) → Apart F' G := fun a l k hk g => by
    rcases hF k hk with e | e
    · exact a k e g
    · have := l k g; omega
  have same : ∀ {G : Nat → Prop}, Apart Fx G → (∀ k, G k → k < w.heap.size) → ∀ k, G k → w'.heap[k]? = w.heap[k]? := fun a l k g => ho.block k (l k g) (fun e => a k e g)
  have ly : ∀ k, Fy k → k < w.heap.size := fun k hk => by obtain ⟨_, _, _, hh, _⟩ := hP.low h.y k hk; exact lt_of_heap hh
  obtain ⟨c1, c2, c3⟩ := h.own (same h.xv h.vlow)
  obtain ⟨dv, bv, cv, rh, r, e⟩ := h.r
  exact ⟨c1, c2, c3, hp, hP.keep h.y (same h.xy ly), ⟨dv, bv, cv, rh, r.keep (fun k hk => same h.xr h.rlow k ((e k).1 hk)), e⟩, h.fv, ap h.xy ly, ap h.xr h.rlow, ap h.xv h.vlow, h.yr, h.yv, h.rv⟩
/-- The twin turns. -/
theorem CS.turnY {P : Nat → Sv → (Nat → Prop) → World → Prop} {bc bx by' br : Nat} {hv : Value} {m : Int} {hs : List Vw} {sx sy sr : Sv} {Fx Fy Fr Fv : Nat → Prop} {w w' : World} (hP : PLaw P) (h : CS P bc bx by' br hv m hs sx sy sr Fx Fy Fr Fv w) {s' : Sv} {F' : Nat → Prop} (hp : P by' s' F' w') (ho : Off Fy w w') (hF : ∀ k, F' k → Fy k ∨ w.heap.size ≤ k) : CS P bc bx by' br hv m hs sx s' sr Fx F' Fr Fv w' := by
  have ap : ∀ {G : Nat → Prop}, Apart Fy G → (∀ k, G k → k < w.heap.size) → Apart F' G := fun a l k hk g => by
    rcases hF k hk with e | e
    · exact a k e g
    · have := l k g; omega
  have same : ∀ {G : Nat → Prop}, Apart Fy G → (∀ k, G k → k < w.heap.size) → ∀ k, G k → w'.heap[k]? = w.heap[k]? := fun a l k g => ho.block k (l k g) (fun e => a k e g)
  have lx : ∀ k, Fx k → k < w.heap.size := fun k hk => by obtain ⟨_, _, _, hh, _⟩ := hP.low h.x k hk; exact lt_of_heap hh
  obtain ⟨c1, c2, c3⟩ := h.own (same h.yv h.vlow)
  obtain ⟨dv, bv, cv, rh, r, e⟩ := h.r
  exact ⟨c1, c2, c3, hP.keep h.x (same h.xy.symm lx), hp, ⟨dv, bv, cv, rh, r.keep (fun k hk => same h.yr h.rlow k ((e k).1 hk)), e⟩, h.fv, (ap h.xy.symm lx).symm, h.xr, h.xv, ap h.yr h.rlow, ap h.yv h.vlow, h.rv⟩
/-- The document's turns. -/
theorem CS.turnR {P : Nat → Sv → (Nat → Prop) → World → Prop} {bc bx by' br : Nat} {hv : Value} {m : Int} {hs : List Vw} {sx sy sr : Sv} {Fx Fy Fr Fv : Nat → Prop} {w w' : World} (hP : PLaw P) (h : CS P bc bx by' br hv m hs sx sy sr Fx Fy Fr Fv w) {s' : Sv} (hp : ∀ dv bv cv rh, RSrv br sr dv bv cv rh w → RPost br (rFoot br dv bv cv rh) w s' w') : ∃ F', CS P bc bx by' br hv m hs sx sy s' Fx Fy F' Fv w' ∧ Off Fr w w' ∧ ∀ k, F' k → Fr k ∨ w.heap.size ≤ k := by
  obtain ⟨dv, bv, cv, rh, r, e⟩ := h.r
  obtain ⟨dv', bv', cv', rh', r', o', f'⟩ := hp dv bv cv rh r
  have ho : Off Fr w w' := o'.mono (fun k _ q => (e k).1 q)
  have hF : ∀ k, rFoot br dv' bv' cv' rh' k → Fr k ∨ w.heap.size ≤ k := fun k q => by
    rcases f' k q with c | c
    · exact .inl ((e k).1 c)
    · exact .inr c
  have ap : ∀ {G : Nat → Prop}, Apart Fr G → (∀ k, G k → k < w.heap.size) → Apart (rFoot br dv' bv' cv' rh') G := fun a l k hk g => by
    rcases hF k hk with e | e
    · exact a k e g
    · have := l k g; omega
  have same : ∀ {G : Nat → Prop}, Apart Fr G → (∀ k, G k → k < w.heap.size) → ∀ k, G k → w'.heap[k]? = w.heap[k]? := fun a l k g => ho.block k (l k g) (fun e => a k e g)
  have lx : ∀ k, Fx k → k < w.heap.size := fun k hk => by obtain ⟨_, _, _, hh, _⟩ := hP.low h.x k hk; exact lt_of_heap hh
  have ly : ∀ k, Fy k → k < w.heap.size := fun k hk => by obtain ⟨_, _, _, hh, _⟩ := hP.low h.y k hk; exact lt_of_heap hh
  obtain ⟨c1, c2, c3⟩ := h.own (same h.rv h.vlow)
  exact ⟨rFoot br dv' bv' cv' rh', ⟨c1, c2, c3, hP.keep h.x (same h.xr.symm lx), hP.keep h.y (same h.yr.symm ly), ⟨dv', bv', cv', rh', r', fun k => Iff.rfl⟩, h.fv, h.xy, (ap h.xr.symm lx).symm, h.xv, (ap h.yr.symm ly).symm, h.yv, ap h.rv h.vlow⟩, ho, hF⟩
/-- It is read. -/
theorem CS.read {P : Nat → Sv → (Nat → Prop) → World → Prop} {bc bx by' br : Nat} {hv : Value} {m : Int} {hs : List Vw} {sx sy sr : Sv} {Fx Fy Fr Fv : Nat → Prop} {w w' : World} (hP : PLaw P) (h : CS P bc bx by' br hv m hs sx sy sr Fx Fy Fr Fv w) (hr : ReadP w w' bc bx by' br hv m hs) : ∃ hv' v1 v2 F', CS P bc bx by' br hv' (m + 2000) (hs ++ [v1, v2]) sx sy sr Fx Fy Fr F' w' ∧ Off Fv w w' ∧ ∀ k, F' k → Fv k ∨ w.heap.size ≤ k := by
  obtain ⟨hv', v1, v2, c, hh, ok, off, b1, b2⟩ := hr
  have ho : Off Fv w w' := off.mono (fun k _ q => (h.fv k).2 (by
    rcases q with q | q
    · exact .inl q
    · exact .inr (.inl q)))
  have hF : ∀ k, (k = bc ∨ hv'.ownBlock = some k ∨ ∃ v ∈ hs ++ [v1, v2], vwFoot v k) → Fv k ∨ w.heap.size ≤ k := fun k q => by
    rcases q with q | q | ⟨v, hv, q⟩
    · exact .inl ((h.fv k).2 (.inl q))
    · rcases b1 k q with e | e
      · exact .inl ((h.fv k).2 (.inr (.inl e)))
      · exact .inr e
    · simp at hv
      rcases hv with hv | rfl | rfl
      · exact .inl ((h.fv k).2 (.inr (.inr ⟨v, hv, q⟩)))
      · exact .inr (b2 k (.inl q))
      · exact .inr (b2 k (.inr q))
  have ap : ∀ {G : Nat → Prop}, Apart G Fv → (∀ k, G k → k < w.heap.size) → Apart G (fun k => k = bc ∨ hv'.ownBlock = some k ∨ ∃ v ∈ hs ++ [v1, v2], vwFoot v k) := fun a l k g q => by
    rcases hF k q with e | e
    · exact a k g e
    · have := l k g; omega
  have same : ∀ {G : Nat → Prop}, Apart G Fv → (∀ k, G k → k < w.heap.size) → ∀ k, G k → w'.heap[k]? = w.heap[k]? := fun a l k g => ho.block k (l k g) (fun e => a k g e)
  have lx : ∀ k, Fx k → k < w.heap.size := fun k hk => by obtain ⟨_, _, _, hh, _⟩ := hP.low h.x k hk; exact lt_of_heap hh
  have ly : ∀ k, Fy k → k < w.heap.size := fun k hk => by obtain ⟨_, _, _, hh, _⟩ := hP.low h.y k hk; exact lt_of_heap hh
  obtain ⟨dv, bv, cv, rh, r, e⟩ := h.r
  exact ⟨hv', v1, v2, _, ⟨c, hh, ok, hP.keep h.x (same h.xv lx), hP.keep h.y (same h.yv ly), ⟨dv, bv, cv, rh, r.keep (fun k hk => same h.rv h.rlow k ((e k).1 hk)), e⟩, fun k => Iff.rfl, h.xy, h.xr, ap h.xv lx, h.yr, ap h.yv ly, ap h.rv h.rlow⟩, ho, hF⟩
end Go.Proofs.YtmmkhodaljpjgaaGreatDoor
namespace Go.Proofs.YtmmkhodaljpjgaaGreatDoor
open Go.RowKit
theorem ps_law : PLaw PS where
  keep := fun ⟨dv, cv, op, bs, bf, r, o, f⟩ hk => ⟨dv, cv, op, bs, bf, r.keep (fun k e => hk k ((f k).2 e)), o, f⟩
  low := fun ⟨_, _, _, _, _, r, _, f⟩ k hk => by
    obtain ⟨cs, e, fr, hh, he⟩ := r.typ ((f k).1 hk)
    refine ⟨cs, e, fr, hh, ?_, ?_⟩
    · rcases he with rfl | rfl | rfl <;> decide
    · rcases he with rfl | rfl | rfl <;> decide
end Go.Proofs.YtmmkhodaljpjgaaGreatDoor
namespace Go.Proofs.YtmmkhodaljpjgaaGreatDoor
open Go.RowKit
attribute [local go_sem ↓] Go.wp_at_zero Go.wp_at_succ
/-- What is seen, while it is laid. -/
structure SeeV (w : World) (s : Sv) (k : Nat) (dv cv : Value) (wr : World) : Prop where
  bel : Below w.heap.size w wr
  res : wr.heap[w.heap.size]? = some (.cells #[.int .i64 0, .int .i64 0, .bool false, .int .i64 0, .int .i64 0, .slice none 0 0, .slice none 0 0, .int .i64 0] 113 (0, 0))
  row : wr.heap[w.heap.size + 1]? = some (.cells #[.int .i64 s.ns, .int .i64 s.nf, .bool s.ld, .int .i64 s.up, .int .i64 s.ex, dv, cv, .int .i64 s.ref] 113 (0, 0))
  dd : wr.ownsRow w.heap.size 84 2 dv s.done.length (flat s.done)
  cc : wr.ownsRow w.heap.size 121 5 cv k (flatC (s.com.take k))
theorem SeeV.put {w : World} {s : Sv} {k m : Nat} {dv cv cv' : Value} {wr w2 : World} (h : SeeV w s k dv cv wr) (hg : wr.grownBy w2 cv.ownBlock) (own : w2.ownsRow w.heap.size 121 5 cv' m (flatC (s.com.take m))) : SeeV w s m dv cv' (w2.setCell ⟨w.heap.size + 1, 6, none⟩ cv') := by
  have row2 := grown_heap (t := 113) hg h.cc h.row (by decide)
  have res2 := grown_heap (t := 113) hg h.cc h.res (by decide)
  refine ⟨(h.bel.grown hg h.bel.size (own_ge h.cc)).setCell (by show w.heap.size ≤ w.heap.size + 1; omega) _, ?_, ?_, own_set (p := ⟨w.heap.size + 1, 6, none⟩) (own_grown h.dd hg h.cc (by decide)) row2 (by decide) _, own_set (p := ⟨w.heap.size + 1, 6, none⟩) own row2 (by decide) _⟩
  · rw [heap_setCell_other _ _ _ _ (by show w.heap.size ≠ w.heap.size + 1; omega)]; exact res2
  · rw [heap_setCell_same _ _ _ _ _ _ row2]; rfl
theorem SeeV.below {w : World} {s : Sv} {k : Nat} {dv cv : Value} {wr w2 : World} (h : SeeV w s k dv cv wr) (hb : Below wr.heap.size wr w2) : SeeV w s k dv cv w2 :=
  ⟨h.bel.trans (hb.mono h.bel.size), (hb.block _ (lt_of_heap h.res)).trans h.res, (hb.block _ (lt_of_heap h.row)).trans h.row, own_down h.dd hb, own_down h.cc hb⟩
/-- A block of eight cells is written over. -/
def set8 (V : World) (b : Nat) (a0 a1 a2 a3 a4 a5 a6 a7 : Value) : World := (((((((V.setCell ⟨b, 0, none⟩ a0).setCell ⟨b, 1, none⟩ a1).setCell ⟨b, 2, none⟩ a2).setCell ⟨b, 3, none⟩ a3).setCell ⟨b, 4, none⟩ a4).setCell ⟨b, 5, none⟩ a5).setCell ⟨b, 6, none⟩ a6).setCell ⟨b, 7, none⟩ a7
theorem set8_row {V : World} {b : Nat} {t : TypeId} {a0 a1 a2 a3 a4 a5 a6 a7 p0 p1 p2 p3 p4 p5 p6 p7 : Value} (h : V.heap[b]? = some (.cells #[p0, p1, p2, p3, p4, p5, p6, p7] t (0, 0))) : (set8 V b a0 a1 a2 a3 a4 a5 a6 a7).heap[b]? = some (.cells #[a0, a1, a2, a3, a4, a5, a6, a7] t (0, 0)) := by
  have h0 := heap_setCell_same _ b 0 _ t a0 h
  have h1 := heap_setCell_same _ b 1 _ t a1 h0
  have h2 := heap_setCell_same _ b 2 _ t a2 h1
  have h3 := heap_setCell_same _ b 3 _ t a3 h2
  have h4 := heap_setCell_same _ b 4 _ t a4 h3
  have h5 := heap_setCell_same _ b 5 _ t a5 h4
  have h6 := heap_setCell_same _ b 6 _ t a6 h5
  have h7 := heap_setCell_same _ b 7 _ t a7 h6
  unfold set8
  simpa using h7
theorem set8_own {V : World} {b : Nat} {t : TypeId} {a0 a1 a2 a3 a4 a5 a6 a7 : Value} {cs : Array Value} (h : V.heap[b]? = some (.cells cs t (0, 0))) {B e size n : Nat} {v : Value} {xs : List Value} (ho : V.ownsRow B e size v n xs) (he : t ≠ e) : (set8 V b a0 a1 a2 a3 a4 a5 a6 a7).ownsRow B e size v n xs := by
  have h0 := heap_setCell_same _ b 0 _ t a0 h
  have h1 := heap_setCell_same _ b 1 _ t a1 h0
  have h2 := heap_setCell_same _ b 2 _ t a2 h1
  have h3 := heap_setCell_same _ b 3 _ t a3 h2
  have h4 := heap_setCell_same _ b 4 _ t a4 h3
  have h5 := heap_setCell_same _ b 5 _ t a5 h4
  have h6 := heap_setCell_same _ b 6 _ t a6 h5
  exact own_set (p := ⟨b, 7, none⟩) (own_set (p := ⟨b, 6, none⟩) (own_set (p := ⟨b, 5, none⟩) (own_set (p := ⟨b, 4, none⟩) (own_set (p := ⟨b, 3, none⟩) (own_set (p := ⟨b, 2, none⟩) (own_set (p := ⟨b, 1, none⟩) (own_set (p := ⟨b, 0, none⟩) ho h he _) h0 he _) h1 he _) h2 he _) h3 he _) h4 he _) h5 he _) h6 he _
theorem set8_below {B : Nat} {w V : World} {b : Nat} {a0 a1 a2 a3 a4 a5 a6 a7 : Value} (h : Below B w V) (hb : B ≤ b) : Below B w (set8 V b a0 a1 a2 a3 a4 a5 a6 a7) :=
  (((((((h.setCell (p := ⟨b, 0, none⟩) hb _).setCell (p := ⟨b, 1, none⟩) hb _).setCell (p := ⟨b, 2, none⟩) hb _).setCell (p := ⟨b, 3, none⟩) hb _).setCell (p := ⟨b, 4, none⟩) hb _).setCell (p := ⟨b, 5, none⟩) hb _).setCell (p := ⟨b, 6, none⟩) hb _).setCell (p := ⟨b, 7, none⟩) hb _
set_option maxRecDepth 100000 in
set_option maxHeartbeats 6400000 in
theorem srv_see (b : Nat) (s : Sv) (dv cv : Value) (op : Bool) (bs bf : Int) (w : World) (h : PRow b s dv cv op bs bf w) (l1 : s.done.length ≤ 900) (l2 : s.com.length ≤ 900) :
    Calls Tryz.prog 105 #[.pointer (some ⟨b, 0, none⟩)] w fun e w' => ∃ dv' cv', e = .returned (.agg #[.int .i64 s.ns, .int .i64 s.nf, .bool s.ld, .int .i64 s.up, .int .i64 s.ex, dv', cv', .int .i64 s.ref]) ∧
      w'.ownsRow w.heap.size 84 2 dv' s.done.length (flat s.done) ∧ w'.ownsRow w.heap.size 121 5 cv' s.com.length (flatC s.com) ∧ Below w.heap.size w w' := by
  obtain ⟨k0, hk0, hx0, hx1, hx2⟩ := info_parts infoAComing
  have HP := hid' h
  have q2 := h.c4
  have q3 := h.c5
  have q4 := h.c6
  have q5 := h.c7
  have q6 := h.c8
  have q7 := h.c9
  have q8 := h.c10
  have q9 := h.c11
  have lb := lt_of_heap h.row
  obtain ⟨da, dcp, hdv⟩ := own_slice h.dd
  subst hdv
  obtain ⟨ca, ccp, hcv⟩ := own_slice h.cc
  subst hcv
  have RD := hid' (read_of h.dd rfl)
  clear h
  have B0 := hid' (((Below.refl w.heap.size w).alloc (Nat.le_refl _) (.cells #[.int .i64 0, .int .i64 0, .bool false, .int .i64 0, .int .i64 0, .slice none 0 0, .slice none 0 0, .int .i64 0] 113)).alloc (by simp) (.cells #[.int .i64 s.ns, .int .i64 s.nf, .bool s.ld, .int .i64 s.up, .int .i64 s.ex, .slice da s.done.length dcp, .slice ca s.com.length ccp, .int .i64 s.ref] 113))
  have R0 := hid' (heap_alloc2_old w (.cells #[.int .i64 0, .int .i64 0, .bool false, .int .i64 0, .int .i64 0, .slice none 0 0, .slice none 0 0, .int .i64 0] 113) (.cells #[.int .i64 s.ns, .int .i64 s.nf, .bool s.ld, .int .i64 s.up, .int .i64 s.ex, .slice da s.done.length dcp, .slice ca s.com.length ccp, .int .i64 s.ref] 113))
  have R1 := hid' (heap_alloc2_new w (.cells #[.int .i64 0, .int .i64 0, .bool false, .int .i64 0, .int .i64 0, .slice none 0 0, .slice none 0 0, .int .i64 0] 113) (.cells #[.int .i64 s.ns, .int .i64 s.nf, .bool s.ld, .int .i64 s.up, .int .i64 s.ex, .slice da s.done.length dcp, .slice ca s.com.length ccp, .int .i64 s.ref] 113))
  go_enter Tryz.func105, Tryz.ntmps105
  go_upto_region 2 with fail
  generalize hV : (w.alloc (.cells #[.int .i64 0, .int .i64 0, .bool false, .int .i64 0, .int .i64 0, .slice none 0 0, .slice none 0 0, .int .i64 0] 113)).alloc (.cells #[.int .i64 s.ns, .int .i64 s.nf, .bool s.ld, .int .i64 s.up, .int .i64 s.ex, .slice da s.done.length dcp, .slice ca s.com.length ccp, .int .i64 s.ref] 113) = V at *
  clear hV
  have v7 := (B0.out.cell (p := ⟨b, 9, none⟩) lb).trans q7
  clear q2 q3 q4 q5 q6 q7 q9
  go_wp2_with fail
  refine (copy_of da s.done.length dcp s.done _ (RD.out.below B0.out) rfl (by omega)).mono ?_
  rintro e w1 ⟨dn, rfl, own1, hb1⟩
  have r0 := (hb1.block _ (lt_of_heap R0.out)).trans R0.out
  have r1 := (hb1.block _ (lt_of_heap R1.out)).trans R1.out
  have s0 := B0.out.size
  have fr5 := frozen_of_row _ _ 5 _ _ r1
  have fr6 := frozen_of_row _ _ 6 _ _ r1
  have cr5 := cell_of_row _ _ 5 _ _ _ r1
  have cr6 := cell_of_row _ _ 6 _ _ _ r1
  simp at cr5 cr6
  obtain ⟨dna, dncp, hdn⟩ := own_slice own1
  subst hdn
  have SV : Hid (SeeV w s 0 (.slice dna s.done.length dncp) (.slice none 0 0) ((w1.setCell ⟨w.heap.size + 1, 5, none⟩ (.slice dna s.done.length dncp)).setCell ⟨w.heap.size + 1, 6, none⟩ (.slice none 0 0))) := by
    have rr := heap_setCell_same _ _ 5 _ _ (.slice dna s.done.length dncp) r1
    refine ⟨((B0.out.trans (hb1.mono s0)).setCell (by show w.heap.size ≤ w.heap.size + 1; omega) _).setCell (by show w.heap.size ≤ w.heap.size + 1; omega) _, ?_, ?_, own_set (p := ⟨w.heap.size + 1, 6, none⟩) (own_set (p := ⟨w.heap.size + 1, 5, none⟩) (own_lo own1 s0) r1 (by decide) _) rr (by decide) _, World.ownsRow_nil _ _ _ _⟩
    · rw [heap_setCell_other _ _ _ _ (by show w.heap.size ≠ w.heap.size + 1; omega), heap_setCell_other _ _ _ _ (by show w.heap.size ≠ w.heap.size + 1; omega)]; exact r0
    · rw [heap_setCell_same _ _ _ _ _ _ rr]; rfl
  clear own1 hb1 r0 r1 v7
  go_upto_region 4 with fail
  generalize hW : (w1.setCell ⟨w.heap.size + 1, 5, none⟩ (.slice dna s.done.length dncp)).setCell ⟨w.heap.size + 1, 6, none⟩ (.slice none 0 0) = W1 at *
  clear hW fr5 fr6 cr5 cr6
  go_wp2_with fail
  go_loopw [4] (fun i wr => ∃ (k : Nat) (cv' : Value), k ≤ s.com.length ∧ i = .int .i64 k ∧ SeeV w s k (.slice dna s.done.length dncp) cv' wr) (fun i _ => s.com.length - (intOf i).toNat)
  case atStart => exact ⟨0, _, by omega, rfl, SV.out⟩
  case round =>
    obtain ⟨k, cv', hk, rfl, sv⟩ := hrel
    have SVK := hid' sv
    have v8 := (sv.bel.cell (p := ⟨b, 10, none⟩) lb).trans q8
    have hsz := sv.bel.size
    by_cases hlt : k < s.com.length
    · have hli : (k : Int) < (s.com.length : Int) := by omega
      have hk0i : (0 : Int) ≤ (k : Int) := by omega
      obtain ⟨g, cg, hg⟩ := own_some HP.out.cc (by omega)
      obtain ⟨rfl, _, rfl⟩ := Value.slice.inj hg
      have lg : g < w.heap.size := (HP.out.cc.lt _ rfl).2
      have e0 := ((sv.bel.cell (p := ⟨g, k * 5, none⟩) lg).trans (HP.out.cc.cellAt (k * 5) (by omega))).trans (flatC_at s.com k hlt 0 (by omega))
      have e1 := ((sv.bel.cell (p := ⟨g, k * 5 + 1, none⟩) lg).trans (HP.out.cc.cellAt (k * 5 + 1) (by omega))).trans (flatC_at s.com k hlt 1 (by omega))
      have e2 := ((sv.bel.cell (p := ⟨g, k * 5 + 2, none⟩) lg).trans (HP.out.cc.cellAt (k * 5 + 2) (by omega))).trans (flatC_at s.com k hlt 2 (by omega))
      have e3 := ((sv.bel.cell (p := ⟨g, k * 5 + 3, none⟩) lg).trans (HP.out.cc.cellAt (k * 5 + 3) (by omega))).trans (flatC_at s.com k hlt 3 (by omega))
      have e4 := ((sv.bel.cell (p := ⟨g, k * 5 + 4, none⟩) lg).trans (HP.out.cc.cellAt (k * 5 + 4) (by omega))).trans (flatC_at s.com k hlt 4 (by omega))
      have htk : s.com.take (k + 1) = s.com.take k ++ [s.com[k]] := List.take_succ_eq_append_getElem (by omega)
      have HTK := hid' htk
      generalize s.com[k] = c at *
      obtain ⟨cA, cO, cS, cF, cV⟩ := c
      simp [Cm.cells] at e0 e1 e2 e3 e4
      have c6 := cell_of_row _ _ 6 _ _ _ sv.row
      have f6 := frozen_of_row _ _ 6 _ _ sv.row
      have lr := lt_of_heap sv.row
      obtain ⟨va, vcp, hv⟩ := own_slice sv.cc
      subst hv
      simp at c6
      have lgr : g < wr.heap.size := by omega
      have lbr : b < wr.heap.size := by omega
      have ng1 : g ≠ w.heap.size + 1 := by omega
      have nb1 : b ≠ w.heap.size + 1 := by omega
      have ng2 : w.heap.size + 1 ≠ g := by omega
      have nb2 : w.heap.size + 1 ≠ b := by omega
      have BAL := (Below.refl wr.heap.size wr).alloc (Nat.le_refl _) (.cells #[.int .i64 cA, .int .i64 cO, .int .i64 cS, .int .i64 cF, .bool cV] 121)
      have m8 := (BAL.cell (p := ⟨b, 10, none⟩) lbr).trans v8
      have m0 := (BAL.cell (p := ⟨g, k * 5, none⟩) lgr).trans e0
      have m1 := (BAL.cell (p := ⟨g, k * 5 + 1, none⟩) lgr).trans e1
      have m2 := (BAL.cell (p := ⟨g, k * 5 + 2, none⟩) lgr).trans e2
      have m3 := (BAL.cell (p := ⟨g, k * 5 + 3, none⟩) lgr).trans e3
      have m4 := (BAL.cell (p := ⟨g, k * 5 + 4, none⟩) lgr).trans e4
      have NG : Hid (some g ≠ (Value.slice va k vcp).ownBlock) := fun e => by have := own_ge SVK.out.cc g e.symm; omega
      have NB : Hid (some b ≠ (Value.slice va k vcp).ownBlock) := fun e => by have := own_ge SVK.out.cc b e.symm; omega
      have fz : ∀ o, (wr.alloc o).frozen? ⟨w.heap.size + 1, 6, none⟩ = false := fun o => frozen_of_row _ _ 6 _ _ ((Keep.refl _ wr).alloc o _ _ _ SVK.out.row)
      clear sv hg htk BAL
      go_upto_region 7 with fail
      go_region_law ((refine step_append_lies _ ?_ (.tmp 28) (.tmp 37) 111 ?_ w.heap.size 121 k0 (.agg #[.int .i64 0, .int .i64 0, .int .i64 0, .int .i64 0, .bool false]) 5 40 Tryz.underlying111 hk0 hx0 hx1 hx2 rfl (by decide) (.slice va k vcp) k (flatC (s.com.take k)) ?_ ?_ ⟨wr.heap.size, 0, none⟩ 1 1 [.int .i64 cA, .int .i64 cO, .int .i64 cS, .int .i64 cF, .bool cV] ?_ ?_ ?_ ?_ ?_ ?_ ?_ ?_ (wr.heap.size + 1) ?_ ?_; exact rfl; exact rfl; exact rfl; exact (SVK.out.cc.alloc _).drew; exact rfl; exact rfl; exact (World.news_of_block (cs := #[.int .i64 cA, .int .i64 cO, .int .i64 cS, .int .i64 cF, .bool cV]) (t := 121) (fr := (0, 0)) (heap_alloc_new wr _)); (simp [Value.oneCell']); decide; (unfold maxLen; omega); omega; (simp; omega); (simp); intro gg cap6 w6 own6 hg6 hat6 hlt6; have k8 := (hg6.cell (a := ⟨b, 10, none⟩) (v := .slice (some ⟨g, 0, none⟩) s.com.length ccp) (by exact m8) NB.out); have k0' := (hg6.cell (a := ⟨g, k * 5, none⟩) (v := .int .i64 cA) (by exact m0) NG.out); have k1 := (hg6.cell (a := ⟨g, k * 5 + 1, none⟩) (v := .int .i64 cO) (by exact m1) NG.out); have k2 := (hg6.cell (a := ⟨g, k * 5 + 2, none⟩) (v := .int .i64 cS) (by exact m2) NG.out); have k3 := (hg6.cell (a := ⟨g, k * 5 + 3, none⟩) (v := .int .i64 cF) (by exact m3) NG.out); have k4 := (hg6.cell (a := ⟨g, k * 5 + 4, none⟩) (v := .bool cV) (by exact m4) NG.out); have S6 := hid' (grown_heap (w := (wr.alloc (.cells #[.int .i64 cA, .int .i64 cO, .int .i64 cS, .int .i64 cF, .bool cV] 121)).drew) (t := 113) hg6 (SVK.out.cc.alloc _).drew ((Keep.refl _ wr).alloc _ _ _ _ SVK.out.row) (by decide)); have c66 := cell_of_row _ _ 6 _ _ _ S6.out; have f66 := frozen_of_row _ _ 6 _ _ S6.out; (simp at c66); have OWN6 := hid' own6; have HG6 := hid' hg6; clear own6 hg6 hat6))
      all_goals
        go_wp2
        go_roundw
        case rel =>
          refine ⟨k + 1, _, by omega, by go_num, (SVK.out.below ((Below.refl wr.heap.size wr).alloc (Nat.le_refl _) (.cells #[.int .i64 cA, .int .i64 cO, .int .i64 cS, .int .i64 cF, .bool cV] 121)).drew).put (by exact HG6.out) ?_⟩
          rw [HTK.out, flatC_append]; exact OWN6.out
        case measure => simp [intOf]; omega
    · have hnl : ¬ (k : Int) < (s.com.length : Int) := by omega
      obtain rfl : k = s.com.length := by omega
      obtain ⟨va, vcp, hv⟩ := own_slice sv.cc
      subst hv
      have t0 := cell_of_row _ _ 0 _ _ _ sv.row
      have t1 := cell_of_row _ _ 1 _ _ _ sv.row
      have t2 := cell_of_row _ _ 2 _ _ _ sv.row
      have t3 := cell_of_row _ _ 3 _ _ _ sv.row
      have t4 := cell_of_row _ _ 4 _ _ _ sv.row
      have t5 := cell_of_row _ _ 5 _ _ _ sv.row
      have t6 := cell_of_row _ _ 6 _ _ _ sv.row
      have t7 := cell_of_row _ _ 7 _ _ _ sv.row
      simp at t0 t1 t2 t3 t4 t5 t6 t7
      have u0 := cell_of_row _ _ 0 _ _ _ sv.res
      have u1 := cell_of_row _ _ 1 _ _ _ sv.res
      have u2 := cell_of_row _ _ 2 _ _ _ sv.res
      have u3 := cell_of_row _ _ 3 _ _ _ sv.res
      have u4 := cell_of_row _ _ 4 _ _ _ sv.res
      have u5 := cell_of_row _ _ 5 _ _ _ sv.res
      have u6 := cell_of_row _ _ 6 _ _ _ sv.res
      have u7 := cell_of_row _ _ 7 _ _ _ sv.res
      simp at u0 u1 u2 u3 u4 u5 u6 u7
      have f0 := frozen_of_row _ _ 0 _ _ sv.res
      have f1 := frozen_of_row _ _ 1 _ _ sv.res
      have f2 := frozen_of_row _ _ 2 _ _ sv.res
      have f3 := frozen_of_row _ _ 3 _ _ sv.res
      have f4 := frozen_of_row _ _ 4 _ _ sv.res
      have f5 := frozen_of_row _ _ 5 _ _ sv.res
      have f6 := frozen_of_row _ _ 6 _ _ sv.res
      have f7 := frozen_of_row _ _ 7 _ _ sv.res
      clear sv
      go_wp2
      try simp only [Exit.inBlock, Exit.then]
      have R8 := set8_row (a0 := .int .i64 s.ns) (a1 := .int .i64 s.nf) (a2 := .bool s.ld) (a3 := .int .i64 s.up) (a4 := .int .i64 s.ex) (a5 := .slice dna s.done.length dncp) (a6 := .slice va s.com.length vcp) (a7 := .int .i64 s.ref) SVK.out.res
      refine bodyPost_ret (results_cell_row rfl _ _ w.heap.size 113 #[.int .i64 s.ns, .int .i64 s.nf, .bool s.ld, .int .i64 s.up, .int .i64 s.ex, .slice dna s.done.length dncp, .slice va s.com.length vcp, .int .i64 s.ref] (0, 0) _ rfl (by exact R8) Tryz.underlying113 rfl (by kernel_rfl)) rfl ?_
      have cc := SVK.out.cc
      rw [List.take_length] at cc
      exact ⟨_, _, rfl, by exact set8_own SVK.out.res SVK.out.dd (by decide), by exact set8_own SVK.out.res cc (by decide), by exact set8_below SVK.out.bel (Nat.le_refl _)⟩
set_option maxRecDepth 100000 in
theorem p_see (b : Nat) (s : Sv) (F : Nat → Prop) (w : World) (h : PS b s F w) (l1 : s.done.length ≤ 900) (l2 : s.com.length ≤ 900) : Shows b s w := by
  obtain ⟨dv, cv, op, bs, bf, r, _, _⟩ := h
  have B0 := hid' ((Below.refl w.heap.size w).alloc (Nat.le_refl _) (.cells #[.int .i64 0, .int .i64 0, .bool false, .int .i64 0, .int .i64 0, .slice none 0 0, .slice none 0 0, .int .i64 0] 113))
  have R0 := hid' (heap_alloc_new w (.cells #[.int .i64 0, .int .i64 0, .bool false, .int .i64 0, .int .i64 0, .slice none 0 0, .slice none 0 0, .int .i64 0] 113))
  have SE := hid' (srv_see b s dv cv op bs bf _ (r.below B0.out) l1 l2)
  unfold Shows
  clear r
  go_enter Tryz.func59, Tryz.ntmps59
  go_wp2_with fail
  refine SE.out.mono ?_
  rintro e w1 ⟨dv', cv', rfl, od, oc, hb⟩
  have R1 := hid' ((hb.block _ (lt_of_heap R0.out)).trans R0.out)
  have s0 := B0.out.size
  have OD := hid' (own_lo od s0)
  have OC := hid' (own_lo oc s0)
  have B1 := hid' (B0.out.trans (hb.mono s0))
  obtain ⟨xa, xcp, hx⟩ := own_slice od
  subst hx
  obtain ⟨ya, ycp, hy⟩ := own_slice oc
  subst hy
  have u0 := cell_of_row _ _ 0 _ _ _ R1.out
  have u1 := cell_of_row _ _ 1 _ _ _ R1.out
  have u2 := cell_of_row _ _ 2 _ _ _ R1.out
  have u3 := cell_of_row _ _ 3 _ _ _ R1.out
  have u4 := cell_of_row _ _ 4 _ _ _ R1.out
  have u5 := cell_of_row _ _ 5 _ _ _ R1.out
  have u6 := cell_of_row _ _ 6 _ _ _ R1.out
  have u7 := cell_of_row _ _ 7 _ _ _ R1.out
  simp at u0 u1 u2 u3 u4 u5 u6 u7
  have f0 := frozen_of_row _ _ 0 _ _ R1.out
  have f1 := frozen_of_row _ _ 1 _ _ R1.out
  have f2 := frozen_of_row _ _ 2 _ _ R1.out
  have f3 := frozen_of_row _ _ 3 _ _ R1.out
  have f4 := frozen_of_row _ _ 4 _ _ R1.out
  have f5 := frozen_of_row _ _ 5 _ _ R1.out
  have f6 := frozen_of_row _ _ 6 _ _ R1.out
  have f7 := frozen_of_row _ _ 7 _ _ R1.out
  clear od oc hb SE
  go_wp2
  try simp only [Exit.inBlock, Exit.then]
  have R8 := set8_row (a0 := .int .i64 s.ns) (a1 := .int .i64 s.nf) (a2 := .bool s.ld) (a3 := .int .i64 s.up) (a4 := .int .i64 s.ex) (a5 := .slice xa s.done.length xcp) (a6 := .slice ya s.com.length ycp) (a7 := .int .i64 s.ref) R1.out
  refine bodyPost_ret (results_cell_row rfl _ _ w.heap.size 113 #[.int .i64 s.ns, .int .i64 s.nf, .bool s.ld, .int .i64 s.up, .int .i64 s.ex, .slice xa s.done.length xcp, .slice ya s.com.length ycp, .int .i64 s.ref] (0, 0) _ rfl (by exact R8) Tryz.underlying113 rfl (by kernel_rfl)) rfl ?_
  exact ⟨_, _, rfl, by exact set8_own R1.out OD.out (by decide), by exact set8_own R1.out OC.out (by decide), by exact set8_below B1.out (Nat.le_refl _)⟩
end Go.Proofs.YtmmkhodaljpjgaaGreatDoor
