import Derived.Test.YtmmkhodaljpjgaaGreatDoorRefE
import Derived.Test.YtmmkhodaljpjgaaGreatDoorTxtSP
import Derived.Test.YtmmkhodaljpjgaaGreatDoorRefOf
import Derived.Test.YtmmkhodaljpjgaaGreatDoorRTab
import Derived.Test.YtmmkhodaljpjgaaGreatDoorFileD
import Derived.Laws.ResultCell
/-! The document's Parse. -/
namespace Go.Proofs.YtmmkhodaljpjgaaGreatDoor
open Go.RowKit

theorem results_cell_tmp2 {fn : Func} {p u v : Tmp} {ty : TypeId} (h : fn.results = #[.cell p ty, .tmp u, .tmp v]) (tmps : Array Value) (P : Program) (w : World) :
    (results fn tmps).run P w =
      ((asAddr (tmps.getD p undef)).run P w).andThen fun a w₁ => ((loadVar ty a).run P w₁).andThen fun x w₂ => .ok (.tuple #[x, tmps.getD u undef, tmps.getD v undef]) w₂ := by
  simp only [results, h]
  simp [Sem.run_bind, Result.andThen]
theorem results_row_tmp2 {fn : Func} {p u v : Tmp} {ty : TypeId} {P : Program} (h : fn.results = #[.cell p ty, .tmp u, .tmp v]) (tmps : Array Value) (w : World) (g : Nat) (cs : Array Value)
    (hp : tmps.getD p undef = .pointer (some ⟨g, 0, none⟩)) (hl : (loadVar ty ⟨g, 0, none⟩).run P w = .ok (.agg cs) w) :
    (results fn tmps).run P w = .ok (.tuple #[.agg cs, tmps.getD u undef, tmps.getD v undef]) w := by
  rw [results_cell_tmp2 h, hp]
  simp [asAddr, hl, Result.andThen]
theorem load_rtable {w : World} {g : Nat} {cs : Array Value} (hg : w.heap[g]? = some (.cells cs 33 (0, 0))) (hs : cs.size = 3) : (loadVar 33 ⟨g, 0, none⟩).run Tryz.prog w = .ok (.agg cs) w :=
  run_loadVar_row (P := Tryz.prog) w g 33 33 cs (0, 0) _ hg Tryz.underlying33 rfl (by rw [hs]; kernel_rfl)

theorem z3_row {V : World} {b : Nat} {p q r : Value} {t : TypeId} {x y z : Value} (h1 : V.heap[b]? = some (.cells #[p, q, r] t (0, 0))) : (((V.setCell ⟨b, 0, none⟩ x).setCell ⟨b, 1, none⟩ y).setCell ⟨b, 2, none⟩ z).heap[b]? = some (.cells #[x, y, z] t (0, 0)) := by
  have e1 := heap_setCell_same _ b 0 _ t x h1
  have e2 := heap_setCell_same _ b 1 _ t y e1
  have e3 := heap_setCell_same _ b 2 _ t z e2
  simpa using e3
theorem z3_below {W V : World} {b B : Nat} {x y z : Value} (h : Below B W V) (hb : B ≤ b) : Below B W (((V.setCell ⟨b, 0, none⟩ x).setCell ⟨b, 1, none⟩ y).setCell ⟨b, 2, none⟩ z) :=
  ((h.setCell (p := ⟨b, 0, none⟩) hb x).setCell (p := ⟨b, 1, none⟩) hb y).setCell (p := ⟨b, 2, none⟩) hb z
theorem z3_own {V : World} {b B n size : Nat} {x y z p q r v : Value} {t e : TypeId} {xs : List Value} (h1 : V.heap[b]? = some (.cells #[p, q, r] t (0, 0))) (ho : V.ownsRow B e size v n xs) (hne : t ≠ e) :
    (((V.setCell ⟨b, 0, none⟩ x).setCell ⟨b, 1, none⟩ y).setCell ⟨b, 2, none⟩ z).ownsRow B e size v n xs := by
  have e1 := heap_setCell_same _ b 0 _ t x h1
  have e2 := heap_setCell_same _ b 1 _ t y e1
  exact own_set (p := ⟨b, 2, none⟩) (own_set (p := ⟨b, 1, none⟩) (own_set (p := ⟨b, 0, none⟩) ho h1 hne x) e1 hne y) e2 hne z

/-- What Parse answers. -/
def RGot (w : World) (gt : Txt.Got) (e : Ending) (w' : World) : Prop := ∃ lv, e = .returned (.tuple #[.agg #[.int .i64 gt.up, .int .i64 gt.ex, lv], .int .i64 gt.err, .int .i64 gt.num]) ∧ w'.ownsRow w.heap.size 46 2 lv gt.ls.length (flat gt.ls) ∧ Below w.heap.size w w'

theorem rgot_no {w w' : World} {e : Int} {m : Nat} {en : Ending} (h : en = .returned (.tuple #[.agg #[.int .i64 0, .int .i64 0, .slice none 0 0], .int .i64 e, .int .i64 m])) (hb : Below w.heap.size w w') : RGot w ⟨0, 0, [], e, m⟩ en w' :=
  ⟨.slice none 0 0, h, World.ownsRow_nil _ _ _ _, hb⟩

/-- Between two lines of the loop. -/
structure RMid (w : World) (t : ByteArray) (n from' i : Nat) (st : Txt.St) (wr : World) : Prop where
  rf : Rf wr (w.heap.size + 1) st
  ok : Txt.Ok st n
  nf : n ≤ from'
  fi : from' ≤ i
  i1 : i ≤ t.size + 1
  at' : (i ≤ t.size ∧ Txt.eol t from' = Txt.eol t i) ∨ (i = t.size + 1 ∧ from' = t.size + 1)
  run : ∃ f, t.size + 2 - from' ≤ f ∧ Txt.run t (t.size + 2) 0 0 Txt.st0 = Txt.run t f from' n st
  row : wr.heap[w.heap.size]? = some (.cells #[.int .i64 0, .int .i64 0, .slice none 0 0] 33 (0, 0))
  bel : Below w.heap.size w wr

theorem rf_start (w : World) : Rf ((w.alloc (.cells #[.int .i64 0, .int .i64 0, .slice none 0 0] 33)).alloc (.cells #[.int .i64 0, .int .i64 0, .slice none 0 0, .string ⟨#[]⟩, .bool false, .bool false, .bool false, .slice none 0 0] 143)) (w.heap.size + 1) Txt.st0 :=
  ⟨.slice none 0 0, .slice none 0 0, [], heap_alloc2_new _ _ _, World.ownsRow_nil _ _ _ _, World.ownsRow_nil _ _ _ _, fun h => absurd rfl h⟩

set_option maxRecDepth 100000 in
set_option maxHeartbeats 6400000 in
theorem ref_parse (t : ByteArray) (w : World) (hs : t.size ≤ 1000000) :
    Calls Tryz.prog 41 #[.string t] w fun e w' => RGot w (Txt.parse t) e w' := by
  have RN := hid' (heap_alloc_new w (.cells #[.int .i64 0, .int .i64 0, .slice none 0 0] 33))
  have BN := hid' ((Below.refl w.heap.size w).alloc (Nat.le_refl _) (.cells #[.int .i64 0, .int .i64 0, .slice none 0 0] 33))
  by_cases hbig : 2000 < t.size
  · have HP : Hid (Txt.parse t = ⟨0, 0, [], 2, 0⟩) := by show _ = _; unfold Txt.parse; rw [if_pos hbig]
    go_enter Tryz.func41, Tryz.ntmps41
    go_wp2
    refine bodyPost_ret (results_row_tmp2 (p := 2) (u := 3) (v := 4) rfl _ _ w.heap.size #[.int .i64 0, .int .i64 0, .slice none 0 0] rfl (load_rtable RN.out rfl)) rfl ?_
    rw [HP.out]
    exact rgot_no rfl BN.out
  have RF0 := hid' (rf_start w)
  have R0 := hid' (heap_alloc2_old w (.cells #[.int .i64 0, .int .i64 0, .slice none 0 0] 33) (.cells #[.int .i64 0, .int .i64 0, .slice none 0 0, .string ⟨#[]⟩, .bool false, .bool false, .bool false, .slice none 0 0] 143))
  have B0 := hid' (BN.out.alloc (by simp) (.cells #[.int .i64 0, .int .i64 0, .slice none 0 0, .string ⟨#[]⟩, .bool false, .bool false, .bool false, .slice none 0 0] 143))
  have HPE : Hid (¬ (Txt.run t (t.size + 2) 0 0 Txt.st0).1 = 0 → Txt.parse t = ⟨0, 0, [], (Txt.run t (t.size + 2) 0 0 Txt.st0).1, (Txt.run t (t.size + 2) 0 0 Txt.st0).2.1⟩) := fun h => by unfold Txt.parse; rw [if_neg hbig, if_neg h]
  have HPD : Hid ((Txt.run t (t.size + 2) 0 0 Txt.st0).1 = 0 → Txt.parse t = Txt.done (Txt.run t (t.size + 2) 0 0 Txt.st0).2.2) := fun h => by unfold Txt.parse; rw [if_neg hbig, if_pos h]
  go_enter Tryz.func41, Tryz.ntmps41
  go_wp2_with fail
  go_loopw [6, 7, 8, 9] (fun n fr i _ wr => ∃ (nn ff ii : Nat) (st : Txt.St), n = .int .i64 nn ∧ fr = .int .i64 ff ∧ i = .int .i64 ii ∧ RMid w t nn ff ii st wr) (fun _ _ i _ _ => t.size + 1 - (intOf i).toNat)
  case atStart => exact ⟨0, 0, 0, Txt.st0, rfl, rfl, rfl, ⟨RF0.out, Txt.Ok.start, Nat.le_refl _, Nat.le_refl _, by omega, .inl ⟨by omega, rfl⟩, ⟨t.size + 2, by omega, rfl⟩, R0.out, B0.out⟩⟩
  case round =>
    clear RF0 R0 B0 RN BN
    obtain ⟨n, fr, i, st, rfl, rfl, rfl, hM⟩ := hrel
    have i1 := hM.i1
    have fi := hM.fi
    have nf := hM.nf
    have HM := hid' hM
    clear hM
    by_cases hi : i ≤ t.size
    · have hat : Txt.eol t fr = Txt.eol t i := by rcases HM.out.at' with h | h; exact h.2; omega
      by_cases hline : i = t.size ∨ (∃ h : i < t.size, (t[i].toNat : Int) = 10)
      · have heol : Txt.eol t fr = i := by
          rw [hat]; apply Txt.eol_stop
          rintro ⟨h, h'⟩
          rcases hline with e | ⟨_, e⟩
          · omega
          · rw [Txt.byte_at t i h] at h'; exact h' e
        have hx : (t.extract fr i).size ≤ 90000 := by rw [ByteArray.size_extract]; omega
        have HLN := hid' (ref_line (w.heap.size + 1) st (t.extract fr i) wr n HM.out.rf HM.out.ok (by omega) hx)
        have HEOL := hid' heol
        clear heol hat
        by_cases he : (Txt.line st (t.extract fr i)).1 = 0
        · obtain ⟨f, hf, hrun⟩ := HM.out.run
          obtain ⟨f', rfl⟩ : ∃ f', f = f' + 1 := ⟨f - 1, by omega⟩
          have hr2 : Txt.run t (t.size + 2) 0 0 Txt.st0 = Txt.run t f' (i + 1) (n + 1) (Txt.line st (t.extract fr i)).2 := by
            rw [hrun, Txt.run_go (by omega) (by rw [HEOL.out]; exact he), HEOL.out]
          have HR2 := hid' hr2
          have hok2 := HM.out.ok.line _ he
          have HOK2 := hid' hok2
          have HERR := hid' he
          rw [he] at HLN
          clear hrun hr2 hok2 he
          generalize (Txt.line st (t.extract fr i)).2 = st' at *
          have HROW0 := hid' HM.out.row
          have HBEL0 := hid' HM.out.bel
          rcases hline with hl | ⟨hl, hc⟩
          · have q1 : ((i : Int) == (t.size : Int)) = true := by rw [beq_iff_eq]; omega
            clear hl
            go_wp2_with fail
            refine HLN.out.mono ?_
            rintro e w3 ⟨rfl, hrd, hb3⟩
            have RD3 := hid' (hrd trivial)
            have ROW3 := hid' ((hb3.block _ (by omega)).trans HROW0.out)
            have BEL3 := hid' (HBEL0.out.trans (hb3.mono (by omega)))
            clear hrd hb3
            go_wp2
            go_roundw
            case rel => exact ⟨n + 1, i + 1, i + 1, st', by go_num, by go_num, by go_num, ⟨RD3.out, HOK2.out, by omega, Nat.le_refl _, by omega, (by by_cases e : i + 1 ≤ t.size; exact .inl ⟨e, rfl⟩; exact .inr ⟨by omega, by omega⟩), ⟨f', by omega, HR2.out⟩, ROW3.out, BEL3.out⟩⟩
            case measure => simp [intOf]; omega
          · have q1 : ((i : Int) == (t.size : Int)) = false := by rw [beq_eq_false_iff_ne]; omega
            have q2 : ((t[i].toNat : Int) == 10) = true := by rw [beq_iff_eq]; exact hc
            clear hc
            go_wp2_with fail
            refine HLN.out.mono ?_
            rintro e w3 ⟨rfl, hrd, hb3⟩
            have RD3 := hid' (hrd trivial)
            have ROW3 := hid' ((hb3.block _ (by omega)).trans HROW0.out)
            have BEL3 := hid' (HBEL0.out.trans (hb3.mono (by omega)))
            clear hrd hb3
            go_wp2
            go_roundw
            case rel => exact ⟨n + 1, i + 1, i + 1, st', by go_num, by go_num, by go_num, ⟨RD3.out, HOK2.out, by omega, Nat.le_refl _, by omega, (by by_cases e : i + 1 ≤ t.size; exact .inl ⟨e, rfl⟩; exact .inr ⟨by omega, by omega⟩), ⟨f', by omega, HR2.out⟩, ROW3.out, BEL3.out⟩⟩
            case measure => simp [intOf]; omega
        · obtain ⟨f, hf, hrun⟩ := HM.out.run
          obtain ⟨f', rfl⟩ : ∃ f', f = f' + 1 := ⟨f - 1, by omega⟩
          have hr2 : Txt.run t (t.size + 2) 0 0 Txt.st0 = ((Txt.line st (t.extract fr i)).1, n, st) := by
            rw [hrun, Txt.run_err (by omega) (by rw [HEOL.out]; exact he), HEOL.out]
          have hp := HPE.out (by rw [hr2]; exact he)
          rw [hr2] at hp
          have HP := hid' hp
          have qe : ((Txt.line st (t.extract fr i)).1 != 0) = true := bne_iff_ne.2 he
          have HROW0 := hid' HM.out.row
          have HBEL0 := hid' HM.out.bel
          clear hrun hr2 hp he
          generalize hG : Txt.line st (t.extract fr i) = G at *
          obtain ⟨er, st'⟩ := G
          simp only at qe HLN HP
          clear hG
          rcases hline with hl | ⟨hl, hc⟩
          · have q1 : ((i : Int) == (t.size : Int)) = true := by rw [beq_iff_eq]; omega
            clear hl
            go_wp2_with fail
            refine HLN.out.mono ?_
            rintro e w3 ⟨rfl, hrd, hb3⟩
            have row3 := (hb3.block _ (by omega)).trans HROW0.out
            have BEL3 := hid' (HBEL0.out.trans (hb3.mono (by omega)))
            have y0 := cell_of_row _ _ 0 _ _ _ row3
            have y1 := cell_of_row _ _ 1 _ _ _ row3
            have y2 := cell_of_row _ _ 2 _ _ _ row3
            simp at y0 y1 y2
            have x0 := frozen_of_row _ _ 0 _ _ row3
            have x1 := frozen_of_row _ _ 1 _ _ row3
            have x2 := frozen_of_row _ _ 2 _ _ row3
            have ROW3 := hid' row3
            clear hrd hb3 row3
            go_wp2
            refine bodyPost_ret (results_row_tmp2 (p := 2) (u := 3) (v := 4) rfl _ _ w.heap.size #[.int .i64 0, .int .i64 0, .slice none 0 0] rfl (load_rtable (z3_row ROW3.out) rfl)) rfl ?_
            rw [HP.out]
            exact rgot_no rfl (z3_below BEL3.out (Nat.le_refl _))
          · have q1 : ((i : Int) == (t.size : Int)) = false := by rw [beq_eq_false_iff_ne]; omega
            have q2 : ((t[i].toNat : Int) == 10) = true := by rw [beq_iff_eq]; exact hc
            clear hc
            go_wp2_with fail
            refine HLN.out.mono ?_
            rintro e w3 ⟨rfl, hrd, hb3⟩
            have row3 := (hb3.block _ (by omega)).trans HROW0.out
            have BEL3 := hid' (HBEL0.out.trans (hb3.mono (by omega)))
            have y0 := cell_of_row _ _ 0 _ _ _ row3
            have y1 := cell_of_row _ _ 1 _ _ _ row3
            have y2 := cell_of_row _ _ 2 _ _ _ row3
            simp at y0 y1 y2
            have x0 := frozen_of_row _ _ 0 _ _ row3
            have x1 := frozen_of_row _ _ 1 _ _ row3
            have x2 := frozen_of_row _ _ 2 _ _ row3
            have ROW3 := hid' row3
            clear hrd hb3 row3
            go_wp2
            refine bodyPost_ret (results_row_tmp2 (p := 2) (u := 3) (v := 4) rfl _ _ w.heap.size #[.int .i64 0, .int .i64 0, .slice none 0 0] rfl (load_rtable (z3_row ROW3.out) rfl)) rfl ?_
            rw [HP.out]
            exact rgot_no rfl (z3_below BEL3.out (Nat.le_refl _))
      · have hlt : i < t.size := by
          by_cases e : i = t.size
          · exact absurd (.inl e) hline
          · omega
        have h10 : ¬ (t[i].toNat : Int) = 10 := fun e => hline (.inr ⟨hlt, e⟩)
        have q1 : ((i : Int) == (t.size : Int)) = false := by rw [beq_eq_false_iff_ne]; omega
        have q2 : ((t[i].toNat : Int) == 10) = false := by rw [beq_eq_false_iff_ne]; exact h10
        have HN : Hid (RMid w t n fr (i + 1) st wr) := ⟨HM.out.rf, HM.out.ok, nf, by omega, by omega, .inl ⟨by omega, by rw [hat]; exact Txt.eol_go hlt (by rw [Txt.byte_at t i hlt]; exact h10)⟩, HM.out.run, HM.out.row, HM.out.bel⟩
        clear hline h10 hat
        go_wp2
        go_roundw
        case rel => exact ⟨n, fr, i + 1, st, rfl, rfl, by go_num, HN.out⟩
        case measure => simp [intOf]; omega
    · have hat : i = t.size + 1 ∧ fr = t.size + 1 := by
        rcases HM.out.at' with h | h
        · omega
        · exact h
      have hrun : Txt.run t (t.size + 2) 0 0 Txt.st0 = (0, 0, st) := by
        obtain ⟨f, hf, hrun⟩ := HM.out.run
        rw [hrun]; exact Txt.run_end (by omega)
      have hp := HPD.out (by rw [hrun])
      rw [hrun] at hp
      have HP := hid' hp
      have hni : ¬ (i : Int) ≤ (t.size : Int) := by omega
      have hdg := HM.out.ok.dg
      have HOK := hid' HM.out.ok
      have ROW0 := hid' HM.out.row
      have BEL0 := hid' HM.out.bel
      obtain ⟨lv, wv, full, hrow, hown, hwv, hfull⟩ := HM.out.rf
      have y0 := cell_of_row _ _ 0 _ _ _ ROW0.out
      have y1 := cell_of_row _ _ 1 _ _ _ ROW0.out
      have y2 := cell_of_row _ _ 2 _ _ _ ROW0.out
      simp at y0 y1 y2
      have x0 := frozen_of_row _ _ 0 _ _ ROW0.out
      have x1 := frozen_of_row _ _ 1 _ _ ROW0.out
      have x2 := frozen_of_row _ _ 2 _ _ ROW0.out
      have q0 := cell_of_row _ _ 0 _ _ _ hrow
      have q1 := cell_of_row _ _ 1 _ _ _ hrow
      have q2 := cell_of_row _ _ 2 _ _ _ hrow
      have q3 := cell_of_row _ _ 3 _ _ _ hrow
      have q4 := cell_of_row _ _ 4 _ _ _ hrow
      have q5 := cell_of_row _ _ 5 _ _ _ hrow
      have q6 := cell_of_row _ _ 6 _ _ _ hrow
      have q7 := cell_of_row _ _ 7 _ _ _ hrow
      simp at q0 q1 q2 q3 q4 q5 q6 q7
      have hlv : ∃ ao cap, lv = .slice ao st.ls.length cap := by
        rcases hown.2 with ⟨rfl, e⟩ | ⟨g, cap, cur, rfl, _⟩
        · exact ⟨_, _, by rw [e]⟩
        · exact ⟨_, _, rfl⟩
      obtain ⟨ao, lcap, rfl⟩ := hlv
      have HROW := hid' hrow
      have HOWN := hid' hown
      have HWV := hid' hwv
      have HFULL := hid' hfull
      clear hrun hp HM HPE HPD hrow hown hwv hfull hat
      have h6 : ∀ h : st.u = Txt.em ∨ st.x = Txt.em ∨ st.h = Txt.em ∨ st.ls.length = 0, Txt.parse t = ⟨0, 0, [], 6, 0⟩ := fun h => by
        rw [HP.out]; unfold Txt.done Txt.fin; rw [if_pos h, if_neg (by decide)]
      have H6 := hid' h6
      clear h6
      by_cases c0 : st.u = Txt.em
      · have HP6 := hid' (H6.out (.inl c0))
        rw [has_no c0] at q4
        clear c0
        go_wp2
        refine bodyPost_ret (results_row_tmp2 (p := 2) (u := 3) (v := 4) rfl _ _ w.heap.size #[.int .i64 0, .int .i64 0, .slice none 0 0] rfl (load_rtable (z3_row ROW0.out) rfl)) rfl ?_
        rw [HP6.out]
        exact rgot_no rfl (z3_below BEL0.out (Nat.le_refl _))

      by_cases c1 : st.x = Txt.em
      · have HP6 := hid' (H6.out (.inr (.inl c1)))
        rw [has_yes c0] at q4
        rw [has_no c1] at q5
        clear c0 c1
        go_wp2
        refine bodyPost_ret (results_row_tmp2 (p := 2) (u := 3) (v := 4) rfl _ _ w.heap.size #[.int .i64 0, .int .i64 0, .slice none 0 0] rfl (load_rtable (z3_row ROW0.out) rfl)) rfl ?_
        rw [HP6.out]
        exact rgot_no rfl (z3_below BEL0.out (Nat.le_refl _))

      by_cases c2 : st.h = Txt.em
      · have HP6 := hid' (H6.out (.inr (.inr (.inl c2))))
        rw [has_yes c0] at q4
        rw [has_yes c1] at q5
        rw [has_no c2] at q6
        clear c0 c1 c2
        go_wp2
        refine bodyPost_ret (results_row_tmp2 (p := 2) (u := 3) (v := 4) rfl _ _ w.heap.size #[.int .i64 0, .int .i64 0, .slice none 0 0] rfl (load_rtable (z3_row ROW0.out) rfl)) rfl ?_
        rw [HP6.out]
        exact rgot_no rfl (z3_below BEL0.out (Nat.le_refl _))

      by_cases c3 : st.ls.length = 0
      · have HP6 := hid' (H6.out (.inr (.inr (.inr c3))))
        rw [has_yes c0] at q4
        rw [has_yes c1] at q5
        rw [has_yes c2] at q6
        rw [c3] at q2
        clear c0 c1 c2 c3
        go_wp2
        refine bodyPost_ret (results_row_tmp2 (p := 2) (u := 3) (v := 4) rfl _ _ w.heap.size #[.int .i64 0, .int .i64 0, .slice none 0 0] rfl (load_rtable (z3_row ROW0.out) rfl)) rfl ?_
        rw [HP6.out]
        exact rgot_no rfl (z3_below BEL0.out (Nat.le_refl _))

      have hF : ¬ (st.u = Txt.em ∨ st.x = Txt.em ∨ st.h = Txt.em ∨ st.ls.length = 0) := fun h => by
        rcases h with h | h | h | h
        · exact c0 h
        · exact c1 h
        · exact c2 h
        · exact c3 h
      have HF8 : Hid (Tab.whole (Txt.numTo st.u st.u.size) (Txt.numTo st.x st.x.size) st.ls = false → Txt.parse t = ⟨0, 0, [], 8, 0⟩) := fun h => by rw [HP.out]; exact done_no (st := st) (n := 8) (by unfold Txt.fin; rw [if_neg hF, if_pos h]) (by decide)
      have HF7 : Hid (Tab.whole (Txt.numTo st.u st.u.size) (Txt.numTo st.x st.x.size) st.ls = true → ¬ ByteArray.mk (Sha.digest st.dg).toArray = st.h → Txt.parse t = ⟨0, 0, [], 7, 0⟩) := fun h h' => by rw [HP.out]; exact done_no (st := st) (n := 7) (by unfold Txt.fin; rw [if_neg hF, if_neg (by rw [h]; decide), if_pos h']) (by decide)
      have HF0 : Hid (Tab.whole (Txt.numTo st.u st.u.size) (Txt.numTo st.x st.x.size) st.ls = true → ByteArray.mk (Sha.digest st.dg).toArray = st.h → Txt.parse t = ⟨Txt.numTo st.u st.u.size, Txt.numTo st.x st.x.size, st.ls, 0, 0⟩) := fun h h' => by
        rw [HP.out]; exact done_yes (st := st) (by unfold Txt.fin; rw [if_neg hF, if_neg (by rw [h]; decide), if_neg (by simpa using h')])
      have nu : Txt.isNum st.u = true := by rcases HOK.out.u with h | h; exact absurd h c0; exact h
      have nx : Txt.isNum st.x = true := by rcases HOK.out.x with h | h; exact absurd h c1; exact h
      have lu := Txt.numTo_le nu
      have lx := Txt.numTo_le nx
      have hln := HOK.out.len
      obtain ⟨hf5, hj⟩ := HFULL.out c2
      have hh40 := HOK.out.h
      have HWH := hid' (whole_any (w.heap.size + 1 + 1) (.slice ao st.ls.length lcap) st.ls _ _ wr (wf_small lu.1 lu.2) (wf_small lx.1 lx.2) HOWN.out (by omega) HOK.out.wf)
      have HOF := hid' (fun W => ref_of st.dg W (by omega))
      rw [has_yes c0] at q4
      rw [has_yes c1] at q5
      rw [has_yes c2] at q6
      have hl0 : ((st.ls.length : Int) == 0) = false := by rw [beq_eq_false_iff_ne]; omega
      have HJ := hid' hj
      have HF5 := hid' hf5
      clear hF c0 c1 c2 c3 H6 HFULL nu nx lu lx HP hj
      generalize Txt.numTo st.u st.u.size = vu at *
      generalize Txt.numTo st.x st.x.size = vx at *
      generalize ByteArray.mk (Sha.digest st.dg).toArray = D at *
      cases hwh : Tab.whole vu vx st.ls with
      | false =>
        rw [hwh] at HWH
        have HD := hid' (HF8.out hwh)
        clear hwh y0 y1 y2 x0 x1 x2
        go_wp2_with fail
        refine HWH.out.mono ?_
        rintro e w4 ⟨rfl, hb4⟩
        have rn4 := (hb4.block _ (lt_of_heap ROW0.out)).trans ROW0.out
        have y0 := cell_of_row _ _ 0 _ _ _ rn4
        have y1 := cell_of_row _ _ 1 _ _ _ rn4
        have y2 := cell_of_row _ _ 2 _ _ _ rn4
        simp at y0 y1 y2
        have x0 := frozen_of_row _ _ 0 _ _ rn4
        have x1 := frozen_of_row _ _ 1 _ _ rn4
        have x2 := frozen_of_row _ _ 2 _ _ rn4
        have RN4 := hid' rn4
        have BE4 := hid' (BEL0.out.trans (hb4.mono BEL0.out.size))
        clear rn4 hb4
        go_wp2
        refine bodyPost_ret (results_row_tmp2 (p := 2) (u := 3) (v := 4) rfl _ _ w.heap.size #[.int .i64 0, .int .i64 0, .slice none 0 0] rfl (load_rtable (z3_row RN4.out) rfl)) rfl ?_
        rw [HD.out]
        exact rgot_no rfl (z3_below BE4.out (Nat.le_refl _))
      | true =>
        rw [hwh] at HWH
        have HF7' := hid' (HF7.out hwh)
        have HF0' := hid' (HF0.out hwh)
        clear hwh HF7 HF0 HF8 y0 y1 y2 x0 x1 x2
        go_wp2_with fail
        refine HWH.out.mono ?_
        rintro e W2 ⟨rfl, hb4⟩
        have RN2 := hid' ((hb4.block _ (lt_of_heap ROW0.out)).trans ROW0.out)
        have RR2 := hid' ((hb4.block _ (lt_of_heap HROW.out)).trans HROW.out)
        have OO2 := hid' (own_down HOWN.out hb4)
        have WV2 := hid' (own_down HWV.out hb4)
        have BE2 := hid' (BEL0.out.trans (hb4.mono BEL0.out.size))
        obtain ⟨gw, wcap, rfl⟩ := own_some WV2.out (by rw [HF5.out]; omega)
        have m7 := cell_of_row _ _ 7 _ _ _ RR2.out
        have m3 := cell_of_row _ _ 3 _ _ _ RR2.out
        simp at m7 m3
        have hfc : ∀ k, k < 5 → W2.cell? ⟨gw, k, none⟩ = some (.string (full.getD k Txt.em)) := fun k hk => by
          rw [WV2.out.cellAt k (by rw [HF5.out]; omega), List.getElem?_map, List.getElem?_eq_getElem (by omega), List.getD_eq_getElem?_getD, List.getElem?_eq_getElem (by omega)]; rfl
        have HFC := hid' hfc
        have hjs : ∀ k, k ≤ 5 → (joinTo full k).size ≤ (joinTo full 5).size := fun k hk => by
          have step : ∀ j, (joinTo full j).size ≤ (joinTo full (j + 1)).size := fun j => by rw [joinTo, ByteArray.size_append]; omega
          have a1 : (joinTo full 0).size ≤ (joinTo full 1).size := step 0
          have a2 : (joinTo full 1).size ≤ (joinTo full 2).size := step 1
          have a3 : (joinTo full 2).size ≤ (joinTo full 3).size := step 2
          have a4 : (joinTo full 3).size ≤ (joinTo full 4).size := step 3
          have a5 : (joinTo full 4).size ≤ (joinTo full 5).size := step 4
          have : k = 0 ∨ k = 1 ∨ k = 2 ∨ k = 3 ∨ k = 4 ∨ k = 5 := by omega
          rcases this with rfl | rfl | rfl | rfl | rfl | rfl <;> omega
        have HJS := hid' hjs
        have hfl := HF5.out
        rw [hfl] at m7
        clear hb4 q0 q1 q2 q3 q4 q5 q6 q7 ROW0 HROW HOWN HWV BEL0 hfc hjs hfl HWH
        go_wp2_with fail
        go_loop [11, 12] (fun hh i => ∃ k : Nat, k ≤ 5 ∧ i = .int .i64 k ∧ hh = .string (joinTo full k)) (fun _ i => 5 - (intOf i).toNat)
        case atStart => exact ⟨0, by omega, rfl, rfl⟩
        case round =>
          obtain ⟨k, hk, rfl, rfl⟩ := hrel
          by_cases hlt : k < 5
          · have ck := HFC.out k hlt
            have hz1 := HJS.out (k + 1) (by omega)
            rw [HJ.out] at hz1
            have HK : Hid (joinTo full (k + 1) = joinTo full k ++ full.getD k Txt.em) := rfl
            rw [HK.out, ByteArray.size_append] at hz1
            generalize joinTo full k = jk at *
            generalize full.getD k Txt.em = fk at *
            go_wp2
            exact ⟨⟨k + 1, by omega, by go_num, by rw [HK.out]⟩, by simp [intOf]; omega⟩
          · have ek : k = 5 := by omega
            have HK : Hid (joinTo full k = st.h) := by show _ = _; rw [ek]; exact HJ.out
            rw [HK.out]
            clear ek
            go_wp2_with fail
            refine (HOF.out W2).mono ?_
            rintro e W3 ⟨rfl, bel6⟩
            have rn := (bel6.block _ (lt_of_heap RN2.out)).trans RN2.out
            have r3 := (bel6.block _ (lt_of_heap RR2.out)).trans RR2.out
            have OO3 := hid' (own_down OO2.out bel6)
            have BE3 := hid' (BE2.out.trans (bel6.mono BE2.out.size))
            have y0 := cell_of_row _ _ 0 _ _ _ rn
            have y1 := cell_of_row _ _ 1 _ _ _ rn
            have y2 := cell_of_row _ _ 2 _ _ _ rn
            simp at y0 y1 y2
            have x0 := frozen_of_row _ _ 0 _ _ rn
            have x1 := frozen_of_row _ _ 1 _ _ rn
            have x2 := frozen_of_row _ _ 2 _ _ rn
            have k0 := cell_of_row _ _ 0 _ _ _ r3
            have k1 := cell_of_row _ _ 1 _ _ _ r3
            have k2 := cell_of_row _ _ 2 _ _ _ r3
            simp at k0 k1 k2
            have RN3 := hid' rn
            clear rn r3 bel6 m7 m3 RN2 RR2 OO2 BE2
            by_cases hD : D = st.h
            · have hDd : (st.h.toList == D.toList) = true := by rw [str_eq]; simp [hD]
              have HD := hid' (HF0'.out hD)
              clear hD
              go_wp2
              refine bodyPost_ret (results_row_tmp2 (p := 2) (u := 3) (v := 4) rfl _ _ w.heap.size #[.int .i64 vu, .int .i64 vx, .slice ao st.ls.length lcap] rfl (load_rtable (z3_row RN3.out) rfl)) rfl ?_
              rw [HD.out]
              exact ⟨.slice ao st.ls.length lcap, rfl, own_mono' (z3_own RN3.out OO3.out (by decide)) (by omega), z3_below BE3.out (Nat.le_refl _)⟩
            · have hDd : (st.h.toList == D.toList) = false := by rw [str_eq]; simp; exact fun e => hD e.symm
              have HD := hid' (HF7'.out hD)
              clear hD
              go_wp2
              refine bodyPost_ret (results_row_tmp2 (p := 2) (u := 3) (v := 4) rfl _ _ w.heap.size #[.int .i64 0, .int .i64 0, .slice none 0 0] rfl (load_rtable (z3_row RN3.out) rfl)) rfl ?_
              rw [HD.out]
              exact rgot_no rfl (z3_below BE3.out (Nat.le_refl _))

end Go.Proofs.YtmmkhodaljpjgaaGreatDoor
