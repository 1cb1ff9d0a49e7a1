import Derived.Test.YtmmkhodaljpjgabGreatDoorW24
namespace Go.Proofs.YtmmkhodaljpjgabGreatDoor
open Go.RowKit
theorem is_window (mode win : Int) (w : World) (ww : (Lit.int .i64 win).wf = true) :
    Calls Tryz.prog 61 #[.int .i64 mode, .int .i64 win] w fun e w' => e = .returned (.bool (stepB mode win || smearB mode win)) ∧ w' = w := by
  have bw := bounds_i64 ww
  clear ww
  by_cases h0 : mode = 0
  · subst h0
    have e0 : ((0 : Int) == 0) = true := rfl
    have H : Hid ((stepB 0 win || smearB 0 win) = (win == 0)) := by
      show _ = _
      unfold stepB smearB
      by_cases c : win = 0
      · subst c; rfl
      · have : (win == 0) = false := by rw [beq_eq_false_iff_ne]; exact c
        rw [this]; simp [c]
    go_enter Tryz.func61, Tryz.ntmps61
    go_wp2
    go_ret
    exact ⟨ret_bool H.out.symm, rfl⟩
  · have e0 : (mode == 0) = false := by rw [beq_eq_false_iff_ne]; exact h0
    by_cases h12 : mode = 1 ∨ mode = 2
    · have H : Hid ((stepB mode win || smearB mode win) = ((win.tmod 2 == 0) && (decide (3600 ≤ win) && decide (win ≤ 604800)))) := by
        show _ = _
        unfold stepB smearB
        have a : decide (mode = 0 ∧ win = 0) = false := decide_eq_false (fun q => h0 q.1)
        rw [a, Bool.false_or]
        by_cases c1 : win.tmod 2 = 0
        · have e1 : (win.tmod 2 == 0) = true := beq_iff_eq.2 c1
          rw [e1, Bool.true_and]
          by_cases c2 : 3600 ≤ win
          · by_cases c3 : win ≤ 604800
            · rw [decide_eq_true c2, decide_eq_true c3]; exact decide_eq_true ⟨h12, c2, c3, c1⟩
            · rw [decide_eq_true c2, decide_eq_false c3]; exact decide_eq_false (fun q => c3 q.2.2.1)
          · rw [decide_eq_false c2]; exact decide_eq_false (fun q => c2 q.2.1)
        · have e1 : (win.tmod 2 == 0) = false := by rw [beq_eq_false_iff_ne]; exact c1
          rw [e1, Bool.false_and]; exact decide_eq_false (fun q => c1 q.2.2.2)
      have HB : Hid (mode = 1 ∨ mode = 2) := h12
      clear h0
      by_cases c1 : win.tmod 2 = 0
      · have e1 : (win.tmod 2 == 0) = true := beq_iff_eq.2 c1
        by_cases c2 : 3600 ≤ win
        · have e1' : (win % 2 == 0) = true := by rw [← Int.tmod_eq_emod_of_nonneg (by omega)]; exact e1
          have H2 : Hid ((stepB mode win || smearB mode win) = decide (win ≤ 604800)) := by show _ = _; rw [H.out, e1, decide_eq_true c2]; rfl
          clear H e1 c1
          by_cases c3 : win ≤ 604800
          · rw [decide_eq_true c3] at H2
            rcases HB.out with rfl | rfl
            · clear h12 HB
              go_enter Tryz.func61, Tryz.ntmps61
              go_wp2
              go_ret
              exact ⟨ret_bool H2.out.symm, rfl⟩
            · clear h12 HB
              go_enter Tryz.func61, Tryz.ntmps61
              go_wp2
              go_ret
              exact ⟨ret_bool H2.out.symm, rfl⟩
          · rw [decide_eq_false c3] at H2
            rcases HB.out with rfl | rfl
            · clear h12 HB
              go_enter Tryz.func61, Tryz.ntmps61
              go_wp2
              go_ret
              exact ⟨ret_bool H2.out.symm, rfl⟩
            · clear h12 HB
              go_enter Tryz.func61, Tryz.ntmps61
              go_wp2
              go_ret
              exact ⟨ret_bool H2.out.symm, rfl⟩
        · have H2 : Hid ((stepB mode win || smearB mode win) = false) := by show _ = _; rw [H.out, e1, decide_eq_false c2]; rfl
          by_cases c0 : 0 ≤ win
          · have e1' : (win % 2 == 0) = true := by rw [← Int.tmod_eq_emod_of_nonneg (by omega)]; exact e1
            clear H e1 c1
            rcases HB.out with rfl | rfl
            · clear h12 HB
              go_enter Tryz.func61, Tryz.ntmps61
              go_wp2
              go_ret
              exact ⟨ret_bool H2.out.symm, rfl⟩
            · clear h12 HB
              go_enter Tryz.func61, Tryz.ntmps61
              go_wp2
              go_ret
              exact ⟨ret_bool H2.out.symm, rfl⟩
          · clear H c1
            rcases HB.out with rfl | rfl
            · clear h12 HB
              go_enter Tryz.func61, Tryz.ntmps61
              go_wp2
              go_ret
              exact ⟨ret_bool H2.out.symm, rfl⟩
            · clear h12 HB
              go_enter Tryz.func61, Tryz.ntmps61
              go_wp2
              go_ret
              exact ⟨ret_bool H2.out.symm, rfl⟩
      · have e1 : (win.tmod 2 == 0) = false := by rw [beq_eq_false_iff_ne]; exact c1
        have H2 : Hid ((stepB mode win || smearB mode win) = false) := by show _ = _; rw [H.out, e1]; rfl
        by_cases c0 : 0 ≤ win
        · have e1' : (win % 2 == 0) = false := by rw [← Int.tmod_eq_emod_of_nonneg (by omega)]; exact e1
          clear H e1 c1
          rcases HB.out with rfl | rfl
          · clear h12 HB
            go_enter Tryz.func61, Tryz.ntmps61
            go_wp2
            go_ret
            exact ⟨ret_bool H2.out.symm, rfl⟩
          · clear h12 HB
            go_enter Tryz.func61, Tryz.ntmps61
            go_wp2
            go_ret
            exact ⟨ret_bool H2.out.symm, rfl⟩
        · clear H c1
          rcases HB.out with rfl | rfl
          · clear h12 HB
            go_enter Tryz.func61, Tryz.ntmps61
            go_wp2
            go_ret
            exact ⟨ret_bool H2.out.symm, rfl⟩
          · clear h12 HB
            go_enter Tryz.func61, Tryz.ntmps61
            go_wp2
            go_ret
            exact ⟨ret_bool H2.out.symm, rfl⟩
    · have H : Hid ((stepB mode win || smearB mode win) = false) := by
        show _ = _
        unfold stepB smearB
        rw [decide_eq_false (fun q => h0 q.1), decide_eq_false (fun q => h12 q.1)]; rfl
      have e1 : (mode == 1) = false := by rw [beq_eq_false_iff_ne]; exact fun q => h12 (.inl q)
      have e2 : (mode == 2) = false := by rw [beq_eq_false_iff_ne]; exact fun q => h12 (.inr q)
      clear h0 h12
      go_enter Tryz.func61, Tryz.ntmps61
      go_wp2
      go_ret
      exact ⟨ret_bool H.out.symm, rfl⟩
set_option maxRecDepth 100000 in
theorem is_config (mode win src fresh s f : Int) (w : World) (ww : (Lit.int .i64 win).wf = true) :
    Calls Tryz.prog 41 #[.agg #[.int .i64 mode, .int .i64 win, .int .i64 src, .int .i64 fresh, .int .i64 s, .int .i64 f]] w fun e w' => e = .returned (.bool (cfgB mode win src fresh s f)) ∧ Below w.heap.size w w' := by
  have B0 := hid' ((Below.refl w.heap.size w).alloc (Nat.le_refl _) (.cells #[.int .i64 mode, .int .i64 win, .int .i64 src, .int .i64 fresh, .int .i64 s, .int .i64 f] 59))
  have R0 := hid' (heap_alloc_new w (.cells #[.int .i64 mode, .int .i64 win, .int .i64 src, .int .i64 fresh, .int .i64 s, .int .i64 f] 59))
  have NO : Hid (¬ (0 ≤ src ∧ src ≤ 8 ∧ 1 ≤ fresh ∧ fresh ≤ 604800) → cfgB mode win src fresh s f = false) := fun h => by
    unfold cfgB
    rw [decide_eq_false h]; simp
  have IW := hid' (fun W => is_window mode win W ww)
  have IT := hid' (fun W => clk_is s f W)
  have HC : Hid (cfgB mode win src fresh s f = ((stepB mode win || smearB mode win) && decide (0 ≤ src ∧ src ≤ 8 ∧ 1 ≤ fresh ∧ fresh ≤ 604800) && isT s f)) := rfl
  clear ww
  by_cases h1 : 0 ≤ src
  · by_cases h2 : src ≤ 8
    · by_cases h3 : 1 ≤ fresh
      · by_cases h4 : fresh ≤ 604800
        · have H : Hid (cfgB mode win src fresh s f = ((stepB mode win || smearB mode win) && isT s f)) := by
            show _ = _
            rw [HC.out, decide_eq_true ⟨h1, h2, h3, h4⟩, Bool.and_true]
          generalize (stepB mode win || smearB mode win) = iw at *
          generalize cfgB mode win src fresh s f = cf at *
          clear HC NO
          go_enter Tryz.func41, Tryz.ntmps41
          go_wp2_with fail
          refine (IW.out _).mono ?_
          rintro e w1 ⟨rfl, rfl⟩
          have c4 := cell_of_row _ _ 4 _ _ _ R0.out
          have c5 := cell_of_row _ _ 5 _ _ _ R0.out
          simp at c4 c5
          cases iw with
          | false =>
            go_wp2
            go_ret
            exact ⟨ret_bool H.out.symm, B0.out⟩
          | true =>
            rw [Bool.true_and] at H
            go_wp2_with fail
            refine (IT.out _).mono ?_
            rintro e w2 ⟨rfl, hb2⟩
            have B2 := hid' (B0.out.trans (hb2.mono B0.out.size))
            clear hb2
            go_wp2
            go_ret
            exact ⟨ret_bool H.out.symm, B2.out⟩
        · have H : Hid (cfgB mode win src fresh s f = false) := NO.out (by omega)
          clear NO HC
          go_enter Tryz.func41, Tryz.ntmps41
          go_wp2
          go_ret
          exact ⟨ret_bool H.out.symm, B0.out⟩
      · have H : Hid (cfgB mode win src fresh s f = false) := NO.out (by omega)
        clear NO HC
        go_enter Tryz.func41, Tryz.ntmps41
        go_wp2
        go_ret
        exact ⟨ret_bool H.out.symm, B0.out⟩
    · have H : Hid (cfgB mode win src fresh s f = false) := NO.out (by omega)
      clear NO HC
      go_enter Tryz.func41, Tryz.ntmps41
      go_wp2
      go_ret
      exact ⟨ret_bool H.out.symm, B0.out⟩
  · have H : Hid (cfgB mode win src fresh s f = false) := NO.out (by omega)
    clear NO HC
    go_enter Tryz.func41, Tryz.ntmps41
    go_wp2
    go_ret
    exact ⟨ret_bool H.out.symm, B0.out⟩
/-- The cells of a server that is none. -/
def zero47 : Array Value := #[.int .i64 0, .int .i64 0, .int .i64 0, .int .i64 0, .int .i64 0, .int .i64 0, .bool false, .int .i64 0, .int .i64 0, .slice none 0 0, .slice none 0 0, .int .i64 0, .bool false, .int .i64 0, .int .i64 0, .int .i64 0, .bool false, .int .i64 0, .int .i64 0, .int .i64 0, .bool false, .int .i64 0, .int .i64 0, .int .i64 0, .bool false, .int .i64 0, .int .i64 0, .int .i64 0, .bool false, .int .i64 0, .int .i64 0, .int .i64 0, .bool false, .int .i64 0, .int .i64 0, .int .i64 0, .bool false, .int .i64 0, .int .i64 0, .int .i64 0, .bool false, .int .i64 0, .int .i64 0, .int .i64 0, .bool false, .int .i64 0, .int .i64 0]
theorem zeroS : (∀ w, (zeroValue 70).run Tryz.prog w = .ok (.agg zero47) w) ∧ (Tryz.prog.info? 70).map (·.size) = some 47 :=
  zero_of_info (by kernel_rfl)
/-- The cells of a server that is new. -/
def new47 (mode win src fresh s f : Int) : Array Value := #[.int .i64 mode, .int .i64 win, .int .i64 src, .int .i64 fresh, .int .i64 s, .int .i64 f, .bool false, .int .i64 0, .int .i64 0, .slice none 0 0, .slice none 0 0, .int .i64 0, .bool false, .int .i64 0, .int .i64 0, .int .i64 0, .bool false, .int .i64 0, .int .i64 0, .int .i64 0, .bool false, .int .i64 0, .int .i64 0, .int .i64 0, .bool false, .int .i64 0, .int .i64 0, .int .i64 0, .bool false, .int .i64 0, .int .i64 0, .int .i64 0, .bool false, .int .i64 0, .int .i64 0, .int .i64 0, .bool false, .int .i64 0, .int .i64 0, .int .i64 0, .bool false, .int .i64 0, .int .i64 0, .int .i64 0, .bool false, .int .i64 0, .int .i64 0]
def newCells (cf : Bool) (mode win src fresh s f : Int) : Array Value := if cf = true then new47 mode win src fresh s f else zero47
theorem load_inner {w : World} {g : Nat} {cs : Array Value} (hg : w.heap[g]? = some (.cells cs 70 (0, 0))) (hs : cs.size = 47) : (loadVar 70 ⟨g, 0, none⟩).run Tryz.prog w = .ok (.agg cs) w :=
  run_loadVar_row (P := Tryz.prog) w g 70 70 cs (0, 0) _ hg Tryz.underlying70 rfl (by rw [hs]; kernel_rfl)
set_option maxRecDepth 100000 in
set_option maxHeartbeats 3200000 in
theorem srv_new (mode win src fresh s f : Int) (w : World) (ww : (Lit.int .i64 win).wf = true) :
    Calls Tryz.prog 28 #[.agg #[.int .i64 mode, .int .i64 win, .int .i64 src, .int .i64 fresh, .int .i64 s, .int .i64 f]] w fun e w' => e = .returned (.tuple #[.agg (newCells (cfgB mode win src fresh s f) mode win src fresh s f), .int .i64 (if cfgB mode win src fresh s f = true then 0 else 10)]) ∧ Below w.heap.size w w' := by
  have hz := zeroS.1
  have B0 := hid' (((Below.refl w.heap.size w).alloc (Nat.le_refl _) (.cells #[.int .i64 mode, .int .i64 win, .int .i64 src, .int .i64 fresh, .int .i64 s, .int .i64 f] 59)).alloc (by simp) (.cells zero47 70))
  have R0 := hid' (heap_alloc2_old w (.cells #[.int .i64 mode, .int .i64 win, .int .i64 src, .int .i64 fresh, .int .i64 s, .int .i64 f] 59) (.cells zero47 70))
  have R1 := hid' (heap_alloc2_new w (.cells #[.int .i64 mode, .int .i64 win, .int .i64 src, .int .i64 fresh, .int .i64 s, .int .i64 f] 59) (.cells zero47 70))
  have IC := hid' (fun W => is_config mode win src fresh s f W ww)
  clear ww
  generalize cfgB mode win src fresh s f = cf at *
  go_enter Tryz.func28, Tryz.ntmps28
  go_upto_region 1 with fail
  generalize hV : (w.alloc (.cells #[.int .i64 mode, .int .i64 win, .int .i64 src, .int .i64 fresh, .int .i64 s, .int .i64 f] 59)).alloc (.cells zero47 70) = V at *
  clear hV
  have c0 := cell_of_row _ _ 0 _ _ _ R0.out
  have c1 := cell_of_row _ _ 1 _ _ _ R0.out
  have c2 := cell_of_row _ _ 2 _ _ _ R0.out
  have c3 := cell_of_row _ _ 3 _ _ _ R0.out
  have c4 := cell_of_row _ _ 4 _ _ _ R0.out
  have c5 := cell_of_row _ _ 5 _ _ _ R0.out
  simp at c0 c1 c2 c3 c4 c5
  go_wp2_with fail
  refine (IC.out _).mono ?_
  rintro e w1 ⟨rfl, hb1⟩
  have B1 := hid' (B0.out.trans (hb1.mono B0.out.size))
  have Q0 := hid' ((hb1.block _ (lt_of_heap R0.out)).trans R0.out)
  have Q1 := hid' ((hb1.block _ (lt_of_heap R1.out)).trans R1.out)
  have lq : w.heap.size + 1 < w1.heap.size := lt_of_heap Q1.out
  clear c0 c1 c2 c3 c4 c5 hb1 R0 R1
  have c0 := cell_of_row _ _ 0 _ _ _ Q0.out
  have c1 := cell_of_row _ _ 1 _ _ _ Q0.out
  have c2 := cell_of_row _ _ 2 _ _ _ Q0.out
  have c3 := cell_of_row _ _ 3 _ _ _ Q0.out
  have c4 := cell_of_row _ _ 4 _ _ _ Q0.out
  have c5 := cell_of_row _ _ 5 _ _ _ Q0.out
  simp at c0 c1 c2 c3 c4 c5
  have I0 : Hid ((Tryz.prog.info? 70).map (·.size) = some zero47.size) := zeroS.2
  have O0 : Hid (zero47.all (·.oneCell') = true) := by show _ = _; rw [← Array.all_toList]; rfl
  have hun := Tryz.underlying70
  have HUN := hid' hun
  clear hun
  cases cf with
  | false =>
    go_wp2_with ((with_reducible refine wpl_store (g := w.heap.size + 1) (cells := zero47) Q1.out I0.out ?_ O0.out ?_ ?_ ?_); exact rfl; exact rfl; exact rfl)
    try simp only [Exit.inBlock, Exit.then]
    refine bodyPost_ret (results_row_tmp (p := 2) (u := 3) rfl _ _ (w.heap.size + 1) zero47 rfl (load_inner (setRow_heap _ _ _ _ _ _ Q1.out) rfl)) rfl ?_
    exact ⟨rfl, below_setRow B1.out (by omega)⟩
  | true =>
    have I4 : Hid ((Tryz.prog.info? 70).map (·.size) = some ((((zero47.setIfInBounds 0 (.int .i64 mode)).setIfInBounds 1 (.int .i64 win)).setIfInBounds 2 (.int .i64 src)).setIfInBounds 3 (.int .i64 fresh)).size) := zeroS.2
    have O4 : Hid (((((zero47.setIfInBounds 0 (.int .i64 mode)).setIfInBounds 1 (.int .i64 win)).setIfInBounds 2 (.int .i64 src)).setIfInBounds 3 (.int .i64 fresh)).all (·.oneCell') = true) := by show _ = _; rw [← Array.all_toList]; rfl
    have E4 : Hid ((((((zero47.setIfInBounds 0 (.int .i64 mode)).setIfInBounds 1 (.int .i64 win)).setIfInBounds 2 (.int .i64 src)).setIfInBounds 3 (.int .i64 fresh)).setIfInBounds 4 (.int .i64 s)).setIfInBounds 5 (.int .i64 f) = new47 mode win src fresh s f) := rfl
    have I5 : Hid ((Tryz.prog.info? 70).map (·.size) = some (new47 mode win src fresh s f).size) := zeroS.2
    have O5 : Hid ((new47 mode win src fresh s f).all (·.oneCell') = true) := by show _ = _; rw [← Array.all_toList]; rfl
    have S5 : Hid (zero47.size = (new47 mode win src fresh s f).size) := rfl
    have S4 : Hid (zero47.size = ((((zero47.setIfInBounds 0 (.int .i64 mode)).setIfInBounds 1 (.int .i64 win)).setIfInBounds 2 (.int .i64 src)).setIfInBounds 3 (.int .i64 fresh)).size) := rfl
    have C44 : Hid (((((zero47.setIfInBounds 0 (.int .i64 mode)).setIfInBounds 1 (.int .i64 win)).setIfInBounds 2 (.int .i64 src)).setIfInBounds 3 (.int .i64 fresh))[4]? = some (.int .i64 0) ∧ ((((zero47.setIfInBounds 0 (.int .i64 mode)).setIfInBounds 1 (.int .i64 win)).setIfInBounds 2 (.int .i64 src)).setIfInBounds 3 (.int .i64 fresh))[5]? = some (.int .i64 0)) := ⟨rfl, rfl⟩
    have RA := hid' (heap_alloc_new w1 (.cells zero47 70))
    have BA := hid' ((Below.refl w1.heap.size w1).alloc (Nat.le_refl _) (.cells zero47 70))
    go_upto_region 4 with ((with_reducible refine wpl_store (g := w1.heap.size) (cells := ((((zero47.setIfInBounds 0 (.int .i64 mode)).setIfInBounds 1 (.int .i64 win)).setIfInBounds 2 (.int .i64 src)).setIfInBounds 3 (.int .i64 fresh))) RA.out I4.out ?_ O4.out ?_ ?_ ?_); exact S4.out; exact rfl; exact rfl)
    have RW := hid' (setRow_heap _ w1.heap.size _ ((((zero47.setIfInBounds 0 (.int .i64 mode)).setIfInBounds 1 (.int .i64 win)).setIfInBounds 2 (.int .i64 src)).setIfInBounds 3 (.int .i64 fresh)) _ _ RA.out)
    have BW := hid' (below_setRow (cs := ((((zero47.setIfInBounds 0 (.int .i64 mode)).setIfInBounds 1 (.int .i64 win)).setIfInBounds 2 (.int .i64 src)).setIfInBounds 3 (.int .i64 fresh))) BA.out (Nat.le_refl w1.heap.size))
    generalize hW : (w1.alloc (.cells zero47 70)).setRow w1.heap.size ((((zero47.setIfInBounds 0 (.int .i64 mode)).setIfInBounds 1 (.int .i64 win)).setIfInBounds 2 (.int .i64 src)).setIfInBounds 3 (.int .i64 fresh)) = W at *
    clear hW
    have B2 := hid' (B1.out.trans (BW.out.mono B1.out.size))
    have Q2 := hid' ((BW.out.block _ lq).trans Q1.out)
    have T0 := hid' ((BW.out.block _ (lt_of_heap Q0.out)).trans Q0.out)
    have d4 := cell_of_row _ _ 4 _ _ _ T0.out
    have d5 := cell_of_row _ _ 5 _ _ _ T0.out
    have y4 := (cell_of_row _ _ 4 _ _ _ RW.out).trans C44.out.1
    have y5 := (cell_of_row _ _ 5 _ _ _ RW.out).trans C44.out.2
    have fy4 := frozen_of_row _ _ 4 _ _ RW.out
    have fy5 := frozen_of_row _ _ 5 _ _ RW.out
    simp at d4 d5
    have r4 := heap_setCell_same _ w1.heap.size 4 _ _ (.int .i64 s) RW.out
    have r5 := heap_setCell_same _ w1.heap.size 5 _ _ (.int .i64 f) r4
    rw [E4.out] at r5
    have R5 := hid' r5
    have B3 := hid' ((B2.out.setCell (p := ⟨w1.heap.size, 4, none⟩) (by simp only; omega) (.int .i64 s)).setCell (p := ⟨w1.heap.size, 5, none⟩) (by simp only; omega) (.int .i64 f))
    have Q3 : Hid (((W.setCell ⟨w1.heap.size, 4, none⟩ (.int .i64 s)).setCell ⟨w1.heap.size, 5, none⟩ (.int .i64 f)).heap[w.heap.size + 1]? = some (.cells zero47 70 (0, 0))) := by
      show _ = _
      rw [heap_setCell_other _ _ _ _ (by show w.heap.size + 1 ≠ w1.heap.size; omega), heap_setCell_other _ _ _ _ (by show w.heap.size + 1 ≠ w1.heap.size; omega)]; exact Q2.out
    clear r4 r5 c0 c1 c2 c3 c4 c5
    go_upto_region 5 with fail
    generalize hW3 : (W.setCell ⟨w1.heap.size, 4, none⟩ (.int .i64 s)).setCell ⟨w1.heap.size, 5, none⟩ (.int .i64 f) = W3 at *
    clear hW3
    go_wp2_with (first
      | ((with_reducible refine wpl_load (g := w1.heap.size) R5.out HUN.out ?_ I5.out ?_ ?_); exact rfl; exact rfl)
      | ((with_reducible refine wpl_store (g := w.heap.size + 1) (cells := new47 mode win src fresh s f) Q3.out I5.out S5.out O5.out ?_ ?_ ?_); exact rfl; exact rfl))
    try simp only [Exit.inBlock, Exit.then]
    refine bodyPost_ret (results_row_tmp (p := 2) (u := 3) rfl _ _ (w.heap.size + 1) (new47 mode win src fresh s f) rfl (load_inner (setRow_heap _ _ _ _ _ _ Q3.out) rfl)) rfl ?_
    exact ⟨rfl, below_setRow B3.out (by omega)⟩
end Go.Proofs.YtmmkhodaljpjgabGreatDoor
