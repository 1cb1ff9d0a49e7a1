import Derived.Test.YtmmkhodaljpjgabGreatDoorW13
import Derived.Deep.QuietTactic
import Derived.BigQuiet
namespace Go.Proofs.YtmmkhodaljpjgabGreatDoor
open Go.RowKit
namespace Tab
/-- The offset at a second, of the first k + 1 entries. -/
def offTo (ls : List (Int × Int)) (sec : Int) : Nat → Int
  | 0 => (ls.getD 0 (0, 0)).2
  | k + 1 => if when ls (k + 1) ≤ sec then (ls.getD (k + 1) (0, 0)).2 else offTo ls sec k
theorem offTo_eq (ls : List (Int × Int)) (sec : Int) (h0 : when ls 0 ≤ sec) (k : Nat) : offTo ls sec k = (ls.getD (lastAt ls sec (k + 1)).toNat (0, 0)).2 := by
  induction k with
  | zero => simp only [offTo, lastAt]; rw [if_pos h0]; rfl
  | succ k ih =>
    rw [offTo, lastAt]
    by_cases c : when ls (k + 1) ≤ sec
    · rw [if_pos c, if_pos c]; rfl
    · rw [if_neg c, if_neg c]; exact ih
theorem offTo_bd {ls : List (Int × Int)} (hf : Fine ls) (sec : Int) (k : Nat) (hk : k < ls.length) : 0 ≤ offTo ls sec k ∧ offTo ls sec k ≤ 200 := by
  induction k with
  | zero => simp only [offTo]; rw [getD_at 0 hk]; exact (hf _ (List.getElem_mem hk)).2
  | succ k ih =>
    simp only [offTo]
    split
    · rw [getD_at (k + 1) hk]; exact (hf _ (List.getElem_mem hk)).2
    · exact ih (by omega)
def dist (a b : Int) : Int := if a - b < 0 then -(a - b) else a - b
/-- How far the nearest turn is away, of those of the entries 1 .. k. -/
def awayTo (ls : List (Int × Int)) (sec : Int) : Nat → Int
  | 0 => 1099511627776
  | k + 1 => if dist (when ls (k + 1)) sec < awayTo ls sec k then dist (when ls (k + 1)) sec else awayTo ls sec k
theorem awayTo_le (ls : List (Int × Int)) (sec : Int) (i k : Nat) (h1 : 1 ≤ i) (hk : i ≤ k) : awayTo ls sec k ≤ dist (when ls i) sec := by
  induction k with
  | zero => omega
  | succ k ih =>
    rw [awayTo]
    by_cases e : i = k + 1
    · subst e; split <;> omega
    · have := ih (by omega)
      split <;> omega
theorem awayTo_bd (ls : List (Int × Int)) (sec : Int) (k : Nat) : 0 ≤ awayTo ls sec k ∧ awayTo ls sec k ≤ 1099511627776 := by
  induction k with
  | zero => simp [awayTo]
  | succ k ih =>
    rw [awayTo]
    split
    · rename_i h
      refine ⟨?_, by omega⟩
      unfold dist; split <;> omega
    · exact ih
end Tab
set_option maxRecDepth 100000 in
theorem k_after (s f z g : Int) (w : World) (h1 : -1000000000 ≤ z - s) (h2 : z - s ≤ 1000000000) (f0 : 0 ≤ f) (f1 : f < 4294967296) (g0 : 0 ≤ g) (g1 : g < 4294967296) :
    Calls Tryz.prog 12 #[.agg #[.int .i64 s, .int .i64 f], .agg #[.int .i64 z, .int .i64 g]] w fun e w' => e = .returned (.int .i64 ((z - s) * 4294967296 + g - f)) ∧ Below w.heap.size w w' := by
  have B0 := hid' ((Below.refl w.heap.size w).alloc (Nat.le_refl _) (.cells #[.int .i64 s, .int .i64 f] 33))
  have B1 := hid' (B0.out.alloc B0.out.size (.cells #[.int .i64 z, .int .i64 g] 33))
  go_enter Tryz.func12, Tryz.ntmps12
  go_wp2
  go_ret
  exact ⟨rfl, B1.out⟩
/-- A state's cells. -/
def stC (ns nf up ex ref : Int) (ld : Bool) (dv cv : Value) : Array Value := #[.int .i64 ns, .int .i64 nf, .bool ld, .int .i64 up, .int .i64 ex, dv, cv, .int .i64 ref]
set_option maxRecDepth 100000 in
set_option maxHeartbeats 3200000 in
theorem k_utc (ns nf up ex ref : Int) (ld : Bool) (g L cap : Nat) (cv : Value) (ls : List (Int × Int)) (w : World) (hL : ls.length = L) (h0 : 0 < L) (hl : Lies w g ls) (hg : g < w.heap.size) (hf : Fine ls) (hb : L ≤ 1000) (n0 : 0 ≤ ns) (n1 : ns ≤ 34000000000) :
    Calls Tryz.prog 13 #[.agg (stC ns nf up ex ref ld (.slice (some ⟨g, 0, none⟩) L cap) cv)] w fun e w' => e = .returned (.tuple #[.agg #[.int .i64 (ns - Tab.offTo ls ns (L - 1)), .int .i64 nf], .int .i64 (Tab.awayTo ls ns (L - 1))]) ∧ Below w.heap.size w w' := by
  unfold stC
  have B0 := hid' ((Below.refl w.heap.size w).alloc (Nat.le_refl _) (.cells #[.int .i64 ns, .int .i64 nf, .bool ld, .int .i64 up, .int .i64 ex, .slice (some ⟨g, 0, none⟩) L cap, cv, .int .i64 ref] 36))
  have R0 := hid' (heap_alloc_new w (.cells #[.int .i64 ns, .int .i64 nf, .bool ld, .int .i64 up, .int .i64 ex, .slice (some ⟨g, 0, none⟩) L cap, cv, .int .i64 ref] 36))
  have a1 := ((Below.refl _ (w.alloc (.cells #[.int .i64 ns, .int .i64 nf, .bool ld, .int .i64 up, .int .i64 ex, .slice (some ⟨g, 0, none⟩) L cap, cv, .int .i64 ref] 36))).alloc (Nat.le_refl _) (.cells #[.int .i64 0, .int .i64 0] 33))
  have B1 := hid' (B0.out.trans (a1.mono B0.out.size))
  have R1 := hid' ((a1.block _ (lt_of_heap R0.out)).trans R0.out)
  have Q1 := hid' (heap_alloc_new (w.alloc (.cells #[.int .i64 ns, .int .i64 nf, .bool ld, .int .i64 up, .int .i64 ex, .slice (some ⟨g, 0, none⟩) L cap, cv, .int .i64 ref] 36)) (.cells #[.int .i64 0, .int .i64 0] 33))
  rw [show (w.alloc (.cells #[.int .i64 ns, .int .i64 nf, .bool ld, .int .i64 up, .int .i64 ex, .slice (some ⟨g, 0, none⟩) L cap, cv, .int .i64 ref] 36)).heap.size = w.heap.size + 1 by simp] at Q1
  have LV := hid' (hl.below hg B1.out)
  have HF := hid' hf
  have HN := hid' hL
  clear a1 hl hf B0 R0
  go_enter Tryz.func13, Tryz.ntmps13
  go_upto_region 1 with fail
  generalize hV : (w.alloc (.cells #[.int .i64 ns, .int .i64 nf, .bool ld, .int .i64 up, .int .i64 ex, .slice (some ⟨g, 0, none⟩) L cap, cv, .int .i64 ref] 36)).alloc (.cells #[.int .i64 0, .int .i64 0] 33) = V at *
  clear hV
  have q0 := cell_of_row _ _ 0 _ _ _ R1.out
  have q1 := cell_of_row _ _ 1 _ _ _ R1.out
  have q5 := cell_of_row _ _ 5 _ _ _ R1.out
  simp at q0 q1 q5
  have o0 := (LV.out 0 (by rw [HN.out]; exact h0)).2
  have E0 : Hid (Tab.offTo ls ns 0 = (ls[0]'(by rw [HN.out]; exact h0)).2) := by show (ls.getD 0 (0, 0)).2 = _; rw [getD_at 0 (by rw [HN.out]; exact h0)]
  have fb0 := (HF.out _ (List.getElem_mem (show 0 < ls.length by rw [HN.out]; exact h0))).2
  generalize (ls[0]'(by rw [HN.out]; exact h0)).2 = oz at *
  simp only [Nat.zero_mul, Nat.zero_add] at o0
  go_wp2
  go_loopw [4, 5, 6] (fun o a i wr => ∃ k : Nat, 1 ≤ k ∧ k ≤ L ∧ i = .int .i64 k ∧ o = .int .i64 (Tab.offTo ls ns (k - 1)) ∧ a = .int .i64 (Tab.awayTo ls ns (k - 1)) ∧ Below V.heap.size V wr) (fun _ _ i _ => L - (intOf i).toNat)
  case atStart => exact ⟨1, by omega, by omega, rfl, by rw [E0.out], rfl, Below.refl _ _⟩
  case round =>
    obtain ⟨k, hk1, hk2, rfl, rfl, rfl, hbw⟩ := hrel
    have RW := hid' ((hbw.block _ (lt_of_heap R1.out)).trans R1.out)
    have QW := hid' ((hbw.block _ (lt_of_heap Q1.out)).trans Q1.out)
    have LW := hid' (LV.out.below (Nat.lt_of_lt_of_le hg B1.out.size) hbw)
    have HB := hid' hbw
    clear q0 q1 q5 hbw o0 E0
    have q0 := cell_of_row _ _ 0 _ _ _ RW.out
    have q1 := cell_of_row _ _ 1 _ _ _ RW.out
    have q5 := cell_of_row _ _ 5 _ _ _ RW.out
    simp at q0 q1 q5
    by_cases hkl : k < L
    · obtain ⟨j, rfl⟩ : ∃ j, k = j + 1 := ⟨k - 1, by omega⟩
      rw [Nat.add_sub_cancel]
      have hl1 : j + 1 < ls.length := by rw [HN.out]; exact hkl
      have hl0 : j < ls.length := by omega
      obtain ⟨c1, c2⟩ := LW.out (j + 1) hl1
      have d2 := (LW.out j hl0).2
      have H : Hid (Tab.when ls (j + 1) = (ls[j + 1]'hl1).1 + (if (ls[j]'hl0).2 < (ls[j + 1]'hl1).2 then (ls[j]'hl0).2 else (ls[j + 1]'hl1).2)) := by
        show _ = _; unfold Tab.when; rw [getD_at (j + 1) hl1, show j + 1 - 1 = j from rfl, getD_at j hl0]; simp
      have EO : Hid (Tab.offTo ls ns (j + 1) = if Tab.when ls (j + 1) ≤ ns then (ls[j + 1]'hl1).2 else Tab.offTo ls ns j) := by show _ = _; rw [Tab.offTo, getD_at (j + 1) hl1]
      have EA : Hid (Tab.awayTo ls ns (j + 1) = if Tab.dist (Tab.when ls (j + 1)) ns < Tab.awayTo ls ns j then Tab.dist (Tab.when ls (j + 1)) ns else Tab.awayTo ls ns j) := rfl
      have f := HF.out _ (List.getElem_mem hl1)
      have e := HF.out _ (List.getElem_mem hl0)
      have ab := Tab.awayTo_bd ls ns j
      generalize ls[j + 1]'hl1 = p at *
      generalize ls[j]'hl0 = q at *
      obtain ⟨pa, po⟩ := p
      obtain ⟨qa, qo⟩ := q
      simp only at f c1 c2 d2 e
      generalize Tab.offTo ls ns j = ov at *
      generalize Tab.awayTo ls ns j = av at *
      generalize Tab.when ls (j + 1) = wv at *
      have hi1 : ((j + 1 : Nat) : Int) < (L : Int) := by omega
      clear LW RW QW
      by_cases hlt : qo < po
      · have hw : wv = pa + qo := by rw [H.out]; simp only; rw [if_pos hlt]
        clear H
        by_cases hle : wv ≤ ns
        · have EO2 : Hid (Tab.offTo ls ns (j + 1) = po) := by show _ = _; rw [EO.out, if_pos hle]
          by_cases hd : wv - ns < 0
          · have ED : Tab.dist wv ns = -(wv - ns) := by unfold Tab.dist; rw [if_pos hd]
            rw [ED] at EA
            by_cases ha : -(wv - ns) < av
            · skip
              have EA2 := hid' (EA.out.trans (if_pos ha))
              clear EA EO ED
              subst hw
              go_wp2_with fail
              go_quiet (fail)
              go_wp2_with fail
              go_quiet (fail)
              go_wp2_with fail
              go_quiet (fail)
              go_wp2_with fail
              go_roundw
              case rel => exact ⟨j + 1 + 1, by omega, by omega, by go_num, by rw [Nat.add_sub_cancel, EO2.out], by rw [Nat.add_sub_cancel, EA2.out], by (repeat' refine below_drewN ?_ _); exact HB.out⟩
              case measure => simp [intOf]; omega
            · skip
              have EA2 := hid' (EA.out.trans (if_neg ha))
              clear EA EO ED
              subst hw
              go_wp2_with fail
              go_quiet (fail)
              go_wp2_with fail
              go_quiet (fail)
              go_wp2_with fail
              go_quiet (fail)
              go_wp2_with fail
              go_roundw
              case rel => exact ⟨j + 1 + 1, by omega, by omega, by go_num, by rw [Nat.add_sub_cancel, EO2.out], by rw [Nat.add_sub_cancel, EA2.out], by (repeat' refine below_drewN ?_ _); exact HB.out⟩
              case measure => simp [intOf]; omega
          · have ED : Tab.dist wv ns = wv - ns := by unfold Tab.dist; rw [if_neg hd]
            rw [ED] at EA
            by_cases ha : wv - ns < av
            · skip
              have EA2 := hid' (EA.out.trans (if_pos ha))
              clear EA EO ED
              subst hw
              go_wp2_with fail
              go_quiet (fail)
              go_wp2_with fail
              go_quiet (fail)
              go_wp2_with fail
              go_quiet (fail)
              go_wp2_with fail
              go_roundw
              case rel => exact ⟨j + 1 + 1, by omega, by omega, by go_num, by rw [Nat.add_sub_cancel, EO2.out], by rw [Nat.add_sub_cancel, EA2.out], by (repeat' refine below_drewN ?_ _); exact HB.out⟩
              case measure => simp [intOf]; omega
            · skip
              have EA2 := hid' (EA.out.trans (if_neg ha))
              clear EA EO ED
              subst hw
              go_wp2_with fail
              go_quiet (fail)
              go_wp2_with fail
              go_quiet (fail)
              go_wp2_with fail
              go_quiet (fail)
              go_wp2_with fail
              go_roundw
              case rel => exact ⟨j + 1 + 1, by omega, by omega, by go_num, by rw [Nat.add_sub_cancel, EO2.out], by rw [Nat.add_sub_cancel, EA2.out], by (repeat' refine below_drewN ?_ _); exact HB.out⟩
              case measure => simp [intOf]; omega
        · have EO2 : Hid (Tab.offTo ls ns (j + 1) = ov) := by show _ = _; rw [EO.out, if_neg hle]
          have hd : ¬ wv - ns < 0 := by omega
          have ED : Tab.dist wv ns = wv - ns := by unfold Tab.dist; rw [if_neg hd]
          rw [ED] at EA
          by_cases ha : wv - ns < av
          · skip
            have EA2 := hid' (EA.out.trans (if_pos ha))
            clear EA EO ED
            subst hw
            go_wp2_with fail
            go_quiet (fail)
            go_wp2_with fail
            go_quiet (fail)
            go_wp2_with fail
            go_quiet (fail)
            go_wp2_with fail
            go_roundw
            case rel => exact ⟨j + 1 + 1, by omega, by omega, by go_num, by rw [Nat.add_sub_cancel, EO2.out], by rw [Nat.add_sub_cancel, EA2.out], by (repeat' refine below_drewN ?_ _); exact HB.out⟩
            case measure => simp [intOf]; omega
          · skip
            have EA2 := hid' (EA.out.trans (if_neg ha))
            clear EA EO ED
            subst hw
            go_wp2_with fail
            go_quiet (fail)
            go_wp2_with fail
            go_quiet (fail)
            go_wp2_with fail
            go_quiet (fail)
            go_wp2_with fail
            go_roundw
            case rel => exact ⟨j + 1 + 1, by omega, by omega, by go_num, by rw [Nat.add_sub_cancel, EO2.out], by rw [Nat.add_sub_cancel, EA2.out], by (repeat' refine below_drewN ?_ _); exact HB.out⟩
            case measure => simp [intOf]; omega
      · have hw : wv = pa + po := by rw [H.out]; simp only; rw [if_neg hlt]
        clear H
        by_cases hle : wv ≤ ns
        · have EO2 : Hid (Tab.offTo ls ns (j + 1) = po) := by show _ = _; rw [EO.out, if_pos hle]
          by_cases hd : wv - ns < 0
          · have ED : Tab.dist wv ns = -(wv - ns) := by unfold Tab.dist; rw [if_pos hd]
            rw [ED] at EA
            by_cases ha : -(wv - ns) < av
            · skip
              have EA2 := hid' (EA.out.trans (if_pos ha))
              clear EA EO ED
              subst hw
              go_wp2_with fail
              go_quiet (fail)
              go_wp2_with fail
              go_quiet (fail)
              go_wp2_with fail
              go_roundw
              case rel => exact ⟨j + 1 + 1, by omega, by omega, by go_num, by rw [Nat.add_sub_cancel, EO2.out], by rw [Nat.add_sub_cancel, EA2.out], by (repeat' refine below_drewN ?_ _); exact HB.out⟩
              case measure => simp [intOf]; omega
            · skip
              have EA2 := hid' (EA.out.trans (if_neg ha))
              clear EA EO ED
              subst hw
              go_wp2_with fail
              go_quiet (fail)
              go_wp2_with fail
              go_quiet (fail)
              go_wp2_with fail
              go_roundw
              case rel => exact ⟨j + 1 + 1, by omega, by omega, by go_num, by rw [Nat.add_sub_cancel, EO2.out], by rw [Nat.add_sub_cancel, EA2.out], by (repeat' refine below_drewN ?_ _); exact HB.out⟩
              case measure => simp [intOf]; omega
          · have ED : Tab.dist wv ns = wv - ns := by unfold Tab.dist; rw [if_neg hd]
            rw [ED] at EA
            by_cases ha : wv - ns < av
            · skip
              have EA2 := hid' (EA.out.trans (if_pos ha))
              clear EA EO ED
              subst hw
              go_wp2_with fail
              go_quiet (fail)
              go_wp2_with fail
              go_quiet (fail)
              go_wp2_with fail
              go_roundw
              case rel => exact ⟨j + 1 + 1, by omega, by omega, by go_num, by rw [Nat.add_sub_cancel, EO2.out], by rw [Nat.add_sub_cancel, EA2.out], by (repeat' refine below_drewN ?_ _); exact HB.out⟩
              case measure => simp [intOf]; omega
            · skip
              have EA2 := hid' (EA.out.trans (if_neg ha))
              clear EA EO ED
              subst hw
              go_wp2_with fail
              go_quiet (fail)
              go_wp2_with fail
              go_quiet (fail)
              go_wp2_with fail
              go_roundw
              case rel => exact ⟨j + 1 + 1, by omega, by omega, by go_num, by rw [Nat.add_sub_cancel, EO2.out], by rw [Nat.add_sub_cancel, EA2.out], by (repeat' refine below_drewN ?_ _); exact HB.out⟩
              case measure => simp [intOf]; omega
        · have EO2 : Hid (Tab.offTo ls ns (j + 1) = ov) := by show _ = _; rw [EO.out, if_neg hle]
          have hd : ¬ wv - ns < 0 := by omega
          have ED : Tab.dist wv ns = wv - ns := by unfold Tab.dist; rw [if_neg hd]
          rw [ED] at EA
          by_cases ha : wv - ns < av
          · skip
            have EA2 := hid' (EA.out.trans (if_pos ha))
            clear EA EO ED
            subst hw
            go_wp2_with fail
            go_quiet (fail)
            go_wp2_with fail
            go_quiet (fail)
            go_wp2_with fail
            go_roundw
            case rel => exact ⟨j + 1 + 1, by omega, by omega, by go_num, by rw [Nat.add_sub_cancel, EO2.out], by rw [Nat.add_sub_cancel, EA2.out], by (repeat' refine below_drewN ?_ _); exact HB.out⟩
            case measure => simp [intOf]; omega
          · skip
            have EA2 := hid' (EA.out.trans (if_neg ha))
            clear EA EO ED
            subst hw
            go_wp2_with fail
            go_quiet (fail)
            go_wp2_with fail
            go_quiet (fail)
            go_wp2_with fail
            go_roundw
            case rel => exact ⟨j + 1 + 1, by omega, by omega, by go_num, by rw [Nat.add_sub_cancel, EO2.out], by rw [Nat.add_sub_cancel, EA2.out], by (repeat' refine below_drewN ?_ _); exact HB.out⟩
            case measure => simp [intOf]; omega
    · obtain rfl : k = L := by omega
      have hni : ¬ (k : Int) < (k : Int) := by omega
      have nf0 := frozen_of_row _ _ 0 _ _ QW.out
      have nf1 := frozen_of_row _ _ 1 _ _ QW.out
      have x0 := cell_of_row _ _ 0 _ _ _ QW.out
      have x1 := cell_of_row _ _ 1 _ _ _ QW.out
      simp at x0 x1
      have ob := Tab.offTo_bd HF.out ns (k - 1) (by rw [HN.out]; omega)
      obtain ⟨ov, hov⟩ : ∃ ov, Tab.offTo ls ns (k - 1) = ov := ⟨_, rfl⟩
      obtain ⟨av, hav⟩ : ∃ av, Tab.awayTo ls ns (k - 1) = av := ⟨_, rfl⟩
      rw [hov] at ob
      rw [hov, hav]
      have HOV := hid' hov
      have HAV := hid' hav
      have b := hid' (B1.out.trans (HB.out.mono B1.out.size))
      clear hov hav
      go_wp2
      try simp only [Exit.inBlock, Exit.then]
      refine bodyPost_ret (results_row_tmp (p := 2) (u := 3) rfl _ _ (w.heap.size + 1) #[.int .i64 (ns - ov), .int .i64 nf] rfl (load_ptime (two_row QW.out) rfl)) rfl ?_
      rw [HOV.out, HAV.out]
      exact ⟨rfl, (b.out.setCell (p := ⟨w.heap.size + 1, 0, none⟩) (Nat.le_succ _) _).setCell (p := ⟨w.heap.size + 1, 1, none⟩) (Nat.le_succ _) _⟩
end Go.Proofs.YtmmkhodaljpjgabGreatDoor
