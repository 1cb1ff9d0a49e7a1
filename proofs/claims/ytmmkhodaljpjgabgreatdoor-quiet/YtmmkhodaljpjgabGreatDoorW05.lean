import Derived.Test.YtmmkhodaljpjgabGreatDoorW04
namespace Go.Proofs.YtmmkhodaljpjgabGreatDoor
open Go.RowKit
theorem can_follow (g cap k : Nat) (ls : List (Int × Int)) (a o : Int) (w : World) (wa : (Lit.int .i64 a).wf = true) (wo : (Lit.int .i64 o).wf = true)
    (hk : k ≤ ls.length) (h40 : k ≤ 40) (hl : Lies w g ls) (hg : g < w.heap.size) (hok : ∀ p ∈ ls.take k, 0 ≤ p.2 ∧ p.2 ≤ 200) :
    Calls Tryz.prog 82 #[.slice (some ⟨g, 0, none⟩) k cap, .agg #[.int .i64 a, .int .i64 o]] w fun e w' => e = .returned (.bool (Tab.follows (ls.take k) a o)) ∧ Below w.heap.size w w' := by
  cases k with
  | zero => rw [List.take_zero]; exact can_follow_nil _ cap a o w wa wo
  | succ q =>
    have hlen : (ls.take (q + 1)).length = q + 1 := by simp; omega
    exact can_follow_some g cap q (ls.take (q + 1)) a o w wa wo hlen (by omega) (fun i hi => by
      rw [hlen] at hi
      have := hl i (by omega)
      simpa using this) hg hok
/-- A list that was handed in. -/
def Held (w : World) (lv : Value) (ls : List (Int × Int)) : Prop :=
  (ls = [] ∧ ∃ ao cap, lv = .slice ao 0 cap) ∨ (0 < ls.length ∧ ∃ g cap, lv = .slice (some ⟨g, 0, none⟩) ls.length cap ∧ ls.length ≤ cap ∧ g < w.heap.size ∧ Lies w g ls)
theorem leap_size : ∀ w : World, (sizeOf (Tryz.prog.elem 27)).run Tryz.prog w = .ok 2 w := fun _ => by kernel_rfl
theorem head_run (g L cap k : Nat) (h : k ≤ cap) (w : World) :
    (Instr.slice 27 (.slice (some ⟨g, 0, none⟩) L cap) none (some (.int .i64 (k : Int))) none).run Tryz.prog w = .ok (.slice (some ⟨g, 0, none⟩) k cap) w := by
  rw [run_slice_h (P := Tryz.prog) w 27 (some ⟨g, 0, none⟩) L cap (by kernel_rfl) .i64 (k : Int) (by omega) (by omega), leap_size]
  simp [sliced, Addr.add, Result.andThen]
set_option maxRecDepth 100000 in
set_option maxHeartbeats 3200000 in
theorem is_table (lv : Value) (ls : List (Int × Int)) (up ex : Int) (w : World) (wu : (Lit.int .i64 up).wf = true) (wx : (Lit.int .i64 ex).wf = true)
    (hv : Held w lv ls) (hn : ls.length ≤ 100000) (hwf : ∀ p ∈ ls, WfP p) :
    Calls Tryz.prog 63 #[.agg #[.int .i64 up, .int .i64 ex, lv]] w fun e w' => e = .returned (.bool (Tab.whole up ex ls)) ∧ Below w.heap.size w w' := by
  have bu := bounds_i64 wu
  have bx := bounds_i64 wx
  clear wu wx
  have HBel := hid' ((Below.refl w.heap.size w).alloc (Nat.le_refl _) (.cells #[.int .i64 up, .int .i64 ex, lv] 29))
  rcases hv with ⟨rfl, ao, cap, rfl⟩ | ⟨h3, g, cap, rfl, hcap, hgl, hlies⟩
  · have H : Hid (Tab.whole up ex [] = false) := Tab.whole_no4 rfl
    clear hwf hn
    by_cases h0 : up < 0
    · go_enter Tryz.func63, Tryz.ntmps63
      go_wp2
      go_ret
      exact ⟨ret_bool H.out.symm, HBel.out⟩
    · by_cases h1 : ex ≤ up
      · go_enter Tryz.func63, Tryz.ntmps63
        go_wp2
        go_ret
        exact ⟨ret_bool H.out.symm, HBel.out⟩
      · by_cases h2 : 34000000000 < ex
        · go_enter Tryz.func63, Tryz.ntmps63
          go_wp2
          go_ret
          exact ⟨ret_bool H.out.symm, HBel.out⟩
        · go_enter Tryz.func63, Tryz.ntmps63
          go_wp2
          go_ret
          exact ⟨ret_bool H.out.symm, HBel.out⟩
  · have HLI := hid' hlies
    have HWF := hid' hwf
    clear hlies hwf
    by_cases h0 : up < 0
    · have H : Hid (Tab.whole up ex ls = false) := Tab.whole_no1 h0
      go_enter Tryz.func63, Tryz.ntmps63
      go_wp2
      go_ret
      exact ⟨ret_bool H.out.symm, HBel.out⟩
    by_cases h1 : ex ≤ up
    · have H : Hid (Tab.whole up ex ls = false) := Tab.whole_no2 h1
      go_enter Tryz.func63, Tryz.ntmps63
      go_wp2
      go_ret
      exact ⟨ret_bool H.out.symm, HBel.out⟩
    by_cases h2 : 34000000000 < ex
    · have H : Hid (Tab.whole up ex ls = false) := Tab.whole_no3 h2
      go_enter Tryz.func63, Tryz.ntmps63
      go_wp2
      go_ret
      exact ⟨ret_bool H.out.symm, HBel.out⟩
    by_cases h4 : 40 < ls.length
    · have H : Hid (Tab.whole up ex ls = false) := by
        show _ = _
        cases hw : Tab.whole up ex ls with
        | false => rfl
        | true => have := (Tab.good_of_whole hw).len; omega
      go_enter Tryz.func63, Tryz.ntmps63
      go_wp2
      go_ret
      exact ⟨ret_bool H.out.symm, HBel.out⟩
    have H : Hid (Tab.whole up ex ls = Tab.okUpTo ls ls.length) := Tab.whole_is h0 h1 h2 (by omega)
    have HROW := hid' (heap_alloc_new w (.cells #[.int .i64 up, .int .i64 ex, .slice (some ⟨g, 0, none⟩) ls.length cap] 29))
    generalize hln : ls.length = n at *
    have HLN := hid' hln
    clear hln
    go_enter Tryz.func63, Tryz.ntmps63
    go_wp2_with fail
    go_loopw [3] (fun i wr => ∃ k : Nat, k ≤ n ∧ i = .int .i64 k ∧ Tab.okUpTo ls k = true ∧ Below w.heap.size w wr ∧ wr.heap[w.heap.size]? = some (.cells #[.int .i64 up, .int .i64 ex, .slice (some ⟨g, 0, none⟩) n cap] 29 (0, 0))) (fun i _ => n - (intOf i).toNat)
    case atStart => exact ⟨0, by omega, rfl, rfl, HBel.out, HROW.out⟩
    case round =>
      obtain ⟨k, hk, rfl, hokk, hbw, hrow⟩ := hrel
      have t2 := cell_of_row _ _ 2 _ _ _ hrow
      simp at t2
      have hsw := lt_of_heap hrow
      have HOK := hid' hokk
      have HBW := hid' hbw
      have HR := hid' hrow
      clear hokk hbw hrow HROW
      by_cases hlt : k < n
      · have hkl : k < ls.length := by rw [HLN.out]; exact hlt
        have hwp := HWF.out _ (List.getElem_mem hkl)
        have HLW := hid' (HLI.out.below hgl HBW.out)
        obtain ⟨c1, c2⟩ := HLW.out k hkl
        have hgw : g < wr.heap.size := by have := HBW.out.size; omega
        have hfo := fun W (hL : Lies W g ls) (hW : g < W.heap.size) => can_follow g cap k ls ls[k].1 ls[k].2 W hwp.1 hwp.2 (by omega) (by omega) hL hW (Tab.okUpTo_off k (by omega) HOK.out)
        have HFO := hid' hfo
        have HSU := hid' (Tab.okUpTo_succ ls k hkl)
        clear hfo hwp
        generalize ls[k] = p at *
        clear hkl
        obtain ⟨pa, po⟩ := p
        simp only at c1 c2
        have hsl := fun W => head_run g n cap k (by omega) W
        cases hf : Tab.follows (ls.take k) pa po with
        | false =>
          simp only [hf] at HFO HSU
          have H2 : Hid (Tab.whole up ex ls = false) := by
            show _ = _; rw [H.out]; exact Tab.okUpTo_no (k := k + 1) (by rw [HSU.out]; simp) (by omega)
          clear hf
          go_wp2_with fail
          go_region_with (go_at_call 82; refine (HFO.out _ (by exact HLW.out) (by exact hgw)).mono ?_; rintro e w2 ⟨rfl, hb2⟩; have HB2 := hid' hb2; clear hb2)
          all_goals
            go_wp2
            go_ret
            exact ⟨ret_bool H2.out.symm, HBW.out.drew.trans (HB2.out.mono (by exact HBW.out.size))⟩
        | true =>
          simp only [hf] at HFO HSU
          have H2 : Hid (Tab.okUpTo ls (k + 1) = true) := by show _ = _; rw [HSU.out, HOK.out]; rfl
          clear hf HSU
          go_wp2_with fail
          go_region_with (go_at_call 82; refine (HFO.out _ (by exact HLW.out) (by exact hgw)).mono ?_; rintro e w2 ⟨rfl, hb2⟩; have HB2 := hid' hb2; clear hb2)
          all_goals
            go_wp2
            go_roundw
            case rel => exact ⟨k + 1, by omega, by go_num, H2.out, HBW.out.drew.trans (HB2.out.mono (by exact HBW.out.size)), (HB2.out.block _ (by exact hsw)).trans HR.out⟩
            case measure => simp [intOf]; omega
      · have ek : k = n := by omega
        have H2 : Hid (Tab.whole up ex ls = true) := by show _ = _; rw [H.out, ← ek]; exact HOK.out
        have hnk : ¬ (k : Int) < (n : Int) := by omega
        clear ek
        go_wp2
        go_ret
        exact ⟨ret_bool H2.out.symm, HBW.out⟩
end Go.Proofs.YtmmkhodaljpjgabGreatDoor
