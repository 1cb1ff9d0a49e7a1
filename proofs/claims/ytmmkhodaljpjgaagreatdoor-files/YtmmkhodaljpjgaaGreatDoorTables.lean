import Derived.Test.YtmmkhodaljpjgaaGreatDoorTabs
import Derived.Deep.QuietTactic
import Derived.BigQuiet
/-! Package table against tables in plain integers. -/
namespace Go.Proofs.YtmmkhodaljpjgaaGreatDoor
open Go.RowKit

theorem begins_month (sec : Int) (w : World) (w0 : (Lit.int .i64 sec).wf = true) :
    Calls Tryz.prog 191 #[.int .i64 sec] w fun e w' => e = .returned (.bool (Tab.first sec)) ∧ w' = w := by
  have hb := bounds_i64 w0
  clear w0
  by_cases h0 : sec < 0
  · have H : Hid (Tab.first sec = false) := Tab.first_no fun h => by have := h.1; omega
    by_cases h1 : sec.tmod 86400 = 0
    · have h1' : (sec.tmod 86400 != 0) = false := by rw [bne_eq_false_iff_eq]; exact h1
      have hd : sec.tdiv 86400 < 0 := by
        have := Int.mul_tdiv_add_tmod sec 86400
        omega
      go_enter Tryz.func191, Tryz.ntmps191
      go_wp2_with fail
      refine (civil_no (sec.tdiv 86400) _ (.inl hd)).mono ?_
      rintro e w' ⟨rfl, rfl⟩
      go_wp2
      go_ret
      exact ⟨ret_bool H.out.symm, rfl⟩
    · have h1' : (sec.tmod 86400 != 0) = true := bne_iff_ne.2 h1
      go_enter Tryz.func191, Tryz.ntmps191
      go_wp2
      go_ret
      exact ⟨ret_bool H.out.symm, rfl⟩
  · by_cases h1 : sec % 86400 = 0
    · by_cases h2 : 401767 ≤ sec / 86400
      · have H : Hid (Tab.first sec = false) := Tab.first_no fun h => by
          obtain ⟨_, _, y, m, hi, _⟩ := h
          have a := hi.year
          have b := Cal.yb_mono (y + 1) 3000 (by have := hi.y2; omega)
          rw [Cal.yb_last] at b
          omega
        go_enter Tryz.func191, Tryz.ntmps191
        go_wp2_with fail
        refine (civil_no (sec / 86400) _ (.inr h2)).mono ?_
        rintro e w' ⟨rfl, rfl⟩
        go_wp2
        go_ret
        exact ⟨ret_bool H.out.symm, rfl⟩
      · go_enter Tryz.func191, Tryz.ntmps191
        go_wp2_with fail
        refine (civil_yes (sec / 86400) _ (by omega) (by omega)).mono ?_
        rintro e w' ⟨⟨y, m, rfl, hin⟩, rfl⟩
        have HI := hid' hin
        clear hin
        by_cases h3 : sec / 86400 = Cal.yb y + Cal.cum y m
        · have H : Hid (Tab.first sec = true) := Tab.first_yes ⟨by omega, h1, y, m, HI.out, h3⟩
          have hd : (sec / 86400 - Cal.yb y - Cal.cum y m + 1 == 1) = true := by rw [beq_iff_eq]; omega
          generalize sec / 86400 - Cal.yb y - Cal.cum y m + 1 = v at *
          clear h3
          go_wp2
          go_ret
          exact ⟨ret_bool H.out.symm, rfl⟩
        · have H : Hid (Tab.first sec = false) := Tab.first_no fun h => by
            obtain ⟨_, _, z, o, hi, hq⟩ := h
            obtain ⟨rfl, rfl⟩ := hi.only HI.out
            exact h3 hq
          have hd : (sec / 86400 - Cal.yb y - Cal.cum y m + 1 == 1) = false := by rw [beq_eq_false_iff_ne]; omega
          generalize sec / 86400 - Cal.yb y - Cal.cum y m + 1 = v at *
          clear h3
          go_wp2
          go_ret
          exact ⟨ret_bool H.out.symm, rfl⟩
    · have H : Hid (Tab.first sec = false) := Tab.first_no fun h => h1 h.2.1
      have h1' : (sec % 86400 != 0) = true := bne_iff_ne.2 h1
      go_enter Tryz.func191, Tryz.ntmps191
      go_wp2
      go_ret
      exact ⟨ret_bool H.out.symm, rfl⟩

set_option maxRecDepth 100000 in
set_option maxHeartbeats 1000000 in
theorem can_follow_nil (ao : Option Addr) (cap : Nat) (a o : Int) (w : World) (wa : (Lit.int .i64 a).wf = true) (wo : (Lit.int .i64 o).wf = true) :
    Calls Tryz.prog 169 #[.slice ao 0 cap, .agg #[.int .i64 a, .int .i64 o]] w fun e w' => e = .returned (.bool (Tab.follows [] a o)) ∧ Below w.heap.size w w' := by
  have HFst := hid' (begins_month a (w.alloc (.cells #[.int .i64 a, .int .i64 o] 84)) wa)
  have bo := bounds_i64 wo
  have HBel := hid' ((Below.refl w.heap.size w).alloc (Nat.le_refl _) (.cells #[.int .i64 a, .int .i64 o] 84))
  clear wa wo
  cases hf : Tab.first a with
  | false =>
    rw [hf] at HFst
    have H : Hid (Tab.follows [] a o = false) := Tab.follows_no1 hf
    clear hf
    go_enter Tryz.func169, Tryz.ntmps169
    go_wp2_with (go_at_call 191; refine HFst.out.mono ?_; rintro e w' ⟨rfl, rfl⟩)
    go_ret
    exact ⟨ret_bool H.out.symm, HBel.out⟩
  | true =>
    rw [hf] at HFst
    by_cases h0 : o < 0
    · have H : Hid (Tab.follows [] a o = false) := Tab.follows_no2 h0
      clear hf
      go_enter Tryz.func169, Tryz.ntmps169
      go_wp2_with (go_at_call 191; refine HFst.out.mono ?_; rintro e w' ⟨rfl, rfl⟩)
      go_ret
      exact ⟨ret_bool H.out.symm, HBel.out⟩
    · by_cases h1 : 200 < o
      · have H : Hid (Tab.follows [] a o = false) := Tab.follows_no3 h1
        clear hf
        go_enter Tryz.func169, Tryz.ntmps169
        go_wp2_with (go_at_call 191; refine HFst.out.mono ?_; rintro e w' ⟨rfl, rfl⟩)
        go_ret
        exact ⟨ret_bool H.out.symm, HBel.out⟩
      · have H : Hid (Tab.follows [] a o = true) := Tab.follows_nil hf (by omega) (by omega)
        clear hf
        go_enter Tryz.func169, Tryz.ntmps169
        go_wp2_with (go_at_call 191; refine HFst.out.mono ?_; rintro e w' ⟨rfl, rfl⟩)
        go_ret
        exact ⟨ret_bool H.out.symm, HBel.out⟩

set_option maxRecDepth 100000 in
set_option maxHeartbeats 1000000 in
theorem can_follow_some (g cap q : Nat) (ls : List (Int × Int)) (a o : Int) (w : World) (wa : (Lit.int .i64 a).wf = true) (wo : (Lit.int .i64 o).wf = true)
    (hq : ls.length = q + 1) (h40 : q < 40) (hl : Lies w g ls) (hg : g < w.heap.size) (hok : ∀ p ∈ ls, 0 ≤ p.2 ∧ p.2 ≤ 200) :
    Calls Tryz.prog 169 #[.slice (some ⟨g, 0, none⟩) ((q + 1 : Nat)) cap, .agg #[.int .i64 a, .int .i64 o]] w fun e w' => e = .returned (.bool (Tab.follows ls a o)) ∧ Below w.heap.size w w' := by
  have HFst := hid' (begins_month a (w.alloc (.cells #[.int .i64 a, .int .i64 o] 84)) wa)
  have bo := bounds_i64 wo
  have HBel := hid' ((Below.refl w.heap.size w).alloc (Nat.le_refl _) (.cells #[.int .i64 a, .int .i64 o] 84))
  have hp := hok (ls[q]'(by omega)) (List.getElem_mem _)
  have c1 := (HBel.out.cell (p := ⟨g, q * 2, none⟩) hg).trans (hl q (by omega)).1
  have c2 := (HBel.out.cell (p := ⟨g, q * 2 + 1, none⟩) hg).trans (hl q (by omega)).2
  have hlast := fun h h0 h1 h2 => Tab.follows_last (ls := ls) (a := a) (o := o) h h0 h1 h2 q hq
  have HLAST := hid' hlast
  clear hlast wa wo
  generalize ls[q]'(by omega) = p at *
  obtain ⟨pa, po⟩ := p
  simp only at hp c1 c2
  have hq40 : ls.length = 40 ↔ q = 39 := by omega
  have H40 := hid' hq40
  clear hok hq hq40 hl
  by_cases h2 : q = 39
  · have H : Hid (Tab.follows ls a o = false) := Tab.follows_no4 (H40.out.2 h2)
    clear c1 c2 H40 HLAST
    subst h2
    go_enter Tryz.func169, Tryz.ntmps169
    go_wp2
    go_ret
    exact ⟨ret_bool H.out.symm, HBel.out⟩
  have h39 : q < 39 := by omega
  clear h40
  cases hf : Tab.first a with
  | false =>
    rw [hf] at HFst
    have H : Hid (Tab.follows ls a o = false) := Tab.follows_no1 hf
    clear hf c1 c2
    go_enter Tryz.func169, Tryz.ntmps169
    go_wp2_with (go_at_call 191; refine HFst.out.mono ?_; rintro e w' ⟨rfl, rfl⟩)
    go_ret
    exact ⟨ret_bool H.out.symm, HBel.out⟩
  | true =>
    rw [hf] at HFst
    by_cases h0 : o < 0
    · have H : Hid (Tab.follows ls a o = false) := Tab.follows_no2 h0
      clear hf c1 c2
      go_enter Tryz.func169, Tryz.ntmps169
      go_wp2_with (go_at_call 191; refine HFst.out.mono ?_; rintro e w' ⟨rfl, rfl⟩)
      go_ret
      exact ⟨ret_bool H.out.symm, HBel.out⟩
    · by_cases h1 : 200 < o
      · have H : Hid (Tab.follows ls a o = false) := Tab.follows_no3 h1
        clear hf c1 c2
        go_enter Tryz.func169, Tryz.ntmps169
        go_wp2_with (go_at_call 191; refine HFst.out.mono ?_; rintro e w' ⟨rfl, rfl⟩)
        go_ret
        exact ⟨ret_bool H.out.symm, HBel.out⟩
      · have H : Hid (Tab.follows ls a o = Tab.behindB (pa, po) a o) := HLAST.out hf (by omega) (by omega) (fun h => h2 (H40.out.1 h))
        clear hf HLAST H40 h2
        go_enter Tryz.func169, Tryz.ntmps169
        go_wp2_with (go_at_call 191; refine HFst.out.mono ?_; rintro e w' ⟨rfl, rfl⟩)
        all_goals
          go_ret
          refine ⟨ret_bool ?_, ((Below.refl w.heap.size w).alloc (Nat.le_refl _) _).alloc (by simp) _⟩
          rw [H.out]
          unfold Tab.behindB
          simp
          try omega

end Go.Proofs.YtmmkhodaljpjgaaGreatDoor

namespace Go.Proofs.YtmmkhodaljpjgaaGreatDoor
open Go.RowKit

theorem can_follow (g cap k : Nat) (ls : List (Int × Int)) (a o : Int) (w : World) (wa : (Lit.int .i64 a).wf = true) (wo : (Lit.int .i64 o).wf = true)
    (hk : k ≤ ls.length) (h40 : k ≤ 40) (hl : Lies w g ls) (hg : g < w.heap.size) (hok : ∀ p ∈ ls.take k, 0 ≤ p.2 ∧ p.2 ≤ 200) :
    Calls Tryz.prog 169 #[.slice (some ⟨g, 0, none⟩) k cap, .agg #[.int .i64 a, .int .i64 o]] w fun e w' => e = .returned (.bool (Tab.follows (ls.take k) a o)) ∧ Below w.heap.size w w' := by
  cases k with
  | zero => rw [List.take_zero]; exact can_follow_nil _ cap a o w wa wo
  | succ q =>
    have hlen : (ls.take (q + 1)).length = q + 1 := by simp; omega
    exact can_follow_some g cap q (ls.take (q + 1)) a o w wa wo hlen (by omega) (fun i hi => by
      rw [hlen] at hi
      have := hl i (by omega)
      simpa using this) hg hok

/-- A list that was handed in. -/
def Held (w : World) (lv : Value) (ls : List (Int × Int)) : Prop :=
  (ls = [] ∧ ∃ ao cap, lv = .slice ao 0 cap) ∨ (0 < ls.length ∧ ∃ g cap, lv = .slice (some ⟨g, 0, none⟩) ls.length cap ∧ ls.length ≤ cap ∧ g < w.heap.size ∧ Lies w g ls)

theorem leap_size : ∀ w : World, (sizeOf (Tryz.prog.elem 76)).run Tryz.prog w = .ok 2 w := fun _ => by kernel_rfl
theorem head_run (g L cap k : Nat) (h : k ≤ cap) (w : World) :
    (Instr.slice 76 (.slice (some ⟨g, 0, none⟩) L cap) none (some (.int .i64 (k : Int))) none).run Tryz.prog w = .ok (.slice (some ⟨g, 0, none⟩) k cap) w := by
  rw [run_slice_h (P := Tryz.prog) w 76 (some ⟨g, 0, none⟩) L cap (by kernel_rfl) .i64 (k : Int) (by omega) (by omega), leap_size]
  simp [sliced, Addr.add, Result.andThen]

set_option maxRecDepth 100000 in
set_option maxHeartbeats 3200000 in
theorem is_table (lv : Value) (ls : List (Int × Int)) (up ex : Int) (w : World) (wu : (Lit.int .i64 up).wf = true) (wx : (Lit.int .i64 ex).wf = true)
    (hv : Held w lv ls) (hn : ls.length ≤ 100000) (hwf : ∀ p ∈ ls, WfP p) :
    Calls Tryz.prog 127 #[.agg #[.int .i64 up, .int .i64 ex, lv]] w fun e w' => e = .returned (.bool (Tab.whole up ex ls)) ∧ Below w.heap.size w w' := by
  have bu := bounds_i64 wu
  have bx := bounds_i64 wx
  clear wu wx
  have HBel := hid' ((Below.refl w.heap.size w).alloc (Nat.le_refl _) (.cells #[.int .i64 up, .int .i64 ex, lv] 78))
  rcases hv with ⟨rfl, ao, cap, rfl⟩ | ⟨h3, g, cap, rfl, hcap, hgl, hlies⟩
  · have H : Hid (Tab.whole up ex [] = false) := Tab.whole_no4 rfl
    clear hwf hn
    by_cases h0 : up < 0
    · go_enter Tryz.func127, Tryz.ntmps127
      go_wp2
      go_ret
      exact ⟨ret_bool H.out.symm, HBel.out⟩
    · by_cases h1 : ex ≤ up
      · go_enter Tryz.func127, Tryz.ntmps127
        go_wp2
        go_ret
        exact ⟨ret_bool H.out.symm, HBel.out⟩
      · by_cases h2 : 34000000000 < ex
        · go_enter Tryz.func127, Tryz.ntmps127
          go_wp2
          go_ret
          exact ⟨ret_bool H.out.symm, HBel.out⟩
        · go_enter Tryz.func127, Tryz.ntmps127
          go_wp2
          go_ret
          exact ⟨ret_bool H.out.symm, HBel.out⟩
  · have HLI := hid' hlies
    have HWF := hid' hwf
    clear hlies hwf
    by_cases h0 : up < 0
    · have H : Hid (Tab.whole up ex ls = false) := Tab.whole_no1 h0
      go_enter Tryz.func127, Tryz.ntmps127
      go_wp2
      go_ret
      exact ⟨ret_bool H.out.symm, HBel.out⟩
    by_cases h1 : ex ≤ up
    · have H : Hid (Tab.whole up ex ls = false) := Tab.whole_no2 h1
      go_enter Tryz.func127, Tryz.ntmps127
      go_wp2
      go_ret
      exact ⟨ret_bool H.out.symm, HBel.out⟩
    by_cases h2 : 34000000000 < ex
    · have H : Hid (Tab.whole up ex ls = false) := Tab.whole_no3 h2
      go_enter Tryz.func127, Tryz.ntmps127
      go_wp2
      go_ret
      exact ⟨ret_bool H.out.symm, HBel.out⟩
    by_cases h4 : 40 < ls.length
    · have H : Hid (Tab.whole up ex ls = false) := by
        show _ = _
        cases hw : Tab.whole up ex ls with
        | false => rfl
        | true => have := (Tab.good_of_whole hw).len; omega
      go_enter Tryz.func127, Tryz.ntmps127
      go_wp2
      go_ret
      exact ⟨ret_bool H.out.symm, HBel.out⟩
    have H : Hid (Tab.whole up ex ls = Tab.okUpTo ls ls.length) := Tab.whole_is h0 h1 h2 (by omega)
    have HROW := hid' (heap_alloc_new w (.cells #[.int .i64 up, .int .i64 ex, .slice (some ⟨g, 0, none⟩) ls.length cap] 78))
    generalize hln : ls.length = n at *
    have HLN := hid' hln
    clear hln
    go_enter Tryz.func127, Tryz.ntmps127
    go_wp2_with fail
    go_loopw [3] (fun i wr => ∃ k : Nat, k ≤ n ∧ i = .int .i64 k ∧ Tab.okUpTo ls k = true ∧ Below w.heap.size w wr ∧ wr.heap[w.heap.size]? = some (.cells #[.int .i64 up, .int .i64 ex, .slice (some ⟨g, 0, none⟩) n cap] 78 (0, 0))) (fun i _ => n - (intOf i).toNat)
    case atStart => exact ⟨0, by omega, rfl, rfl, HBel.out, HROW.out⟩
    case round =>
      obtain ⟨k, hk, rfl, hokk, hbw, hrow⟩ := hrel
      have t2 := cell_of_row _ _ 2 _ _ _ hrow
      simp at t2
      have hsw := lt_of_heap hrow
      have HOK := hid' hokk
      have HBW := hid' hbw
      have HR := hid' hrow
      clear hokk hbw hrow HROW
      by_cases hlt : k < n
      · have hkl : k < ls.length := by rw [HLN.out]; exact hlt
        have hwp := HWF.out _ (List.getElem_mem hkl)
        have HLW := hid' (HLI.out.below hgl HBW.out)
        obtain ⟨c1, c2⟩ := HLW.out k hkl
        have hgw : g < wr.heap.size := by have := HBW.out.size; omega
        have hfo := fun W (hL : Lies W g ls) (hW : g < W.heap.size) => can_follow g cap k ls ls[k].1 ls[k].2 W hwp.1 hwp.2 (by omega) (by omega) hL hW (Tab.okUpTo_off k (by omega) HOK.out)
        have HFO := hid' hfo
        have HSU := hid' (Tab.okUpTo_succ ls k hkl)
        clear hfo hwp
        generalize ls[k] = p at *
        clear hkl
        obtain ⟨pa, po⟩ := p
        simp only at c1 c2
        have hsl := fun W => head_run g n cap k (by omega) W
        cases hf : Tab.follows (ls.take k) pa po with
        | false =>
          simp only [hf] at HFO HSU
          have H2 : Hid (Tab.whole up ex ls = false) := by
            show _ = _; rw [H.out]; exact Tab.okUpTo_no (k := k + 1) (by rw [HSU.out]; simp) (by omega)
          clear hf
          go_wp2_with fail
          go_region_with (go_at_call 169; refine (HFO.out _ (by exact HLW.out) (by exact hgw)).mono ?_; rintro e w2 ⟨rfl, hb2⟩; have HB2 := hid' hb2; clear hb2)
          all_goals
            go_wp2
            go_ret
            exact ⟨ret_bool H2.out.symm, HBW.out.drew.trans (HB2.out.mono (by exact HBW.out.size))⟩
        | true =>
          simp only [hf] at HFO HSU
          have H2 : Hid (Tab.okUpTo ls (k + 1) = true) := by show _ = _; rw [HSU.out, HOK.out]; rfl
          clear hf HSU
          go_wp2_with fail
          go_region_with (go_at_call 169; refine (HFO.out _ (by exact HLW.out) (by exact hgw)).mono ?_; rintro e w2 ⟨rfl, hb2⟩; have HB2 := hid' hb2; clear hb2)
          all_goals
            go_wp2
            go_roundw
            case rel => exact ⟨k + 1, by omega, by go_num, H2.out, HBW.out.drew.trans (HB2.out.mono (by exact HBW.out.size)), (HB2.out.block _ (by exact hsw)).trans HR.out⟩
            case measure => simp [intOf]; omega
      · have ek : k = n := by omega
        have H2 : Hid (Tab.whole up ex ls = true) := by show _ = _; rw [H.out, ← ek]; exact HOK.out
        have hnk : ¬ (k : Int) < (n : Int) := by omega
        clear ek
        go_wp2
        go_ret
        exact ⟨ret_bool H2.out.symm, HBW.out⟩

end Go.Proofs.YtmmkhodaljpjgaaGreatDoor

namespace Go.Proofs.YtmmkhodaljpjgaaGreatDoor
open Go.RowKit

set_option maxRecDepth 100000 in
theorem turn_any (g cap i n : Nat) (ls : List (Int × Int)) (w : World) (hn : ls.length = n) (hi : i < n) (hl : Lies w g ls) (hf : Fine ls) (hb : n ≤ 100000) :
    Calls Tryz.prog 171 #[.slice (some ⟨g, 0, none⟩) n cap, .int .i64 i] w fun e w' => e = .returned (.int .i64 (Tab.when ls i)) ∧ w' = w := by
  have c := hl i (by omega)
  have f := hf _ (List.getElem_mem (show i < ls.length by omega))
  cases i with
  | zero =>
    have H : Hid (Tab.when ls 0 = (ls[0]'(by omega)).1 + (ls[0]'(by omega)).2) := by
      show _ = _; unfold Tab.when; rw [getD_at 0 (by omega)]; simp
    generalize ls[0]'(by omega) = p at *
    obtain ⟨pa, po⟩ := p
    obtain ⟨c1, c2⟩ := c
    simp only [Nat.zero_mul, Nat.zero_add] at c1 c2
    simp only at f
    clear hl hf hn
    go_enter Tryz.func171, Tryz.ntmps171
    go_wp2
    go_ret
    exact ⟨ret_int H.out.symm, rfl⟩
  | succ j =>
    have d := hl j (by omega)
    have e := hf _ (List.getElem_mem (show j < ls.length by omega))
    have H : Hid (Tab.when ls (j + 1) = (ls[j + 1]'(by omega)).1 + (if (ls[j]'(by omega)).2 < (ls[j + 1]'(by omega)).2 then (ls[j]'(by omega)).2 else (ls[j + 1]'(by omega)).2)) := by
      show _ = _; unfold Tab.when; rw [getD_at (j + 1) (by omega), show j + 1 - 1 = j from rfl, getD_at j (by omega)]; simp
    generalize ls[j + 1]'(by omega) = p at *
    generalize ls[j]'(by omega) = q at *
    obtain ⟨pa, po⟩ := p
    obtain ⟨qa, qo⟩ := q
    obtain ⟨c1, c2⟩ := c
    obtain ⟨_, d2⟩ := d
    simp only at f c1 c2 d2 e
    clear hl hf hn
    by_cases hlt : qo < po
    · have H2 : Hid (Tab.when ls (j + 1) = pa + qo) := by show _ = _; rw [H.out]; simp only; rw [if_pos hlt]
      go_enter Tryz.func171, Tryz.ntmps171
      go_wp2
      go_ret
      exact ⟨ret_int H2.out.symm, rfl⟩
    · have H2 : Hid (Tab.when ls (j + 1) = pa + po) := by show _ = _; rw [H.out]; simp only; rw [if_neg hlt]
      go_enter Tryz.func171, Tryz.ntmps171
      go_wp2
      go_ret
      exact ⟨ret_int H2.out.symm, rfl⟩

set_option maxRecDepth 100000 in
theorem holder_any (g cap n : Nat) (ls : List (Int × Int)) (sec : Int) (w : World) (hn : ls.length = n) (hl : Lies w g ls) (hf : Fine ls) (hb : n ≤ 100000) :
    Calls Tryz.prog 130 #[.slice (some ⟨g, 0, none⟩) n cap, .int .i64 sec] w fun e w' => e = .returned (.int .i64 (Tab.lastAt ls sec n)) ∧ w' = w := by
  have HL := hid' hl
  have HF := hid' hf
  have HN := hid' hn
  clear hl hf hn
  go_enter Tryz.func130, Tryz.ntmps130
  go_wp2
  go_loop [5] (fun i => ∃ k : Nat, k ≤ n ∧ i = .int .i64 ((k : Int) - 1) ∧ Tab.lastAt ls sec n = Tab.lastAt ls sec k) (fun i => (intOf i + 1).toNat)
  case atStart => exact ⟨n, by omega, rfl, rfl⟩
  case round =>
    obtain ⟨k, hk, rfl, hrl⟩ := hrel
    have HRL := hid' hrl
    clear hrl
    cases k with
    | zero =>
      have H : Hid (Tab.lastAt ls sec n = -1) := by show _ = _; rw [HRL.out]; rfl
      go_wp2
      go_ret
      exact ⟨ret_int H.out.symm, rfl⟩
    | succ k =>
      have HW := hid' (turn_any g cap k n ls w HN.out (by omega) HL.out HF.out hb)
      have hc : (((k + 1 : Nat) : Int) - 1) = (k : Int) := by omega
      rw [hc]
      clear hc
      by_cases hle : Tab.when ls k ≤ sec
      · have H : Hid (Tab.lastAt ls sec n = (k : Int)) := by show _ = _; rw [HRL.out]; simp only [Tab.lastAt]; rw [if_pos hle]
        generalize Tab.when ls k = v at *
        go_wp2_with (go_at_call 171; refine HW.out.mono ?_; rintro e w' ⟨rfl, rfl⟩)
        go_ret
        exact ⟨ret_int H.out.symm, rfl⟩
      · have H : Hid (Tab.lastAt ls sec n = Tab.lastAt ls sec k) := by show _ = _; rw [HRL.out]; rw [Tab.lastAt]; rw [if_neg hle]
        generalize Tab.when ls k = v at *
        go_wp2_with (go_at_call 171; refine HW.out.mono ?_; rintro e w' ⟨rfl, rfl⟩)
        exact ⟨⟨k, by omega, by go_num, H.out⟩, by simp [intOf]⟩

end Go.Proofs.YtmmkhodaljpjgaaGreatDoor
