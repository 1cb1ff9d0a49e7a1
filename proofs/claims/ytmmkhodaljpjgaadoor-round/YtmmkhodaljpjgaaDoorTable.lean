import Derived.Test.YtmmkhodaljpjgaaDoorTabN
import Derived.Deep.QuietTactic
import Derived.BigQuiet
/-! Package table against tables in plain integers. -/
namespace Go.Proofs.YtmmkhodaljpjgaaDoor
open Go.RowKit

theorem begins_month (sec : Int) (w : World) (w0 : (Lit.int .i64 sec).wf = true) :
    Calls Tryd.prog 42 #[.int .i64 sec] w fun e w' => e = .returned (.bool (Tab.first sec)) ∧ w' = w := by
  have hb := bounds_i64 w0
  clear w0
  by_cases h0 : sec < 0
  · have H : Hid (Tab.first sec = false) := Tab.first_no fun h => by have := h.1; omega
    by_cases h1 : sec.tmod 86400 = 0
    · have h1' : (sec.tmod 86400 != 0) = false := by rw [bne_eq_false_iff_eq]; exact h1
      have hd : sec.tdiv 86400 < 0 := by
        have := Int.mul_tdiv_add_tmod sec 86400
        omega
      go_enter Tryd.func42, Tryd.ntmps42
      go_wp2_with fail
      refine (civil_no (sec.tdiv 86400) _ (.inl hd)).mono ?_
      rintro e w' ⟨rfl, rfl⟩
      go_wp2
      go_ret
      exact ⟨ret_bool H.out.symm, rfl⟩
    · have h1' : (sec.tmod 86400 != 0) = true := bne_iff_ne.2 h1
      go_enter Tryd.func42, Tryd.ntmps42
      go_wp2
      go_ret
      exact ⟨ret_bool H.out.symm, rfl⟩
  · by_cases h1 : sec % 86400 = 0
    · by_cases h2 : 401767 ≤ sec / 86400
      · have H : Hid (Tab.first sec = false) := Tab.first_no fun h => by
          obtain ⟨_, _, y, m, hi, _⟩ := h
          have a := hi.year
          have b := Cal.yb_mono (y + 1) 3000 (by have := hi.y2; omega)
          rw [Cal.yb_last] at b
          omega
        go_enter Tryd.func42, Tryd.ntmps42
        go_wp2_with fail
        refine (civil_no (sec / 86400) _ (.inr h2)).mono ?_
        rintro e w' ⟨rfl, rfl⟩
        go_wp2
        go_ret
        exact ⟨ret_bool H.out.symm, rfl⟩
      · go_enter Tryd.func42, Tryd.ntmps42
        go_wp2_with fail
        refine (civil_yes (sec / 86400) _ (by omega) (by omega)).mono ?_
        rintro e w' ⟨⟨y, m, rfl, hin⟩, rfl⟩
        have HI := hid' hin
        clear hin
        by_cases h3 : sec / 86400 = Cal.yb y + Cal.cum y m
        · have H : Hid (Tab.first sec = true) := Tab.first_yes ⟨by omega, h1, y, m, HI.out, h3⟩
          have hd : (sec / 86400 - Cal.yb y - Cal.cum y m + 1 == 1) = true := by rw [beq_iff_eq]; omega
          generalize sec / 86400 - Cal.yb y - Cal.cum y m + 1 = v at *
          clear h3
          go_wp2
          go_ret
          exact ⟨ret_bool H.out.symm, rfl⟩
        · have H : Hid (Tab.first sec = false) := Tab.first_no fun h => by
            obtain ⟨_, _, z, o, hi, hq⟩ := h
            obtain ⟨rfl, rfl⟩ := hi.only HI.out
            exact h3 hq
          have hd : (sec / 86400 - Cal.yb y - Cal.cum y m + 1 == 1) = false := by rw [beq_eq_false_iff_ne]; omega
          generalize sec / 86400 - Cal.yb y - Cal.cum y m + 1 = v at *
          clear h3
          go_wp2
          go_ret
          exact ⟨ret_bool H.out.symm, rfl⟩
    · have H : Hid (Tab.first sec = false) := Tab.first_no fun h => h1 h.2.1
      have h1' : (sec % 86400 != 0) = true := bne_iff_ne.2 h1
      go_enter Tryd.func42, Tryd.ntmps42
      go_wp2
      go_ret
      exact ⟨ret_bool H.out.symm, rfl⟩

set_option maxRecDepth 100000 in
set_option maxHeartbeats 1000000 in
theorem can_follow_nil (ao : Option Addr) (cap : Nat) (a o : Int) (w : World) (wa : (Lit.int .i64 a).wf = true) (wo : (Lit.int .i64 o).wf = true) :
    Calls Tryd.prog 30 #[.slice ao 0 cap, .agg #[.int .i64 a, .int .i64 o]] w fun e w' => e = .returned (.bool (Tab.follows [] a o)) ∧ Below w.heap.size w w' := by
  have HFst := hid' (begins_month a (w.alloc (.cells #[.int .i64 a, .int .i64 o] 40)) wa)
  have bo := bounds_i64 wo
  have HBel := hid' ((Below.refl w.heap.size w).alloc (Nat.le_refl _) (.cells #[.int .i64 a, .int .i64 o] 40))
  clear wa wo
  cases hf : Tab.first a with
  | false =>
    rw [hf] at HFst
    have H : Hid (Tab.follows [] a o = false) := Tab.follows_no1 hf
    clear hf
    go_enter Tryd.func30, Tryd.ntmps30
    go_wp2_with (go_at_call 42; refine HFst.out.mono ?_; rintro e w' ⟨rfl, rfl⟩)
    go_ret
    exact ⟨ret_bool H.out.symm, HBel.out⟩
  | true =>
    rw [hf] at HFst
    by_cases h0 : o < 0
    · have H : Hid (Tab.follows [] a o = false) := Tab.follows_no2 h0
      clear hf
      go_enter Tryd.func30, Tryd.ntmps30
      go_wp2_with (go_at_call 42; refine HFst.out.mono ?_; rintro e w' ⟨rfl, rfl⟩)
      go_ret
      exact ⟨ret_bool H.out.symm, HBel.out⟩
    · by_cases h1 : 200 < o
      · have H : Hid (Tab.follows [] a o = false) := Tab.follows_no3 h1
        clear hf
        go_enter Tryd.func30, Tryd.ntmps30
        go_wp2_with (go_at_call 42; refine HFst.out.mono ?_; rintro e w' ⟨rfl, rfl⟩)
        go_ret
        exact ⟨ret_bool H.out.symm, HBel.out⟩
      · have H : Hid (Tab.follows [] a o = true) := Tab.follows_nil hf (by omega) (by omega)
        clear hf
        go_enter Tryd.func30, Tryd.ntmps30
        go_wp2_with (go_at_call 42; refine HFst.out.mono ?_; rintro e w' ⟨rfl, rfl⟩)
        go_ret
        exact ⟨ret_bool H.out.symm, HBel.out⟩

set_option maxRecDepth 100000 in
set_option maxHeartbeats 1000000 in
theorem can_follow_some (g cap q : Nat) (ls : List (Int × Int)) (a o : Int) (w : World) (wa : (Lit.int .i64 a).wf = true) (wo : (Lit.int .i64 o).wf = true)
    (hq : ls.length = q + 1) (h40 : q < 40) (hl : Lies w g ls) (hg : g < w.heap.size) (hok : ∀ p ∈ ls, 0 ≤ p.2 ∧ p.2 ≤ 200) :
    Calls Tryd.prog 30 #[.slice (some ⟨g, 0, none⟩) ((q + 1 : Nat)) cap, .agg #[.int .i64 a, .int .i64 o]] w fun e w' => e = .returned (.bool (Tab.follows ls a o)) ∧ Below w.heap.size w w' := by
  have HFst := hid' (begins_month a (w.alloc (.cells #[.int .i64 a, .int .i64 o] 40)) wa)
  have bo := bounds_i64 wo
  have HBel := hid' ((Below.refl w.heap.size w).alloc (Nat.le_refl _) (.cells #[.int .i64 a, .int .i64 o] 40))
  have hp := hok (ls[q]'(by omega)) (List.getElem_mem _)
  have c1 := (HBel.out.cell (p := ⟨g, q * 2, none⟩) hg).trans (hl q (by omega)).1
  have c2 := (HBel.out.cell (p := ⟨g, q * 2 + 1, none⟩) hg).trans (hl q (by omega)).2
  have hlast := fun h h0 h1 h2 => Tab.follows_last (ls := ls) (a := a) (o := o) h h0 h1 h2 q hq
  have HLAST := hid' hlast
  clear hlast wa wo
  generalize ls[q]'(by omega) = p at *
  obtain ⟨pa, po⟩ := p
  simp only at hp c1 c2
  have hq40 : ls.length = 40 ↔ q = 39 := by omega
  have H40 := hid' hq40
  clear hok hq hq40 hl
  by_cases h2 : q = 39
  · have H : Hid (Tab.follows ls a o = false) := Tab.follows_no4 (H40.out.2 h2)
    clear c1 c2 H40 HLAST
    subst h2
    go_enter Tryd.func30, Tryd.ntmps30
    go_wp2
    go_ret
    exact ⟨ret_bool H.out.symm, HBel.out⟩
  have h39 : q < 39 := by omega
  clear h40
  cases hf : Tab.first a with
  | false =>
    rw [hf] at HFst
    have H : Hid (Tab.follows ls a o = false) := Tab.follows_no1 hf
    clear hf c1 c2
    go_enter Tryd.func30, Tryd.ntmps30
    go_wp2_with (go_at_call 42; refine HFst.out.mono ?_; rintro e w' ⟨rfl, rfl⟩)
    go_ret
    exact ⟨ret_bool H.out.symm, HBel.out⟩
  | true =>
    rw [hf] at HFst
    by_cases h0 : o < 0
    · have H : Hid (Tab.follows ls a o = false) := Tab.follows_no2 h0
      clear hf c1 c2
      go_enter Tryd.func30, Tryd.ntmps30
      go_wp2_with (go_at_call 42; refine HFst.out.mono ?_; rintro e w' ⟨rfl, rfl⟩)
      go_ret
      exact ⟨ret_bool H.out.symm, HBel.out⟩
    · by_cases h1 : 200 < o
      · have H : Hid (Tab.follows ls a o = false) := Tab.follows_no3 h1
        clear hf c1 c2
        go_enter Tryd.func30, Tryd.ntmps30
        go_wp2_with (go_at_call 42; refine HFst.out.mono ?_; rintro e w' ⟨rfl, rfl⟩)
        go_ret
        exact ⟨ret_bool H.out.symm, HBel.out⟩
      · have H : Hid (Tab.follows ls a o = Tab.behindB (pa, po) a o) := HLAST.out hf (by omega) (by omega) (fun h => h2 (H40.out.1 h))
        clear hf HLAST H40 h2
        go_enter Tryd.func30, Tryd.ntmps30
        go_wp2_with (go_at_call 42; refine HFst.out.mono ?_; rintro e w' ⟨rfl, rfl⟩)
        all_goals
          go_ret
          refine ⟨ret_bool ?_, ((Below.refl w.heap.size w).alloc (Nat.le_refl _) _).alloc (by simp) _⟩
          rw [H.out]
          unfold Tab.behindB
          simp
          try omega

end Go.Proofs.YtmmkhodaljpjgaaDoor
