import Derived.Test.YtmmkhodaljpjgaaGreatDoorMem
import Derived.Test.YtmmkhodaljpjgaaGreatDoorCivilS
import Derived.Test.YtmmkhodaljpjgaaGreatDoorDay
/-! The document's calendar: days are counted one by one. -/
namespace Go.Proofs.YtmmkhodaljpjgaaGreatDoor
open Go.RowKit

/-- The walk's form of the reference's test on a year. -/
theorem long_yes (y : Int) (w : World) (h0 : 0 ≤ y) (h : Cal.lp y = 1) :
    Calls Tryz.prog 116 #[.int .i64 y] w fun e w' => e = .returned (.bool true) ∧ w' = w := by
  have h4 : y % 4 = 0 := by unfold Cal.lp at h; split at h <;> omega
  have hr : ¬ y % 100 = 0 ∨ y % 400 = 0 := by unfold Cal.lp at h; split at h <;> omega
  clear h
  by_cases c : y % 100 = 0
  · have d : y % 400 = 0 := by omega
    clear hr
    go_enter Tryz.func116, Tryz.ntmps116
    go_wp2
    go_ret
    exact ⟨rfl, rfl⟩
  · clear hr
    go_enter Tryz.func116, Tryz.ntmps116
    go_wp2
    go_ret
    exact ⟨rfl, rfl⟩

theorem long_no (y : Int) (w : World) (h0 : 0 ≤ y) (h : Cal.lp y = 0) :
    Calls Tryz.prog 116 #[.int .i64 y] w fun e w' => e = .returned (.bool false) ∧ w' = w := by
  have hr : ¬ y % 4 = 0 ∨ (y % 100 = 0 ∧ ¬ y % 400 = 0) := by unfold Cal.lp at h; split at h <;> omega
  clear h
  by_cases c : y % 4 = 0
  · have d : y % 100 = 0 := by omega
    have f : (y % 400 == 0) = false := by rw [beq_eq_false_iff_ne]; omega
    clear hr
    go_enter Tryz.func116, Tryz.ntmps116
    go_wp2
    go_ret
    exact ⟨rfl, rfl⟩
  · have f : (y % 400 == 0) = false := by rw [beq_eq_false_iff_ne]; omega
    clear hr
    go_enter Tryz.func116, Tryz.ntmps116
    go_wp2
    go_ret
    exact ⟨rfl, rfl⟩

theorem year_len (y : Int) (w : World) (h0 : 0 ≤ y) :
    Calls Tryz.prog 70 #[.int .i64 y] w fun e w' => e = .returned (.int .i64 (365 + Cal.lp y)) ∧ w' = w := by
  by_cases hl : Cal.lp y = 1
  · have H : Hid (365 + Cal.lp y = 366) := by show _ = _; omega
    go_enter Tryz.func70, Tryz.ntmps70
    go_wp2_with (go_at_call 116; refine (long_yes _ _ h0 hl).mono ?_; rintro e w' ⟨rfl, rfl⟩)
    go_ret
    exact ⟨ret_int H.out.symm, rfl⟩
  · have hz : Cal.lp y = 0 := by have := Cal.lp_01 y; omega
    have H : Hid (365 + Cal.lp y = 365) := by show _ = _; omega
    go_enter Tryz.func70, Tryz.ntmps70
    go_wp2_with (go_at_call 116; refine (long_no _ _ h0 hz).mono ?_; rintro e w' ⟨rfl, rfl⟩)
    go_ret
    exact ⟨ret_int H.out.symm, rfl⟩

theorem month_len (y m : Int) (w : World) (h0 : 0 ≤ y) :
    Calls Tryz.prog 69 #[.int .i64 y, .int .i64 m] w fun e w' => e = .returned (.int .i64 (Cal.dim y m)) ∧ w' = w := by
  by_cases hl : Cal.lp y = 1
  · by_cases h2 : m = 2
    · subst h2
      have H : Hid (Cal.dim y 2 = 29) := by show _ = _; unfold Cal.dim; rw [if_pos rfl]; omega
      go_enter Tryz.func69, Tryz.ntmps69
      go_wp2_with (go_at_call 116; refine (long_yes _ _ h0 hl).mono ?_; rintro e w' ⟨rfl, rfl⟩)
      go_ret
      exact ⟨ret_int H.out.symm, rfl⟩
    · by_cases h3 : m = 4 ∨ m = 6 ∨ m = 9 ∨ m = 11
      · rcases h3 with rfl | rfl | rfl | rfl
        all_goals
          go_enter Tryz.func69, Tryz.ntmps69
          go_wp2_with (go_at_call 116; refine (long_yes _ _ h0 hl).mono ?_; rintro e w' ⟨rfl, rfl⟩)
          go_ret
          exact ⟨rfl, rfl⟩
      · have H : Hid (Cal.dim y m = 31) := by show _ = _; unfold Cal.dim; rw [if_neg h2, if_neg h3]
        have a2 : (m == 2) = false := by rw [beq_eq_false_iff_ne]; omega
        have a4 : (m == 4) = false := by rw [beq_eq_false_iff_ne]; omega
        have a6 : (m == 6) = false := by rw [beq_eq_false_iff_ne]; omega
        have a9 : (m == 9) = false := by rw [beq_eq_false_iff_ne]; omega
        have a11 : (m == 11) = false := by rw [beq_eq_false_iff_ne]; omega
        clear h3 h2
        go_enter Tryz.func69, Tryz.ntmps69
        go_wp2_with (go_at_call 116; refine (long_yes _ _ h0 hl).mono ?_; rintro e w' ⟨rfl, rfl⟩)
        go_ret
        exact ⟨ret_int H.out.symm, rfl⟩
  · have hz : Cal.lp y = 0 := by have := Cal.lp_01 y; omega
    by_cases h2 : m = 2
    · subst h2
      have H : Hid (Cal.dim y 2 = 28) := by show _ = _; unfold Cal.dim; rw [if_pos rfl]; omega
      go_enter Tryz.func69, Tryz.ntmps69
      go_wp2_with (go_at_call 116; refine (long_no _ _ h0 hz).mono ?_; rintro e w' ⟨rfl, rfl⟩)
      go_ret
      exact ⟨ret_int H.out.symm, rfl⟩
    · by_cases h3 : m = 4 ∨ m = 6 ∨ m = 9 ∨ m = 11
      · rcases h3 with rfl | rfl | rfl | rfl
        all_goals
          go_enter Tryz.func69, Tryz.ntmps69
          go_wp2_with (go_at_call 116; refine (long_no _ _ h0 hz).mono ?_; rintro e w' ⟨rfl, rfl⟩)
          go_ret
          exact ⟨rfl, rfl⟩
      · have H : Hid (Cal.dim y m = 31) := by show _ = _; unfold Cal.dim; rw [if_neg h2, if_neg h3]
        have a2 : (m == 2) = false := by rw [beq_eq_false_iff_ne]; omega
        have a4 : (m == 4) = false := by rw [beq_eq_false_iff_ne]; omega
        have a6 : (m == 6) = false := by rw [beq_eq_false_iff_ne]; omega
        have a9 : (m == 9) = false := by rw [beq_eq_false_iff_ne]; omega
        have a11 : (m == 11) = false := by rw [beq_eq_false_iff_ne]; omega
        clear h3 h2
        go_enter Tryz.func69, Tryz.ntmps69
        go_wp2_with (go_at_call 116; refine (long_no _ _ h0 hz).mono ?_; rintro e w' ⟨rfl, rfl⟩)
        go_ret
        exact ⟨ret_int H.out.symm, rfl⟩

end Go.Proofs.YtmmkhodaljpjgaaGreatDoor
