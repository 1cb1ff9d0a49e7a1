import Derived.Test.YtmmkhodaljpjgaaGreatDoorChecked
import Derived.Test.YtmmkhodaljpjgaaGreatDoorCal
import Derived.WalkKit
import Derived.WalkSpells
import Derived.WalkLawsBesides
import Derived.Below
namespace Go.Proofs.YtmmkhodaljpjgaaGreatDoor
open Go.RowKit

theorem ret_int {k : IntKind} {a b : Int} (h : a = b) : Ending.returned (.int k a) = .returned (.int k b) := by rw [h]

theorem leap_yes (y : Int) (w : World) (h0 : 0 ≤ y) (h : Cal.lp y = 1) :
    Calls Tryz.prog 156 #[.int .i64 y] w fun e w' => e = .returned (.bool true) ∧ w' = w := by
  have h4 : y % 4 = 0 := by unfold Cal.lp at h; split at h <;> omega
  have hr : ¬ y % 100 = 0 ∨ y % 400 = 0 := by unfold Cal.lp at h; split at h <;> omega
  clear h
  by_cases c : y % 100 = 0
  · have d : y % 400 = 0 := by omega
    clear hr
    go_enter Tryz.func156, Tryz.ntmps156
    go_wp2
    go_ret
    exact ⟨rfl, rfl⟩
  · clear hr
    go_enter Tryz.func156, Tryz.ntmps156
    go_wp2
    go_ret
    exact ⟨rfl, rfl⟩

theorem leap_no (y : Int) (w : World) (h0 : 0 ≤ y) (h : Cal.lp y = 0) :
    Calls Tryz.prog 156 #[.int .i64 y] w fun e w' => e = .returned (.bool false) ∧ w' = w := by
  have hr : ¬ y % 4 = 0 ∨ (y % 100 = 0 ∧ ¬ y % 400 = 0) := by unfold Cal.lp at h; split at h <;> omega
  clear h
  by_cases c : y % 4 = 0
  · have d : y % 100 = 0 := by omega
    have f : (y % 400 == 0) = false := by rw [beq_eq_false_iff_ne]; omega
    clear hr
    go_enter Tryz.func156, Tryz.ntmps156
    go_wp2
    go_ret
    exact ⟨rfl, rfl⟩
  · clear hr
    go_enter Tryz.func156, Tryz.ntmps156
    go_wp2
    go_ret
    exact ⟨rfl, rfl⟩

theorem before_any (y : Int) (w : World) (h0 : 1 ≤ y) (h1 : y ≤ 10000) :
    Calls Tryz.prog 157 #[.int .i64 y] w fun e w' => e = .returned (.int .i64 ((y - 1) / 4 - (y - 1) / 100 + (y - 1) / 400)) ∧ w' = w := by
  go_enter Tryz.func157, Tryz.ntmps157
  go_wp2
  go_ret
  exact ⟨rfl, rfl⟩

theorem begin_any (y : Int) (w : World) (h0 : 1900 ≤ y) (h1 : y ≤ 3000) :
    Calls Tryz.prog 115 #[.int .i64 y] w fun e w' => e = .returned (.int .i64 (Cal.yb y)) ∧ w' = w := by
  go_enter Tryz.func115, Tryz.ntmps115
  go_wp2_with (go_at_call 157; refine (before_any _ _ (by omega) (by omega)).mono ?_; rintro e w' ⟨rfl, rfl⟩)
  go_ret
  exact ⟨rfl, rfl⟩

theorem dim_any (y m : Int) (w : World) (h0 : 0 ≤ y) :
    Calls Tryz.prog 114 #[.int .i64 y, .int .i64 m] w fun e w' => e = .returned (.int .i64 (Cal.dim y m)) ∧ w' = w := by
  by_cases h2 : m = 2
  · subst h2
    by_cases hl : Cal.lp y = 1
    · have he : Cal.dim y 2 = 29 := by unfold Cal.dim; rw [if_pos rfl]; omega
      have H : Hid (Cal.dim y 2 = 29) := he
      clear he
      go_enter Tryz.func114, Tryz.ntmps114
      go_wp2_with (go_at_call 156; refine (leap_yes _ _ h0 hl).mono ?_; rintro e w' ⟨rfl, rfl⟩)
      go_ret
      exact ⟨ret_int H.out.symm, rfl⟩
    · have hz : Cal.lp y = 0 := by have := Cal.lp_01 y; omega
      have he : Cal.dim y 2 = 28 := by unfold Cal.dim; rw [if_pos rfl]; omega
      have H : Hid (Cal.dim y 2 = 28) := he
      clear he
      go_enter Tryz.func114, Tryz.ntmps114
      go_wp2_with (go_at_call 156; refine (leap_no _ _ h0 hz).mono ?_; rintro e w' ⟨rfl, rfl⟩)
      go_ret
      exact ⟨ret_int H.out.symm, rfl⟩
  · by_cases h3 : m = 4 ∨ m = 6 ∨ m = 9 ∨ m = 11
    · rcases h3 with rfl | rfl | rfl | rfl
      all_goals
        go_enter Tryz.func114, Tryz.ntmps114
        go_wp2
        go_ret
        exact ⟨rfl, rfl⟩
    · have he : Cal.dim y m = 31 := by unfold Cal.dim; rw [if_neg h2, if_neg h3]
      have H : Hid (Cal.dim y m = 31) := he
      have a4 : ¬ m = 4 := by omega
      have a6 : ¬ m = 6 := by omega
      have a9 : ¬ m = 9 := by omega
      have a11 : ¬ m = 11 := by omega
      clear he h3
      go_enter Tryz.func114, Tryz.ntmps114
      go_wp2
      go_ret
      exact ⟨ret_int H.out.symm, rfl⟩

end Go.Proofs.YtmmkhodaljpjgaaGreatDoor
