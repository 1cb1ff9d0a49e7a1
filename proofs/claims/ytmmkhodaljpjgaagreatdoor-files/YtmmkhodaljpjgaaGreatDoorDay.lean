import Derived.Test.YtmmkhodaljpjgaaGreatDoorWalks
import Derived.OwnWalk
namespace Go.Proofs.YtmmkhodaljpjgaaGreatDoor
open Go.RowKit

/-- There is no such date. -/
def NoDate (y m d : Int) : Prop := y < 1900 ∨ 2999 < y ∨ m < 1 ∨ 12 < m ∨ d < 1 ∨ Cal.dim y m < d

theorem day_no (y m d : Int) (w : World) (h : NoDate y m d) :
    Calls Tryz.prog 68 #[.int .i64 y, .int .i64 m, .int .i64 d] w fun e w' => e = .returned (.tuple #[.int .i64 0, .int .i64 1]) ∧ w' = w := by
  unfold NoDate at h
  by_cases c1 : y < 1900
  · clear h
    go_enter Tryz.func68, Tryz.ntmps68
    go_wp2
    go_ret2
    exact ⟨rfl, rfl⟩
  by_cases c2 : 2999 < y
  · clear h
    go_enter Tryz.func68, Tryz.ntmps68
    go_wp2
    go_ret2
    exact ⟨rfl, rfl⟩
  by_cases c3 : m < 1
  · clear h
    go_enter Tryz.func68, Tryz.ntmps68
    go_wp2
    go_ret2
    exact ⟨rfl, rfl⟩
  by_cases c4 : 12 < m
  · clear h
    go_enter Tryz.func68, Tryz.ntmps68
    go_wp2
    go_ret2
    exact ⟨rfl, rfl⟩
  by_cases c5 : d < 1
  · clear h
    go_enter Tryz.func68, Tryz.ntmps68
    go_wp2
    go_ret2
    exact ⟨rfl, rfl⟩
  · have c6 : Cal.dim y m < d := by omega
    clear h
    go_enter Tryz.func68, Tryz.ntmps68
    go_wp2_with (go_at_call 114; refine (dim_any _ _ _ (by omega)).mono ?_; rintro e w' ⟨rfl, rfl⟩)
    go_ret2
    exact ⟨rfl, rfl⟩

set_option maxHeartbeats 400000 in
theorem day_yes (y m d : Int) (w : World) (hy1 : 1900 ≤ y) (hy2 : y ≤ 2999) (hm1 : 1 ≤ m) (hm2 : m ≤ 12) (hd1 : 1 ≤ d) (hd2 : d ≤ Cal.dim y m) :
    Calls Tryz.prog 68 #[.int .i64 y, .int .i64 m, .int .i64 d] w fun e w' => e = .returned (.tuple #[.int .i64 (Cal.yb y + Cal.cum y m + d - 1), .int .i64 0]) ∧ w' = w := by
  have db := Cal.dim_bd y m
  have yb0 := Cal.yb_bd y hy1 (by omega)
  go_enter Tryz.func68, Tryz.ntmps68
  go_wp2_with (first | (go_at_call 114; refine (dim_any _ _ _ (by omega)).mono ?_; rintro e w' ⟨rfl, rfl⟩) | (go_at_call 115; refine (begin_any _ _ (by omega) (by omega)).mono ?_; rintro e w' ⟨rfl, rfl⟩))
  go_loop [8, 9] (fun s k => ∃ q : Int, 1 ≤ q ∧ q ≤ m ∧ k = .int .i64 q ∧ s = .int .i64 (Cal.yb y + Cal.cum y q)) (fun _ k => (12 - intOf k).toNat)
  case atStart => exact ⟨1, by omega, by omega, rfl, by rw [Cal.cum_one]; simp⟩
  case round =>
    obtain ⟨q, hq1, hq2, rfl, rfl⟩ := hrel
    have cb := Cal.cum_bd y q hq1 (by omega)
    have dq := Cal.dim_bd y q
    have HC : Hid (Cal.cum y (q + 1) = Cal.cum y q + Cal.dim y q) := Cal.cum_succ y q hq1 (by omega)
    by_cases hlt : q < m
    · go_wp2_with (go_at_call 114; refine (dim_any _ _ _ (by omega)).mono ?_; rintro e w' ⟨rfl, rfl⟩)
      go_round
      case rel => exact ⟨q + 1, by omega, by omega, rfl, by rw [HC.out]; go_num⟩
      case measure => simp [intOf]; omega
    · have e : q = m := by omega
      subst e
      go_wp2
      go_ret2
      exact ⟨rfl, rfl⟩

theorem smear_day_no (y m d : Int) (w : World) (h : NoDate y m d) :
    Calls Tryz.prog 32 #[.int .i64 y, .int .i64 m, .int .i64 d] w fun e w' => e = .returned (.tuple #[.int .i64 0, .int .i64 1]) ∧ w' = w := by
  go_enter Tryz.func32, Tryz.ntmps32
  go_wp2_with (go_at_call 68; refine (day_no _ _ _ _ h).mono ?_; rintro e w' ⟨rfl, rfl⟩)
  go_ret2
  exact ⟨rfl, rfl⟩

theorem smear_day_yes (y m d : Int) (w : World) (hy1 : 1900 ≤ y) (hy2 : y ≤ 2999) (hm1 : 1 ≤ m) (hm2 : m ≤ 12) (hd1 : 1 ≤ d) (hd2 : d ≤ Cal.dim y m) :
    Calls Tryz.prog 32 #[.int .i64 y, .int .i64 m, .int .i64 d] w fun e w' => e = .returned (.tuple #[.int .i64 (Cal.yb y + Cal.cum y m + d - 1), .int .i64 0]) ∧ w' = w := by
  go_enter Tryz.func32, Tryz.ntmps32
  go_wp2_with (go_at_call 68; refine (day_yes _ _ _ _ hy1 hy2 hm1 hm2 hd1 hd2).mono ?_; rintro e w' ⟨rfl, rfl⟩)
  go_ret2
  exact ⟨rfl, rfl⟩

end Go.Proofs.YtmmkhodaljpjgaaGreatDoor
