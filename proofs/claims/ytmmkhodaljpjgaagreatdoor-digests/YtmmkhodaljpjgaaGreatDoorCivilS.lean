import Derived.Test.YtmmkhodaljpjgaaGreatDoorCivil
namespace Go.Proofs.YtmmkhodaljpjgaaGreatDoor
open Go.RowKit

theorem smear_civil_no (n : Int) (w : World) (h : n < 0 ∨ 401767 ≤ n) :
    Calls Tryz.prog 35 #[.int .i64 n] w fun e w' => e = .returned (.tuple #[.int .i64 0, .int .i64 0, .int .i64 0, .int .i64 1]) ∧ w' = w := by
  go_enter Tryz.func35, Tryz.ntmps35
  go_wp2_with (go_at_call 71; refine (civil_no _ _ h).mono ?_; rintro e w' ⟨rfl, rfl⟩)
  refine bodyPost_ret (results_four rfl _ _ _) rfl ?_
  exact ⟨rfl, rfl⟩

theorem smear_civil_yes (n : Int) (w : World) (h0 : 0 ≤ n) (h1 : n < 401767) :
    Calls Tryz.prog 35 #[.int .i64 n] w fun e w' => (∃ y m : Int, e = .returned (.tuple #[.int .i64 y, .int .i64 m, .int .i64 (n - Cal.yb y - Cal.cum y m + 1), .int .i64 0]) ∧ Cal.In y m n) ∧ w' = w := by
  go_enter Tryz.func35, Tryz.ntmps35
  go_wp2_with (go_at_call 71; refine (civil_yes _ _ h0 h1).mono ?_; rintro e w' ⟨⟨y, m, rfl, hin⟩, rfl⟩)
  refine bodyPost_ret (results_four rfl _ _ _) rfl ?_
  exact ⟨⟨y, m, rfl, hin⟩, rfl⟩

end Go.Proofs.YtmmkhodaljpjgaaGreatDoor
