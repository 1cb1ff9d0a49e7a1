import Derived.Test.YtmmkhodaljpjgaaGreatDoorWalks
import Derived.OwnWalk
namespace Go.Proofs.YtmmkhodaljpjgaaGreatDoor
open Go.RowKit

theorem results_four {fn : Func} {t u v x : Tmp} (h : fn.results = #[.tmp t, .tmp u, .tmp v, .tmp x]) (tmps : Array Value) (P : Program) (w : World) :
    (results fn tmps).run P w = .ok (.tuple #[tmps.getD t undef, tmps.getD u undef, tmps.getD v undef, tmps.getD x undef]) w := by
  simp [results, h]

theorem year_any (n : Int) (w : World) (h0 : 0 ≤ n) (h1 : n < 401767) :
    Calls Tryz.prog 117 #[.int .i64 n] w fun e w' => (∃ y : Int, e = .returned (.int .i64 y) ∧ 1900 ≤ y ∧ y ≤ 2999 ∧ Cal.yb y ≤ n ∧ n < Cal.yb (y + 1)) ∧ w' = w := by
  have g0 := Cal.yb_guess n h0
  go_enter Tryz.func117, Tryz.ntmps117
  go_wp2
  go_loop [3] (fun t => ∃ y : Int, 1900 ≤ y ∧ y ≤ 2999 ∧ Cal.yb y ≤ n ∧ t = .int .i64 y) (fun t => (2999 - intOf t).toNat)
  case atStart => exact ⟨_, by omega, by omega, g0, rfl⟩
  case round =>
    obtain ⟨y, hy1, hy2, hy3, rfl⟩ := hrel
    clear g0
    by_cases hc : y < 2999 ∧ Cal.yb (y + 1) ≤ n
    · obtain ⟨hlt, hd⟩ := hc
      go_wp2_with (go_at_call 115; refine (begin_any _ _ (by omega) (by omega)).mono ?_; rintro e w' ⟨rfl, rfl⟩)
      go_round
      case rel => exact ⟨y + 1, by omega, by omega, hd, rfl⟩
      case measure => simp [intOf]; omega
    · have hz : n < Cal.yb (y + 1) := by
        by_cases e : y = 2999
        · have := Cal.yb_last; rw [e]; show _ < Cal.yb 3000; omega
        · omega
      clear hc
      by_cases hlt : y < 2999
      all_goals
        go_wp2_with (go_at_call 115; refine (begin_any _ _ (by omega) (by omega)).mono ?_; rintro e w' ⟨rfl, rfl⟩)
        go_ret
        exact ⟨⟨y, rfl, hy1, hy2, hy3, hz⟩, rfl⟩

theorem civil_no (n : Int) (w : World) (h : n < 0 ∨ 401767 ≤ n) :
    Calls Tryz.prog 71 #[.int .i64 n] w fun e w' => e = .returned (.tuple #[.int .i64 0, .int .i64 0, .int .i64 0, .int .i64 1]) ∧ w' = w := by
  rcases h with h | h
  · go_enter Tryz.func71, Tryz.ntmps71
    go_wp2
    refine bodyPost_ret (results_four rfl _ _ _) rfl ?_
    exact ⟨rfl, rfl⟩
  · have h' : ¬ n < 0 := by omega
    go_enter Tryz.func71, Tryz.ntmps71
    go_wp2
    refine bodyPost_ret (results_four rfl _ _ _) rfl ?_
    exact ⟨rfl, rfl⟩

set_option maxHeartbeats 400000 in
theorem civil_yes (n : Int) (w : World) (h0 : 0 ≤ n) (h1 : n < 401767) :
    Calls Tryz.prog 71 #[.int .i64 n] w fun e w' => (∃ y m : Int, e = .returned (.tuple #[.int .i64 y, .int .i64 m, .int .i64 (n - Cal.yb y - Cal.cum y m + 1), .int .i64 0]) ∧ Cal.In y m n) ∧ w' = w := by
  go_enter Tryz.func71, Tryz.ntmps71
  go_wp2_with fail
  refine (year_any n _ h0 h1).mono ?_
  rintro e w' ⟨⟨y, rfl, hy1, hy2, hy3, hy4⟩, rfl⟩
  have yb0 := Cal.yb_bd y hy1 (by omega)
  have ys := Cal.yb_succ y
  have l01 := Cal.lp_01 y
  have HS : Hid (Cal.yb (y + 1) = Cal.yb y + 365 + Cal.lp y) := ys
  have hw : n - Cal.yb y < 366 := by omega
  clear ys
  go_wp2_with (go_at_call 115; refine (begin_any _ _ (by omega) (by omega)).mono ?_; rintro e w' ⟨rfl, rfl⟩)
  go_loop [7, 8] (fun r k => ∃ m : Int, 1 ≤ m ∧ m ≤ 12 ∧ k = .int .i64 m ∧ 0 ≤ n - Cal.yb y - Cal.cum y m ∧ r = .int .i64 (n - Cal.yb y - Cal.cum y m)) (fun _ k => (12 - intOf k).toNat)
  case atStart => exact ⟨1, by omega, by omega, rfl, by rw [Cal.cum_one]; omega, by rw [Cal.cum_one]; simp⟩
  case round =>
    obtain ⟨m, hm1, hm2, rfl, hr, rfl⟩ := hrel
    have cb := Cal.cum_bd y m hm1 (by omega)
    have db := Cal.dim_bd y m
    have cs := Cal.cum_succ y m hm1 hm2
    by_cases hc : m < 12 ∧ Cal.dim y m ≤ n - Cal.yb y - Cal.cum y m
    · obtain ⟨hm, hd⟩ := hc
      have HC : Hid (Cal.cum y (m + 1) = Cal.cum y m + Cal.dim y m) := cs
      clear cs
      go_wp2_with (go_at_call 114; refine (dim_any _ _ _ (by omega)).mono ?_; rintro e w' ⟨rfl, rfl⟩)
      go_round
      case rel => exact ⟨m + 1, by omega, by omega, rfl, by rw [HC.out]; omega, by rw [HC.out]; go_num⟩
      case measure => simp [intOf]; omega
    · have hv : n - Cal.yb y - Cal.cum y m < Cal.dim y m := by
        by_cases e : m = 12
        · subst e; have h13 : Cal.cum y (12 + 1) = 365 + Cal.lp y := Cal.cum_end y; have := HS.out; omega
        · omega
      clear hc cs
      by_cases hm : m < 12
      all_goals
        go_wp2_with (go_at_call 114; refine (dim_any _ _ _ (by omega)).mono ?_; rintro e w' ⟨rfl, rfl⟩)
        refine bodyPost_ret (results_four rfl _ _ _) rfl ?_
        exact ⟨⟨y, m, rfl, ⟨hy1, hy2, hm1, hm2, by omega, by omega⟩⟩, rfl⟩

end Go.Proofs.YtmmkhodaljpjgaaGreatDoor

namespace Go.Proofs.YtmmkhodaljpjgaaGreatDoor
open Go.RowKit

theorem smear_civil_no (n : Int) (w : World) (h : n < 0 ∨ 401767 ≤ n) :
    Calls Tryz.prog 35 #[.int .i64 n] w fun e w' => e = .returned (.tuple #[.int .i64 0, .int .i64 0, .int .i64 0, .int .i64 1]) ∧ w' = w := by
  go_enter Tryz.func35, Tryz.ntmps35
  go_wp2_with (go_at_call 71; refine (civil_no _ _ h).mono ?_; rintro e w' ⟨rfl, rfl⟩)
  refine bodyPost_ret (results_four rfl _ _ _) rfl ?_
  exact ⟨rfl, rfl⟩

theorem smear_civil_yes (n : Int) (w : World) (h0 : 0 ≤ n) (h1 : n < 401767) :
    Calls Tryz.prog 35 #[.int .i64 n] w fun e w' => (∃ y m : Int, e = .returned (.tuple #[.int .i64 y, .int .i64 m, .int .i64 (n - Cal.yb y - Cal.cum y m + 1), .int .i64 0]) ∧ Cal.In y m n) ∧ w' = w := by
  go_enter Tryz.func35, Tryz.ntmps35
  go_wp2_with (go_at_call 71; refine (civil_yes _ _ h0 h1).mono ?_; rintro e w' ⟨⟨y, m, rfl, hin⟩, rfl⟩)
  refine bodyPost_ret (results_four rfl _ _ _) rfl ?_
  exact ⟨⟨y, m, rfl, hin⟩, rfl⟩

end Go.Proofs.YtmmkhodaljpjgaaGreatDoor
