import Derived.Test.YtmmkhodaljpjgaaGreatDoorMem
import Derived.Test.YtmmkhodaljpjgaaGreatDoorCivs
import Derived.Test.YtmmkhodaljpjgaaGreatDoorDay
/-! The document's calendar: days are counted one by one. -/
namespace Go.Proofs.YtmmkhodaljpjgaaGreatDoor
open Go.RowKit

/-- The walk's form of the reference's test on a year. -/
theorem long_yes (y : Int) (w : World) (h0 : 0 ≤ y) (h : Cal.lp y = 1) :
    Calls Tryz.prog 116 #[.int .i64 y] w fun e w' => e = .returned (.bool true) ∧ w' = w := by
  have h4 : y % 4 = 0 := by unfold Cal.lp at h; split at h <;> omega
  have hr : ¬ y % 100 = 0 ∨ y % 400 = 0 := by unfold Cal.lp at h; split at h <;> omega
  clear h
  by_cases c : y % 100 = 0
  · have d : y % 400 = 0 := by omega
    clear hr
    go_enter Tryz.func116, Tryz.ntmps116
    go_wp2
    go_ret
    exact ⟨rfl, rfl⟩
  · clear hr
    go_enter Tryz.func116, Tryz.ntmps116
    go_wp2
    go_ret
    exact ⟨rfl, rfl⟩

theorem long_no (y : Int) (w : World) (h0 : 0 ≤ y) (h : Cal.lp y = 0) :
    Calls Tryz.prog 116 #[.int .i64 y] w fun e w' => e = .returned (.bool false) ∧ w' = w := by
  have hr : ¬ y % 4 = 0 ∨ (y % 100 = 0 ∧ ¬ y % 400 = 0) := by unfold Cal.lp at h; split at h <;> omega
  clear h
  by_cases c : y % 4 = 0
  · have d : y % 100 = 0 := by omega
    have f : (y % 400 == 0) = false := by rw [beq_eq_false_iff_ne]; omega
    clear hr
    go_enter Tryz.func116, Tryz.ntmps116
    go_wp2
    go_ret
    exact ⟨rfl, rfl⟩
  · have f : (y % 400 == 0) = false := by rw [beq_eq_false_iff_ne]; omega
    clear hr
    go_enter Tryz.func116, Tryz.ntmps116
    go_wp2
    go_ret
    exact ⟨rfl, rfl⟩

theorem year_len (y : Int) (w : World) (h0 : 0 ≤ y) :
    Calls Tryz.prog 70 #[.int .i64 y] w fun e w' => e = .returned (.int .i64 (365 + Cal.lp y)) ∧ w' = w := by
  by_cases hl : Cal.lp y = 1
  · have H : Hid (365 + Cal.lp y = 366) := by show _ = _; omega
    go_enter Tryz.func70, Tryz.ntmps70
    go_wp2_with (go_at_call 116; refine (long_yes _ _ h0 hl).mono ?_; rintro e w' ⟨rfl, rfl⟩)
    go_ret
    exact ⟨ret_int H.out.symm, rfl⟩
  · have hz : Cal.lp y = 0 := by have := Cal.lp_01 y; omega
    have H : Hid (365 + Cal.lp y = 365) := by show _ = _; omega
    go_enter Tryz.func70, Tryz.ntmps70
    go_wp2_with (go_at_call 116; refine (long_no _ _ h0 hz).mono ?_; rintro e w' ⟨rfl, rfl⟩)
    go_ret
    exact ⟨ret_int H.out.symm, rfl⟩

theorem month_len (y m : Int) (w : World) (h0 : 0 ≤ y) :
    Calls Tryz.prog 69 #[.int .i64 y, .int .i64 m] w fun e w' => e = .returned (.int .i64 (Cal.dim y m)) ∧ w' = w := by
  by_cases hl : Cal.lp y = 1
  · by_cases h2 : m = 2
    · subst h2
      have H : Hid (Cal.dim y 2 = 29) := by show _ = _; unfold Cal.dim; rw [if_pos rfl]; omega
      go_enter Tryz.func69, Tryz.ntmps69
      go_wp2_with (go_at_call 116; refine (long_yes _ _ h0 hl).mono ?_; rintro e w' ⟨rfl, rfl⟩)
      go_ret
      exact ⟨ret_int H.out.symm, rfl⟩
    · by_cases h3 : m = 4 ∨ m = 6 ∨ m = 9 ∨ m = 11
      · rcases h3 with rfl | rfl | rfl | rfl
        all_goals
          go_enter Tryz.func69, Tryz.ntmps69
          go_wp2_with (go_at_call 116; refine (long_yes _ _ h0 hl).mono ?_; rintro e w' ⟨rfl, rfl⟩)
          go_ret
          exact ⟨rfl, rfl⟩
      · have H : Hid (Cal.dim y m = 31) := by show _ = _; unfold Cal.dim; rw [if_neg h2, if_neg h3]
        have a2 : (m == 2) = false := by rw [beq_eq_false_iff_ne]; omega
        have a4 : (m == 4) = false := by rw [beq_eq_false_iff_ne]; omega
        have a6 : (m == 6) = false := by rw [beq_eq_false_iff_ne]; omega
        have a9 : (m == 9) = false := by rw [beq_eq_false_iff_ne]; omega
        have a11 : (m == 11) = false := by rw [beq_eq_false_iff_ne]; omega
        clear h3 h2
        go_enter Tryz.func69, Tryz.ntmps69
        go_wp2_with (go_at_call 116; refine (long_yes _ _ h0 hl).mono ?_; rintro e w' ⟨rfl, rfl⟩)
        go_ret
        exact ⟨ret_int H.out.symm, rfl⟩
  · have hz : Cal.lp y = 0 := by have := Cal.lp_01 y; omega
    by_cases h2 : m = 2
    · subst h2
      have H : Hid (Cal.dim y 2 = 28) := by show _ = _; unfold Cal.dim; rw [if_pos rfl]; omega
      go_enter Tryz.func69, Tryz.ntmps69
      go_wp2_with (go_at_call 116; refine (long_no _ _ h0 hz).mono ?_; rintro e w' ⟨rfl, rfl⟩)
      go_ret
      exact ⟨ret_int H.out.symm, rfl⟩
    · by_cases h3 : m = 4 ∨ m = 6 ∨ m = 9 ∨ m = 11
      · rcases h3 with rfl | rfl | rfl | rfl
        all_goals
          go_enter Tryz.func69, Tryz.ntmps69
          go_wp2_with (go_at_call 116; refine (long_no _ _ h0 hz).mono ?_; rintro e w' ⟨rfl, rfl⟩)
          go_ret
          exact ⟨rfl, rfl⟩
      · have H : Hid (Cal.dim y m = 31) := by show _ = _; unfold Cal.dim; rw [if_neg h2, if_neg h3]
        have a2 : (m == 2) = false := by rw [beq_eq_false_iff_ne]; omega
        have a4 : (m == 4) = false := by rw [beq_eq_false_iff_ne]; omega
        have a6 : (m == 6) = false := by rw [beq_eq_false_iff_ne]; omega
        have a9 : (m == 9) = false := by rw [beq_eq_false_iff_ne]; omega
        have a11 : (m == 11) = false := by rw [beq_eq_false_iff_ne]; omega
        clear h3 h2
        go_enter Tryz.func69, Tryz.ntmps69
        go_wp2_with (go_at_call 116; refine (long_no _ _ h0 hz).mono ?_; rintro e w' ⟨rfl, rfl⟩)
        go_ret
        exact ⟨ret_int H.out.symm, rfl⟩

end Go.Proofs.YtmmkhodaljpjgaaGreatDoor

namespace Go.Proofs.YtmmkhodaljpjgaaGreatDoor
open Go.RowKit

theorem ref_day_no (y m d : Int) (w : World) (h : NoDate y m d) :
    Calls Tryz.prog 33 #[.int .i64 y, .int .i64 m, .int .i64 d] w fun e w' => e = .returned (.tuple #[.int .i64 0, .int .i64 1]) ∧ w' = w := by
  unfold NoDate at h
  by_cases c1 : y < 1900
  · clear h
    go_enter Tryz.func33, Tryz.ntmps33
    go_wp2
    go_ret2
    exact ⟨rfl, rfl⟩
  by_cases c2 : 2999 < y
  · clear h
    go_enter Tryz.func33, Tryz.ntmps33
    go_wp2
    go_ret2
    exact ⟨rfl, rfl⟩
  by_cases c3 : m < 1
  · clear h
    go_enter Tryz.func33, Tryz.ntmps33
    go_wp2
    go_ret2
    exact ⟨rfl, rfl⟩
  by_cases c4 : 12 < m
  · clear h
    go_enter Tryz.func33, Tryz.ntmps33
    go_wp2
    go_ret2
    exact ⟨rfl, rfl⟩
  by_cases c5 : d < 1
  · clear h
    go_enter Tryz.func33, Tryz.ntmps33
    go_wp2
    go_ret2
    exact ⟨rfl, rfl⟩
  · have c6 : Cal.dim y m < d := by omega
    clear h
    go_enter Tryz.func33, Tryz.ntmps33
    go_wp2_with (go_at_call 69; refine (month_len _ _ _ (by omega)).mono ?_; rintro e w' ⟨rfl, rfl⟩)
    go_ret2
    exact ⟨rfl, rfl⟩

set_option maxHeartbeats 400000 in
theorem ref_day_yes (y m d : Int) (w : World) (hy1 : 1900 ≤ y) (hy2 : y ≤ 2999) (hm1 : 1 ≤ m) (hm2 : m ≤ 12) (hd1 : 1 ≤ d) (hd2 : d ≤ Cal.dim y m) :
    Calls Tryz.prog 33 #[.int .i64 y, .int .i64 m, .int .i64 d] w fun e w' => e = .returned (.tuple #[.int .i64 (Cal.yb y + Cal.cum y m + d - 1), .int .i64 0]) ∧ w' = w := by
  have db := Cal.dim_bd y m
  go_enter Tryz.func33, Tryz.ntmps33
  go_wp2_with (go_at_call 69; refine (month_len _ _ _ (by omega)).mono ?_; rintro e w' ⟨rfl, rfl⟩)
  go_loop [8, 9] (fun s k => ∃ q : Int, 1900 ≤ q ∧ q ≤ y ∧ k = .int .i64 q ∧ s = .int .i64 (d - 1 + Cal.yb q)) (fun _ k => (3000 - intOf k).toNat)
  case atStart => exact ⟨1900, by omega, hy1, rfl, by rw [Cal.yb_first]; simp⟩
  case round =>
    obtain ⟨q, hq1, hq2, rfl, rfl⟩ := hrel
    have qb := Cal.yb_bd q hq1 (by omega)
    have l01 := Cal.lp_01 q
    have HS : Hid (Cal.yb (q + 1) = Cal.yb q + 365 + Cal.lp q) := Cal.yb_succ q
    by_cases hlt : q < y
    · go_wp2_with (go_at_call 70; refine (year_len _ _ (by omega)).mono ?_; rintro e w' ⟨rfl, rfl⟩)
      go_round
      case rel => exact ⟨q + 1, by omega, by omega, rfl, by rw [HS.out]; go_num⟩
      case measure => simp [intOf]; omega
    · have e : q = y := by omega
      subst e
      go_wp2
      go_loop [8, 10] (fun s k => ∃ r : Int, 1 ≤ r ∧ r ≤ m ∧ k = .int .i64 r ∧ s = .int .i64 (d - 1 + Cal.yb q + Cal.cum q r)) (fun _ k => (12 - intOf k).toNat)
      case atStart => exact ⟨1, by omega, by omega, rfl, by rw [Cal.cum_one]; simp⟩
      case round =>
        obtain ⟨r, hr1, hr2, rfl, rfl⟩ := hrel
        have cb := Cal.cum_bd q r hr1 (by omega)
        have dq := Cal.dim_bd q r
        have HC : Hid (Cal.cum q (r + 1) = Cal.cum q r + Cal.dim q r) := Cal.cum_succ q r hr1 (by omega)
        by_cases hltr : r < m
        · go_wp2_with (go_at_call 69; refine (month_len _ _ _ (by omega)).mono ?_; rintro e w' ⟨rfl, rfl⟩)
          go_round
          case rel => exact ⟨r + 1, by omega, by omega, rfl, by rw [HC.out]; go_num⟩
          case measure => simp [intOf]; omega
        · have e : r = m := by omega
          subst e
          have HV : Hid (Cal.yb q + Cal.cum q r + d - 1 = d - 1 + Cal.yb q + Cal.cum q r) := by show _ = _; omega
          go_wp2
          go_ret2
          exact ⟨by rw [HV.out]; rfl, rfl⟩

theorem ref_civil_no (n : Int) (w : World) (h : n < 0 ∨ 401767 ≤ n) :
    Calls Tryz.prog 36 #[.int .i64 n] w fun e w' => e = .returned (.tuple #[.int .i64 0, .int .i64 0, .int .i64 0, .int .i64 1]) ∧ w' = w := by
  rcases h with h | h
  · go_enter Tryz.func36, Tryz.ntmps36
    go_wp2
    refine bodyPost_ret (results_four rfl _ _ _) rfl ?_
    exact ⟨rfl, rfl⟩
  · have h' : ¬ n < 0 := by omega
    go_enter Tryz.func36, Tryz.ntmps36
    go_wp2
    refine bodyPost_ret (results_four rfl _ _ _) rfl ?_
    exact ⟨rfl, rfl⟩

set_option maxHeartbeats 400000 in
theorem ref_civil_yes (n : Int) (w : World) (h0 : 0 ≤ n) (h1 : n < 401767) :
    Calls Tryz.prog 36 #[.int .i64 n] w fun e w' => (∃ y m : Int, e = .returned (.tuple #[.int .i64 y, .int .i64 m, .int .i64 (n - Cal.yb y - Cal.cum y m + 1), .int .i64 0]) ∧ Cal.In y m n) ∧ w' = w := by
  go_enter Tryz.func36, Tryz.ntmps36
  go_wp2
  go_loop [0, 6] (fun r k => ∃ y : Int, 1900 ≤ y ∧ y ≤ 2999 ∧ Cal.yb y ≤ n ∧ k = .int .i64 y ∧ r = .int .i64 (n - Cal.yb y)) (fun _ k => (2999 - intOf k).toNat)
  case atStart => exact ⟨1900, by omega, by omega, by rw [Cal.yb_first]; exact h0, rfl, by rw [Cal.yb_first]; simp⟩
  case round =>
    obtain ⟨y, hy1, hy2, hy3, rfl, rfl⟩ := hrel
    have qb := Cal.yb_bd y hy1 (by omega)
    have l01 := Cal.lp_01 y
    have ys := Cal.yb_succ y
    by_cases hc : 365 + Cal.lp y ≤ n - Cal.yb y
    · have y3 : y < 2999 := by
        by_cases e : y = 2999
        · have h3 := Cal.yb_last
          rw [e] at ys
          have : Cal.yb (2999 + 1) = Cal.yb 3000 := rfl
          rw [e] at hc
          omega
        · omega
      have hle : Cal.yb (y + 1) ≤ n := by omega
      have HS : Hid (n - Cal.yb (y + 1) = n - Cal.yb y - (365 + Cal.lp y)) := by show _ = _; omega
      clear ys
      go_wp2_with (go_at_call 70; refine (year_len _ _ (by omega)).mono ?_; rintro e w' ⟨rfl, rfl⟩)
      go_round
      case rel => exact ⟨y + 1, by omega, by omega, hle, rfl, by rw [HS.out]⟩
      case measure => simp [intOf]; omega
    · have HS : Hid (Cal.yb (y + 1) = Cal.yb y + 365 + Cal.lp y) := ys
      clear ys
      go_wp2_with (go_at_call 70; refine (year_len _ _ (by omega)).mono ?_; rintro e w' ⟨rfl, rfl⟩)
      go_loop [0, 7] (fun r k => ∃ m : Int, 1 ≤ m ∧ m ≤ 12 ∧ k = .int .i64 m ∧ 0 ≤ n - Cal.yb y - Cal.cum y m ∧ r = .int .i64 (n - Cal.yb y - Cal.cum y m)) (fun _ k => (12 - intOf k).toNat)
      case atStart => exact ⟨1, by omega, by omega, rfl, by rw [Cal.cum_one]; omega, by rw [Cal.cum_one]; simp⟩
      case round =>
        obtain ⟨m, hm1, hm2, rfl, hr, rfl⟩ := hrel
        have cb := Cal.cum_bd y m hm1 (by omega)
        have db := Cal.dim_bd y m
        have cs := Cal.cum_succ y m hm1 hm2
        by_cases hd : Cal.dim y m ≤ n - Cal.yb y - Cal.cum y m
        · have hm : m < 12 := by
            by_cases e : m = 12
            · subst e; have h13 : Cal.cum y (12 + 1) = 365 + Cal.lp y := Cal.cum_end y; omega
            · omega
          have HC : Hid (Cal.cum y (m + 1) = Cal.cum y m + Cal.dim y m) := cs
          clear cs
          go_wp2_with (go_at_call 69; refine (month_len _ _ _ (by omega)).mono ?_; rintro e w' ⟨rfl, rfl⟩)
          go_round
          case rel => exact ⟨m + 1, by omega, by omega, rfl, by rw [HC.out]; omega, by rw [HC.out]; go_num⟩
          case measure => simp [intOf]; omega
        · clear cs
          go_wp2_with (go_at_call 69; refine (month_len _ _ _ (by omega)).mono ?_; rintro e w' ⟨rfl, rfl⟩)
          refine bodyPost_ret (results_four rfl _ _ _) rfl ?_
          exact ⟨⟨y, m, rfl, ⟨hy1, hy2, hm1, hm2, by omega, by omega⟩⟩, rfl⟩

theorem num_any (n : Int) (w : World) :
    Calls Tryz.prog 34 #[.int .i64 n] w fun e w' => e = .returned (.int .i64 n) ∧ w' = w := by
  go_enter Tryz.func34, Tryz.ntmps34
  go_wp2
  go_ret
  exact ⟨rfl, rfl⟩

end Go.Proofs.YtmmkhodaljpjgaaGreatDoor

namespace Go.Proofs.YtmmkhodaljpjgaaGreatDoor
open Go.RowKit

/-- A step as a value. -/
structure Op where
  kind : Int
  x : Int
  a : Int
  b : Int
  c : Int
  d : Int
  s : ByteArray

def Op.cells (o : Op) : Array Value := #[.int .i64 o.kind, .int .i64 o.x, .int .i64 o.a, .int .i64 o.b, .int .i64 o.c, .int .i64 o.d, .string o.s]

theorem date_or (y m d : Int) : NoDate y m d ∨ (1900 ≤ y ∧ y ≤ 2999 ∧ 1 ≤ m ∧ m ≤ 12 ∧ 1 ≤ d ∧ d ≤ Cal.dim y m) := by
  unfold NoDate; omega

theorem dated_day (k x a b c d : Int) (s : ByteArray) (w : World) (hk : k = 7) :
    Calls Tryz.prog 21 #[.agg #[.int .i64 k, .int .i64 x, .int .i64 a, .int .i64 b, .int .i64 c, .int .i64 d, .string s]] w fun e w' => e = .returned (.bool true) ∧ Below w.heap.size w w' := by
  subst hk
  rcases date_or a b c with h | ⟨h1, h2, h3, h4, h5, h6⟩
  · have H := hid' h
    clear h
    go_enter Tryz.func21, Tryz.ntmps21
    go_wp2_with fail
    refine (smear_day_no a b c _ H.out).mono ?_
    rintro e w' ⟨rfl, rfl⟩
    go_wp2_with fail
    refine (ref_day_no a b c _ H.out).mono ?_
    rintro e w' ⟨rfl, rfl⟩
    go_wp2_with (go_at_call 34; refine (num_any _ _).mono ?_; rintro e w' ⟨rfl, rfl⟩)
    go_ret
    exact ⟨rfl, (Below.refl _ _).alloc (Nat.le_refl _) _⟩
  · go_enter Tryz.func21, Tryz.ntmps21
    go_wp2_with fail
    refine (smear_day_yes a b c _ h1 h2 h3 h4 h5 h6).mono ?_
    rintro e w' ⟨rfl, rfl⟩
    go_wp2_with fail
    refine (ref_day_yes a b c _ h1 h2 h3 h4 h5 h6).mono ?_
    rintro e w' ⟨rfl, rfl⟩
    generalize Cal.yb a + Cal.cum a b + c - 1 = v
    have hv : (v == v) = true := by simp
    go_wp2_with (go_at_call 34; refine (num_any _ _).mono ?_; rintro e w' ⟨rfl, rfl⟩)
    go_ret
    exact ⟨rfl, (Below.refl _ _).alloc (Nat.le_refl _) _⟩

theorem dated_civil (k x a b c d : Int) (s : ByteArray) (w : World) (hk : k ≠ 7) :
    Calls Tryz.prog 21 #[.agg #[.int .i64 k, .int .i64 x, .int .i64 a, .int .i64 b, .int .i64 c, .int .i64 d, .string s]] w fun e w' => e = .returned (.bool true) ∧ Below w.heap.size w w' := by
  have hk7 : (k == 7) = false := by rw [beq_eq_false_iff_ne]; exact hk
  clear hk
  by_cases h : a < 0 ∨ 401767 ≤ a
  · have H := hid' h
    clear h
    go_enter Tryz.func21, Tryz.ntmps21
    go_wp2_with fail
    refine (smear_civil_no a _ H.out).mono ?_
    rintro e w' ⟨rfl, rfl⟩
    go_wp2_with fail
    refine (ref_civil_no a _ H.out).mono ?_
    rintro e w' ⟨rfl, rfl⟩
    go_wp2_with (go_at_call 34; refine (num_any _ _).mono ?_; rintro e w' ⟨rfl, rfl⟩)
    go_ret
    exact ⟨rfl, (Below.refl _ _).alloc (Nat.le_refl _) _⟩
  · have h0 : 0 ≤ a := by omega
    have h1 : a < 401767 := by omega
    clear h
    go_enter Tryz.func21, Tryz.ntmps21
    go_wp2_with fail
    refine (smear_civil_yes a _ h0 h1).mono ?_
    rintro e w' ⟨⟨y, m, rfl, hin⟩, rfl⟩
    have HI := hid' hin
    clear hin
    go_wp2_with fail
    refine (ref_civil_yes a _ h0 h1).mono ?_
    rintro e w' ⟨⟨z, o, rfl, hin⟩, rfl⟩
    obtain ⟨rfl, rfl⟩ := HI.out.only hin
    clear hin HI
    generalize a - Cal.yb y - Cal.cum y m + 1 = v
    have hv : (v == v) = true := by simp
    have hy : (y == y) = true := by simp
    have hm : (m == m) = true := by simp
    go_wp2_with (go_at_call 34; refine (num_any _ _).mono ?_; rintro e w' ⟨rfl, rfl⟩)
    go_ret
    exact ⟨rfl, (Below.refl _ _).alloc (Nat.le_refl _) _⟩

theorem dated_any (o : Op) (w : World) :
    Calls Tryz.prog 21 #[.agg o.cells] w fun e w' => e = .returned (.bool true) ∧ Below w.heap.size w w' := by
  by_cases h : o.kind = 7
  · exact dated_day _ _ _ _ _ _ _ w h
  · exact dated_civil _ _ _ _ _ _ _ w h

end Go.Proofs.YtmmkhodaljpjgaaGreatDoor
