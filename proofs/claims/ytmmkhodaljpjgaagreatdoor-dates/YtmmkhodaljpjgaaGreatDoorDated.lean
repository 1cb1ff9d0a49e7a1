import Derived.Test.YtmmkhodaljpjgaaGreatDoorRefDay
namespace Go.Proofs.YtmmkhodaljpjgaaGreatDoor
open Go.RowKit

/-- A step as a value. -/
structure Op where
  kind : Int
  x : Int
  a : Int
  b : Int
  c : Int
  d : Int
  s : ByteArray

def Op.cells (o : Op) : Array Value := #[.int .i64 o.kind, .int .i64 o.x, .int .i64 o.a, .int .i64 o.b, .int .i64 o.c, .int .i64 o.d, .string o.s]

theorem date_or (y m d : Int) : NoDate y m d ∨ (1900 ≤ y ∧ y ≤ 2999 ∧ 1 ≤ m ∧ m ≤ 12 ∧ 1 ≤ d ∧ d ≤ Cal.dim y m) := by
  unfold NoDate; omega

theorem dated_day (k x a b c d : Int) (s : ByteArray) (w : World) (hk : k = 7) :
    Calls Tryz.prog 21 #[.agg #[.int .i64 k, .int .i64 x, .int .i64 a, .int .i64 b, .int .i64 c, .int .i64 d, .string s]] w fun e w' => e = .returned (.bool true) ∧ Below w.heap.size w w' := by
  subst hk
  rcases date_or a b c with h | ⟨h1, h2, h3, h4, h5, h6⟩
  · have H := hid' h
    clear h
    go_enter Tryz.func21, Tryz.ntmps21
    go_wp2_with fail
    refine (smear_day_no a b c _ H.out).mono ?_
    rintro e w' ⟨rfl, rfl⟩
    go_wp2_with fail
    refine (ref_day_no a b c _ H.out).mono ?_
    rintro e w' ⟨rfl, rfl⟩
    go_wp2_with (go_at_call 34; refine (num_any _ _).mono ?_; rintro e w' ⟨rfl, rfl⟩)
    go_ret
    exact ⟨rfl, (Below.refl _ _).alloc (Nat.le_refl _) _⟩
  · go_enter Tryz.func21, Tryz.ntmps21
    go_wp2_with fail
    refine (smear_day_yes a b c _ h1 h2 h3 h4 h5 h6).mono ?_
    rintro e w' ⟨rfl, rfl⟩
    go_wp2_with fail
    refine (ref_day_yes a b c _ h1 h2 h3 h4 h5 h6).mono ?_
    rintro e w' ⟨rfl, rfl⟩
    generalize Cal.yb a + Cal.cum a b + c - 1 = v
    have hv : (v == v) = true := by simp
    go_wp2_with (go_at_call 34; refine (num_any _ _).mono ?_; rintro e w' ⟨rfl, rfl⟩)
    go_ret
    exact ⟨rfl, (Below.refl _ _).alloc (Nat.le_refl _) _⟩

theorem dated_civil (k x a b c d : Int) (s : ByteArray) (w : World) (hk : k ≠ 7) :
    Calls Tryz.prog 21 #[.agg #[.int .i64 k, .int .i64 x, .int .i64 a, .int .i64 b, .int .i64 c, .int .i64 d, .string s]] w fun e w' => e = .returned (.bool true) ∧ Below w.heap.size w w' := by
  have hk7 : (k == 7) = false := by rw [beq_eq_false_iff_ne]; exact hk
  clear hk
  by_cases h : a < 0 ∨ 401767 ≤ a
  · have H := hid' h
    clear h
    go_enter Tryz.func21, Tryz.ntmps21
    go_wp2_with fail
    refine (smear_civil_no a _ H.out).mono ?_
    rintro e w' ⟨rfl, rfl⟩
    go_wp2_with fail
    refine (ref_civil_no a _ H.out).mono ?_
    rintro e w' ⟨rfl, rfl⟩
    go_wp2_with (go_at_call 34; refine (num_any _ _).mono ?_; rintro e w' ⟨rfl, rfl⟩)
    go_ret
    exact ⟨rfl, (Below.refl _ _).alloc (Nat.le_refl _) _⟩
  · have h0 : 0 ≤ a := by omega
    have h1 : a < 401767 := by omega
    clear h
    go_enter Tryz.func21, Tryz.ntmps21
    go_wp2_with fail
    refine (smear_civil_yes a _ h0 h1).mono ?_
    rintro e w' ⟨⟨y, m, rfl, hin⟩, rfl⟩
    have HI := hid' hin
    clear hin
    go_wp2_with fail
    refine (ref_civil_yes a _ h0 h1).mono ?_
    rintro e w' ⟨⟨z, o, rfl, hin⟩, rfl⟩
    obtain ⟨rfl, rfl⟩ := HI.out.only hin
    clear hin HI
    generalize a - Cal.yb y - Cal.cum y m + 1 = v
    have hv : (v == v) = true := by simp
    have hy : (y == y) = true := by simp
    have hm : (m == m) = true := by simp
    go_wp2_with (go_at_call 34; refine (num_any _ _).mono ?_; rintro e w' ⟨rfl, rfl⟩)
    go_ret
    exact ⟨rfl, (Below.refl _ _).alloc (Nat.le_refl _) _⟩

theorem dated_any (o : Op) (w : World) :
    Calls Tryz.prog 21 #[.agg o.cells] w fun e w' => e = .returned (.bool true) ∧ Below w.heap.size w w' := by
  by_cases h : o.kind = 7
  · exact dated_day _ _ _ _ _ _ _ w h
  · exact dated_civil _ _ _ _ _ _ _ w h

end Go.Proofs.YtmmkhodaljpjgaaGreatDoor
