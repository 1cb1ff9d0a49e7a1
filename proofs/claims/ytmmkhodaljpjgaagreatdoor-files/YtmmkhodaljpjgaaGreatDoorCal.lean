
/-! The calendar in plain integers. -/
namespace Go.Proofs.YtmmkhodaljpjgaaGreatDoor.Cal

/-- One in a leap year, else nought. -/
def lp (y : Int) : Int := if y % 4 = 0 ∧ (y % 100 ≠ 0 ∨ y % 400 = 0) then 1 else 0

/-- The number of the first day of a year. -/
def yb (y : Int) : Int := 365 * (y - 1900) + ((y - 1) / 4 - (y - 1) / 100 + (y - 1) / 400) - 460

/-- The days of a month. -/
def dim (y m : Int) : Int := if m = 2 then 28 + lp y else if m = 4 ∨ m = 6 ∨ m = 9 ∨ m = 11 then 30 else 31

/-- The days ahead of a month, in its year. -/
def cum (y m : Int) : Int :=
  if m ≤ 1 then 0 else if m = 2 then 31 else if m = 3 then 59 + lp y else if m = 4 then 90 + lp y else if m = 5 then 120 + lp y
  else if m = 6 then 151 + lp y else if m = 7 then 181 + lp y else if m = 8 then 212 + lp y else if m = 9 then 243 + lp y
  else if m = 10 then 273 + lp y else if m = 11 then 304 + lp y else if m = 12 then 334 + lp y else 365 + lp y

theorem lp_01 (y : Int) : 0 ≤ lp y ∧ lp y ≤ 1 := by unfold lp; split <;> omega

theorem yb_succ (y : Int) : yb (y + 1) = yb y + 365 + lp y := by
  unfold yb lp; split <;> omega

theorem yb_first : yb 1900 = 0 := by decide
theorem yb_last : yb 3000 = 401767 := by decide

theorem yb_mono (a b : Int) (h : a ≤ b) : yb a ≤ yb b := by unfold yb; omega
theorem yb_grow (a b : Int) (h : a < b) : yb a + 365 ≤ yb b := by unfold yb; omega

theorem yb_bd (y : Int) (h0 : 1900 ≤ y) (h : y ≤ 3000) : 0 ≤ yb y ∧ yb y ≤ 401767 := by
  have a := yb_mono 1900 y h0
  have b := yb_mono y 3000 h
  rw [yb_first] at a; rw [yb_last] at b; exact ⟨a, b⟩

/-- The guess is never too late. -/
theorem yb_guess (n : Int) (h0 : 0 ≤ n) : yb (1900 + n / 366) ≤ n := by unfold yb; omega

theorem dim_bd (y m : Int) : 28 ≤ dim y m ∧ dim y m ≤ 31 := by
  have := lp_01 y
  unfold dim; split
  · omega
  · split <;> omega

theorem months (m : Int) (h1 : 1 ≤ m) (h2 : m ≤ 12) : m = 1 ∨ m = 2 ∨ m = 3 ∨ m = 4 ∨ m = 5 ∨ m = 6 ∨ m = 7 ∨ m = 8 ∨ m = 9 ∨ m = 10 ∨ m = 11 ∨ m = 12 := by omega

theorem cum_one (y : Int) : cum y 1 = 0 := by unfold cum; rfl
theorem cum_end (y : Int) : cum y 13 = 365 + lp y := by unfold cum; simp

theorem cum_succ (y m : Int) (h1 : 1 ≤ m) (h2 : m ≤ 12) : cum y (m + 1) = cum y m + dim y m := by
  rcases months m h1 h2 with rfl | rfl | rfl | rfl | rfl | rfl | rfl | rfl | rfl | rfl | rfl | rfl <;> simp [cum, dim] <;> omega

theorem cum_mono (y a b : Int) (h : a ≤ b) : cum y a ≤ cum y b := by
  have := lp_01 y
  unfold cum
  repeat' split
  all_goals omega

theorem cum_bd (y m : Int) (h1 : 1 ≤ m) (h2 : m ≤ 13) : 0 ≤ cum y m ∧ cum y m ≤ 366 := by
  have a := cum_mono y 1 m h1
  have b := cum_mono y m 13 h2
  have c := lp_01 y
  rw [cum_one] at a; rw [cum_end] at b
  omega

/-- The day n lies in the month m of the year y. -/
structure In (y m n : Int) : Prop where
  y1 : 1900 ≤ y
  y2 : y ≤ 2999
  m1 : 1 ≤ m
  m2 : m ≤ 12
  lo : yb y + cum y m ≤ n
  hi : n < yb y + cum y m + dim y m

theorem In.year {y m n : Int} (h : In y m n) : yb y ≤ n ∧ n < yb (y + 1) := by
  have a := cum_bd y m h.m1 (by have := h.m2; omega)
  have b := cum_succ y m h.m1 h.m2
  have c := cum_mono y (m + 1) 13 (by have := h.m2; omega)
  have d := cum_end y
  have e := yb_succ y
  have := h.lo
  have := h.hi
  omega

theorem In.only {y m z o n : Int} (a : In y m n) (b : In z o n) : y = z ∧ m = o := by
  have ay := a.year
  have by' := b.year
  have hy : y = z := by
    rcases Int.lt_trichotomy y z with h | h | h
    · have := yb_mono (y + 1) z h; omega
    · exact h
    · have := yb_mono (z + 1) y h; omega
  subst hy
  refine ⟨rfl, ?_⟩
  have al := a.lo
  have ah := a.hi
  have bl := b.lo
  have bh := b.hi
  have a1 := a.m1
  have a2 := a.m2
  have b1 := b.m1
  have b2 := b.m2
  have sa := cum_succ y m a1 a2
  have sb := cum_succ y o b1 b2
  rcases Int.lt_trichotomy m o with h | h | h
  · have := cum_mono y (m + 1) o h; omega
  · exact h
  · have := cum_mono y (o + 1) m h; omega

/-- The next day is the next of the month, or the first of the next month. -/
theorem In.next {y m z o n : Int} (a : In y m n) (b : In z o (n + 1)) :
    (z = y ∧ o = m ∧ n + 1 < yb y + cum y m + dim y m) ∨
    (n + 1 - (yb z + cum z o) + 1 = 1 ∧ n - (yb y + cum y m) + 1 = dim y m ∧ ((z = y ∧ o = m + 1) ∨ (z = y + 1 ∧ o = 1 ∧ m = 12))) := by
  have al := a.lo
  have ah := a.hi
  have s := cum_succ y m a.m1 a.m2
  have a1 := a.m1
  have a2 := a.m2
  by_cases h : n + 1 < yb y + cum y m + dim y m
  · have c : In y m (n + 1) := ⟨a.y1, a.y2, a.m1, a.m2, by omega, h⟩
    have d := b.only c
    exact .inl ⟨d.1, d.2, h⟩
  · right
    by_cases hm : m = 12
    · subst hm
      have e := yb_succ y
      have f : cum y (12 + 1) = 365 + lp y := cum_end y
      have g := b.year
      have y3 : y + 1 ≤ 2999 := by
        have hz := b.y2
        by_cases q : y + 1 ≤ 2999
        · exact q
        · have r : z + 1 ≤ y + 1 := by have := a.y2; omega
          have := yb_mono (z + 1) (y + 1) r
          omega
      have c : In (y + 1) 1 (n + 1) := ⟨by have := a.y1; omega, y3, by omega, by omega, by rw [cum_one]; omega, by have := dim_bd (y + 1) 1; rw [cum_one]; omega⟩
      have d := b.only c
      obtain ⟨rfl, rfl⟩ := d
      refine ⟨?_, by omega, .inr ⟨rfl, rfl, rfl⟩⟩
      rw [cum_one]; omega
    · have c : In y (m + 1) (n + 1) := ⟨a.y1, a.y2, by omega, by omega, by omega, by have := dim_bd y (m + 1); omega⟩
      have d := b.only c
      obtain ⟨rfl, rfl⟩ := d
      refine ⟨by omega, by omega, .inl ⟨rfl, rfl⟩⟩

end Go.Proofs.YtmmkhodaljpjgaaGreatDoor.Cal
