import Derived.Test.YtmmkhodaljpjgaaDoorTabN
/-! A table out of raw numbers, in plain integers. -/
namespace Go.Proofs.YtmmkhodaljpjgaaDoor
open Go.RowKit

namespace Tab
/-- The second of UTC at which a month begins. -/
def mo (y m : Int) : Int := (Cal.yb y + Cal.cum y m) * 86400
theorem mo_first (y m : Int) (hy1 : 1900 ≤ y) (hy2 : y ≤ 2999) (hm1 : 1 ≤ m) (hm2 : m ≤ 12) : IsFirst (mo y m) := by
  have yb0 := Cal.yb_bd y hy1 (by omega)
  have cb := Cal.cum_bd y m hm1 (by omega)
  have db := Cal.dim_bd y m
  have e : mo y m / 86400 = Cal.yb y + Cal.cum y m := by unfold mo; omega
  refine ⟨by unfold mo; omega, by unfold mo; omega, y, m, ?_, e⟩
  rw [e]
  exact ⟨hy1, hy2, hm1, hm2, by omega, by omega⟩
theorem mo_lt (y m z o : Int) (hm1 : 1 ≤ m) (hm2 : m ≤ 12) (ho1 : 1 ≤ o) (ho2 : o ≤ 12) (h : y < z ∨ (y = z ∧ m < o)) : mo y m < mo z o := by
  have s := Cal.cum_succ y m hm1 hm2
  have db := Cal.dim_bd y m
  unfold mo
  rcases h with h | ⟨rfl, h⟩
  · have a := Cal.cum_mono y (m + 1) 13 (by omega)
    rw [Cal.cum_end] at a
    have b := Cal.yb_succ y
    have c := Cal.yb_mono (y + 1) z (by omega)
    have d := Cal.cum_bd z o ho1 (by omega)
    omega
  · have a := Cal.cum_mono y (m + 1) o (by omega)
    omega
theorem mo_bd (y m : Int) (hy1 : 1900 ≤ y) (hy2 : y ≤ 2040) (hm1 : 1 ≤ m) (hm2 : m ≤ 12) : 0 ≤ mo y m ∧ mo y m ≤ 5000000000 := by
  have a := Cal.yb_bd y hy1 (by omega)
  have b := Cal.yb_mono y 2040 hy2
  have c : Cal.yb 2040 = 51134 := by decide
  have d := Cal.cum_bd y m hm1 (by omega)
  unfold mo
  omega

theorem okUpTo_append (ls : List (Int × Int)) (x : Int × Int) (k : Nat) (hk : k ≤ ls.length) : okUpTo (ls ++ [x]) k = okUpTo ls k := by
  induction k with
  | zero => rfl
  | succ k ih =>
    rw [okUpTo_succ _ _ (by simp; omega), okUpTo_succ _ _ (by omega), ih (by omega), List.take_append_of_le_length (by omega), List.getElem_append_left (by omega)]
theorem okUpTo_grow (ls : List (Int × Int)) (a o : Int) (h : okUpTo ls ls.length = true) (hf : IsFirst a) (h0 : 0 ≤ o) (h1 : o ≤ 200) (hn : ls.length < 40)
    (hl : ∀ p, ls.getLast? = some p → p.1 < a ∧ (o = p.2 + 1 ∨ o = p.2 - 1)) : okUpTo (ls ++ [(a, o)]) (ls.length + 1) = true := by
  rw [okUpTo_succ _ _ (by simp), okUpTo_append _ _ _ (Nat.le_refl _), h]
  simp only [List.take_left, List.getElem_concat_length, Bool.true_and]
  cases hz : ls.length with
  | zero =>
    have : ls = [] := List.eq_nil_of_length_eq_zero hz
    subst this
    exact follows_nil (first_yes hf) h0 h1
  | succ q =>
    rw [follows_last (first_yes hf) h0 h1 (by omega) q hz]
    have hg : ls.getLast? = some (ls[q]'(by omega)) := by
      rw [List.getLast?_eq_getElem?, List.getElem?_eq_getElem (by omega)]
      congr 1
      simp [hz]
    have := hl _ hg
    unfold behindB
    simp only [Bool.and_eq_true, decide_eq_true_eq, Bool.or_eq_true, beq_iff_eq]
    exact this

/-- Behind k rounds: the year, the month and the offset to come, and the entries. -/
structure KS (n k : Nat) (y m o : Int) (ls : List (Int × Int)) : Prop where
  len : ls.length = k
  k12 : k ≤ 12
  kn : k ≤ n + 1
  y1 : 1960 ≤ y
  y2 : y ≤ 1999 + 3 * k
  m1 : 1 ≤ m
  m2 : m ≤ 12
  o1 : 12 - k ≤ o
  o2 : o ≤ 18 + k
  ok : okUpTo ls ls.length = true
  last : k ≤ n → ∀ p, ls.getLast? = some p → p.1 < mo y m ∧ (o = p.2 + 1 ∨ o = p.2 - 1)
  small : ∀ p ∈ ls, (0 ≤ p.1 ∧ p.1 ≤ 5000000000) ∧ 0 ≤ p.2 ∧ p.2 ≤ 200

theorem KS.start (n : Nat) (y o : Int) (y1 : 1960 ≤ y) (y2 : y ≤ 1999) (o1 : 12 ≤ o) (o2 : o ≤ 18) : KS n 0 y 1 o [] :=
  ⟨rfl, by omega, by omega, y1, by omega, by omega, by omega, by omega, by omega, rfl, fun _ p h => by simp at h, fun p h => by simp at h⟩

theorem KS.bd {n k : Nat} {y m o : Int} {ls : List (Int × Int)} (h : KS n k y m o ls) (hk : k < 12) (hn : k ≤ n) :
    okUpTo (ls ++ [(mo y m, o)]) (ls ++ [(mo y m, o)]).length = true ∧ ∀ p ∈ ls ++ [(mo y m, o)], (0 ≤ p.1 ∧ p.1 ≤ 5000000000) ∧ 0 ≤ p.2 ∧ p.2 ≤ 200 := by
  have hl := h.len
  have a := h.y1
  have b := h.y2
  have c := h.o1
  have d := h.o2
  constructor
  · rw [List.length_append]
    exact okUpTo_grow ls _ o h.ok (mo_first y m (by omega) (by omega) h.m1 h.m2) (by omega) (by omega) (by omega) (h.last hn)
  · intro p hp
    rcases List.mem_append.1 hp with hp | hp
    · exact h.small p hp
    · simp at hp
      subst hp
      exact ⟨mo_bd y m (by omega) (by omega) h.m1 h.m2, by simp only; omega, by simp only; omega⟩

/-- A round that is the last. -/
theorem KS.stay {n k : Nat} {y m o : Int} {ls : List (Int × Int)} (h : KS n k y m o ls) (hk : k < 12) (hn : k ≤ n) (he : ¬ k < n) : KS n (k + 1) y m o (ls ++ [(mo y m, o)]) := by
  obtain ⟨a, b⟩ := h.bd hk hn
  have y2 := h.y2
  have o1 := h.o1
  have o2 := h.o2
  exact ⟨by simp [h.len], by omega, by omega, h.y1, by omega, h.m1, h.m2, by omega, by omega, a, fun c => by omega, b⟩

/-- A round that goes on. -/
theorem KS.go {n k : Nat} {y m o y' m' o' : Int} {ls : List (Int × Int)} (h : KS n k y m o ls) (hk : k < 12) (hn : k ≤ n) (y1 : y ≤ y') (y2 : y' ≤ y + 3) (m1 : 1 ≤ m') (m2 : m' ≤ 12)
    (ho : o' = o + 1 ∨ o' = o - 1) (hlt : y < y' ∨ (y = y' ∧ m < m')) : KS n (k + 1) y' m' o' (ls ++ [(mo y m, o)]) := by
  obtain ⟨a, b⟩ := h.bd hk hn
  have z1 := h.y1
  have z2 := h.y2
  have p1 := h.o1
  have p2 := h.o2
  refine ⟨by simp [h.len], by omega, by omega, by omega, by omega, m1, m2, by omega, by omega, a, fun c p hp => ?_, b⟩
  simp at hp
  subst hp
  exact ⟨mo_lt y m y' m' h.m1 h.m2 m1 m2 hlt, ho⟩

theorem KS.whole {n k : Nat} {y m o : Int} {ls : List (Int × Int)} (h : KS n k y m o ls) (hk : 0 < k) (x : Int) (x0 : 0 ≤ x) (x1 : x < 100000000) :
    whole (ls.getD 0 (0, 0)).1 ((ls.getD (k - 1) (0, 0)).1 + 1 + x) ls = true := by
  have hl := h.len
  have g0 := getD_at (ls := ls) 0 (by omega)
  have gk := getD_at (ls := ls) (k - 1) (by omega)
  have s0 := h.small _ (List.getElem_mem (show 0 < ls.length by omega))
  have sk := h.small _ (List.getElem_mem (show k - 1 < ls.length by omega))
  rw [← g0] at s0
  rw [← gk] at sk
  have hle : (ls.getD 0 (0, 0)).1 ≤ (ls.getD (k - 1) (0, 0)).1 := by
    have hat := okUpTo_at ls.length (Nat.le_refl _) h.ok
    have key : ∀ j, (hj : j < ls.length) → (ls.getD 0 (0, 0)).1 ≤ (ls.getD j (0, 0)).1 := by
      intro j
      induction j with
      | zero => intro _; exact Int.le_refl _
      | succ i ih =>
        intro hj
        have hfl := hat (i + 1) hj
        have hne : (ls.take (i + 1)).length ≠ 40 := fun e => by rw [follows_no4 e] at hfl; cases hfl
        have hfi : first ls[i + 1].1 = true := by
          cases hf : first ls[i + 1].1 with
          | false => rw [follows_no1 hf] at hfl; cases hfl
          | true => rfl
        have ho := follows_off hfl
        have := follows_last (ls := ls.take (i + 1)) hfi ho.1 ho.2 hne i (by simp; omega)
        rw [this] at hfl
        simp only [behindB, Bool.and_eq_true, decide_eq_true_eq, List.getElem_take] at hfl
        have := ih (by omega)
        rw [getD_at i (by omega)] at this
        rw [getD_at (i + 1) hj]
        omega
    exact key (k - 1) (by omega)
  rw [whole_is (by omega) (by omega) (by omega) (by omega)]
  exact h.ok
end Tab

end Go.Proofs.YtmmkhodaljpjgaaDoor
