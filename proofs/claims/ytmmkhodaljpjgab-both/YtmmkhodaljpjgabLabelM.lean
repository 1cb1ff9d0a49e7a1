import Derived.Test.YtmmkhodaljpjgabTabN
/-! Which day a second is in, in plain integers. -/
namespace Go.Proofs.Ytmmkhodaljpjgab
open Go.RowKit

namespace Tab
/-- The last of the first k entries whose At is not above D; -1: there is none. -/
def lastDay (ls : List (Int × Int)) (D : Int) : Nat → Int
  | 0 => -1
  | k + 1 => if (ls.getD k (0, 0)).1 ≤ D then (k : Int) else lastDay ls D k
theorem lastDay_bd (ls : List (Int × Int)) (D : Int) (k : Nat) : -1 ≤ lastDay ls D k ∧ lastDay ls D k < k := by
  induction k with
  | zero => simp [lastDay]
  | succ k ih => simp only [lastDay]; split <;> omega
theorem lastDay_off (ls : List (Int × Int)) (D : Int) (k : Nat) (h0 : (ls.getD 0 (0, 0)).1 ≤ D) : 0 ≤ lastDay ls D (k + 1) ∧ offAt ls D k = (ls.getD (lastDay ls D (k + 1)).toNat (0, 0)).2 := by
  induction k with
  | zero => simp only [lastDay, offAt]; rw [if_pos h0]; simp
  | succ k ih =>
    rw [lastDay, offAt]
    by_cases c : (ls.getD (k + 1) (0, 0)).1 ≤ D
    · rw [if_pos c, if_pos c]; simp; omega
    · rw [if_neg c, if_neg c]; exact ih
theorem Good.lastDay_no {ls : List (Int × Int)} (h : Good ls) (D : Int) (h0 : D < (ls.getD 0 (0, 0)).1) (k : Nat) (hk : k ≤ ls.length) : lastDay ls D k = -1 := by
  induction k with
  | zero => rfl
  | succ k ih =>
    have : D < (ls.getD k (0, 0)).1 := by
      by_cases e : k = 0
      · subst e; exact h0
      · have := h.lt 0 k (by omega) (by omega); omega
    rw [lastDay, if_neg (by omega)]
    exact ih (by omega)
theorem Good.begins_last {ls : List (Int × Int)} (h : Good ls) (d : Int) (h0 : (ls.getD 0 (0, 0)).1 ≤ d * 86400) :
    0 ≤ lastDay ls (d * 86400) ls.length ∧ begins ls d = d * 86400 + (ls.getD (lastDay ls (d * 86400) ls.length).toNat (0, 0)).2 := by
  have := lastDay_off ls (d * 86400) (ls.length - 1) h0
  rw [show ls.length - 1 + 1 = ls.length from by have := h.pos; omega] at this
  refine ⟨this.1, ?_⟩
  unfold begins
  rw [if_neg (by omega), this.2]

theorem lastAt_is (ls : List (Int × Int)) (sec : Int) (n : Nat) (k : Nat) (h : lastAt ls sec n = (k : Int)) : k < n ∧ when ls k ≤ sec ∧ ∀ i, k < i → i < n → sec < when ls i := by
  induction n with
  | zero => simp [lastAt] at h
  | succ n ih =>
    rw [lastAt] at h
    by_cases c : when ls n ≤ sec
    · rw [if_pos c] at h
      have : k = n := by omega
      subst this
      exact ⟨by omega, c, fun i a b => by omega⟩
    · rw [if_neg c] at h
      obtain ⟨a, b, e⟩ := ih h
      refine ⟨by omega, b, fun i x y => ?_⟩
      by_cases q : i = n
      · subst q; omega
      · exact e i x (by omega)

/-- The day of a second, from the entry that holds. -/
theorem Good.day_of {ls : List (Int × Int)} (h : Good ls) (sec : Int) (k : Nat) (hk : lastAt ls sec ls.length = (k : Int)) : Day ls sec ((sec - (ls.getD k (0, 0)).2) / 86400) := by
  obtain ⟨hkl, hw, hr⟩ := lastAt_is ls sec ls.length k hk
  have dk := h.day k hkl
  have fk := (h.fine _ (List.getElem_mem hkl)).2
  rw [← getD_at k hkl] at fk
  have fka := (h.fine _ (List.getElem_mem hkl)).1
  rw [← getD_at k hkl] at fka
  -- the entry behind
  have hnext : ∀ (hl : k + 1 < ls.length), sec < (ls.getD (k + 1) (0, 0)).1 + (ls.getD k (0, 0)).2 ∧ sec < (ls.getD (k + 1) (0, 0)).1 + (ls.getD (k + 1) (0, 0)).2 := fun hl => by
    have := hr (k + 1) (by omega) hl
    unfold when at this
    rw [show k + 1 - 1 = k from rfl] at this
    split at this <;> omega
  have hlater : ∀ i, k < i → i < ls.length → k + 1 < ls.length ∧ (ls.getD (k + 1) (0, 0)).1 ≤ (ls.getD i (0, 0)).1 := fun i a b => by
    by_cases e : i = k + 1
    · subst e; exact ⟨b, Int.le_refl _⟩
    · have := h.lt (k + 1) i (by omega) b; exact ⟨by omega, by omega⟩
  by_cases hA : (ls.getD k (0, 0)).1 ≤ sec - (ls.getD k (0, 0)).2
  · generalize hd : (sec - (ls.getD k (0, 0)).2) / 86400 = d
    have hd1 : (ls.getD k (0, 0)).1 ≤ d * 86400 := by omega
    have hd2 : d * 86400 ≤ sec - (ls.getD k (0, 0)).2 := by omega
    have hd3 : sec - (ls.getD k (0, 0)).2 < (d + 1) * 86400 := by omega
    have h0 : (ls.getD 0 (0, 0)).1 ≤ d * 86400 := by
      by_cases e : k = 0
      · subst e; exact hd1
      · have := h.lt 0 k (by omega) hkl; omega
    have hoff : offAt ls (d * 86400) (ls.length - 1) = (ls.getD k (0, 0)).2 := offAt_eq ls _ k (ls.length - 1) (by omega) hd1 (fun i a b => by
      have x := hlater i a (by omega)
      have y := hnext x.1
      omega)
    have hb : begins ls d = d * 86400 + (ls.getD k (0, 0)).2 := by unfold begins; rw [if_neg (by omega), hoff]
    refine ⟨h0, by omega, ?_⟩
    rw [hb]
    by_cases hl : k + 1 < ls.length
    · have y := hnext hl
      have dn := h.day (k + 1) hl
      by_cases e : (ls.getD (k + 1) (0, 0)).1 = (d + 1) * 86400
      · have hlen : length ls d = 86400 + (ls.getD (k + 1) (0, 0)).2 - (ls.getD k (0, 0)).2 := by
          unfold length
          rw [lenFrom_yes ls _ (ls.length - 1) 1 (k + 1) (by omega) (by omega) e (fun q a b => by
            have := h.lt q (k + 1) b hl; omega)]
          rfl
        rw [hlen]
        rcases h.off k hl with o | o <;> omega
      · have hlen : length ls d = 86400 := by
          unfold length
          apply lenFrom_no
          intro t a b q
          by_cases c : t ≤ k
          · have : (ls.getD t (0, 0)).1 ≤ (ls.getD k (0, 0)).1 := by
              by_cases e' : t = k
              · subst e'; exact Int.le_refl _
              · have := h.lt t k (by omega) hkl; omega
            omega
          · have := hlater t (by omega) (by omega)
            omega
        rw [hlen]; omega
    · have hlen : length ls d = 86400 := by
        unfold length
        apply lenFrom_no
        intro t a b q
        have : (ls.getD t (0, 0)).1 ≤ (ls.getD k (0, 0)).1 := by
          by_cases e' : t = k
          · subst e'; exact Int.le_refl _
          · have := h.lt t k (by omega) hkl; omega
        omega
      rw [hlen]; omega
  · -- the second that is put in
    have hk0 : 0 < k := by
      by_cases e : k = 0
      · subst e; unfold when at hw; simp at hw; simp at hA; omega
      · omega
    obtain ⟨j, rfl⟩ : ∃ j, k = j + 1 := ⟨k - 1, by omega⟩
    have dj := h.day j (by omega)
    have uj := h.up j hkl
    have oj := h.off j hkl
    have hs : sec = (ls.getD (j + 1) (0, 0)).1 + (ls.getD j (0, 0)).2 ∧ (ls.getD (j + 1) (0, 0)).2 = (ls.getD j (0, 0)).2 + 1 := by
      unfold when at hw
      rw [show j + 1 - 1 = j from rfl] at hw
      split at hw <;> rcases oj with o | o <;> omega
    have hd : (sec - (ls.getD (j + 1) (0, 0)).2) / 86400 = (ls.getD (j + 1) (0, 0)).1 / 86400 - 1 := by omega
    rw [hd]
    generalize hdd : (ls.getD (j + 1) (0, 0)).1 / 86400 - 1 = d
    have e1 : (d + 1) * 86400 = (ls.getD (j + 1) (0, 0)).1 := by omega
    have hd1 : (ls.getD j (0, 0)).1 ≤ d * 86400 := by omega
    have h0 : (ls.getD 0 (0, 0)).1 ≤ d * 86400 := by
      by_cases e : j = 0
      · subst e; exact hd1
      · have := h.lt 0 j (by omega) (by omega); omega
    have hoff : offAt ls (d * 86400) (ls.length - 1) = (ls.getD j (0, 0)).2 := offAt_eq ls _ j (ls.length - 1) (by omega) hd1 (fun i a b => by
      by_cases e : i = j + 1
      · subst e; omega
      · have := h.lt (j + 1) i (by omega) (by omega); omega)
    have hb : begins ls d = d * 86400 + (ls.getD j (0, 0)).2 := by unfold begins; rw [if_neg (by omega), hoff]
    have hlen : length ls d = 86400 + (ls.getD (j + 1) (0, 0)).2 - (ls.getD j (0, 0)).2 := by
      unfold length
      rw [lenFrom_yes ls _ (ls.length - 1) 1 (j + 1) (by omega) (by omega) e1.symm (fun q a b => by
        have := h.lt q (j + 1) b hkl; omega)]
      rfl
    exact ⟨h0, by omega, by omega⟩
end Tab

end Go.Proofs.Ytmmkhodaljpjgab
