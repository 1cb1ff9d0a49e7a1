import Derived.Test.YtmmkhodaljpjgabLabelM
/-! Labels and seconds are one to one, in plain integers. -/
namespace Go.Proofs.Ytmmkhodaljpjgab
open Go.RowKit

namespace Tab
theorem lastAt_nonneg (ls : List (Int × Int)) (sec : Int) (n : Nat) (hn : 0 < n) (h : when ls 0 ≤ sec) : 0 ≤ lastAt ls sec n := by
  induction n with
  | zero => omega
  | succ n ih =>
    rw [lastAt]
    by_cases c : when ls n ≤ sec
    · rw [if_pos c]; omega
    · rw [if_neg c]
      by_cases e : n = 0
      · subst e; exact absurd h c
      · exact ih (by omega)
theorem offset_zero {up ex : Int} {ls : List (Int × Int)} {sec : Int} (hw : whole up ex ls = true) (h1 : sec ≤ 34000000000) (h : 0 ≤ lastAt ls sec ls.length) : (offset up ex ls sec).2 = 0 := by
  unfold offset
  rw [if_neg (by rw [hw]; simp), if_neg (by omega), if_neg (by omega)]
theorem Good.lenFrom_three {ls : List (Int × Int)} (h : Good ls) (D : Int) (m i : Nat) (hi : 1 ≤ i) (hm : i + m ≤ ls.length) : 86399 ≤ lenFrom ls D i m ∧ lenFrom ls D i m ≤ 86401 := by
  induction m generalizing i with
  | zero => simp [lenFrom]
  | succ m ih =>
    simp only [lenFrom]
    split
    · have := h.off (i - 1) (by omega)
      rw [show i - 1 + 1 = i from by omega] at this
      omega
    · exact ih (i + 1) (by omega) (by omega)
theorem Good.three {ls : List (Int × Int)} (h : Good ls) (d : Int) : 86399 ≤ length ls d ∧ length ls d ≤ 86401 :=
  h.lenFrom_three _ _ _ (Nat.le_refl _) (by have := h.pos; omega)

/-- All that the statement asks. -/
theorem both_facts {up ex : Int} {ls : List (Int × Int)} {sec : Int} (hw : whole up ex ls = true) (h0 : (ls.getD 0 (0, 0)).1 + (ls.getD 0 (0, 0)).2 ≤ sec) (h1 : sec + 1 ≤ 34000000000) :
    ∃ d d', Day ls sec d ∧ Day ls (sec + 1) d' ∧ (offset up ex ls sec).2 = 0 ∧ (offset up ex ls (sec + 1)).2 = 0 ∧ second up ex ls d (sec - begins ls d) = (sec, 0) ∧ 0 ≤ d ∧ d ≤ 400000 ∧ 0 ≤ sec - begins ls d ∧ sec - begins ls d ≤ 86400 ∧ 0 ≤ sec + 1 - begins ls d' ∧ sec + 1 - begins ls d' ≤ 86400 ∧
      ((d' = d ∧ sec + 1 - begins ls d' = sec - begins ls d + 1) ∨ (d' = d + 1 ∧ sec + 1 - begins ls d' = 0 ∧ 86398 ≤ sec - begins ls d)) := by
  have hG := good_of_whole hw
  have w0 : when ls 0 = (ls.getD 0 (0, 0)).1 + (ls.getD 0 (0, 0)).2 := by unfold when; simp
  have l0 := lastAt_nonneg ls sec ls.length hG.pos (by omega)
  have l1 := lastAt_nonneg ls (sec + 1) ls.length hG.pos (by omega)
  obtain ⟨d, hd⟩ := hG.has_day sec l0
  obtain ⟨d', hd'⟩ := hG.has_day (sec + 1) l1
  have a0 := (hG.fine _ (List.getElem_mem hG.pos)).1
  rw [← getD_at 0 hG.pos] at a0
  have hbe := hG.begins_ge d hd.from'
  have hbe' := hG.begins_ge d' hd'.from'
  have t := hG.three d
  have t' := hG.three d'
  have e1 := hd.lo
  have e2 := hd.hi
  have e3 := hd.from'
  have f1 := hd'.lo
  have f2 := hd'.hi
  have f3 := hd'.from'
  have hnx := hG.next d hd.from'
  refine ⟨d, d', hd, hd', offset_zero hw (by omega) l0, offset_zero hw h1 l1, ?_, by omega, by omega, by omega, by omega, by omega, by omega, ?_⟩
  · unfold second
    rw [if_neg (by rw [hw]; simp), if_neg (by omega), if_neg (by omega)]
    congr 1
    omega
  · rcases Int.lt_trichotomy d' d with c | c | c
    · have := hG.le d' d f3 c
      have := hG.next d' f3
      omega
    · left; subst c; exact ⟨rfl, by omega⟩
    · have hle := hG.le d d' e3 c
      have hd1 : Day ls (sec + 1) (d + 1) := by
        have t1 := hG.three (d + 1)
        exact ⟨by omega, by omega, by omega⟩
      have e := hG.only hd' hd1
      right
      subst e
      exact ⟨rfl, by omega, by omega⟩
end Tab

end Go.Proofs.Ytmmkhodaljpjgab
