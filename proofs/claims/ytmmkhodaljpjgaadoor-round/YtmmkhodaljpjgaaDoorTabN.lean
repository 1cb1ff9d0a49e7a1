import Derived.Test.YtmmkhodaljpjgaaDoorTabM
/-! Days of a table, in plain integers: each begins where the one ahead of it ends. -/
namespace Go.Proofs.YtmmkhodaljpjgaaDoor
open Go.RowKit

namespace Tab
/-- What a table's entries are. -/
structure Good (ls : List (Int × Int)) : Prop where
  pos : 0 < ls.length
  fine : Fine ls
  day : ∀ i, i < ls.length → (ls.getD i (0, 0)).1 % 86400 = 0
  up : ∀ i, i + 1 < ls.length → (ls.getD i (0, 0)).1 < (ls.getD (i + 1) (0, 0)).1
  off : ∀ i, i + 1 < ls.length → (ls.getD (i + 1) (0, 0)).2 = (ls.getD i (0, 0)).2 + 1 ∨ (ls.getD (i + 1) (0, 0)).2 = (ls.getD i (0, 0)).2 - 1
  len : ls.length ≤ 40
theorem good_of_whole {up ex : Int} {ls : List (Int × Int)} (h : whole up ex ls = true) : Good ls := by
  obtain ⟨hok, hpos⟩ := whole_ok h
  have hat := okUpTo_at ls.length (Nat.le_refl _) hok
  have hlast : ∀ i (hi : i + 1 < ls.length), behindB ls[i] ls[i + 1].1 ls[i + 1].2 = true := fun i hi => by
    have hfl := hat (i + 1) hi
    have hne : (ls.take (i + 1)).length ≠ 40 := fun e => by rw [follows_no4 e] at hfl; cases hfl
    have hfi : first ls[i + 1].1 = true := by
      cases hf : first ls[i + 1].1 with
      | false => rw [follows_no1 hf] at hfl; cases hfl
      | true => rfl
    have ho := follows_off hfl
    have := follows_last (ls := ls.take (i + 1)) hfi ho.1 ho.2 hne i (by simp; omega)
    rw [this] at hfl
    simpa using hfl
  refine ⟨hpos, fine_of_whole h, fun i hi => ?_, fun i hi => ?_, fun i hi => ?_, ?_⟩
  · rw [getD_at i hi]; exact (follows_first (hat i hi)).2.1
  · rw [getD_at i (by omega), getD_at (i + 1) hi]
    have := hlast i hi
    simp only [behindB, Bool.and_eq_true, decide_eq_true_eq] at this
    exact this.1
  · rw [getD_at i (by omega), getD_at (i + 1) hi]
    have := hlast i hi
    simp only [behindB, Bool.and_eq_true, Bool.or_eq_true, beq_iff_eq] at this
    exact this.2
  · by_cases c : ls.length ≤ 40
    · exact c
    · have hfl := hat 40 (by omega)
      rw [follows_no4 (by simp; omega)] at hfl
      cases hfl
theorem Good.lt {ls : List (Int × Int)} (h : Good ls) (i j : Nat) (hij : i < j) (hj : j < ls.length) : (ls.getD i (0, 0)).1 < (ls.getD j (0, 0)).1 := by
  induction j with
  | zero => omega
  | succ j ih =>
    by_cases e : i = j
    · subst e; exact h.up i hj
    · have := ih (by omega) (by omega); have := h.up j hj; omega
/-- The last of the first k + 1 entries that is not behind D. -/
theorem Good.last {ls : List (Int × Int)} (_ : Good ls) (D : Int) (h0 : (ls.getD 0 (0, 0)).1 ≤ D) (k : Nat) (hk : k < ls.length) :
    ∃ j, j ≤ k ∧ (ls.getD j (0, 0)).1 ≤ D ∧ ∀ i, j < i → i ≤ k → D < (ls.getD i (0, 0)).1 := by
  induction k with
  | zero => exact ⟨0, Nat.le_refl _, h0, fun i a b => by omega⟩
  | succ k ih =>
    by_cases c : (ls.getD (k + 1) (0, 0)).1 ≤ D
    · exact ⟨k + 1, Nat.le_refl _, c, fun i a b => by omega⟩
    · obtain ⟨j, hj, hd, hr⟩ := ih (by omega)
      refine ⟨j, by omega, hd, fun i a b => ?_⟩
      by_cases e : i = k + 1
      · subst e; omega
      · exact hr i a (by omega)
theorem offAt_eq (ls : List (Int × Int)) (D : Int) (j k : Nat) (hjk : j ≤ k) (hd : (ls.getD j (0, 0)).1 ≤ D) (hr : ∀ i, j < i → i ≤ k → D < (ls.getD i (0, 0)).1) : offAt ls D k = (ls.getD j (0, 0)).2 := by
  induction k with
  | zero => have : j = 0 := by omega
            subst this; rfl
  | succ k ih =>
    simp only [offAt]
    by_cases e : j = k + 1
    · subst e; rw [if_pos hd]
    · have := hr (k + 1) (by omega) (Nat.le_refl _)
      rw [if_neg (by omega)]
      exact ih (by omega) (fun i a b => hr i a (by omega))
theorem lenFrom_no (ls : List (Int × Int)) (E : Int) (m i : Nat) (h : ∀ t, i ≤ t → t < i + m → (ls.getD t (0, 0)).1 ≠ E) : lenFrom ls E i m = 86400 := by
  induction m generalizing i with
  | zero => rfl
  | succ m ih =>
    simp only [lenFrom]
    rw [if_neg (h i (Nat.le_refl _) (by omega))]
    exact ih (i + 1) (fun t a b => h t (by omega) (by omega))
theorem lenFrom_yes (ls : List (Int × Int)) (E : Int) (m i t : Nat) (h0 : i ≤ t) (h1 : t < i + m) (ht : (ls.getD t (0, 0)).1 = E) (h : ∀ q, i ≤ q → q < t → (ls.getD q (0, 0)).1 ≠ E) :
    lenFrom ls E i m = 86400 + (ls.getD t (0, 0)).2 - (ls.getD (t - 1) (0, 0)).2 := by
  induction m generalizing i with
  | zero => omega
  | succ m ih =>
    simp only [lenFrom]
    by_cases e : i = t
    · subst e; rw [if_pos ht]
    · rw [if_neg (h i (Nat.le_refl _) (by omega))]
      exact ih (i + 1) (by omega) (by omega) (fun q a b => h q (by omega) b)
/-- A day begins where the one ahead of it ends. -/
theorem Good.next {ls : List (Int × Int)} (h : Good ls) (d : Int) (h0 : (ls.getD 0 (0, 0)).1 ≤ d * 86400) : begins ls (d + 1) = begins ls d + length ls d := by
  have hp := h.pos
  obtain ⟨j, hj, hd, hr⟩ := h.last (d * 86400) h0 (ls.length - 1) (by omega)
  have e1 : begins ls d = d * 86400 + (ls.getD j (0, 0)).2 := by
    unfold begins; rw [if_neg (by omega), offAt_eq ls (d * 86400) j (ls.length - 1) hj hd hr]
  have hb : ∀ i, j < i → i < ls.length → (d + 1) * 86400 ≤ (ls.getD i (0, 0)).1 := fun i a b => by
    have x := hr i a (by omega)
    have y := h.day i b
    omega
  by_cases c : j + 1 < ls.length ∧ (ls.getD (j + 1) (0, 0)).1 = (d + 1) * 86400
  · have e2 : begins ls (d + 1) = (d + 1) * 86400 + (ls.getD (j + 1) (0, 0)).2 := by
      unfold begins
      rw [if_neg (by omega), offAt_eq ls ((d + 1) * 86400) (j + 1) (ls.length - 1) (by omega) (by omega) (fun i a b => by have := h.lt (j + 1) i a (by omega); omega)]
    have e3 : length ls d = 86400 + (ls.getD (j + 1) (0, 0)).2 - (ls.getD j (0, 0)).2 := by
      unfold length
      exact lenFrom_yes ls ((d + 1) * 86400) (ls.length - 1) 1 (j + 1) (by omega) (by omega) c.2 (fun q a b => by have := h.lt q (j + 1) b c.1; omega)
    omega
  · have hb' : ∀ i, j < i → i < ls.length → (d + 1) * 86400 < (ls.getD i (0, 0)).1 := fun i a b => by
      by_cases e : i = j + 1
      · subst e
        have := hb (j + 1) (by omega) b
        have : (ls.getD (j + 1) (0, 0)).1 ≠ (d + 1) * 86400 := fun q => c ⟨b, q⟩
        omega
      · have := hb (j + 1) (by omega) (by omega)
        have := h.lt (j + 1) i (by omega) b
        omega
    have e2 : begins ls (d + 1) = (d + 1) * 86400 + (ls.getD j (0, 0)).2 := by
      unfold begins
      rw [if_neg (by omega), offAt_eq ls ((d + 1) * 86400) j (ls.length - 1) hj (by omega) (fun i a b => hb' i a (by omega))]
    have e3 : length ls d = 86400 := by
      unfold length
      refine lenFrom_no ls ((d + 1) * 86400) (ls.length - 1) 1 fun t a b => ?_
      by_cases e : t ≤ j
      · by_cases e' : t = j
        · subst e'; omega
        · have := h.lt t j (by omega) (by omega); omega
      · have := hb' t (by omega) (by omega); omega
    omega
/-- The day in which a second of TAI is. -/
structure Day (ls : List (Int × Int)) (sec d : Int) : Prop where
  from' : (ls.getD 0 (0, 0)).1 ≤ d * 86400
  lo : begins ls d ≤ sec
  hi : sec < begins ls d + length ls d
theorem Good.begins_ge {ls : List (Int × Int)} (h : Good ls) (d : Int) (h0 : (ls.getD 0 (0, 0)).1 ≤ d * 86400) : d * 86400 ≤ begins ls d ∧ begins ls d ≤ d * 86400 + 200 := by
  have ho := offAt_bd h.fine (d * 86400) (ls.length - 1) (by have := h.pos; omega)
  unfold begins
  rw [if_neg (by omega)]
  omega
theorem Good.mono {ls : List (Int × Int)} (h : Good ls) (d : Int) (h0 : (ls.getD 0 (0, 0)).1 ≤ d * 86400) (m : Nat) : begins ls d + 86200 * m ≤ begins ls (d + m) := by
  induction m with
  | zero => simp
  | succ m ih =>
    have a := h.next (d + m) (by omega)
    have b := length_bd h.fine h.pos (d + m)
    rw [show d + ((m + 1 : Nat) : Int) = d + m + 1 from by omega]
    omega
theorem Good.le {ls : List (Int × Int)} (h : Good ls) (d e : Int) (h0 : (ls.getD 0 (0, 0)).1 ≤ d * 86400) (hde : d < e) : begins ls (d + 1) ≤ begins ls e := by
  have := h.mono (d + 1) (by omega) (e - (d + 1)).toNat
  rw [show d + 1 + (((e - (d + 1)).toNat : Nat) : Int) = e from by omega] at this
  omega
theorem Good.only {ls : List (Int × Int)} (h : Good ls) {sec d e : Int} (a : Day ls sec d) (b : Day ls sec e) : d = e := by
  rcases Int.lt_trichotomy d e with c | c | c
  · have := h.le d e a.from' c
    have := h.next d a.from'
    have := a.hi
    have := b.lo
    omega
  · exact c
  · have := h.le e d b.from' c
    have := h.next e b.from'
    have := b.hi
    have := a.lo
    omega
theorem Good.some {ls : List (Int × Int)} (h : Good ls) (sec : Int) (fuel : Nat) (d : Int) (h0 : (ls.getD 0 (0, 0)).1 ≤ d * 86400) (hb : begins ls d ≤ sec) (hf : sec - begins ls d < fuel) : ∃ e, Day ls sec e := by
  induction fuel generalizing d with
  | zero => omega
  | succ fuel ih =>
    by_cases c : sec < begins ls d + length ls d
    · exact ⟨d, h0, hb, c⟩
    · have n := h.next d h0
      have l := length_bd h.fine h.pos d
      exact ih (d + 1) (by omega) (by omega) (by omega)
theorem Good.first_begins {ls : List (Int × Int)} (h : Good ls) : begins ls ((ls.getD 0 (0, 0)).1 / 86400) = (ls.getD 0 (0, 0)).1 + (ls.getD 0 (0, 0)).2 := by
  have hd := h.day 0 h.pos
  have e : (ls.getD 0 (0, 0)).1 / 86400 * 86400 = (ls.getD 0 (0, 0)).1 := by omega
  unfold begins
  rw [e, if_neg (by omega), offAt_eq ls _ 0 (ls.length - 1) (by omega) (Int.le_refl _) (fun i a b => h.lt 0 i a (by have := h.pos; omega))]
theorem Good.when_ge {ls : List (Int × Int)} (h : Good ls) (k : Nat) (hk : k < ls.length) : when ls 0 ≤ when ls k := by
  by_cases e : k = 0
  · subst e; exact Int.le_refl _
  · have a := h.lt 0 k (by omega) hk
    have d0 := h.day 0 h.pos
    have dk := h.day k hk
    have f0 := (h.fine _ (List.getElem_mem h.pos)).2
    rw [← getD_at 0 h.pos] at f0
    have fk := (h.fine _ (List.getElem_mem hk)).2
    rw [← getD_at k hk] at fk
    have fp := (h.fine _ (List.getElem_mem (show k - 1 < ls.length by omega))).2
    rw [← getD_at (k - 1) (by omega)] at fp
    have w0 : when ls 0 = (ls.getD 0 (0, 0)).1 + (ls.getD 0 (0, 0)).2 := by unfold when; simp
    have wk : (ls.getD k (0, 0)).1 ≤ when ls k := by unfold when; split <;> omega
    omega
theorem Good.when_first {ls : List (Int × Int)} (h : Good ls) (sec : Int) (k : Nat) (hk : k ≤ ls.length) (hl : 0 ≤ lastAt ls sec k) : when ls 0 ≤ sec := by
  induction k with
  | zero => simp [lastAt] at hl
  | succ k ih =>
    by_cases c : when ls k ≤ sec
    · have := h.when_ge k (by omega); omega
    · simp only [lastAt] at hl
      rw [if_neg c] at hl
      exact ih (by omega) hl
/-- Where an entry holds there is a day. -/
theorem Good.has_day {ls : List (Int × Int)} (h : Good ls) (sec : Int) (hl : 0 ≤ lastAt ls sec ls.length) : ∃ d, Day ls sec d := by
  have hw := h.when_first sec ls.length (Nat.le_refl _) hl
  have w0 : when ls 0 = (ls.getD 0 (0, 0)).1 + (ls.getD 0 (0, 0)).2 := by unfold when; simp
  have hb := h.first_begins
  have hd := h.day 0 h.pos
  exact h.some sec ((sec - begins ls ((ls.getD 0 (0, 0)).1 / 86400)).toNat + 1) ((ls.getD 0 (0, 0)).1 / 86400) (by omega) (by omega) (by omega)
end Tab

end Go.Proofs.YtmmkhodaljpjgaaDoor
