import Derived.Test.YtmmkhodaljpjgaaGreatDoorMem
import Derived.Test.YtmmkhodaljpjgaaGreatDoorLeaf
/-! Words and numbers of a text. -/
namespace Go.Proofs.YtmmkhodaljpjgaaGreatDoor
open Go.RowKit

namespace Txt
/-- A text's byte. -/
def byte (s : ByteArray) (i : Nat) : Int := ((s.data.toList.getD i 0).toNat : Int)
theorem byte_bd (s : ByteArray) (i : Nat) : 0 ≤ byte s i ∧ byte s i < 256 := by
  unfold byte; have := (s.data.toList.getD i 0).toNat_lt; omega
theorem byte_at (s : ByteArray) (i : Nat) (h : i < s.size) : byte s i = (s[i].toNat : Int) := by
  unfold byte; rw [getD_bytes s i h]
/-- The number that the first k digits are. -/
def numTo (s : ByteArray) : Nat → Int
  | 0 => 0
  | k + 1 => 10 * numTo s k + (byte s k - 48)
/-- Are the first k bytes digits? -/
def Digits (s : ByteArray) (k : Nat) : Prop := ∀ i, i < k → 48 ≤ byte s i ∧ byte s i ≤ 57
def digitsB (s : ByteArray) : Nat → Bool
  | 0 => true
  | k + 1 => digitsB s k && decide (48 ≤ byte s k ∧ byte s k ≤ 57)
theorem digitsB_iff (s : ByteArray) (k : Nat) : digitsB s k = true ↔ Digits s k := by
  induction k with
  | zero => exact ⟨fun _ i hi => by omega, fun _ => rfl⟩
  | succ k ih =>
    simp only [digitsB, Bool.and_eq_true, decide_eq_true_eq]
    rw [ih]
    refine ⟨fun h i hi => ?_, fun h => ⟨fun i hi => h i (by omega), h k (by omega)⟩⟩
    by_cases e : i = k
    · subst e; exact h.2
    · exact h.1 i (by omega)
/-- 1 to 11 digits; -1: it is none. -/
def number (s : ByteArray) : Int :=
  if s.size = 0 ∨ 11 < s.size then -1 else if digitsB s s.size = true then numTo s s.size else -1
theorem numTo_bd {s : ByteArray} (k : Nat) (h : Digits s k) : 0 ≤ numTo s k ∧ numTo s k < 10 ^ k := by
  induction k with
  | zero => simp [numTo]
  | succ k ih =>
    have a := ih (fun i hi => h i (by omega))
    have b := h k (by omega)
    simp only [numTo]
    rw [Int.pow_succ]
    omega
theorem pow10_le (k : Nat) (h : k ≤ 10) : (10 : Int) ^ k ≤ 10000000000 := by
  match k, h with
  | 0, _ | 1, _ | 2, _ | 3, _ | 4, _ | 5, _ | 6, _ | 7, _ | 8, _ | 9, _ | 10, _ => decide
theorem number_no1 {s : ByteArray} (h : s.size = 0 ∨ 11 < s.size) : number s = -1 := by unfold number; rw [if_pos h]
theorem number_no2 {s : ByteArray} (h : ¬ Digits s s.size) : number s = -1 := by
  unfold number
  split
  · rfl
  · rw [if_neg]; exact fun e => h ((digitsB_iff _ _).1 e)
theorem number_yes {s : ByteArray} (h : ¬ (s.size = 0 ∨ 11 < s.size)) (hd : Digits s s.size) : number s = numTo s s.size := by
  unfold number; rw [if_neg h, if_pos ((digitsB_iff _ _).2 hd)]
/-- A hexadecimal digit (a small letter). -/
def HexB (c : Int) : Prop := (48 ≤ c ∧ c ≤ 57) ∨ (97 ≤ c ∧ c ≤ 102)
def Hexes (s : ByteArray) (k : Nat) : Prop := ∀ i, i < k → HexB (byte s i)
def hexesB (s : ByteArray) : Nat → Bool
  | 0 => true
  | k + 1 => hexesB s k && decide ((48 ≤ byte s k ∧ byte s k ≤ 57) ∨ (97 ≤ byte s k ∧ byte s k ≤ 102))
theorem hexesB_iff (s : ByteArray) (k : Nat) : hexesB s k = true ↔ Hexes s k := by
  induction k with
  | zero => exact ⟨fun _ i hi => by omega, fun _ => rfl⟩
  | succ k ih =>
    simp only [hexesB, Bool.and_eq_true, decide_eq_true_eq]
    rw [ih]
    refine ⟨fun h i hi => ?_, fun h => ⟨fun i hi => h i (by omega), h k (by omega)⟩⟩
    by_cases e : i = k
    · subst e; exact h.2
    · exact h.1 i (by omega)
def noughts : ByteArray := ⟨#[48, 48, 48, 48, 48, 48, 48, 48]⟩
/-- 1 to 8 hexadecimal digits, with noughts ahead: 8; empty: it is none. -/
def word (s : ByteArray) : ByteArray :=
  if s.size = 0 ∨ 8 < s.size then ⟨#[]⟩ else if hexesB s s.size = true then noughts.extract s.size 8 ++ s else ⟨#[]⟩
theorem word_no1 {s : ByteArray} (h : s.size = 0 ∨ 8 < s.size) : word s = ⟨#[]⟩ := by unfold word; rw [if_pos h]
theorem word_no2 {s : ByteArray} (h : ¬ Hexes s s.size) : word s = ⟨#[]⟩ := by
  unfold word
  split
  · rfl
  · rw [if_neg]; exact fun e => h ((hexesB_iff _ _).1 e)
theorem word_yes {s : ByteArray} (h : ¬ (s.size = 0 ∨ 8 < s.size)) (hd : Hexes s s.size) : word s = noughts.extract s.size 8 ++ s := by
  unfold word; rw [if_neg h, if_pos ((hexesB_iff _ _).2 hd)]
/-- Is the byte at k one of a word? -/
def inWord (s : ByteArray) (k : Nat) : Prop := k < s.size ∧ byte s k ≠ 32 ∧ byte s k ≠ 9
def inWordD (s : ByteArray) (k : Nat) : Decidable (inWord s k) := by unfold inWord; infer_instance
/-- The words behind the first k bytes, and what stands of one. -/
def scan (s : ByteArray) : Nat → List ByteArray × ByteArray
  | 0 => ([], ⟨#[]⟩)
  | k + 1 => @ite _ (inWord s k) (inWordD s k) ((scan s k).1, (scan s k).2 ++ s.extract k (k + 1)) <| if (scan s k).2 = ⟨#[]⟩ then scan s k else ((scan s k).1 ++ [(scan s k).2], ⟨#[]⟩)
/-- The words of a line. -/
def words (s : ByteArray) : List ByteArray := (scan s (s.size + 1)).1
theorem size_ext (s : ByteArray) (k : Nat) (h : k < s.size) : (s.extract k (k + 1)).size = 1 := by
  rw [ByteArray.size_extract]; omega
theorem not_empty {s : ByteArray} (h : ¬ s = ⟨#[]⟩) : s.toList.isEmpty = false := by
  rw [← decide_eq_emptyBytes]
  exact decide_eq_false h
theorem scan_bd (s : ByteArray) (k : Nat) : (scan s k).1.length ≤ k ∧ (scan s k).2.size ≤ k := by
  induction k with
  | zero => exact ⟨Nat.le_refl _, Nat.le_refl _⟩
  | succ k ih =>
    simp only [scan]
    split
    · rename_i h
      have := size_ext s k h.1
      refine ⟨by simp; omega, ?_⟩
      simp only [ByteArray.size_append]
      omega
    · split
      · omega
      · refine ⟨by simp; omega, by simp [ByteArray.size]⟩
/-- A number's digits. -/
def decF : Nat → Nat → List UInt8
  | 0, n => [UInt8.ofNat (48 + n)]
  | f + 1, n => if 9 < n then decF f (n / 10) ++ [UInt8.ofNat (48 + n % 10)] else [UInt8.ofNat (48 + n)]
theorem decF_succ (f n : Nat) : decF (f + 1) n = if 9 < n then decF f (n / 10) ++ [UInt8.ofNat (48 + n % 10)] else [UInt8.ofNat (48 + n)] := rfl
theorem decF_more (f n : Nat) (h : n ≤ f) : decF (f + 1) n = decF f n := by
  induction f generalizing n with
  | zero =>
    obtain rfl : n = 0 := by omega
    rfl
  | succ f ih =>
    rw [decF_succ, decF_succ f n]
    by_cases c : 9 < n
    · rw [if_pos c, if_pos c, ih (n / 10) (by omega)]
    · rw [if_neg c, if_neg c]
theorem decF_all (n k : Nat) : decF (n + k) n = decF n n := by
  induction k with
  | zero => rfl
  | succ k ih => rw [← ih]; exact decF_more (n + k) n (by omega)
def dec (n : Nat) : List UInt8 := decF n n
theorem dec_low (n : Nat) (h : ¬ 9 < n) : dec n = [UInt8.ofNat (48 + n)] := by
  unfold dec
  cases n with
  | zero => rfl
  | succ n => rw [decF_succ, if_neg h]
theorem dec_up (n : Nat) (h : 9 < n) : dec n = dec (n / 10) ++ [UInt8.ofNat (48 + n % 10)] := by
  obtain ⟨m, rfl⟩ : ∃ m, n = m + 1 := ⟨n - 1, by omega⟩
  have e := decF_all ((m + 1) / 10) (m - (m + 1) / 10)
  rw [show (m + 1) / 10 + (m - (m + 1) / 10) = m from by omega] at e
  unfold dec
  rw [decF_succ, if_pos h, e]
theorem dec_high (n : Nat) (h : 9 < n) : dec n = dec (n / 10) ++ dec (n % 10) := by
  rw [dec_up n h, dec_low (n % 10) (by omega)]
theorem dec_len (n : Nat) : (dec n).length ≤ n + 1 := by
  induction n using Nat.strongRecOn with
  | _ n ih =>
    by_cases h : 9 < n
    · rw [dec_up n h]; have := ih (n / 10) (by omega); simp; omega
    · rw [dec_low n h]; simp
end Txt

end Go.Proofs.YtmmkhodaljpjgaaGreatDoor
