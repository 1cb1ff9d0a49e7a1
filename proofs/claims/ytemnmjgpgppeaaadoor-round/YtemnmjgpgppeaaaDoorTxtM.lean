import Derived.Test.YtemnmjgpgppeaaaDoorMem
import Derived.Test.YtemnmjgpgppeaaaDoorLeaf
/-! Words and numbers of a text. -/
namespace Go.Proofs.YtemnmjgpgppeaaaDoor
open Go.RowKit

namespace Txt
/-- A text's byte. -/
def byte (s : ByteArray) (i : Nat) : Int := ((s.data.toList.getD i 0).toNat : Int)
theorem byte_bd (s : ByteArray) (i : Nat) : 0 ≤ byte s i ∧ byte s i < 256 := by
  unfold byte; have := (s.data.toList.getD i 0).toNat_lt; omega
theorem byte_at (s : ByteArray) (i : Nat) (h : i < s.size) : byte s i = (s[i].toNat : Int) := by
  unfold byte; rw [getD_bytes s i h]
/-- The number that the first k digits are. -/
def numTo (s : ByteArray) : Nat → Int
  | 0 => 0
  | k + 1 => 10 * numTo s k + (byte s k - 48)
/-- Are the first k bytes digits? -/
def Digits (s : ByteArray) (k : Nat) : Prop := ∀ i, i < k → 48 ≤ byte s i ∧ byte s i ≤ 57
/-- 1 to 11 digits; -1: it is none. -/
noncomputable def number (s : ByteArray) : Int :=
  if s.size = 0 ∨ 11 < s.size then -1 else if @decide (Digits s s.size) (Classical.propDecidable _) = true then numTo s s.size else -1
theorem numTo_bd {s : ByteArray} (k : Nat) (h : Digits s k) : 0 ≤ numTo s k ∧ numTo s k < 10 ^ k := by
  induction k with
  | zero => simp [numTo]
  | succ k ih =>
    have a := ih (fun i hi => h i (by omega))
    have b := h k (by omega)
    simp only [numTo]
    rw [Int.pow_succ]
    omega
theorem pow10_le (k : Nat) (h : k ≤ 10) : (10 : Int) ^ k ≤ 10000000000 := by
  match k, h with
  | 0, _ | 1, _ | 2, _ | 3, _ | 4, _ | 5, _ | 6, _ | 7, _ | 8, _ | 9, _ | 10, _ => decide
theorem number_no1 {s : ByteArray} (h : s.size = 0 ∨ 11 < s.size) : number s = -1 := by unfold number; rw [if_pos h]
theorem number_no2 {s : ByteArray} (h : ¬ Digits s s.size) : number s = -1 := by
  unfold number
  split
  · rfl
  · rw [if_neg]; exact fun e => h (@of_decide_eq_true _ (Classical.propDecidable _) e)
theorem number_yes {s : ByteArray} (h : ¬ (s.size = 0 ∨ 11 < s.size)) (hd : Digits s s.size) : number s = numTo s s.size := by
  unfold number; rw [if_neg h, if_pos (@decide_eq_true _ (Classical.propDecidable _) hd)]
/-- A hexadecimal digit (a small letter). -/
def HexB (c : Int) : Prop := (48 ≤ c ∧ c ≤ 57) ∨ (97 ≤ c ∧ c ≤ 102)
def Hexes (s : ByteArray) (k : Nat) : Prop := ∀ i, i < k → HexB (byte s i)
def noughts : ByteArray := ⟨#[48, 48, 48, 48, 48, 48, 48, 48]⟩
/-- 1 to 8 hexadecimal digits, with noughts ahead: 8; empty: it is none. -/
noncomputable def word (s : ByteArray) : ByteArray :=
  if s.size = 0 ∨ 8 < s.size then ⟨#[]⟩ else if @decide (Hexes s s.size) (Classical.propDecidable _) = true then noughts.extract s.size 8 ++ s else ⟨#[]⟩
theorem word_no1 {s : ByteArray} (h : s.size = 0 ∨ 8 < s.size) : word s = ⟨#[]⟩ := by unfold word; rw [if_pos h]
theorem word_no2 {s : ByteArray} (h : ¬ Hexes s s.size) : word s = ⟨#[]⟩ := by
  unfold word
  split
  · rfl
  · rw [if_neg]; exact fun e => h (@of_decide_eq_true _ (Classical.propDecidable _) e)
theorem word_yes {s : ByteArray} (h : ¬ (s.size = 0 ∨ 8 < s.size)) (hd : Hexes s s.size) : word s = noughts.extract s.size 8 ++ s := by
  unfold word; rw [if_neg h, if_pos (@decide_eq_true _ (Classical.propDecidable _) hd)]
/-- Is the byte at k one of a word? -/
def inWord (s : ByteArray) (k : Nat) : Prop := k < s.size ∧ byte s k ≠ 32 ∧ byte s k ≠ 9
instance (s : ByteArray) (k : Nat) : Decidable (inWord s k) := by unfold inWord; infer_instance
/-- The words behind the first k bytes, and what stands of one. -/
def scan (s : ByteArray) : Nat → List ByteArray × ByteArray
  | 0 => ([], ⟨#[]⟩)
  | k + 1 => if inWord s k then ((scan s k).1, (scan s k).2 ++ s.extract k (k + 1)) else if (scan s k).2 = ⟨#[]⟩ then scan s k else ((scan s k).1 ++ [(scan s k).2], ⟨#[]⟩)
/-- The words of a line. -/
def words (s : ByteArray) : List ByteArray := (scan s (s.size + 1)).1
theorem size_ext (s : ByteArray) (k : Nat) (h : k < s.size) : (s.extract k (k + 1)).size = 1 := by
  rw [ByteArray.size_extract]; omega
theorem not_empty {s : ByteArray} (h : ¬ s = ⟨#[]⟩) : s.toList.isEmpty = false := by
  rw [← decide_eq_emptyBytes]
  exact decide_eq_false h
theorem scan_bd (s : ByteArray) (k : Nat) : (scan s k).1.length ≤ k ∧ (scan s k).2.size ≤ k := by
  induction k with
  | zero => exact ⟨Nat.le_refl _, Nat.le_refl _⟩
  | succ k ih =>
    simp only [scan]
    split
    · rename_i h
      have := size_ext s k h.1
      refine ⟨by simp; omega, ?_⟩
      simp only [ByteArray.size_append]
      omega
    · split
      · omega
      · refine ⟨by simp; omega, by simp [ByteArray.size]⟩
/-- A number's digits. -/
def dec (n : Nat) : List UInt8 := if h : 9 < n then dec (n / 10) ++ [UInt8.ofNat (48 + n % 10)] else [UInt8.ofNat (48 + n)]
termination_by n
decreasing_by omega
theorem dec_low (n : Nat) (h : ¬ 9 < n) : dec n = [UInt8.ofNat (48 + n)] := by rw [dec, dif_neg h]
theorem dec_high (n : Nat) (h : 9 < n) : dec n = dec (n / 10) ++ dec (n % 10) := by
  rw [dec, dif_pos h, dec_low (n % 10) (by omega)]
theorem dec_len (n : Nat) : (dec n).length ≤ n + 1 := by
  induction n using Nat.strongRecOn with
  | _ n ih =>
    by_cases h : 9 < n
    · rw [dec, dif_pos h]; have := ih (n / 10) (by omega); simp; omega
    · rw [dec_low n h]; simp
end Txt

end Go.Proofs.YtemnmjgpgppeaaaDoor
