import Derived.Test.YtmmkhodaljpjgaaDoorPrM
/-! Digits back to numbers. -/
namespace Go.Proofs.YtmmkhodaljpjgaaDoor
open Go.RowKit

namespace Txt
theorem byte_list (l : List UInt8) (i : Nat) : byte ⟨l.toArray⟩ i = ((l.getD i 0).toNat : Int) := rfl
theorem numTo_same {s t : ByteArray} (k : Nat) (h : ∀ i, i < k → byte s i = byte t i) : numTo s k = numTo t k := by
  induction k with
  | zero => rfl
  | succ k ih => rw [numTo, numTo, ih (fun i hi => h i (by omega)), h k (by omega)]
theorem digit_byte (d : Nat) (h : d < 10) : ((UInt8.ofNat (48 + d)).toNat : Int) = 48 + d := by
  have : (UInt8.ofNat (48 + d)).toNat = 48 + d := by rw [UInt8.toNat_ofNat']; omega
  rw [this]; omega
theorem num_dec (n : Nat) : numTo ⟨(dec n).toArray⟩ (dec n).length = n ∧ Digits ⟨(dec n).toArray⟩ (dec n).length := by
  induction n using Nat.strongRecOn with
  | _ n ih =>
    by_cases h : 9 < n
    · obtain ⟨e, d⟩ := ih (n / 10) (by omega)
      have ex : dec n = dec (n / 10) ++ [UInt8.ofNat (48 + n % 10)] := by rw [dec_up n h]
      have old : ∀ i, i < (dec (n / 10)).length → byte ⟨(dec n).toArray⟩ i = byte ⟨(dec (n / 10)).toArray⟩ i := fun i hi => by
        rw [byte_list, byte_list, ex, List.getD_eq_getElem?_getD, List.getD_eq_getElem?_getD, List.getElem?_append_left hi]
      have new : byte ⟨(dec n).toArray⟩ (dec (n / 10)).length = 48 + ((n % 10 : Nat) : Int) := by
        rw [byte_list, ex, List.getD_eq_getElem?_getD, List.getElem?_append_right (Nat.le_refl _)]
        simp only [Nat.sub_self, List.getElem?_cons_zero, Option.getD_some]
        exact digit_byte _ (by omega)
      have len : (dec n).length = (dec (n / 10)).length + 1 := by rw [ex]; simp
      rw [len]
      refine ⟨?_, fun i hi => ?_⟩
      · rw [numTo, numTo_same _ old, e, new]; omega
      · by_cases c : i < (dec (n / 10)).length
        · rw [old i c]; exact d i c
        · have : i = (dec (n / 10)).length := by omega
          rw [this, new]; omega
    · have b : byte ⟨(dec n).toArray⟩ 0 = 48 + (n : Int) := by
        rw [byte_list, dec_low n h]; exact digit_byte n (by omega)
      have len : (dec n).length = 1 := by rw [dec_low n h]; rfl
      rw [len]
      refine ⟨?_, fun i hi => ?_⟩
      · rw [numTo, numTo, b]; omega
      · have : i = 0 := by omega
        rw [this, b]; omega
theorem dec_pos (n : Nat) : 0 < (dec n).length := by
  by_cases h : 9 < n
  · rw [dec_up n h]; simp
  · rw [dec_low n h]; simp
theorem db_len (n : Int) : (db n).size = (dec n.toNat).length := by show (dec n.toNat).toArray.size = _; simp
/-- A number's digits say that number. -/
theorem numTo_db (n : Int) (h : 0 ≤ n) : numTo (db n) (db n).size = n := by
  rw [db_len]; have := (num_dec n.toNat).1; unfold db; omega
theorem digits_db (n : Int) : Digits (db n) (db n).size := by rw [db_len]; exact (num_dec n.toNat).2
theorem number_db (n : Int) (h : 0 ≤ n) (h2 : n < 100000000000) : number (db n) = n := by
  have a := dec_pos n.toNat
  have b := dec_ten n.toNat 10 (by omega)
  have l := db_len n
  unfold number
  rw [if_neg (by omega), if_pos ((digitsB_iff _ _).2 (digits_db n)), numTo_db n h]
end Txt

end Go.Proofs.YtmmkhodaljpjgaaDoor
