import Derived.Test.YtmmkhodaljpjgaaDoorRnd1
/-! The words of a line that is laid together. -/
namespace Go.Proofs.YtmmkhodaljpjgaaDoor
open Go.RowKit

namespace Txt
theorem app_nil (s : ByteArray) : s ++ (⟨#[]⟩ : ByteArray) = s := by
  have : (⟨#[]⟩ : ByteArray) = ByteArray.empty := rfl
  rw [this, ByteArray.append_empty]
theorem nil_app (s : ByteArray) : (⟨#[]⟩ : ByteArray) ++ s = s := by
  have : (⟨#[]⟩ : ByteArray) = ByteArray.empty := rfl
  rw [this, ByteArray.empty_append]
theorem ext_nil (s : ByteArray) (k : Nat) : s.extract k k = ⟨#[]⟩ := by
  have : (s.extract k k).size = 0 := by rw [ByteArray.size_extract]; omega
  exact ByteArray.size_eq_zero_iff.1 this
/-- Over the bytes of a word. -/
theorem scan_runs (s : ByteArray) (k m : Nat) (h : ∀ i, i < m → inWord s (k + i)) : scan s (k + m) = ((scan s k).1, (scan s k).2 ++ s.extract k (k + m)) := by
  induction m with
  | zero => rw [Nat.add_zero, ext_nil, app_nil]
  | succ m ih =>
    have e : scan s (k + (m + 1)) = ((scan s (k + m)).1, (scan s (k + m)).2 ++ s.extract (k + m) (k + m + 1)) := by
      show scan s (k + m + 1) = _
      rw [scan, if_pos (h m (by omega))]
    rw [e, ih (fun i hi => h i (by omega))]
    simp only
    rw [ByteArray.append_assoc, ByteArray.extract_append_extract, Nat.min_eq_left (by omega), Nat.max_eq_right (by omega)]
    rfl
/-- At a byte that is none of a word, behind one. -/
theorem scan_cut (s : ByteArray) (k : Nat) (h : ¬ inWord s k) (h2 : (scan s k).2 ≠ ⟨#[]⟩) : scan s (k + 1) = ((scan s k).1 ++ [(scan s k).2], ⟨#[]⟩) := by
  rw [scan, if_neg h, if_neg h2]
theorem scan_skip (s : ByteArray) (k : Nat) (h : ¬ inWord s k) (h2 : (scan s k).2 = ⟨#[]⟩) : scan s (k + 1) = scan s k := by
  rw [scan, if_neg h, if_pos h2]
/-- A word that ends at j. -/
theorem scan_wordly (s : ByteArray) (k m : Nat) (hm : 0 < m) (hs : k + m ≤ s.size) (h : ∀ i, i < m → inWord s (k + i)) (he : ¬ inWord s (k + m)) (h0 : (scan s k).2 = ⟨#[]⟩) :
    scan s (k + m + 1) = ((scan s k).1 ++ [s.extract k (k + m)], ⟨#[]⟩) := by
  have r := scan_runs s k m h
  rw [h0, nil_app] at r
  have ne : s.extract k (k + m) ≠ ⟨#[]⟩ := fun e => by
    have a : (s.extract k (k + m)).size = 0 := by rw [e]; rfl
    rw [ByteArray.size_extract] at a
    omega
  rw [scan_cut s (k + m) he (by rw [r]; exact ne), r]
end Txt

end Go.Proofs.YtmmkhodaljpjgaaDoor
