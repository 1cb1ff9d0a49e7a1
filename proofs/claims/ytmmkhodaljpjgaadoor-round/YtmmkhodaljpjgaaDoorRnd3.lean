import Derived.Test.YtmmkhodaljpjgaaDoorRnd2
/-! The words of a line that is laid together: one after another. -/
namespace Go.Proofs.YtmmkhodaljpjgaaDoor
open Go.RowKit

namespace Txt
theorem byte_left (a b : ByteArray) (i : Nat) (h : i < a.size) : byte (a ++ b) i = byte a i := by
  unfold byte
  have h' : i < a.data.toList.length := by simpa using h
  rw [ByteArray.data_append, Array.toList_append, List.getD_eq_getElem?_getD, List.getD_eq_getElem?_getD, List.getElem?_append_left h']
theorem byte_right (a b : ByteArray) (i : Nat) : byte (a ++ b) (a.size + i) = byte b i := by
  unfold byte
  have h' : a.data.toList.length = a.size := by simp
  rw [ByteArray.data_append, Array.toList_append, List.getD_eq_getElem?_getD, List.getD_eq_getElem?_getD, List.getElem?_append_right (by omega), h', Nat.add_sub_cancel_left]
/-- Bytes that make a word. -/
def Wordly (a : ByteArray) : Prop := 0 < a.size ∧ ∀ i, i < a.size → byte a i ≠ 32 ∧ byte a i ≠ 9
theorem wordly_db (n : Int) : Wordly (db n) := by
  refine ⟨by rw [db_len]; exact dec_pos _, fun i hi => ?_⟩
  have := digits_db n i hi
  omega
theorem ext_mid (p a q : ByteArray) : (p ++ a ++ q).extract p.size (p.size + a.size) = a := by
  rw [ByteArray.append_assoc]
  have e : (p ++ (a ++ q)).extract (p.size + 0) (p.size + a.size) = (a ++ q).extract 0 a.size := ByteArray.extract_append_size_add
  rw [Nat.add_zero] at e
  rw [e]
  exact ByteArray.extract_append_eq_left rfl
/-- One word more. -/
theorem scan_more (p a q : ByteArray) (ws : List ByteArray) (ha : Wordly a) (hq : q.size = 0 ∨ byte q 0 = 32) (h : scan (p ++ a ++ q) p.size = (ws, ⟨#[]⟩)) :
    scan (p ++ a ++ q) (p.size + a.size + 1) = (ws ++ [a], ⟨#[]⟩) := by
  have sz : (p ++ a ++ q).size = p.size + a.size + q.size := by rw [size_app, size_app]
  have hin : ∀ i, i < a.size → inWord (p ++ a ++ q) (p.size + i) := fun i hi => by
    have e : byte (p ++ a ++ q) (p.size + i) = byte a i := by
      rw [ByteArray.append_assoc, byte_right, byte_left _ _ _ hi]
    have := ha.2 i hi
    exact ⟨by omega, by rw [e]; exact this.1, by rw [e]; exact this.2⟩
  have hout : ¬ inWord (p ++ a ++ q) (p.size + a.size) := fun c => by
    rcases hq with hq | hq
    · have := c.1; omega
    · have e : byte (p ++ a ++ q) ((p ++ a).size + 0) = byte q 0 := byte_right _ _ _
      rw [size_app, Nat.add_zero] at e
      have := c.2.1
      rw [e, hq] at this
      exact this rfl
  rw [scan_wordly (p ++ a ++ q) p.size a.size ha.1 (by omega) hin hout (by rw [h]), h, ext_mid]
/-- An entry's two words. -/
theorem words_two (a b : ByteArray) (ha : Wordly a) (hb : Wordly b) : words (a ++ ⟨#[32]⟩ ++ b) = [a, b] := by
  have one : (⟨#[32]⟩ : ByteArray).size = 1 := rfl
  have s1 := scan_more ⟨#[]⟩ a (⟨#[32]⟩ ++ b) [] ha (.inr (by rw [byte_left _ _ _ (by omega)]; rfl)) rfl
  rw [nil_app, ← ByteArray.append_assoc] at s1
  have n0 : (⟨#[]⟩ : ByteArray).size = 0 := rfl
  rw [n0, Nat.zero_add] at s1
  have s2 := scan_more (a ++ ⟨#[32]⟩) b ⟨#[]⟩ ([] ++ [a]) hb (.inl rfl) (by rw [app_nil, size_app, one]; exact s1)
  rw [app_nil] at s2
  unfold words
  rw [size_app]
  rw [s2]; rfl
/-- One word behind a space. -/
theorem words_sp (a : ByteArray) (ha : Wordly a) : words (⟨#[32]⟩ ++ a) = [a] := by
  have one : (⟨#[32]⟩ : ByteArray).size = 1 := rfl
  have s0 : scan (⟨#[32]⟩ ++ a) 1 = ([], ⟨#[]⟩) := by
    rw [scan_skip _ 0 (fun c => by have := c.2.1; rw [byte_left _ _ _ (by omega)] at this; exact this rfl) rfl]; rfl
  have s2 := scan_more ⟨#[32]⟩ a ⟨#[]⟩ [] ha (.inl rfl) (by rw [app_nil]; exact s0)
  rw [app_nil] at s2
  unfold words
  rw [size_app]
  rw [s2]; rfl
end Txt

end Go.Proofs.YtmmkhodaljpjgaaDoor
