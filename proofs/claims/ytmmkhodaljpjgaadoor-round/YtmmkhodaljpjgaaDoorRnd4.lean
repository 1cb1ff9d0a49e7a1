import Derived.Test.YtmmkhodaljpjgaaDoorRnd3
import Derived.Test.YtmmkhodaljpjgaaDoorTxtP
/-! A file that is laid together of lines. -/
namespace Go.Proofs.YtmmkhodaljpjgaaDoor
open Go.RowKit

namespace Txt
abbrev nl : ByteArray := ⟨#[10]⟩
theorem nl_size : nl.size = 1 := rfl
theorem byte_nl : byte nl 0 = 10 := rfl
/-- No newline among the bytes. -/
def Flat (a : ByteArray) : Prop := ∀ i, i < a.size → byte a i ≠ 10
/-- Lines, each with a newline behind it. -/
def join : List ByteArray → ByteArray
  | [] => em
  | l :: r => l ++ nl ++ join r
theorem join_app (l r : List ByteArray) : join (l ++ r) = join l ++ join r := by
  induction l with
  | nil => rw [List.nil_append, join, nil_app]
  | cons a l ih => rw [List.cons_append, join, join, ih, ByteArray.append_assoc, ByteArray.append_assoc, ByteArray.append_assoc]
theorem eol_line (p l q : ByteArray) (hl : Flat l) (hq : q.size = 0 ∨ byte q 0 = 10) : eol (p ++ l ++ q) p.size = p.size + l.size := by
  have sz : (p ++ l ++ q).size = p.size + l.size + q.size := by rw [size_app, size_app]
  have go : ∀ k, k ≤ l.size → eol (p ++ l ++ q) p.size = eol (p ++ l ++ q) (p.size + k) := by
    intro k
    induction k with
    | zero => intro _; rfl
    | succ k ih =>
      intro hk
      rw [ih (by omega)]
      refine eol_go (by omega) ?_
      rw [ByteArray.append_assoc, byte_right, byte_left _ _ _ (by omega)]
      exact hl k (by omega)
  rw [go l.size (Nat.le_refl _)]
  refine eol_stop fun h => ?_
  rcases hq with hq | hq
  · omega
  · have e : byte (p ++ l ++ q) ((p ++ l).size + 0) = byte q 0 := byte_right _ _ _
    rw [size_app, Nat.add_zero] at e
    exact h.2 (by rw [e]; exact hq)
/-- Lines that are read one behind the other. -/
def ReadsL : List ByteArray → St → St → Prop
  | [], a, b => a = b
  | l :: r, a, b => Flat l ∧ (line a l).1 = 0 ∧ ReadsL r (line a l).2 b
def Reads (a : St) (l : List ByteArray) (b : St) : Prop := ReadsL l a b
theorem Reads.nil (st : St) : Reads st [] st := rfl
theorem Reads.cons {st st' : St} {l : ByteArray} {r : List ByteArray} (hl : Flat l) (he : (line st l).1 = 0) (hr : Reads (line st l).2 r st') : Reads st (l :: r) st' := ⟨hl, he, hr⟩
theorem Reads.app {a b c : St} {l r : List ByteArray} (h : Reads a l b) (g : Reads b r c) : Reads a (l ++ r) c := by
  induction l generalizing a with
  | nil =>
    have e : a = b := h
    rw [e]; exact g
  | cons q s ih => exact Reads.cons h.1 h.2.1 (ih h.2.2)
theorem words_em : words em = [] := rfl
theorem beg_em (p : ByteArray) (h : 0 < p.size) : beg em p = false := by
  unfold beg
  refine decide_eq_false fun c => ?_
  have : em.size = 0 := rfl
  omega
theorem line_em (st : St) : line st em = (0, st) := by
  unfold line
  rw [beg_em _ (by decide), beg_em _ (by decide), beg_em _ (by decide), beg_em _ (by decide)]
  rfl
theorem run_join {a b : St} {L : List ByteArray} (h : Reads a L b) : ∀ (p : ByteArray) (f n : Nat), L.length + 2 ≤ f → run (p ++ join L) f p.size n a = (0, 0, b) := by
  induction L generalizing a with
  | nil =>
    have st : a = b := h
    subst st
    intro p f n hf
    obtain ⟨g, rfl⟩ : ∃ g, f = g + 2 := ⟨f - 2, by simp at hf; omega⟩
    have e : p ++ join [] = p ++ em ++ em := by rw [join, app_nil, app_nil]
    have e1 : eol (p ++ join []) p.size = p.size := by
      rw [e, eol_line p em em (fun i hi => by simp [ByteArray.size] at hi) (.inl rfl)]; rfl
    have e2 : (p ++ join []).size = p.size := by rw [e, size_app, size_app]; rfl
    have e3 : (p ++ join []).extract p.size p.size = em := ext_nil _ _
    rw [run_go (by omega) (by rw [e1, e3, line_em]), e1, e3, line_em, run_end (by omega)]
  | cons l r ih0 =>
    obtain ⟨hl, he, hr⟩ := h
    have ih := ih0 hr
    intro p f n hf
    obtain ⟨g, rfl⟩ : ∃ g, f = g + 1 := ⟨f - 1, by simp at hf; omega⟩
    have e : p ++ join (l :: r) = p ++ l ++ (nl ++ join r) := by rw [join, ByteArray.append_assoc, ByteArray.append_assoc]
    have e1 : eol (p ++ join (l :: r)) p.size = p.size + l.size := by
      rw [e]; exact eol_line p l _ hl (.inr (by rw [byte_left _ _ _ (by decide)]; rfl))
    have e2 : (p ++ join (l :: r)).size = p.size + l.size + (nl ++ join r).size := by rw [e, size_app, size_app]
    have e3 : (p ++ join (l :: r)).extract p.size (p.size + l.size) = l := by rw [e]; exact ext_mid _ _ _
    rw [run_go (by omega) (by rw [e1, e3]; exact he), e1, e3]
    have e4 : p ++ join (l :: r) = (p ++ l ++ nl) ++ join r := by rw [e, ByteArray.append_assoc, ByteArray.append_assoc, ByteArray.append_assoc]
    have e5 : p.size + l.size + 1 = (p ++ l ++ nl).size := by rw [size_app, size_app, nl_size]
    rw [e4, e5]
    exact ih _ g (n + 1) (by simp at hf; omega)
theorem join_size (L : List ByteArray) : L.length ≤ (join L).size := by
  induction L with
  | nil => exact Nat.zero_le _
  | cons l r ih => rw [join, size_app, size_app, nl_size, List.length_cons]; omega
theorem parse_join {b : St} {L : List ByteArray} (h : Reads st0 L b) (hs : (join L).size ≤ 2000) : parse (join L) = done b := by
  have r := run_join h em ((join L).size + 2) 0 (by have := join_size L; omega)
  rw [nil_app] at r
  have z : em.size = 0 := rfl
  rw [z] at r
  unfold parse
  rw [if_neg (by omega), r]
  rfl
end Txt

end Go.Proofs.YtmmkhodaljpjgaaDoor
