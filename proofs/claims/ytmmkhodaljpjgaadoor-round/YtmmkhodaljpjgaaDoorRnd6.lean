import Derived.Test.YtmmkhodaljpjgaaDoorRnd5
/-! The digest's line. -/
namespace Go.Proofs.YtmmkhodaljpjgaaDoor
open Go.RowKit

/-- A hexadecimal digit's byte. -/
def HexU (c : UInt8) : Prop := Txt.HexB (c.toNat : Int)
theorem hexU_hexd (v : Int) (h0 : 0 ≤ v) (h1 : v < 16) : HexU (Sha.hexd v) := by
  obtain ⟨n, rfl⟩ := Int.eq_ofNat_of_zero_le h0
  have hn : n < 16 := by omega
  match n, hn with
  | 0, _ | 1, _ | 2, _ | 3, _ | 4, _ | 5, _ | 6, _ | 7, _ | 8, _ | 9, _ | 10, _ | 11, _ | 12, _ | 13, _ | 14, _ | 15, _ => unfold HexU Txt.HexB; decide
theorem hexU_hexs (x : Int) (k : Nat) : ∀ c ∈ Sha.hexs x k, HexU c := by
  induction k with
  | zero => intro c h; simp [Sha.hexs] at h
  | succ k ih =>
    intro c h
    rw [Sha.hexs] at h
    rcases List.mem_append.1 h with h | h
    · exact ih c h
    · simp at h; subst h
      have a := Int.emod_nonneg (x * 16 ^ k) (show (4294967296 : Int) ≠ 0 by decide)
      have b := Int.emod_lt_of_pos (x * 16 ^ k) (show (0 : Int) < 4294967296 by decide)
      exact hexU_hexd _ (by omega) (by omega)
theorem hexU_text (x : Sha.St) (n : Nat) : ∀ c ∈ x.text n, HexU c := by
  induction n with
  | zero => intro c h; simp [Sha.St.text] at h
  | succ n ih =>
    intro c h
    rw [Sha.St.text] at h
    rcases List.mem_append.1 h with h | h
    · exact ih c h
    · exact hexU_hexs _ _ c h

namespace Txt
theorem hexes_digest (s : ByteArray) : Hexes ⟨(Sha.digest s).toArray⟩ 40 := fun i hi => by
  have hl : (Sha.digest s).length = 40 := by unfold Sha.digest; simp [Sha.St.text_length]
  rw [byte_list, List.getD_eq_getElem?_getD, List.getElem?_eq_getElem (by omega), Option.getD_some]
  have m : (Sha.digest s)[i]'(by omega) ∈ Sha.digest s := List.getElem_mem (by omega)
  exact hexU_text _ 5 _ m
theorem byte_ext (h : ByteArray) (a b i : Nat) (hb : b ≤ h.size) (hi : a + i < b) : byte (h.extract a b) i = byte h (a + i) := by
  have e : h = h.extract 0 a ++ (h.extract a b ++ h.extract b h.size) := by
    rw [ByteArray.extract_append_extract, Nat.min_eq_left (by omega), Nat.max_eq_right (by omega), ByteArray.extract_append_extract, Nat.min_eq_left (by omega), Nat.max_eq_right (by omega)]; simp
  have za : (h.extract 0 a).size = a := by rw [ByteArray.size_extract]; omega
  have zb : (h.extract a b).size = b - a := by rw [ByteArray.size_extract]; omega
  have q := byte_right (h.extract 0 a) (h.extract a b ++ h.extract b h.size) i
  rw [← e, za, byte_left _ _ _ (by omega)] at q
  exact q.symm
theorem ext_two (h : ByteArray) (a b c : Nat) (h1 : a ≤ b) (h2 : b ≤ c) : h.extract a b ++ h.extract b c = h.extract a c := by
  rw [ByteArray.extract_append_extract, Nat.min_eq_left h1, Nat.max_eq_right h2]
/-- Words, each with a blank ahead. -/
def sp : List ByteArray → ByteArray
  | [] => em
  | a :: r => ⟨#[32]⟩ ++ a ++ sp r
theorem sp_head (r : List ByteArray) : (sp r).size = 0 ∨ byte (sp r) 0 = 32 := by
  cases r with
  | nil => exact .inl rfl
  | cons a r => refine .inr ?_; rw [sp, ByteArray.append_assoc, byte_left _ _ _ (by decide)]; rfl
theorem words_sp_list : ∀ (r : List ByteArray) (p a : ByteArray) (ws : List ByteArray), Wordly a → (∀ b ∈ r, Wordly b) → scan (p ++ ⟨#[32]⟩ ++ a ++ sp r) (p.size + 1) = (ws, em) → words (p ++ ⟨#[32]⟩ ++ a ++ sp r) = ws ++ (a :: r) := by
  intro r
  induction r with
  | nil =>
    intro p a ws ha _ h
    have one : (⟨#[32]⟩ : ByteArray).size = 1 := rfl
    have s := scan_more (p ++ ⟨#[32]⟩) a (sp []) ws ha (.inl rfl) (by rw [size_app, one]; exact h)
    have z : (p ++ ⟨#[32]⟩ ++ a ++ sp []).size = (p ++ ⟨#[32]⟩).size + a.size := by rw [size_app, size_app]; rfl
    unfold words
    rw [z, s]
  | cons b r ih =>
    intro p a ws ha hr h
    have one : (⟨#[32]⟩ : ByteArray).size = 1 := rfl
    have s := scan_more (p ++ ⟨#[32]⟩) a (sp (b :: r)) ws ha (sp_head _) (by rw [size_app, one]; exact h)
    have e : p ++ ⟨#[32]⟩ ++ a ++ sp (b :: r) = (p ++ ⟨#[32]⟩ ++ a) ++ ⟨#[32]⟩ ++ b ++ sp r := by rw [sp]; simp only [ByteArray.append_assoc]
    have z : (p ++ ⟨#[32]⟩).size + a.size + 1 = (p ++ ⟨#[32]⟩ ++ a).size + 1 := by rw [size_app (p ++ ⟨#[32]⟩) a]
    rw [z, e] at s
    rw [e, ih (p ++ ⟨#[32]⟩ ++ a) b (ws ++ [a]) (hr b (by simp)) (fun c hc => hr c (by simp [hc])) s]
    simp
theorem words_sps (a : ByteArray) (r : List ByteArray) (ha : Wordly a) (hr : ∀ b ∈ r, Wordly b) : words (sp (a :: r)) = a :: r := by
  have s0 : scan (em ++ ⟨#[32]⟩ ++ a ++ sp r) (em.size + 1) = ([], em) := by
    have z : em.size = 0 := rfl
    rw [nil_app, z, scan_skip _ 0 (fun c => by have := c.2.1; rw [ByteArray.append_assoc, byte_left _ _ _ (by decide)] at this; exact this rfl) rfl]; rfl
  have := words_sp_list r em a [] ha hr s0
  rw [nil_app] at this
  rw [sp]; exact this
/-- The five words of a digest. -/
def five (h : ByteArray) : List ByteArray := [h.extract 0 8, h.extract 8 16, h.extract 16 24, h.extract 24 32, h.extract 32 40]
def lnH (h : ByteArray) : ByteArray := ⟨#[35, 104]⟩ ++ sp (five h)
theorem hl_ln (h : ByteArray) : hl h = lnH h ++ nl := by
  unfold hl lnH five
  simp only [hlTo, sp, app_nil, ByteArray.append_assoc, Nat.zero_mul, Nat.zero_add, Nat.one_mul, Nat.reduceMul, Nat.reduceAdd]
theorem five_mem {h e : ByteArray} (he : e ∈ five h) : ∃ k, k + 8 ≤ 40 ∧ e = h.extract k (k + 8) := by
  simp [five] at he
  rcases he with rfl | rfl | rfl | rfl | rfl
  · exact ⟨0, by omega, rfl⟩
  · exact ⟨8, by omega, rfl⟩
  · exact ⟨16, by omega, rfl⟩
  · exact ⟨24, by omega, rfl⟩
  · exact ⟨32, by omega, rfl⟩
theorem hex_ext {h : ByteArray} (hs : h.size = 40) (hh : Hexes h 40) (k : Nat) (hk : k + 8 ≤ 40) : (h.extract k (k + 8)).size = 8 ∧ Hexes (h.extract k (k + 8)) 8 := by
  refine ⟨by rw [ByteArray.size_extract]; omega, fun i hi => ?_⟩
  rw [byte_ext h k (k + 8) i (by omega) (by omega)]
  exact hh (k + i) (by omega)
theorem hexB_not {c : Int} (h : HexB c) : c ≠ 32 ∧ c ≠ 9 ∧ c ≠ 10 := by unfold HexB at h; omega
theorem flat_sp (r : List ByteArray) (h : ∀ b ∈ r, Flat b) : Flat (sp r) := by
  induction r with
  | nil => intro i hi; simp [sp, ByteArray.size] at hi
  | cons a r ih => rw [sp]; exact flat_app (flat_app (flat1 (by decide)) (h a (by simp))) (ih fun b hb => h b (by simp [hb]))
theorem flat_H {h : ByteArray} (hs : h.size = 40) (hh : Hexes h 40) : Flat (lnH h) :=
  flat_app (flat2 (by decide) (by decide)) (flat_sp _ fun b hb => by
    obtain ⟨k, hk, rfl⟩ := five_mem hb
    obtain ⟨z, x⟩ := hex_ext hs hh k hk
    intro i hi
    exact (hexB_not (x i (by omega))).2.2)
theorem line_H (st : St) {h : ByteArray} (hs : h.size = 40) (hh : Hexes h 40) (h0 : st.h = em) : (line st (lnH h)).1 = 0 ∧ (line st (lnH h)).2 = { st with h := h } := by
  have wd : ∀ b ∈ five h, Wordly b := fun b hb => by
    obtain ⟨k, hk, rfl⟩ := five_mem hb
    obtain ⟨z, x⟩ := hex_ext hs hh k hk
    exact ⟨by omega, fun i hi => ⟨(hexB_not (x i (by omega))).1, (hexB_not (x i (by omega))).2.1⟩⟩
  have e : line st (lnH h) = takeH st (five h) := by
    unfold line lnH
    rw [if_neg (by rw [beg_no 1 (by decide) (by rw [byte_left _ _ _ (by decide)]; decide)]; simp), if_neg (by rw [beg_no 1 (by decide) (by rw [byte_left _ _ _ (by decide)]; decide)]; simp), if_pos (beg_yes _ _)]
    have := rest_of ⟨#[35, 104]⟩ (sp (five h))
    have z : (⟨#[35, 104]⟩ : ByteArray).size = 2 := rfl
    rw [z] at this
    rw [this]
    have q := words_sps (h.extract 0 8) [h.extract 8 16, h.extract 16 24, h.extract 24 32, h.extract 32 40] (wd _ (by simp [five])) (fun b hb => wd b (by simp [five] at hb ⊢; exact .inr hb))
    show takeH st (words (sp (five h))) = _
    rw [show words (sp (five h)) = five h from q]
  have hx : ∀ k, k + 8 ≤ 40 → isHex (h.extract k (k + 8)) = true := fun k hk => by
    obtain ⟨z, x⟩ := hex_ext hs hh k hk
    exact isHex_yes (by omega) (by rw [z]; exact x)
  have hw : ∀ k, k + 8 ≤ 40 → word (h.extract k (k + 8)) = h.extract k (k + 8) := fun k hk => by
    obtain ⟨z, _⟩ := hex_ext hs hh k hk
    rw [word_of (hx k hk), z, ext_nil, nil_app]
  have all : Hexed (five h) 5 := fun i hi => by
    match i, hi with
    | 0, _ => exact hx 0 (by omega)
    | 1, _ => exact hx 8 (by omega)
    | 2, _ => exact hx 16 (by omega)
    | 3, _ => exact hx 24 (by omega)
    | 4, _ => exact hx 32 (by omega)
  have hex5 : hexTo (five h) 5 = h := by
    show em ++ word (h.extract 0 8) ++ word (h.extract 8 16) ++ word (h.extract 16 24) ++ word (h.extract 24 32) ++ word (h.extract 32 40) = h
    rw [hw 0 (by omega), hw 8 (by omega), hw 16 (by omega), hw 24 (by omega), hw 32 (by omega), nil_app]
    rw [ext_two h 0 8 16 (by omega) (by omega), ext_two h 0 16 24 (by omega) (by omega), ext_two h 0 24 32 (by omega) (by omega), ext_two h 0 32 40 (by omega) (by omega)]
    rw [← hs]; simp
  rw [e]
  refine ⟨?_, ?_⟩
  · show hashErr (five h) st.h = 0
    unfold hashErr
    rw [if_neg (by simp [five]), (hexedB_iff _ _).2 all, if_neg (by simp), if_neg (by simpa using h0)]
  · show ({ st with h := hexTo (five h) 5 } : St) = _
    rw [hex5]
end Txt

end Go.Proofs.YtmmkhodaljpjgaaDoor
