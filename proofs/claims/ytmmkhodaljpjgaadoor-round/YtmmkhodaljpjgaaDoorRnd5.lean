import Derived.Test.YtmmkhodaljpjgaaDoorRnd4
/-! What is printed is parsed. -/
namespace Go.Proofs.YtmmkhodaljpjgaaDoor
open Go.RowKit

namespace Txt
theorem beg_no {s p : ByteArray} (i : Nat) (hi : i < p.size) (h : byte s i ≠ byte p i) : beg s p = false := by
  unfold beg
  refine decide_eq_false fun c => h ?_
  have e : byte (s.extract 0 p.size) i = byte p i := by rw [c.2]
  rw [← e]
  have e2 : s = s.extract 0 p.size ++ s.extract p.size s.size := by
    rw [ByteArray.extract_append_extract, Nat.min_eq_left (by omega), Nat.max_eq_right (by omega)]; simp
  have hz : i < (s.extract 0 p.size).size := by rw [ByteArray.size_extract]; omega
  rw [← byte_left _ (s.extract p.size s.size) i hz, ← e2]
theorem beg_yes (p a : ByteArray) : beg (p ++ a) p = true := by
  unfold beg
  refine decide_eq_true ⟨by rw [size_app]; omega, ByteArray.extract_append_eq_left rfl⟩
theorem rest_of (p a : ByteArray) : (p ++ a).extract p.size (p ++ a).size = a := by
  have := ext_mid p a em
  rw [app_nil] at this
  rw [size_app]; exact this
theorem isNum_db (n : Int) (h : n < 100000000000) : isNum (db n) = true := by
  have a := dec_pos n.toNat
  have b := dec_ten n.toNat 10 (by omega)
  have l := db_len n
  exact isNum_yes (by omega) (digits_db n)
theorem flat_db (n : Int) : Flat (db n) := fun i hi => by have := digits_db n i hi; omega
theorem flat_app {a b : ByteArray} (ha : Flat a) (hb : Flat b) : Flat (a ++ b) := fun i hi => by
  by_cases c : i < a.size
  · rw [byte_left _ _ _ c]; exact ha i c
  · obtain ⟨j, rfl⟩ : ∃ j, i = a.size + j := ⟨i - a.size, by omega⟩
    rw [byte_right]; exact hb j (by rw [size_app] at hi; omega)
def lnU (u : Int) : ByteArray := ⟨#[35, 36]⟩ ++ (⟨#[32]⟩ ++ db u)
def lnX (x : Int) : ByteArray := ⟨#[35, 64]⟩ ++ (⟨#[32]⟩ ++ db x)
def lnE (p : Int × Int) : ByteArray := db p.1 ++ ⟨#[32]⟩ ++ db p.2
theorem flat2 {a b : UInt8} (ha : (a.toNat : Int) ≠ 10) (hb : (b.toNat : Int) ≠ 10) : Flat ⟨#[a, b]⟩ := fun i hi => by
  match i, hi with
  | 0, _ => exact ha
  | 1, _ => exact hb
theorem flat1 {a : UInt8} (ha : (a.toNat : Int) ≠ 10) : Flat ⟨#[a]⟩ := fun i hi => by
  match i, hi with
  | 0, _ => exact ha
theorem flat_U (u : Int) : Flat (lnU u) := flat_app (flat2 (by decide) (by decide)) (flat_app (flat1 (by decide)) (flat_db u))
theorem flat_X (u : Int) : Flat (lnX u) := flat_app (flat2 (by decide) (by decide)) (flat_app (flat1 (by decide)) (flat_db u))
theorem flat_E (p : Int × Int) : Flat (lnE p) := flat_app (flat_app (flat_db _) (flat1 (by decide))) (flat_db _)
theorem once_ok {a b : ByteArray} (ha : isNum a = true) (hb : b = em) : once [a] b = 0 := by
  unfold once
  rw [if_neg (by simp)]
  show (if isNum a = false then (3 : Int) else _) = 0
  rw [ha, if_neg (by simp), if_neg (by simpa using hb)]
theorem line_U (st : St) (u : Int) (hu : u < 100000000000) (h : st.u = em) : (line st (lnU u)).1 = 0 ∧ (line st (lnU u)).2 = { st with u := db u, dg := st.dg ++ db u } := by
  have e : line st (lnU u) = takeU st [db u] := by
    unfold line lnU
    rw [if_pos (beg_yes _ _)]
    have := rest_of ⟨#[35, 36]⟩ (⟨#[32]⟩ ++ db u)
    have z : (⟨#[35, 36]⟩ : ByteArray).size = 2 := rfl
    rw [z] at this
    rw [this, words_sp _ (wordly_db u)]
  rw [e]
  exact ⟨once_ok (isNum_db u hu) h, rfl⟩
theorem line_X (st : St) (x : Int) (hx : x < 100000000000) (h : st.x = em) : (line st (lnX x)).1 = 0 ∧ (line st (lnX x)).2 = { st with x := db x, dg := st.dg ++ db x } := by
  have e : line st (lnX x) = takeX st [db x] := by
    unfold line lnX
    rw [if_neg (by rw [beg_no 1 (by decide) (by rw [byte_left _ _ _ (by decide)]; decide)]; simp), if_pos (beg_yes _ _)]
    have := rest_of ⟨#[35, 64]⟩ (⟨#[32]⟩ ++ db x)
    have z : (⟨#[35, 64]⟩ : ByteArray).size = 2 := rfl
    rw [z] at this
    rw [this, words_sp _ (wordly_db x)]
  rw [e]
  exact ⟨once_ok (isNum_db x hx) h, rfl⟩
theorem line_E (st : St) (p : Int × Int) (h1 : 0 ≤ p.1) (h2 : p.1 < 100000000000) (h3 : 0 ≤ p.2) (h4 : p.2 < 100000000000) (hf : Tab.follows st.ls p.1 p.2 = true) :
    (line st (lnE p)).1 = 0 ∧ (line st (lnE p)).2 = { st with ls := st.ls ++ [p], dg := st.dg ++ (db p.1 ++ db p.2) } := by
  have hd : 48 ≤ byte (lnE p) 0 := by
    have a := dec_pos p.1.toNat
    have l := db_len p.1
    unfold lnE
    rw [ByteArray.append_assoc, byte_left _ _ _ (by omega)]
    exact (digits_db p.1 0 (by omega)).1
  have nb : ∀ q : ByteArray, 0 < q.size → byte q 0 = 35 → beg (lnE p) q = false := fun q hq e => beg_no 0 hq (by rw [e]; omega)
  have e : line st (lnE p) = takeE st [db p.1, db p.2] := by
    unfold line
    rw [nb _ (by decide) rfl, nb _ (by decide) rfl, nb _ (by decide) rfl, nb _ (by decide) rfl]
    simp only [Bool.false_eq_true, if_false]
    unfold lnE
    rw [words_two _ _ (wordly_db _) (wordly_db _)]
  have o : entryOf [db p.1, db p.2] = p := by
    show (numTo (db p.1) (db p.1).size, numTo (db p.2) (db p.2).size) = p
    rw [numTo_db _ h1, numTo_db _ h3]
  rw [e]
  refine ⟨?_, ?_⟩
  · show entryErr st.ls [db p.1, db p.2] = 0
    unfold entryErr
    rw [if_neg (by simp), if_neg (by simp)]
    show (if isNum (db p.1) = false then (3 : Int) else if isNum (db p.2) = false then 3 else _) = 0
    rw [isNum_db _ h2, isNum_db _ h4, if_neg (by simp), if_neg (by simp), if_neg (by simp)]
    show (if Tab.follows st.ls (entryOf [db p.1, db p.2]).1 (entryOf [db p.1, db p.2]).2 = false then (5 : Int) else 0) = 0
    rw [o, hf, if_neg (by simp)]
  · show (if [db p.1, db p.2].length = 0 then st else { st with ls := st.ls ++ [entryOf [db p.1, db p.2]], dg := st.dg ++ (db p.1 ++ db p.2) }) = _
    rw [if_neg (by simp), o]
/-- A comment. -/
theorem line_C (st : St) (a : ByteArray) (ha : a.size = 0 ∨ byte a 0 = 32) : line st (⟨#[35]⟩ ++ a) = (0, st) := by
  have nb : ∀ c : UInt8, (c.toNat : Int) ≠ 32 → (c.toNat : Int) ≠ 0 → beg (⟨#[35]⟩ ++ a) ⟨#[35, c]⟩ = false := fun c hc hc0 => by
    rcases ha with ha | ha
    · unfold beg
      refine decide_eq_false fun q => ?_
      have q1 := q.1
      rw [size_app, ha] at q1
      have z1 : (ByteArray.mk #[35]).size = 1 := rfl
      have z2 : (ByteArray.mk #[35, c]).size = 2 := rfl
      omega
    · refine beg_no 1 (Nat.lt_succ_self 1) ?_
      have e := byte_right ⟨#[35]⟩ a 0
      have z1 : (ByteArray.mk #[35]).size = 1 := rfl
      rw [z1] at e
      rw [e, ha]
      exact fun q => hc q.symm
  unfold line
  rw [nb 36 (by decide) (by decide), nb 64 (by decide) (by decide), nb 104 (by decide) (by decide), beg_yes]
  rfl
end Txt

end Go.Proofs.YtmmkhodaljpjgaaDoor
