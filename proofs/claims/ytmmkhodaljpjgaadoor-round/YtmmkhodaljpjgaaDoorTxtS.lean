import Derived.Test.YtmmkhodaljpjgaaDoorFile2
import Derived.Test.YtmmkhodaljpjgaaDoorTabN
/-! What a line of a file says. -/
namespace Go.Proofs.YtmmkhodaljpjgaaDoor
open Go.RowKit

namespace Txt
abbrev em : ByteArray := ⟨#[]⟩
/-- What was read so far: Update, Expiry and the digest as they stand in the file (empty: not yet), the entries, the digits. -/
structure St where
  u : ByteArray
  x : ByteArray
  h : ByteArray
  ls : List (Int × Int)
  dg : ByteArray

/-- A line of one number that may stand there once: which error. -/
def once (ws : List ByteArray) (before : ByteArray) : Int :=
  if ws.length ≠ 1 then 3 else if isNum (ws.getD 0 em) = false then 3 else if before ≠ em then 4 else 0
/-- The first k words of a digest. -/
def hexTo (ws : List ByteArray) : Nat → ByteArray
  | 0 => em
  | k + 1 => hexTo ws k ++ word (ws.getD k em)
def Hexed (ws : List ByteArray) (k : Nat) : Prop := ∀ i, i < k → isHex (ws.getD i em) = true
def hexedB (ws : List ByteArray) : Nat → Bool
  | 0 => true
  | k + 1 => hexedB ws k && isHex (ws.getD k em)
theorem hexedB_iff (ws : List ByteArray) (k : Nat) : hexedB ws k = true ↔ Hexed ws k := by
  induction k with
  | zero => exact ⟨fun _ i hi => by omega, fun _ => rfl⟩
  | succ k ih =>
    simp only [hexedB, Bool.and_eq_true]
    rw [ih]
    refine ⟨fun h i hi => ?_, fun h => ⟨fun i hi => h i (by omega), h k (by omega)⟩⟩
    by_cases e : i = k
    · subst e; exact h.2
    · exact h.1 i (by omega)
theorem hexedB_no {ws : List ByteArray} {k : Nat} (h : ¬ Hexed ws k) : hexedB ws k = false := by
  cases e : hexedB ws k with
  | false => rfl
  | true => exact absurd ((hexedB_iff ws k).1 e) h
/-- A line of the digest: which error. -/
def hashErr (ws : List ByteArray) (before : ByteArray) : Int :=
  if ws.length ≠ 5 then 3 else if hexedB ws 5 = false then 3 else if before ≠ em then 4 else 0
/-- An entry: which error. -/
def entryErr (ls : List (Int × Int)) (ws : List ByteArray) : Int :=
  if ws.length = 0 then 0 else if ws.length < 2 then 3 else if isNum (ws.getD 0 em) = false then 3 else if isNum (ws.getD 1 em) = false then 3
  else if 2 < ws.length ∧ beg (ws.getD 2 em) ⟨#[35]⟩ = false then 3
  else if Tab.follows ls (numTo (ws.getD 0 em) (ws.getD 0 em).size) (numTo (ws.getD 1 em) (ws.getD 1 em).size) = false then 5 else 0
/-- The entry that a line says. -/
def entryOf (ws : List ByteArray) : Int × Int := (numTo (ws.getD 0 em) (ws.getD 0 em).size, numTo (ws.getD 1 em) (ws.getD 1 em).size)

def takeU (st : St) (ws : List ByteArray) : Int × St := (once ws st.u, { st with u := ws.getD 0 em, dg := st.dg ++ ws.getD 0 em })
def takeX (st : St) (ws : List ByteArray) : Int × St := (once ws st.x, { st with x := ws.getD 0 em, dg := st.dg ++ ws.getD 0 em })
def takeH (st : St) (ws : List ByteArray) : Int × St := (hashErr ws st.h, { st with h := hexTo ws 5 })
def takeE (st : St) (ws : List ByteArray) : Int × St :=
  (entryErr st.ls ws, if ws.length = 0 then st else { st with ls := st.ls ++ [entryOf ws], dg := st.dg ++ (ws.getD 0 em ++ ws.getD 1 em) })
/-- A line: which error, and what is read then. -/
def line (st : St) (s : ByteArray) : Int × St :=
  if beg s ⟨#[35, 36]⟩ = true then takeU st (words (s.extract 2 s.size))
  else if beg s ⟨#[35, 64]⟩ = true then takeX st (words (s.extract 2 s.size))
  else if beg s ⟨#[35, 104]⟩ = true then takeH st (words (s.extract 2 s.size))
  else if beg s ⟨#[35]⟩ = true then (0, st) else takeE st (words s)

/-- What holds of all that is read. -/
structure Ok (st : St) (n : Nat) : Prop where
  dg : st.dg.size ≤ 22 * n
  u : st.u = em ∨ isNum st.u = true
  x : st.x = em ∨ isNum st.x = true
  ls : Tab.okUpTo st.ls st.ls.length = true
  len : st.ls.length ≤ 40
  wf : ∀ p ∈ st.ls, WfP p
  off : ∀ p ∈ st.ls, 0 ≤ p.2 ∧ p.2 ≤ 200
  h : st.h.size ≤ 40

theorem once_cases {ws : List ByteArray} {b : ByteArray} (h : once ws b = 0) : ws.length = 1 ∧ isNum (ws.getD 0 em) = true ∧ b = em := by
  unfold once at h
  split at h
  · cases h
  · split at h
    · cases h
    · split at h
      · cases h
      · rename_i a b c; refine ⟨by omega, by simpa using b, by simpa using c⟩
theorem size_num {s : ByteArray} (h : isNum s = true) : s.size ≤ 11 := by have := (isNum_is h).1; omega
theorem size_word {s : ByteArray} : (word s).size ≤ 8 := by
  cases h : isHex s with
  | false => rw [word_none h]; decide
  | true =>
    have h8 := (isHex_is h).1
    rw [word_of h, ByteArray.size_append, ByteArray.size_extract]
    have : noughts.size = 8 := rfl
    omega
theorem size_hexTo (ws : List ByteArray) (k : Nat) : (hexTo ws k).size ≤ 8 * k := by
  induction k with
  | zero => exact Nat.le_refl _
  | succ k ih => rw [hexTo, ByteArray.size_append]; have := size_word (s := ws.getD k em); omega
end Txt

end Go.Proofs.YtmmkhodaljpjgaaDoor
