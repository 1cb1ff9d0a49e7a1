import Derived.Test.YtmmkhodaljpjgaaGreatDoorFileA
import Derived.Test.YtmmkhodaljpjgaaGreatDoorTabs
import Derived.Test.YtmmkhodaljpjgaaGreatDoorSha
/-! What a line of a file says. -/
namespace Go.Proofs.YtmmkhodaljpjgaaGreatDoor
open Go.RowKit

namespace Txt
abbrev em : ByteArray := ⟨#[]⟩
/-- What was read so far: Update, Expiry and the digest as they stand in the file (empty: not yet), the entries, the digits. -/
structure St where
  u : ByteArray
  x : ByteArray
  h : ByteArray
  ls : List (Int × Int)
  dg : ByteArray

/-- A line of one number that may stand there once: which error. -/
def once (ws : List ByteArray) (before : ByteArray) : Int :=
  if ws.length ≠ 1 then 3 else if isNum (ws.getD 0 em) = false then 3 else if before ≠ em then 4 else 0
/-- The first k words of a digest. -/
def hexTo (ws : List ByteArray) : Nat → ByteArray
  | 0 => em
  | k + 1 => hexTo ws k ++ word (ws.getD k em)
def Hexed (ws : List ByteArray) (k : Nat) : Prop := ∀ i, i < k → isHex (ws.getD i em) = true
def hexedB (ws : List ByteArray) : Nat → Bool
  | 0 => true
  | k + 1 => hexedB ws k && isHex (ws.getD k em)
theorem hexedB_iff (ws : List ByteArray) (k : Nat) : hexedB ws k = true ↔ Hexed ws k := by
  induction k with
  | zero => exact ⟨fun _ i hi => by omega, fun _ => rfl⟩
  | succ k ih =>
    simp only [hexedB, Bool.and_eq_true]
    rw [ih]
    refine ⟨fun h i hi => ?_, fun h => ⟨fun i hi => h i (by omega), h k (by omega)⟩⟩
    by_cases e : i = k
    · subst e; exact h.2
    · exact h.1 i (by omega)
theorem hexedB_no {ws : List ByteArray} {k : Nat} (h : ¬ Hexed ws k) : hexedB ws k = false := by
  cases e : hexedB ws k with
  | false => rfl
  | true => exact absurd ((hexedB_iff ws k).1 e) h
/-- A line of the digest: which error. -/
def hashErr (ws : List ByteArray) (before : ByteArray) : Int :=
  if ws.length ≠ 5 then 3 else if hexedB ws 5 = false then 3 else if before ≠ em then 4 else 0
/-- An entry: which error. -/
def entryErr (ls : List (Int × Int)) (ws : List ByteArray) : Int :=
  if ws.length = 0 then 0 else if ws.length < 2 then 3 else if isNum (ws.getD 0 em) = false then 3 else if isNum (ws.getD 1 em) = false then 3
  else if 2 < ws.length ∧ beg (ws.getD 2 em) ⟨#[35]⟩ = false then 3
  else if Tab.follows ls (numTo (ws.getD 0 em) (ws.getD 0 em).size) (numTo (ws.getD 1 em) (ws.getD 1 em).size) = false then 5 else 0
/-- The entry that a line says. -/
def entryOf (ws : List ByteArray) : Int × Int := (numTo (ws.getD 0 em) (ws.getD 0 em).size, numTo (ws.getD 1 em) (ws.getD 1 em).size)

def takeU (st : St) (ws : List ByteArray) : Int × St := (once ws st.u, { st with u := ws.getD 0 em, dg := st.dg ++ ws.getD 0 em })
def takeX (st : St) (ws : List ByteArray) : Int × St := (once ws st.x, { st with x := ws.getD 0 em, dg := st.dg ++ ws.getD 0 em })
def takeH (st : St) (ws : List ByteArray) : Int × St := (hashErr ws st.h, { st with h := hexTo ws 5 })
def takeE (st : St) (ws : List ByteArray) : Int × St :=
  (entryErr st.ls ws, if ws.length = 0 then st else { st with ls := st.ls ++ [entryOf ws], dg := st.dg ++ (ws.getD 0 em ++ ws.getD 1 em) })
/-- A line: which error, and what is read then. -/
def line (st : St) (s : ByteArray) : Int × St :=
  if beg s ⟨#[35, 36]⟩ = true then takeU st (words (s.extract 2 s.size))
  else if beg s ⟨#[35, 64]⟩ = true then takeX st (words (s.extract 2 s.size))
  else if beg s ⟨#[35, 104]⟩ = true then takeH st (words (s.extract 2 s.size))
  else if beg s ⟨#[35]⟩ = true then (0, st) else takeE st (words s)

/-- What holds of all that is read. -/
structure Ok (st : St) (n : Nat) : Prop where
  dg : st.dg.size ≤ 22 * n
  u : st.u = em ∨ isNum st.u = true
  x : st.x = em ∨ isNum st.x = true
  ls : Tab.okUpTo st.ls st.ls.length = true
  len : st.ls.length ≤ 40
  wf : ∀ p ∈ st.ls, WfP p
  off : ∀ p ∈ st.ls, 0 ≤ p.2 ∧ p.2 ≤ 200
  h : st.h.size ≤ 40

theorem once_cases {ws : List ByteArray} {b : ByteArray} (h : once ws b = 0) : ws.length = 1 ∧ isNum (ws.getD 0 em) = true ∧ b = em := by
  unfold once at h
  split at h
  · cases h
  · split at h
    · cases h
    · split at h
      · cases h
      · rename_i a b c; refine ⟨by omega, by simpa using b, by simpa using c⟩
theorem size_num {s : ByteArray} (h : isNum s = true) : s.size ≤ 11 := by have := (isNum_is h).1; omega
theorem size_word {s : ByteArray} : (word s).size ≤ 8 := by
  cases h : isHex s with
  | false => rw [word_none h]; decide
  | true =>
    have h8 := (isHex_is h).1
    rw [word_of h, ByteArray.size_append, ByteArray.size_extract]
    have : noughts.size = 8 := rfl
    omega
theorem size_hexTo (ws : List ByteArray) (k : Nat) : (hexTo ws k).size ≤ 8 * k := by
  induction k with
  | zero => exact Nat.le_refl _
  | succ k ih => rw [hexTo, ByteArray.size_append]; have := size_word (s := ws.getD k em); omega
end Txt

end Go.Proofs.YtmmkhodaljpjgaaGreatDoor

/-! What a file says. -/
namespace Go.Proofs.YtmmkhodaljpjgaaGreatDoor
open Go.RowKit

namespace Txt
def st0 : St := ⟨em, em, em, [], em⟩
/-- The lines from b on: which error, at which line; what was read. -/
def run (t : ByteArray) : Nat → Nat → Nat → St → Int × Nat × St
  | 0, _, _, st => (0, 0, st)
  | f + 1, b, n, st => if b ≤ t.size then (if (line st (t.extract b (eol t b))).1 = 0 then run t f (eol t b + 1) (n + 1) (line st (t.extract b (eol t b))).2 else ((line st (t.extract b (eol t b))).1, n, st)) else (0, 0, st)
theorem run_go {t : ByteArray} {f b n : Nat} {st : St} (h : b ≤ t.size) (he : (line st (t.extract b (eol t b))).1 = 0) : run t (f + 1) b n st = run t f (eol t b + 1) (n + 1) (line st (t.extract b (eol t b))).2 := by
  rw [run, if_pos h, if_pos he]
theorem run_err {t : ByteArray} {f b n : Nat} {st : St} (h : b ≤ t.size) (he : ¬ (line st (t.extract b (eol t b))).1 = 0) : run t (f + 1) b n st = ((line st (t.extract b (eol t b))).1, n, st) := by
  rw [run, if_pos h, if_neg he]
theorem run_end {t : ByteArray} {f b n : Nat} {st : St} (h : ¬ b ≤ t.size) : run t f b n st = (0, 0, st) := by
  cases f with
  | zero => rfl
  | succ f => rw [run, if_neg h]
/-- What is wrong with the lines together. -/
def fin (st : St) : Int :=
  if st.u = em ∨ st.x = em ∨ st.h = em ∨ st.ls.length = 0 then 6
  else if Tab.whole (numTo st.u st.u.size) (numTo st.x st.x.size) st.ls = false then 8
  else if ByteArray.mk (Sha.digest st.dg).toArray ≠ st.h then 7 else 0
/-- A table, an error, a line's number. -/
structure Got where
  up : Int
  ex : Int
  ls : List (Int × Int)
  err : Int
  num : Nat
def done (st : St) : Got := if fin st = 0 then ⟨numTo st.u st.u.size, numTo st.x st.x.size, st.ls, 0, 0⟩ else ⟨0, 0, [], fin st, 0⟩
def parse (t : ByteArray) : Got :=
  if 2000 < t.size then ⟨0, 0, [], 2, 0⟩
  else if (run t (t.size + 2) 0 0 st0).1 = 0 then done (run t (t.size + 2) 0 0 st0).2.2 else ⟨0, 0, [], (run t (t.size + 2) 0 0 st0).1, (run t (t.size + 2) 0 0 st0).2.1⟩

theorem Ok.start : Ok st0 0 := ⟨Nat.zero_le _, .inl rfl, .inl rfl, rfl, Nat.zero_le _, fun p h => by simp [st0] at h, fun p h => by simp [st0] at h, Nat.zero_le _⟩
theorem Ok.more {st : St} {n : Nat} (h : Ok st n) : Ok st (n + 1) := ⟨by have := h.dg; omega, h.u, h.x, h.ls, h.len, h.wf, h.off, h.h⟩
theorem wf_num {x : Int} (h0 : 0 ≤ x) (h1 : x < 100000000000) : (Lit.int .i64 x).wf = true := by
  simp [Lit.wf, IntKind.min, IntKind.max, IntKind.signed, IntKind.bits]
  omega
theorem follows_len {ls : List (Int × Int)} {a o : Int} (h : Tab.follows ls a o = true) (hl : ls.length ≤ 40) : ls.length < 40 := by
  by_cases c : ls.length = 40
  · rw [Tab.follows_no4 c] at h; cases h
  · omega
theorem okUpTo_app (ls : List (Int × Int)) (x : Int × Int) (k : Nat) (hk : k ≤ ls.length) : Tab.okUpTo (ls ++ [x]) k = Tab.okUpTo ls k := by
  induction k with
  | zero => rfl
  | succ k ih =>
    rw [Tab.okUpTo_succ _ _ (by simp; omega), Tab.okUpTo_succ _ _ (by omega), ih (by omega), List.take_append_of_le_length (by omega), List.getElem_append_left (by omega)]
theorem entry_cases {ls : List (Int × Int)} {ws : List ByteArray} (h : entryErr ls ws = 0) (h0 : ¬ ws.length = 0) : isNum (ws.getD 0 em) = true ∧ isNum (ws.getD 1 em) = true ∧ Tab.follows ls (entryOf ws).1 (entryOf ws).2 = true := by
  unfold entryErr at h
  rw [if_neg h0] at h
  split at h
  · cases h
  · split at h
    · cases h
    · split at h
      · cases h
      · split at h
        · cases h
        · split at h
          · cases h
          · rename_i a b c d e
            exact ⟨by simpa using b, by simpa using c, by simpa [entryOf] using e⟩
theorem Ok.takeU {st : St} {n : Nat} (h : Ok st n) (ws : List ByteArray) (he : (Txt.takeU st ws).1 = 0) : Ok (Txt.takeU st ws).2 (n + 1) := by
  have hd := h.dg
  obtain ⟨_, a, _⟩ := once_cases he
  have z := size_num a
  show Ok { st with u := ws.getD 0 em, dg := st.dg ++ ws.getD 0 em } (n + 1)
  generalize ws.getD 0 em = w0 at *
  exact ⟨by show (st.dg ++ w0).size ≤ _; rw [ByteArray.size_append]; omega, .inr a, h.x, h.ls, h.len, h.wf, h.off, h.h⟩
theorem Ok.takeX {st : St} {n : Nat} (h : Ok st n) (ws : List ByteArray) (he : (Txt.takeX st ws).1 = 0) : Ok (Txt.takeX st ws).2 (n + 1) := by
  have hd := h.dg
  obtain ⟨_, a, _⟩ := once_cases he
  have z := size_num a
  show Ok { st with x := ws.getD 0 em, dg := st.dg ++ ws.getD 0 em } (n + 1)
  generalize ws.getD 0 em = w0 at *
  exact ⟨by show (st.dg ++ w0).size ≤ _; rw [ByteArray.size_append]; omega, h.u, .inr a, h.ls, h.len, h.wf, h.off, h.h⟩
theorem Ok.takeH {st : St} {n : Nat} (h : Ok st n) (ws : List ByteArray) : Ok (Txt.takeH st ws).2 (n + 1) := by
  have hd := h.dg
  have hz := size_hexTo ws 5
  show Ok { st with h := hexTo ws 5 } (n + 1)
  generalize hexTo ws 5 = w0 at *
  exact ⟨by show st.dg.size ≤ _; omega, h.u, h.x, h.ls, h.len, h.wf, h.off, hz⟩
theorem Ok.takeE {st : St} {n : Nat} (h : Ok st n) (ws : List ByteArray) (he : (Txt.takeE st ws).1 = 0) : Ok (Txt.takeE st ws).2 (n + 1) := by
  have hd := h.dg
  unfold Txt.takeE at he ⊢
  simp only at he ⊢
  by_cases c : ws.length = 0
  · rw [if_pos c]; exact h.more
  · rw [if_neg c]
    obtain ⟨a, b, f⟩ := entry_cases he c
    have za := size_num a
    have zb := size_num b
    have na := numTo_le a
    have nb := numTo_le b
    have hl := follows_len f h.len
    have w1 : WfP (entryOf ws) := ⟨wf_num na.1 na.2, wf_num nb.1 nb.2⟩
    have o1 := Tab.follows_off f
    generalize entryOf ws = E at *
    generalize ws.getD 0 em = s0 at *
    generalize ws.getD 1 em = s1 at *
    refine ⟨?_, h.u, h.x, ?_, ?_, ?_, ?_, h.h⟩
    · show (st.dg ++ (s0 ++ s1)).size ≤ _
      rw [ByteArray.size_append, ByteArray.size_append]; omega
    · show Tab.okUpTo (st.ls ++ [E]) (st.ls ++ [E]).length = true
      rw [List.length_append]
      show Tab.okUpTo (st.ls ++ [E]) (st.ls.length + 1) = true
      rw [Tab.okUpTo_succ _ _ (by simp), okUpTo_app _ _ _ (Nat.le_refl _), h.ls]
      simp only [List.take_left, List.getElem_concat_length, Bool.true_and]
      exact f
    · show (st.ls ++ [E]).length ≤ 40
      rw [List.length_append]; simp; omega
    · intro p hp
      rcases List.mem_append.1 hp with hp | hp
      · exact h.wf p hp
      · simp at hp; subst hp; exact w1
    · intro p hp
      rcases List.mem_append.1 hp with hp | hp
      · exact h.off p hp
      · simp at hp; subst hp; exact o1
theorem Ok.line {st : St} {n : Nat} (h : Ok st n) (s : ByteArray) (he : (Txt.line st s).1 = 0) : Ok (Txt.line st s).2 (n + 1) := by
  unfold Txt.line at he ⊢
  generalize words (s.extract 2 s.size) = ws at *
  generalize words s = wt at *
  by_cases c1 : beg s ⟨#[35, 36]⟩ = true
  · rw [if_pos c1] at he ⊢; exact h.takeU ws he
  · rw [if_neg c1] at he ⊢
    by_cases c2 : beg s ⟨#[35, 64]⟩ = true
    · rw [if_pos c2] at he ⊢; exact h.takeX ws he
    · rw [if_neg c2] at he ⊢
      by_cases c3 : beg s ⟨#[35, 104]⟩ = true
      · rw [if_pos c3] at he ⊢; exact h.takeH ws
      · rw [if_neg c3] at he ⊢
        by_cases c4 : beg s ⟨#[35]⟩ = true
        · rw [if_pos c4] at he ⊢; exact h.more
        · rw [if_neg c4] at he ⊢; exact h.takeE wt he
end Txt

end Go.Proofs.YtmmkhodaljpjgaaGreatDoor
