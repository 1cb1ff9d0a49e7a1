import Derived.Test.YtmmkhodaljpjgabGreatDoorW06
import Derived.Handy
import Derived.StillTactics
import Derived.Deep.DrawnRows
import Derived.Deep.RegionLaw
import Derived.Deep.QuietTactic
import Derived.BigQuiet
import Derived.Deep.DeepMust
import Derived.Deep.Cut
import Derived.Deep.CutBlock
namespace Go.Proofs.YtmmkhodaljpjgabGreatDoor
open Go.RowKit
namespace Txt
def st0 : St := ⟨em, em, em, [], em⟩
/-- The lines from b on: which error, at which line; what was read. -/
def run (t : ByteArray) : Nat → Nat → Nat → St → Int × Nat × St
  | 0, _, _, st => (0, 0, st)
  | f + 1, b, n, st => if b ≤ t.size then (if (line st (t.extract b (eol t b))).1 = 0 then run t f (eol t b + 1) (n + 1) (line st (t.extract b (eol t b))).2 else ((line st (t.extract b (eol t b))).1, n, st)) else (0, 0, st)
theorem run_go {t : ByteArray} {f b n : Nat} {st : St} (h : b ≤ t.size) (he : (line st (t.extract b (eol t b))).1 = 0) : run t (f + 1) b n st = run t f (eol t b + 1) (n + 1) (line st (t.extract b (eol t b))).2 := by
  rw [run, if_pos h, if_pos he]
theorem run_err {t : ByteArray} {f b n : Nat} {st : St} (h : b ≤ t.size) (he : ¬ (line st (t.extract b (eol t b))).1 = 0) : run t (f + 1) b n st = ((line st (t.extract b (eol t b))).1, n, st) := by
  rw [run, if_pos h, if_neg he]
theorem run_end {t : ByteArray} {f b n : Nat} {st : St} (h : ¬ b ≤ t.size) : run t f b n st = (0, 0, st) := by
  cases f with
  | zero => rfl
  | succ f => rw [run, if_neg h]
/-- What is wrong with the lines together. -/
def fin (st : St) : Int :=
  if st.u = em ∨ st.x = em ∨ st.h = em ∨ st.ls.length = 0 then 6
  else if Tab.whole (numTo st.u st.u.size) (numTo st.x st.x.size) st.ls = false then 8
  else if ByteArray.mk (Sha.digest st.dg).toArray ≠ st.h then 7 else 0
/-- A table, an error, a line's number. -/
structure Got where
  up : Int
  ex : Int
  ls : List (Int × Int)
  err : Int
  num : Nat
def done (st : St) : Got := if fin st = 0 then ⟨numTo st.u st.u.size, numTo st.x st.x.size, st.ls, 0, 0⟩ else ⟨0, 0, [], fin st, 0⟩
def parse (t : ByteArray) : Got :=
  if 2000 < t.size then ⟨0, 0, [], 2, 0⟩
  else if (run t (t.size + 2) 0 0 st0).1 = 0 then done (run t (t.size + 2) 0 0 st0).2.2 else ⟨0, 0, [], (run t (t.size + 2) 0 0 st0).1, (run t (t.size + 2) 0 0 st0).2.1⟩
theorem Ok.start : Ok st0 0 := ⟨Nat.zero_le _, .inl rfl, .inl rfl, rfl, Nat.zero_le _, fun p h => by simp [st0] at h, fun p h => by simp [st0] at h, Nat.zero_le _⟩
theorem Ok.more {st : St} {n : Nat} (h : Ok st n) : Ok st (n + 1) := ⟨by have := h.dg; omega, h.u, h.x, h.ls, h.len, h.wf, h.off, h.h⟩
theorem wf_num {x : Int} (h0 : 0 ≤ x) (h1 : x < 100000000000) : (Lit.int .i64 x).wf = true := by
  simp [Lit.wf, IntKind.min, IntKind.max, IntKind.signed, IntKind.bits]
  omega
theorem follows_len {ls : List (Int × Int)} {a o : Int} (h : Tab.follows ls a o = true) (hl : ls.length ≤ 40) : ls.length < 40 := by
  by_cases c : ls.length = 40
  · rw [Tab.follows_no4 c] at h; cases h
  · omega
theorem okUpTo_app (ls : List (Int × Int)) (x : Int × Int) (k : Nat) (hk : k ≤ ls.length) : Tab.okUpTo (ls ++ [x]) k = Tab.okUpTo ls k := by
  induction k with
  | zero => rfl
  | succ k ih =>
    rw [Tab.okUpTo_succ _ _ (by simp; omega), Tab.okUpTo_succ _ _ (by omega), ih (by omega), List.take_append_of_le_length (by omega), List.getElem_append_left (by omega)]
theorem entry_cases {ls : List (Int × Int)} {ws : List ByteArray} (h : entryErr ls ws = 0) (h0 : ¬ ws.length = 0) : isNum (ws.getD 0 em) = true ∧ isNum (ws.getD 1 em) = true ∧ Tab.follows ls (entryOf ws).1 (entryOf ws).2 = true := by
  unfold entryErr at h
  rw [if_neg h0] at h
  split at h
  · cases h
  · split at h
    · cases h
    · split at h
      · cases h
      · split at h
        · cases h
        · split at h
          · cases h
          · rename_i a b c d e
            exact ⟨by simpa using b, by simpa using c, by simpa [entryOf] using e⟩
theorem Ok.takeU {st : St} {n : Nat} (h : Ok st n) (ws : List ByteArray) (he : (Txt.takeU st ws).1 = 0) : Ok (Txt.takeU st ws).2 (n + 1) := by
  have hd := h.dg
  obtain ⟨_, a, _⟩ := once_cases he
  have z := size_num a
  show Ok { st with u := ws.getD 0 em, dg := st.dg ++ ws.getD 0 em } (n + 1)
  generalize ws.getD 0 em = w0 at *
  exact ⟨by show (st.dg ++ w0).size ≤ _; rw [ByteArray.size_append]; omega, .inr a, h.x, h.ls, h.len, h.wf, h.off, h.h⟩
theorem Ok.takeX {st : St} {n : Nat} (h : Ok st n) (ws : List ByteArray) (he : (Txt.takeX st ws).1 = 0) : Ok (Txt.takeX st ws).2 (n + 1) := by
  have hd := h.dg
  obtain ⟨_, a, _⟩ := once_cases he
  have z := size_num a
  show Ok { st with x := ws.getD 0 em, dg := st.dg ++ ws.getD 0 em } (n + 1)
  generalize ws.getD 0 em = w0 at *
  exact ⟨by show (st.dg ++ w0).size ≤ _; rw [ByteArray.size_append]; omega, h.u, .inr a, h.ls, h.len, h.wf, h.off, h.h⟩
theorem Ok.takeH {st : St} {n : Nat} (h : Ok st n) (ws : List ByteArray) : Ok (Txt.takeH st ws).2 (n + 1) := by
  have hd := h.dg
  have hz := size_hexTo ws 5
  show Ok { st with h := hexTo ws 5 } (n + 1)
  generalize hexTo ws 5 = w0 at *
  exact ⟨by show st.dg.size ≤ _; omega, h.u, h.x, h.ls, h.len, h.wf, h.off, hz⟩
theorem Ok.takeE {st : St} {n : Nat} (h : Ok st n) (ws : List ByteArray) (he : (Txt.takeE st ws).1 = 0) : Ok (Txt.takeE st ws).2 (n + 1) := by
  have hd := h.dg
  unfold Txt.takeE at he ⊢
  simp only at he ⊢
  by_cases c : ws.length = 0
  · rw [if_pos c]; exact h.more
  · rw [if_neg c]
    obtain ⟨a, b, f⟩ := entry_cases he c
    have za := size_num a
    have zb := size_num b
    have na := numTo_le a
    have nb := numTo_le b
    have hl := follows_len f h.len
    have w1 : WfP (entryOf ws) := ⟨wf_num na.1 na.2, wf_num nb.1 nb.2⟩
    have o1 := Tab.follows_off f
    generalize entryOf ws = E at *
    generalize ws.getD 0 em = s0 at *
    generalize ws.getD 1 em = s1 at *
    refine ⟨?_, h.u, h.x, ?_, ?_, ?_, ?_, h.h⟩
    · show (st.dg ++ (s0 ++ s1)).size ≤ _
      rw [ByteArray.size_append, ByteArray.size_append]; omega
    · show Tab.okUpTo (st.ls ++ [E]) (st.ls ++ [E]).length = true
      rw [List.length_append]
      show Tab.okUpTo (st.ls ++ [E]) (st.ls.length + 1) = true
      rw [Tab.okUpTo_succ _ _ (by simp), okUpTo_app _ _ _ (Nat.le_refl _), h.ls]
      simp only [List.take_left, List.getElem_concat_length, Bool.true_and]
      exact f
    · show (st.ls ++ [E]).length ≤ 40
      rw [List.length_append]; simp; omega
    · intro p hp
      rcases List.mem_append.1 hp with hp | hp
      · exact h.wf p hp
      · simp at hp; subst hp; exact w1
    · intro p hp
      rcases List.mem_append.1 hp with hp | hp
      · exact h.off p hp
      · simp at hp; subst hp; exact o1
theorem Ok.line {st : St} {n : Nat} (h : Ok st n) (s : ByteArray) (he : (Txt.line st s).1 = 0) : Ok (Txt.line st s).2 (n + 1) := by
  unfold Txt.line at he ⊢
  generalize words (s.extract 2 s.size) = ws at *
  generalize words s = wt at *
  by_cases c1 : beg s ⟨#[35, 36]⟩ = true
  · rw [if_pos c1] at he ⊢; exact h.takeU ws he
  · rw [if_neg c1] at he ⊢
    by_cases c2 : beg s ⟨#[35, 64]⟩ = true
    · rw [if_pos c2] at he ⊢; exact h.takeX ws he
    · rw [if_neg c2] at he ⊢
      by_cases c3 : beg s ⟨#[35, 104]⟩ = true
      · rw [if_pos c3] at he ⊢; exact h.takeH ws
      · rw [if_neg c3] at he ⊢
        by_cases c4 : beg s ⟨#[35]⟩ = true
        · rw [if_pos c4] at he ⊢; exact h.more
        · rw [if_neg c4] at he ⊢; exact h.takeE wt he
end Txt
/-- A slice. -/
theorem own_slice {w : World} {B e size n : Nat} {v : Value} {xs : List Value} (h : w.ownsRow B e size v n xs) : ∃ ao cap, v = .slice ao n cap := by
  rcases h.2 with ⟨h, h0⟩ | ⟨g, cap, cur, h, _⟩
  · exact ⟨none, 0, by rw [h, h0]⟩
  · exact ⟨_, _, h⟩
theorem own_lo {w : World} {B B' e size n : Nat} {v : Value} {xs : List Value} (h : w.ownsRow B e size v n xs) (hb : B' ≤ B) : w.ownsRow B' e size v n xs := by
  refine ⟨h.1, ?_⟩
  rcases h.2 with h | ⟨g, cap, cur, rfl, a, b⟩
  · exact .inl h
  · exact .inr ⟨g, cap, cur, rfl, Nat.le_trans hb a, b⟩
/-- What a source said. -/
structure Hd where
  said : Bool
  leap : Int
  ws : Int
  wf : Int
/-- A server's state. -/
structure Sv where
  mode : Int
  win : Int
  fresh : Int
  ns : Int
  nf : Int
  ld : Bool
  up : Int
  ex : Int
  done : List (Int × Int)
  began : List (Int × Int)
  com : List Cm
  ref : Int
  said : List Hd
theorem own_same {w w' : World} {B e size n : Nat} {v : Value} {xs : List Value} (h : w.ownsRow B e size v n xs) (hk : ∀ k, v.ownBlock = some k → w'.heap[k]? = w.heap[k]?) : w'.ownsRow B e size v n xs := by
  refine ⟨h.1, ?_⟩
  rcases h.2 with h' | ⟨g, cap, cur, rfl, a, hh, b⟩
  · exact .inl h'
  · exact .inr ⟨g, cap, cur, rfl, a, (hk g rfl).trans hh, b⟩
theorem own_typ {w : World} {B e size n k : Nat} {v : Value} {xs : List Value} (h : w.ownsRow B e size v n xs) (hk : v.ownBlock = some k) : ∃ cs fr, w.heap[k]? = some (.cells cs e fr) := by
  rcases h.2 with ⟨rfl, _⟩ | ⟨g, cap, cur, rfl, _, hh, _⟩
  · simp [Value.ownBlock] at hk
  · obtain rfl : g = k := by simpa [Value.ownBlock] using hk
    exact ⟨_, _, hh⟩
/-- Is it a time of the clock? -/
def isT (s f : Int) : Bool := decide (0 ≤ s ∧ s ≤ 34000000000 ∧ 0 ≤ f ∧ f < 4294967296)
/-- Is the first time later than the second? -/
def tLater (s f z g : Int) : Bool := decide (z < s ∨ (s = z ∧ g < f))
def tSum (s f z g : Int) : Int × Int := (s + z + (f + g) / 4294967296, (f + g) % 4294967296)
theorem ret_agg2 {a b c d : Int} (h : a = c) (h' : b = d) : Ending.returned (.agg #[.int .i64 a, .int .i64 b]) = .returned (.agg #[.int .i64 c, .int .i64 d]) := by rw [h, h']
/-- When the window of a leap opens that is known from now on. -/
def Sv.opens (x : Sv) (t : Int) : Int × Int := if tLater x.ns x.nf (t - x.win / 2) 0 = true then (x.ns, x.nf) else (t - x.win / 2, 0)
theorem two_row {V : World} {b : Nat} {a x p q : Value} {t : TypeId} (h1 : V.heap[b]? = some (.cells #[p, q] t (0, 0))) : ((V.setCell ⟨b, 0, none⟩ a).setCell ⟨b, 1, none⟩ x).heap[b]? = some (.cells #[a, x] t (0, 0)) := by
  have e1 := heap_setCell_same _ b 0 _ t a h1
  have e2 := heap_setCell_same _ b 1 _ t x e1
  simpa using e2
/-- The second of UTC, without smear. -/
def Sv.utc (x : Sv) : Int := x.ns - (x.done.getD (Tab.lastAt x.done x.ns x.done.length).toNat (0, 0)).2
theorem lies_of {w : World} {B e g n cap : Nat} {ls : List (Int × Int)} (h : w.ownsRow B e 2 (.slice (some ⟨g, 0, none⟩) n cap) n (flat ls)) (hl : ls.length = n) : Lies w g ls := fun i hi =>
  ⟨(h.cellAt (i * 2) (by omega)).trans (flat_at0 ls i hi), (h.cellAt (i * 2 + 1) (by omega)).trans (flat_at1 ls i hi)⟩
/-- What has begun, of what was to come. -/
def begunL (ns nf : Int) : List Cm → List (Int × Int) → List (Int × Int) → List (Int × Int) × List (Int × Int) × List Cm
  | [], d, b => (d, b, [])
  | c :: r, d, b => if tLater c.bs c.bf ns nf = true then (d, b, c :: r) else begunL ns nf r (d ++ [(c.a, c.o)]) (b ++ [(c.bs, c.bf)])
def Sv.begun (x : Sv) : Sv := { x with done := (begunL x.ns x.nf x.com x.done x.began).1, began := (begunL x.ns x.nf x.com x.done x.began).2.1, com := (begunL x.ns x.nf x.com x.done x.began).2.2 }
/-- The first of them has begun. -/
def Sv.one (x : Sv) (c : Cm) (r : List Cm) : Sv := { x with done := x.done ++ [(c.a, c.o)], began := x.began ++ [(c.bs, c.bf)], com := r }
theorem Sv.begun_one (x : Sv) (c : Cm) (r : List Cm) (hc : x.com = c :: r) (h : tLater c.bs c.bf x.ns x.nf = false) : x.begun = (x.one c r).begun := by
  unfold Sv.begun Sv.one
  simp only [hc, begunL, h, Bool.false_eq_true, if_false]
theorem Sv.begun_stop (x : Sv) (c : Cm) (r : List Cm) (hc : x.com = c :: r) (h : tLater c.bs c.bf x.ns x.nf = true) : x.begun = x := by
  unfold Sv.begun
  simp only [hc, begunL, h, if_true]
  rw [← hc]
theorem Sv.begun_end (x : Sv) (hc : x.com = []) : x.begun = x := by
  unfold Sv.begun
  simp only [hc, begunL]
  rw [← hc]
abbrev noHd : Hd := ⟨false, 0, 0, 0⟩
/-- Is what a source said to be counted? -/
def Sv.counts (x : Sv) (h : Hd) : Bool := h.said && !tLater x.ns x.nf (tSum h.ws h.wf x.fresh 0).1 (tSum h.ws h.wf x.fresh 0).2 && h.leap != 3
/-- How many count, say 1, say 2, of the first k. -/
def Sv.tally (x : Sv) : Nat → Int × Int × Int
  | 0 => (0, 0, 0)
  | k + 1 => if x.counts (x.said.getD k noHd) = true then ((x.tally k).1 + 1, (if (x.said.getD k noHd).leap = 1 then (x.tally k).2.1 + 1 else (x.tally k).2.1), (if (x.said.getD k noHd).leap = 2 then (x.tally k).2.2 + 1 else (x.tally k).2.2)) else x.tally k
def Sv.most (x : Sv) : Int := if 2 * (x.tally x.said.length).2.1 > (x.tally x.said.length).1 then 1 else if 2 * (x.tally x.said.length).2.2 > (x.tally x.said.length).1 then -1 else 0
/-- A source's time is one of the clock's. -/
def Hd.Ok (h : Hd) : Prop := 0 ≤ h.ws ∧ h.ws ≤ 34000000000 ∧ 0 ≤ h.wf ∧ h.wf < 4294967296
/-- The second of UTC at which the month behind a month begins; -1: it is not in the calendar. -/
def nextOf (y m : Int) : Int := if m = 12 then (if y = 2999 then -1 else (Cal.yb (y + 1) + Cal.cum (y + 1) 1) * 86400) else (Cal.yb y + Cal.cum y (m + 1)) * 86400
/-- The second at which the next month begins. -/
def nextS (sec : Int) : Int := match Cal.find (sec / 86400) with
  | none => -1
  | some p => nextOf p.1 p.2
theorem nextS_eq {sec y m : Int} (h : Cal.In y m (sec / 86400)) : nextS sec = nextOf y m := by
  unfold nextS
  rw [Cal.find_eq h]
/-- The last entry that has begun: its Offset. -/
def Sv.old (x : Sv) : Int := (x.done.getD (x.done.length - 1) (0, 0)).2
/-- What the sources say, if the file has run out. -/
def Sv.sign (x : Sv) : Int := if x.utc < x.ex then 0 else x.most
def Sv.atN (x : Sv) : Int := nextS x.utc
def Sv.whenN (x : Sv) : Int := if x.sign < 0 then x.atN + x.old + x.sign else x.atN + x.old
def Sv.okN (x : Sv) : Bool := decide (0 < x.atN) && x.sign != 0 && Tab.follows x.done x.atN (x.old + x.sign)
/-- Is an entry of the file to come? -/
def Sv.filed (x : Sv) : Bool := match x.com with
  | [] => false
  | c :: _ => !c.v
def Sv.voted (x : Sv) : Sv := if x.okN = false ∨ x.whenN ≤ x.ns then { x with com := [] } else ({ x with com := [⟨x.atN, x.old + x.sign, (x.opens x.whenN).1, (x.opens x.whenN).2, true⟩] } : Sv).begun
/-- P14: it looks around. -/
def Sv.weigh (x : Sv) : Sv := if x.ld = false then x else if x.begun.filed = true then x.begun else x.begun.voted
/-- What must hold of a server that has a table when it looks around (behind begun). -/
structure Sv.Can (x : Sv) : Prop where
  fine : Fine x.done
  len : x.done.length ≤ 900
  hold : 0 ≤ Tab.lastAt x.done x.ns x.done.length
  n0 : 0 ≤ x.ns
  n1 : x.ns ≤ 34000000000
  u0 : 0 ≤ x.utc
  u1 : x.utc ≤ 34000000000
  said : x.said.length ≤ 100
  sok : ∀ h ∈ x.said, h.Ok
  f0 : 0 ≤ x.fresh
  f1 : x.fresh ≤ 1000000
  w0 : 0 ≤ x.win
  w1 : x.win ≤ 1000000
  bl : x.began.length ≤ 900
  cl : x.com.length ≤ 90
theorem Sv.most_bd (x : Sv) : x.most = 1 ∨ x.most = -1 ∨ x.most = 0 := by
  unfold Sv.most
  split
  · exact .inl rfl
  · split
    · exact .inr (.inl rfl)
    · exact .inr (.inr rfl)
theorem Sv.sign_bd (x : Sv) : x.sign = 1 ∨ x.sign = -1 ∨ x.sign = 0 := by
  unfold Sv.sign
  split
  · exact .inr (.inr rfl)
  · exact x.most_bd
theorem ex_year (n : Int) (h0 : 0 ≤ n) (k : Nat) (h : n < Cal.yb (1900 + (k : Int))) : ∃ y, 1900 ≤ y ∧ y < 1900 + (k : Int) ∧ Cal.yb y ≤ n ∧ n < Cal.yb (y + 1) := by
  induction k with
  | zero =>
    have e : (1900 : Int) + ((0 : Nat) : Int) = 1900 := rfl
    rw [e, Cal.yb_first] at h; omega
  | succ k ih =>
    by_cases c : n < Cal.yb (1900 + (k : Int))
    · obtain ⟨y, a, b, d, e⟩ := ih c
      exact ⟨y, a, by omega, d, e⟩
    · refine ⟨1900 + (k : Int), by omega, by omega, by omega, ?_⟩
      have e : (1900 : Int) + ((k + 1 : Nat) : Int) = 1900 + (k : Int) + 1 := by omega
      rw [e] at h; exact h
theorem ex_month (y r : Int) (h0 : 0 ≤ r) (k : Nat) (h : r < Cal.cum y (1 + (k : Int))) : ∃ m, 1 ≤ m ∧ m ≤ (k : Int) ∧ Cal.cum y m ≤ r ∧ r < Cal.cum y (m + 1) := by
  induction k with
  | zero =>
    have e : (1 : Int) + ((0 : Nat) : Int) = 1 := rfl
    rw [e, Cal.cum_one] at h; omega
  | succ k ih =>
    by_cases c : r < Cal.cum y (1 + (k : Int))
    · obtain ⟨m, a, b, d, e⟩ := ih c
      exact ⟨m, a, by omega, d, e⟩
    · refine ⟨1 + (k : Int), by omega, by omega, by omega, ?_⟩
      have e : (1 : Int) + ((k + 1 : Nat) : Int) = 1 + (k : Int) + 1 := by omega
      rw [e] at h; exact h
theorem in_cal {u : Int} (h0 : 0 ≤ u) (h1 : u ≤ 34000000000) : ∃ y m, Cal.In y m (u / 86400) := by
  have h3 : Cal.yb 3000 = 401767 := by decide
  obtain ⟨y, a, b, c, d⟩ := ex_year (u / 86400) (by omega) 1100 (by rw [show (1900 : Int) + ((1100 : Nat) : Int) = 3000 from rfl]; omega)
  have ys := Cal.yb_succ y
  obtain ⟨m, e, f, g, h⟩ := ex_month y (u / 86400 - Cal.yb y) (by omega) 12 (by rw [show (1 : Int) + ((12 : Nat) : Int) = 13 from rfl, Cal.cum_end]; omega)
  have cs := Cal.cum_succ y m e (by omega)
  exact ⟨y, m, a, by omega, e, by omega, by omega, by omega⟩
theorem wf_at {x : Int} (h0 : -1000000000000 ≤ x) (h1 : x ≤ 1000000000000) : (Lit.int .i64 x).wf = true := by
  simp [Lit.wf, IntKind.min, IntKind.max, IntKind.signed, IntKind.bits]
  omega
/-- The clock shows another time. -/
def Sv.at' (x : Sv) (s f : Int) : Sv := { x with ns := s, nf := f }
/-- P10. -/
def Sv.adv (x : Sv) (s f : Int) : Int × Sv :=
  if isT s f = false then (9, x) else if isT (tSum x.ns x.nf s f).1 (tSum x.ns x.nf s f).2 = false then (9, x) else (0, (x.at' (tSum x.ns x.nf s f).1 (tSum x.ns x.nf s f).2).weigh)
theorem isT_bd {s f : Int} (h : isT s f = true) : 0 ≤ s ∧ s ≤ 34000000000 ∧ 0 ≤ f ∧ f < 4294967296 := of_decide_eq_true h
/-- P11: does a file agree? -/
def Sv.agrees (x : Sv) (ls : List (Int × Int)) : Bool :=
  if x.ld = false then decide (Tab.when ls 0 ≤ x.ns) else if ls.length < x.done.length then false else if ls.take x.done.length = x.done then decide (ls.length = x.done.length) || decide (x.ns < Tab.when ls x.done.length) else false
theorem take_same {a c : List (Int × Int)} (n : Nat) (h : n < c.length) (hl : c.length ≤ a.length) (ht : a.take n = c.take n) (e : a.getD n (0, 0) = c.getD n (0, 0)) : a.take (n + 1) = c.take (n + 1) := by
  rw [List.take_succ_eq_append_getElem (by omega), List.take_succ_eq_append_getElem h, ht]
  rw [getD_at n (by omega), getD_at n h] at e
  rw [e]
theorem take_not {a c : List (Int × Int)} (n : Nat) (h : n < c.length) (hl : c.length ≤ a.length) (e : a.getD n (0, 0) ≠ c.getD n (0, 0)) : ¬ a.take c.length = c := by
  intro q
  apply e
  rw [getD_at n (by omega), getD_at n h]
  have h1 : (a.take c.length)[n]? = c[n]? := by rw [q]
  rw [List.getElem?_take_of_lt h, List.getElem?_eq_getElem (by omega), List.getElem?_eq_getElem h] at h1
  exact Option.some.inj h1
/-- What has begun, and the first entry to come. -/
def Sv.known (x : Sv) : List (Int × Int) := x.done ++ (match x.com with
  | [] => []
  | c :: _ => [(c.a, c.o)])
/-- P12: the leap indicator, in the day d. -/
def Sv.ind (x : Sv) (d : Int) : Int := if 86400 < Tab.length x.known d then 1 else if Tab.length x.known d < 86400 then 2 else 0
def stepB (mode win : Int) : Bool := decide (mode = 0 ∧ win = 0)
def smearB (mode win : Int) : Bool := decide ((mode = 1 ∨ mode = 2) ∧ 3600 ≤ win ∧ win ≤ 604800 ∧ win.tmod 2 = 0)
/-- P9: is it a configuration? -/
def cfgB (mode win src fresh s f : Int) : Bool := (stepB mode win || smearB mode win) && decide (0 ≤ src ∧ src ≤ 8 ∧ 1 ≤ fresh ∧ fresh ≤ 604800) && isT s f
def Sv.init (mode win fresh s f : Int) (n : Nat) : Sv := ⟨mode, win, fresh, s, f, false, 0, 0, [], [], [], 0, List.replicate n noHd⟩
/-- A source says something. -/
def Sv.says (x : Sv) (k : Nat) (leap : Int) : Sv := { x with said := x.said.set k ⟨true, leap, x.ns, x.nf⟩ }
/-- P14. -/
def Sv.hear (x : Sv) (src leap : Int) : Int × Sv := if src < 0 ∨ (x.said.length : Int) ≤ src then (13, x) else if leap < 0 ∨ 3 < leap then (14, x) else (0, (x.says src.toNat leap).weigh)
theorem Txt.parse_whole {t : ByteArray} (h : (Txt.parse t).err = 0) : Tab.whole (Txt.parse t).up (Txt.parse t).ex (Txt.parse t).ls = true ∧ (Txt.parse t).num = 0 := by
  unfold Txt.parse at h ⊢
  split at h
  · cases h
  · rename_i h2
    split at h
    · rename_i h3
      rw [if_neg h2, if_pos h3]
      unfold Txt.done at h ⊢
      split at h
      · rename_i hf
        rw [if_pos hf]
        refine ⟨?_, rfl⟩
        unfold Txt.fin at hf
        split at hf
        · cases hf
        · split at hf
          · cases hf
          · rename_i hw; simpa using hw
      · rename_i hf; exact absurd h hf
    · rename_i h3; exact absurd h h3
/-- P11: the error of a file. -/
def Sv.loadErr (x : Sv) (g : Txt.Got) : Int := if g.err ≠ 0 then g.err else if x.ld = true ∧ g.up < x.up then 11 else if x.agrees g.ls = false then 12 else 0
def Sv.refuse (x : Sv) : Sv := { x with ref := x.ref + 1 }
/-- Is the i-th entry's window open still? -/
def Sv.till (x : Sv) (i : Nat) : Bool := tLater (tSum (x.began.getD i (0, 0)).1 (x.began.getD i (0, 0)).2 x.win 0).1 (tSum (x.began.getD i (0, 0)).1 (x.began.getD i (0, 0)).2 x.win 0).2 x.ns x.nf
/-- The smooth curve (P13). -/
def gZ (i : Int) : Int := 4 * i * i * (3072 - 2 * i)
theorem gZ_step (i : Int) : gZ (i + 1) = gZ i + 24 * (i * (1023 - i)) + 12280 := by
  unfold gZ; grind
theorem gZ_le_succ {i : Int} (h0 : 0 ≤ i) (h1 : i ≤ 1023) : gZ i ≤ gZ (i + 1) := by
  have : 0 ≤ i * (1023 - i) := Int.mul_nonneg h0 (by omega)
  rw [gZ_step]; omega
theorem gZ_top (k : Nat) (hk : k ≤ 1024) : gZ (1024 - k) ≤ 4294967296 := by
  induction k with
  | zero => decide
  | succ k ih =>
    have := ih (by omega)
    have e : (1024 : Int) - k = (1024 - ((k + 1 : Nat) : Int)) + 1 := by omega
    rw [e] at this
    have := gZ_le_succ (i := 1024 - ((k + 1 : Nat) : Int)) (by omega) (by omega)
    omega
theorem gZ_bd {i : Int} (h0 : 0 ≤ i) (h1 : i ≤ 1024) : 0 ≤ gZ i ∧ gZ i ≤ 4294967296 := by
  refine ⟨?_, ?_⟩
  · unfold gZ
    have a : 0 ≤ 4 * i * i := Int.mul_nonneg (by omega) h0
    exact Int.mul_nonneg a (by omega)
  · have := gZ_top (1024 - i).toNat (by omega)
    have e : (1024 : Int) - ((1024 - i).toNat : Int) = i := by omega
    rwa [e] at this
/-- The parts of a window that is W seconds long. -/
def pX (W : Int) : Int := W * 4294967296
/-- Which piece of the curve. -/
def pI (W n : Int) : Int := 1024 * n / pX W
def pR (W n : Int) : Int := 1024 * n - pI W n * pX W
/-- P13: the pull, as a fraction. -/
def pullU (mode W n : Int) : Int := if mode = 1 then n else gZ (pI W n) * pX W + (gZ (pI W n + 1) - gZ (pI W n)) * pR W n
def pullD (mode W : Int) : Int := if mode = 1 then W else pX W
structure PullOk (W n : Int) : Prop where
  w0 : 0 < W
  w1 : W ≤ 604800
  n0 : 0 ≤ n
  n1 : n < pX W
theorem PullOk.x {W n : Int} (h : PullOk W n) : 0 < pX W ∧ pX W ≤ 2597596220620800 := by
  have := h.w0; have := h.w1; unfold pX; omega
theorem PullOk.i {W n : Int} (h : PullOk W n) : 0 ≤ pI W n ∧ pI W n ≤ 1023 := by
  have hx := h.x
  have := h.n0
  have := h.n1
  unfold pI
  refine ⟨Int.ediv_nonneg (by omega) (by omega), ?_⟩
  have : 1024 * n / pX W < 1024 := Int.ediv_lt_of_lt_mul hx.1 (by omega)
  omega
theorem PullOk.r {W n : Int} (h : PullOk W n) : 0 ≤ pR W n ∧ pR W n < pX W := by
  have hx := h.x
  have e : pR W n = 1024 * n % pX W := by
    unfold pR pI
    rw [Int.emod_def, Int.mul_comm (pX W)]
  rw [e]
  exact ⟨Int.emod_nonneg _ (by omega), Int.emod_lt_of_pos _ hx.1⟩
theorem PullOk.ix {W n : Int} (h : PullOk W n) : 0 ≤ pI W n * pX W ∧ pI W n * pX W ≤ 1024 * n := by
  have hi := h.i
  have hx := h.x
  have hr := h.r
  refine ⟨Int.mul_nonneg hi.1 (by omega), ?_⟩
  have := hr.1
  unfold pR at this
  omega
theorem PullOk.u {W n : Int} (h : PullOk W n) (mode : Int) : 0 ≤ pullU mode W n ∧ pullU mode W n ≤ 4294967296 * pullD mode W ∧ 0 < pullD mode W ∧ pullD mode W ≤ 2597596220620800 := by
  have hx := h.x
  unfold pullU pullD
  by_cases c : mode = 1
  · rw [if_pos c, if_pos c]
    have h1 := h.n1
    have h0 := h.n0
    have := h.w0
    have := h.w1
    unfold pX at h1
    omega
  · rw [if_neg c, if_neg c]
    have hi := h.i
    have hr := h.r
    have g0 := gZ_bd (i := pI W n) hi.1 (by omega)
    have g1 := gZ_bd (i := pI W n + 1) (by omega) (by omega)
    have gl := gZ_le_succ hi.1 hi.2
    generalize gZ (pI W n) = a at *
    generalize gZ (pI W n + 1) = b at *
    generalize pR W n = r at *
    generalize pX W = X at *
    have m1 : 0 ≤ a * X := Int.mul_nonneg g0.1 (by omega)
    have m2 : 0 ≤ (b - a) * r := Int.mul_nonneg (by omega) hr.1
    have m3 : (b - a) * r ≤ (b - a) * X := Int.mul_le_mul_of_nonneg_left (by omega) (by omega)
    have m4 : a * X + (b - a) * X = b * X := by grind
    have m5 : b * X ≤ 4294967296 * X := Int.mul_le_mul_of_nonneg_right (by omega) (by omega)
    omega
/-- How many parts of a second the k-th entry's window has been open. -/
def Sv.gap (x : Sv) (k : Nat) : Int := (x.ns - (x.began.getD k (0, 0)).1) * 4294967296 + x.nf - (x.began.getD k (0, 0)).2
/-- The pull, rounded down. -/
def Sv.pulled (x : Sv) (k : Nat) : Nat := (pullU x.mode x.win (x.gap k)).toNat / (pullD x.mode x.win).toNat
/-- The pull, rounded up. -/
def Sv.pulledUp (x : Sv) (k : Nat) : Nat := if x.pulled k * (pullD x.mode x.win).toNat < (pullU x.mode x.win (x.gap k)).toNat then x.pulled k + 1 else x.pulled k
/-- P13: what is served in the k-th entry's window. -/
def Sv.smeared (x : Sv) (k : Nat) : Int × Int :=
  if (x.done.getD k (0, 0)).2 < (x.done.getD (k - 1) (0, 0)).2 then tSum (x.ns - (x.done.getD (k - 1) (0, 0)).2) x.nf 0 (x.pulled k)
  else tSum (x.ns - (x.done.getD (k - 1) (0, 0)).2 - 1) x.nf 0 (4294967296 - (x.pulledUp k : Int))
theorem alloc_sz (W : World) (o : Obj) : (W.alloc o).heap.size = W.heap.size + 1 := by simp
/-- Words, as they lie in memory. -/
structure Ws (w : World) (v : Value) (ws : List ByteArray) : Prop where
  own : ∃ B, w.ownsRow B 9 1 v ws.length (ws.map Value.string)
  len : ws.length ≤ 100000
  sz : ∀ i, (ws.getD i Txt.em).size ≤ 100000
theorem Ws.form {w : World} {v : Value} {ws : List ByteArray} (h : Ws w v ws) : ∃ ao cap, v = .slice ao ws.length cap := by
  obtain ⟨B, h⟩ := h.own
  rcases h.2 with ⟨rfl, e⟩ | ⟨g, cap, cur, rfl, _⟩
  · exact ⟨_, _, by rw [e]⟩
  · exact ⟨_, _, rfl⟩
theorem Ws.at' {w : World} {v : Value} {ws : List ByteArray} (h : Ws w v ws) (h0 : 0 < ws.length) :
    ∃ g cap, v = .slice (some ⟨g, 0, none⟩) ws.length cap ∧ g < w.heap.size ∧ ∀ i, i < ws.length → w.cell? ⟨g, i, none⟩ = some (.string (ws.getD i Txt.em)) := by
  obtain ⟨B, h⟩ := h.own
  obtain ⟨g, cap, rfl⟩ := own_some h h0
  refine ⟨g, cap, rfl, (h.lt _ rfl).2, fun i hi => ?_⟩
  rw [h.cellAt i (by omega), List.getElem?_map, List.getElem?_eq_getElem hi, List.getD_eq_getElem?_getD, List.getElem?_eq_getElem hi]
  rfl
theorem Ws.below {w w' : World} {v : Value} {ws : List ByteArray} (h : Ws w v ws) (hb : Below w.heap.size w w') : Ws w' v ws := by
  obtain ⟨⟨B, h⟩, a, b⟩ := h
  exact ⟨⟨B, own_down h hb⟩, a, b⟩
/-- What was read, as it lies in memory. -/
def Rd (w : World) (bR : Nat) (st : Txt.St) : Prop := ∃ lv, w.heap[bR]? = some (.cells #[.string st.u, .string st.x, .string st.h, lv, .string st.dg] 114 (0, 0)) ∧ w.ownsRow (bR + 1) 49 2 lv st.ls.length (flat st.ls)
/-- What numberOnce answers. -/
def onceS (ws : List ByteArray) (b : ByteArray) : ByteArray := if Txt.once ws b = 0 then ws.getD 0 Txt.em else Txt.em
def onceV (ws : List ByteArray) (b : ByteArray) : Value := .tuple #[.string (onceS ws b), .int .i64 (Txt.once ws b)]
theorem onceV_no {ws : List ByteArray} {b : ByteArray} {n : Int} (h : Txt.once ws b = n) (hn : n ≠ 0) : onceV ws b = .tuple #[.string Txt.em, .int .i64 n] := by
  unfold onceV onceS; rw [if_neg (by rw [h]; exact hn), h]
theorem onceV_yes {ws : List ByteArray} {b : ByteArray} (h : Txt.once ws b = 0) : onceV ws b = .tuple #[.string (ws.getD 0 Txt.em), .int .i64 0] := by
  unfold onceV onceS; rw [if_pos h, h]
theorem no_err {a b : Int} {P : Prop} (h : a = b) (hb : b ≠ 0) : a = 0 → P := fun e => absurd (h.symm.trans e) hb
theorem em_test {b : ByteArray} (h : ¬ b = Txt.em) : b.toList.isEmpty = false := Txt.not_empty h
set_option maxRecDepth 100000 in
theorem number_once (v : Value) (ws : List ByteArray) (b : ByteArray) (w : World) (hW : Ws w v ws) :
    Calls Tryz.prog 107 #[v, .string b] w fun e w' => e = .returned (onceV ws b) ∧ w' = w := by
  have hlen := hW.len
  by_cases h1 : ws.length = 1
  · obtain ⟨g, cap, rfl, _, hc⟩ := hW.at' (by omega)
    have c0 := hc 0 (by omega)
    have hsz := hW.sz 0
    have HN := hid' (is_number (ws.getD 0 Txt.em) w (by omega))
    rw [h1]
    clear hc hW hlen
    cases hn : Txt.isNum (ws.getD 0 Txt.em) with
    | false =>
      have H : Hid (onceV ws b = _) := onceV_no (n := 3) (by unfold Txt.once; rw [if_neg (by omega), if_pos hn]) (by decide)
      rw [hn] at HN
      clear hn h1
      generalize ws.getD 0 Txt.em = s0 at *
      go_enter Tryz.func107, Tryz.ntmps107
      go_wp2_with (go_at_call 111; refine HN.out.mono ?_; rintro e w' ⟨rfl, rfl⟩)
      go_ret2
      exact ⟨congrArg Ending.returned H.out.symm, rfl⟩
    | true =>
      rw [hn] at HN
      by_cases hb : b = Txt.em
      · have H : Hid (onceV ws b = _) := onceV_yes (by unfold Txt.once; rw [if_neg (by omega), if_neg (by rw [hn]; decide), if_neg (by simpa using hb)])
        subst hb
        clear hn h1
        generalize ws.getD 0 Txt.em = s0 at *
        go_enter Tryz.func107, Tryz.ntmps107
        go_wp2_with (go_at_call 111; refine HN.out.mono ?_; rintro e w' ⟨rfl, rfl⟩)
        go_ret2
        exact ⟨congrArg Ending.returned H.out.symm, rfl⟩
      · have H : Hid (onceV ws b = _) := onceV_no (n := 4) (by unfold Txt.once; rw [if_neg (by omega), if_neg (by rw [hn]; decide), if_pos hb]) (by decide)
        have hbe := em_test hb
        clear hn h1 hb
        generalize ws.getD 0 Txt.em = s0 at *
        go_enter Tryz.func107, Tryz.ntmps107
        go_wp2_with (go_at_call 111; refine HN.out.mono ?_; rintro e w' ⟨rfl, rfl⟩)
        go_ret2
        exact ⟨congrArg Ending.returned H.out.symm, rfl⟩
  · have H : Hid (onceV ws b = _) := onceV_no (n := 3) (by unfold Txt.once; rw [if_pos h1]) (by decide)
    obtain ⟨ao, cap, rfl⟩ := hW.form
    have h1' : ((ws.length : Int) != 1) = true := bne_iff_ne.2 (by omega)
    clear h1 hW
    go_enter Tryz.func107, Tryz.ntmps107
    go_wp2
    go_ret2
    exact ⟨congrArg Ending.returned H.out.symm, rfl⟩
set_option maxRecDepth 100000 in
set_option maxHeartbeats 1000000 in
theorem take_update (bR : Nat) (st : Txt.St) (v : Value) (ws : List ByteArray) (w : World) (n : Nat) (hR : Rd w bR st) (hO : Txt.Ok st n) (hn : n ≤ 100000) (hW : Ws w v ws) :
    Calls Tryz.prog 89 #[.pointer (some ⟨bR, 0, none⟩), v] w fun e w' => e = .returned (.int .i64 (Txt.takeU st ws).1) ∧ ((Txt.takeU st ws).1 = 0 → Rd w' bR (Txt.takeU st ws).2) ∧ Below bR w w' := by
  obtain ⟨lv, hrow, hown⟩ := hR
  have c0 := cell_of_row _ _ 0 _ _ _ hrow
  have c4 := cell_of_row _ _ 4 _ _ _ hrow
  simp at c0 c4
  have f0 := frozen_of_row _ _ 0 _ _ hrow
  have f4 := frozen_of_row _ _ 4 _ _ hrow
  have HN := hid' (number_once v ws st.u w hW)
  have HR := hid' hrow
  have HO := hid' hown
  have hdg := hO.dg
  have hsz : (onceS ws st.u).size ≤ 100000 := by unfold onceS; split; exact hW.sz 0; decide
  have hu : st.u.size ≤ 11 := by rcases hO.u with h | h; rw [h]; decide; exact Txt.size_num h
  have HT : Hid (Txt.once ws st.u = 0 → st.u ++ onceS ws st.u = ws.getD 0 Txt.em) := fun h => by
    unfold onceS; rw [if_pos h, (Txt.once_cases h).2.2]; exact ByteArray.empty_append
  have HD : Hid (Txt.once ws st.u = 0 → st.dg ++ onceS ws st.u = st.dg ++ ws.getD 0 Txt.em) := fun h => by unfold onceS; rw [if_pos h]
  unfold onceV at HN
  have H : Hid ((Txt.takeU st ws).1 = Txt.once ws st.u) := rfl
  have HS : Hid ((Txt.takeU st ws).2 = { st with u := ws.getD 0 Txt.em, dg := st.dg ++ ws.getD 0 Txt.em }) := rfl
  clear hrow hown hO hW
  generalize onceS ws st.u = r at *
  generalize Txt.once ws st.u = er at *
  go_enter Tryz.func89, Tryz.ntmps89
  go_wp2_with (go_at_call 107; refine HN.out.mono ?_; rintro e w' ⟨rfl, rfl⟩)
  go_ret
  refine ⟨ret_int H.out.symm, fun h => ?_, ?_⟩
  · rw [H.out] at h
    rw [HS.out, ← HD.out h, ← HT.out h]
    have e1 := heap_setCell_same _ bR 0 _ _ (.string (st.u ++ r)) HR.out
    have e2 := heap_setCell_same _ bR 4 _ _ (.string (st.dg ++ r)) e1
    refine ⟨lv, by simpa using e2, own_set (p := ⟨bR, 4, none⟩) (own_set (p := ⟨bR, 0, none⟩) HO.out HR.out (by decide) _) e1 (by decide) _⟩
  · exact ((Below.refl bR _).setCell (p := ⟨bR, 0, none⟩) (Nat.le_refl _) _).setCell (p := ⟨bR, 4, none⟩) (Nat.le_refl _) _
set_option maxRecDepth 100000 in
set_option maxHeartbeats 1000000 in
theorem take_expiry (bR : Nat) (st : Txt.St) (v : Value) (ws : List ByteArray) (w : World) (n : Nat) (hR : Rd w bR st) (hO : Txt.Ok st n) (hn : n ≤ 100000) (hW : Ws w v ws) :
    Calls Tryz.prog 91 #[.pointer (some ⟨bR, 0, none⟩), v] w fun e w' => e = .returned (.int .i64 (Txt.takeX st ws).1) ∧ ((Txt.takeX st ws).1 = 0 → Rd w' bR (Txt.takeX st ws).2) ∧ Below bR w w' := by
  obtain ⟨lv, hrow, hown⟩ := hR
  have c0 := cell_of_row _ _ 1 _ _ _ hrow
  have c4 := cell_of_row _ _ 4 _ _ _ hrow
  simp at c0 c4
  have f0 := frozen_of_row _ _ 1 _ _ hrow
  have f4 := frozen_of_row _ _ 4 _ _ hrow
  have HN := hid' (number_once v ws st.x w hW)
  have HR := hid' hrow
  have HO := hid' hown
  have hdg := hO.dg
  have hsz : (onceS ws st.x).size ≤ 100000 := by unfold onceS; split; exact hW.sz 0; decide
  have hu : st.x.size ≤ 11 := by rcases hO.x with h | h; rw [h]; decide; exact Txt.size_num h
  have HT : Hid (Txt.once ws st.x = 0 → st.x ++ onceS ws st.x = ws.getD 0 Txt.em) := fun h => by
    unfold onceS; rw [if_pos h, (Txt.once_cases h).2.2]; exact ByteArray.empty_append
  have HD : Hid (Txt.once ws st.x = 0 → st.dg ++ onceS ws st.x = st.dg ++ ws.getD 0 Txt.em) := fun h => by unfold onceS; rw [if_pos h]
  unfold onceV at HN
  have H : Hid ((Txt.takeX st ws).1 = Txt.once ws st.x) := rfl
  have HS : Hid ((Txt.takeX st ws).2 = { st with x := ws.getD 0 Txt.em, dg := st.dg ++ ws.getD 0 Txt.em }) := rfl
  clear hrow hown hO hW
  generalize onceS ws st.x = r at *
  generalize Txt.once ws st.x = er at *
  go_enter Tryz.func91, Tryz.ntmps91
  go_wp2_with (go_at_call 107; refine HN.out.mono ?_; rintro e w' ⟨rfl, rfl⟩)
  go_ret
  refine ⟨ret_int H.out.symm, fun h => ?_, ?_⟩
  · rw [H.out] at h
    rw [HS.out, ← HD.out h, ← HT.out h]
    have e1 := heap_setCell_same _ bR 1 _ _ (.string (st.x ++ r)) HR.out
    have e2 := heap_setCell_same _ bR 4 _ _ (.string (st.dg ++ r)) e1
    refine ⟨lv, by simpa using e2, own_set (p := ⟨bR, 4, none⟩) (own_set (p := ⟨bR, 1, none⟩) HO.out HR.out (by decide) _) e1 (by decide) _⟩
  · exact ((Below.refl bR _).setCell (p := ⟨bR, 1, none⟩) (Nat.le_refl _) _).setCell (p := ⟨bR, 4, none⟩) (Nat.le_refl _) _
set_option maxRecDepth 100000 in
set_option maxHeartbeats 1000000 in
theorem take_hash (bR : Nat) (st : Txt.St) (v : Value) (ws : List ByteArray) (w : World) (n : Nat) (hR : Rd w bR st) (hO : Txt.Ok st n) (hW : Ws w v ws) :
    Calls Tryz.prog 92 #[.pointer (some ⟨bR, 0, none⟩), v] w fun e w' => e = .returned (.int .i64 (Txt.takeH st ws).1) ∧ ((Txt.takeH st ws).1 = 0 → Rd w' bR (Txt.takeH st ws).2) ∧ Below bR w w' := by
  obtain ⟨lv, hrow, hown⟩ := hR
  have c2 := cell_of_row _ _ 2 _ _ _ hrow
  simp at c2
  have f2 := frozen_of_row _ _ 2 _ _ hrow
  have HR := hid' hrow
  have HO := hid' hown
  have hlen := hW.len
  have HSZ := hid' hW.sz
  have hh := hO.h
  clear hrow hown hO
  have H : Hid ((Txt.takeH st ws).1 = Txt.hashErr ws st.h) := rfl
  have HS : Hid ((Txt.takeH st ws).2 = { st with h := Txt.hexTo ws 5 }) := rfl
  by_cases h5 : ws.length = 5
  · obtain ⟨g, cap, rfl, hgl, hc⟩ := hW.at' (by omega)
    rw [h5] at hc ⊢
    have HC := hid' hc
    clear hc hW hlen
    go_enter Tryz.func92, Tryz.ntmps92
    go_wp2
    go_loop [5, 6] (fun t i => ∃ k : Nat, k ≤ 5 ∧ i = .int .i64 k ∧ t = .string (Txt.hexTo ws k) ∧ Txt.Hexed ws k) (fun _ i => 5 - (intOf i).toNat)
    case atStart => exact ⟨0, by omega, rfl, rfl, fun i hi => by omega⟩
    case round =>
      obtain ⟨k, hk, rfl, rfl, hhex⟩ := hrel
      have HHX := hid' hhex
      have hts := Txt.size_hexTo ws k
      clear hhex
      by_cases hlt : k < 5
      · have ck := HC.out k hlt
        have hsz := HSZ.out k
        have HX := hid' (is_hex (ws.getD k Txt.em) w (by omega))
        cases hx : Txt.isHex (ws.getD k Txt.em) with
        | false =>
          have hE : Txt.hashErr ws st.h = 3 := by
            unfold Txt.hashErr
            rw [if_neg (by omega), if_pos (Txt.hexedB_no (fun h => by have := h k hlt; rw [hx] at this; cases this))]
          rw [hE] at H
          rw [hx] at HX
          clear hx hE
          generalize ws.getD k Txt.em = sk at *
          generalize Txt.hexTo ws k = tk at *
          go_wp2_with (go_at_call 109; refine HX.out.mono ?_; rintro e w' ⟨rfl, rfl⟩)
          go_ret
          exact ⟨ret_int H.out.symm, no_err H.out (by decide), Below.refl _ _⟩
        | true =>
          have h8 : (ws.getD k Txt.em).size ≤ 8 := by have := (Txt.isHex_is hx).1; omega
          have hfw := full_hex (ws.getD k Txt.em) w h8
          rw [← Txt.word_of hx] at hfw
          have HFW := hid' hfw
          have HK : Hid (Txt.hexTo ws (k + 1) = Txt.hexTo ws k ++ Txt.word (ws.getD k Txt.em)) := rfl
          have hws := Txt.size_word (s := ws.getD k Txt.em)
          have HH2 : Hid (Txt.Hexed ws (k + 1)) := fun i hi => by
            by_cases e : i = k
            · subst e; exact hx
            · exact HHX.out i (by omega)
          rw [hx] at HX
          clear hx hfw
          generalize ws.getD k Txt.em = sk at *
          generalize Txt.hexTo ws k = tk at *
          generalize Txt.word sk = wk at *
          go_wp2_with (first
            | (go_at_call 109; refine HX.out.mono ?_; rintro e w' ⟨rfl, rfl⟩)
            | (go_at_call 110; refine HFW.out.mono ?_; rintro e w' ⟨rfl, rfl⟩))
          exact ⟨⟨k + 1, by omega, by go_num, by rw [HK.out], HH2.out⟩, by simp [intOf]; omega⟩
      · have ek : k = 5 := by omega
        have hD : ¬ (Txt.hexedB ws 5 = false) := by
          rw [(Txt.hexedB_iff ws 5).2 (by rw [← ek]; exact HHX.out)]; decide
        by_cases hb : st.h = Txt.em
        · have hE : Txt.hashErr ws st.h = 0 := by unfold Txt.hashErr; rw [if_neg (by omega), if_neg hD, if_neg (by simpa using hb)]
          rw [hE] at H
          have HT : Hid (Txt.hexTo ws k = Txt.hexTo ws 5) := by show _ = _; rw [ek]
          rw [hb] at c2 HR
          clear hE hD ek
          generalize Txt.hexTo ws k = tk at *
          go_wp2
          go_ret
          refine ⟨ret_int H.out.symm, fun h => ?_, (Below.refl bR _).setCell (p := ⟨bR, 2, none⟩) (Nat.le_refl _) _⟩
          rw [HS.out, ← HT.out]
          have e1 := heap_setCell_same _ bR 2 _ _ (.string tk) HR.out
          exact ⟨lv, by simpa using e1, own_set (p := ⟨bR, 2, none⟩) HO.out HR.out (by decide) _⟩
        · have hE : Txt.hashErr ws st.h = 4 := by unfold Txt.hashErr; rw [if_neg (by omega), if_neg hD, if_pos hb]
          rw [hE] at H
          have hbe := em_test hb
          clear hE hD ek hb
          generalize Txt.hexTo ws k = tk at *
          go_wp2
          go_ret
          exact ⟨ret_int H.out.symm, no_err H.out (by decide), Below.refl _ _⟩
  · have hE : Txt.hashErr ws st.h = 3 := by unfold Txt.hashErr; rw [if_pos h5]
    rw [hE] at H
    obtain ⟨ao, cap, rfl⟩ := hW.form
    have h5' : ((ws.length : Int) != 5) = true := bne_iff_ne.2 (by omega)
    clear h5 hW hE
    go_enter Tryz.func92, Tryz.ntmps92
    go_wp2
    go_ret
    exact ⟨ret_int H.out.symm, no_err H.out (by decide), Below.refl _ _⟩
theorem lies_api {w : World} {B g cap : Nat} {ls : List (Int × Int)} (h : w.ownsRow B 49 2 (.slice (some ⟨g, 0, none⟩) ls.length cap) ls.length (flat ls)) : Lies w g ls := fun i hi =>
  ⟨by rw [h.cellAt (i * 2) (by omega)]; exact flat_at0 ls i hi, by rw [h.cellAt (i * 2 + 1) (by omega)]; exact flat_at1 ls i hi⟩
theorem can_follow_own (B : Nat) (lv : Value) (ls : List (Int × Int)) (a o : Int) (w : World) (wa : (Lit.int .i64 a).wf = true) (wo : (Lit.int .i64 o).wf = true) (hv : w.ownsRow B 49 2 lv ls.length (flat ls)) (h40 : ls.length ≤ 40)
    (hok : ∀ p ∈ ls, 0 ≤ p.2 ∧ p.2 ≤ 200) : Calls Tryz.prog 82 #[lv, .agg #[.int .i64 a, .int .i64 o]] w fun e w' => e = .returned (.bool (Tab.follows ls a o)) ∧ Below w.heap.size w w' := by
  rcases hv.2 with ⟨rfl, e⟩ | ⟨g, cap, cur, rfl, _⟩
  · obtain rfl : ls = [] := List.eq_nil_of_length_eq_zero e
    exact can_follow_nil none 0 a o w wa wo
  · have := can_follow g cap ls.length ls a o w wa wo (Nat.le_refl _) h40 (lies_api hv) (hv.lt _ rfl).2 (by rw [List.take_length]; exact hok)
    rw [List.take_length] at this
    exact this
theorem entry_text {ls : List (Int × Int)} {ws : List ByteArray} (h0 : ¬ ws.length = 0) (h : ws.length < 2 ∨ Txt.isNum (ws.getD 0 Txt.em) = false ∨ Txt.isNum (ws.getD 1 Txt.em) = false ∨ (2 < ws.length ∧ Txt.beg (ws.getD 2 Txt.em) ⟨#[35]⟩ = false)) : Txt.entryErr ls ws = 3 := by
  unfold Txt.entryErr
  rw [if_neg h0]
  by_cases a : ws.length < 2
  · rw [if_pos a]
  · rw [if_neg a]
    by_cases b : Txt.isNum (ws.getD 0 Txt.em) = false
    · rw [if_pos b]
    · rw [if_neg b]
      by_cases c : Txt.isNum (ws.getD 1 Txt.em) = false
      · rw [if_pos c]
      · rw [if_neg c, if_pos]
        rcases h with h | h | h | h
        · exact absurd h a
        · exact absurd h b
        · exact absurd h c
        · exact h
set_option maxRecDepth 100000 in
set_option maxHeartbeats 1000000 in
theorem take_entry_text (bR : Nat) (st : Txt.St) (v : Value) (ws : List ByteArray) (w : World) (hR : Rd w bR st) (hW : Ws w v ws)
    (h : ws.length < 2 ∨ Txt.isNum (ws.getD 0 Txt.em) = false ∨ Txt.isNum (ws.getD 1 Txt.em) = false ∨ (2 < ws.length ∧ Txt.beg (ws.getD 2 Txt.em) ⟨#[35]⟩ = false)) :
    Calls Tryz.prog 93 #[.pointer (some ⟨bR, 0, none⟩), v] w fun e w' => e = .returned (.int .i64 (Txt.takeE st ws).1) ∧ ((Txt.takeE st ws).1 = 0 → Rd w' bR (Txt.takeE st ws).2) ∧ Below bR w w' := by
  have hlen := hW.len
  by_cases h0 : ws.length = 0
  · have H : Hid ((Txt.takeE st ws).1 = 0) := by show Txt.entryErr st.ls ws = 0; unfold Txt.entryErr; rw [if_pos h0]
    have HS : Hid ((Txt.takeE st ws).2 = st) := by show (if _ then _ else _) = _; rw [if_pos h0]
    obtain ⟨ao, cap, rfl⟩ := hW.form
    rw [h0]
    have HR := hid' hR
    clear hR hW h h0 hlen
    go_enter Tryz.func93, Tryz.ntmps93
    go_wp2
    go_ret
    exact ⟨ret_int H.out.symm, fun _ => by rw [HS.out]; exact HR.out, Below.refl _ _⟩
  have H : Hid ((Txt.takeE st ws).1 = 3) := entry_text h0 h
  obtain ⟨g, cap, rfl, hgl, hc⟩ := hW.at' (by omega)
  have hl0 : ((ws.length : Int) == 0) = false := by rw [beq_eq_false_iff_ne]; omega
  by_cases h2 : ws.length < 2
  · clear h h0 hc hW hR
    go_enter Tryz.func93, Tryz.ntmps93
    go_wp2
    go_ret
    exact ⟨ret_int H.out.symm, no_err H.out (by decide), Below.refl _ _⟩
  have c0 := hc 0 (by omega)
  have c1 := hc 1 (by omega)
  have z0 := hW.sz 0
  have z1 := hW.sz 1
  have N0 := hid' (is_number (ws.getD 0 Txt.em) w (by omega))
  have N1 := hid' (is_number (ws.getD 1 Txt.em) w (by omega))
  by_cases n0 : Txt.isNum (ws.getD 0 Txt.em) = false
  · rw [n0] at N0
    clear h h0 hc hW hR n0 N1 c1 z1
    generalize ws.getD 0 Txt.em = s0 at *
    go_enter Tryz.func93, Tryz.ntmps93
    go_wp2_with (go_at_call 111; refine N0.out.mono ?_; rintro e w' ⟨rfl, rfl⟩)
    go_ret
    exact ⟨ret_int H.out.symm, no_err H.out (by decide), Below.refl _ _⟩
  have n0' : Txt.isNum (ws.getD 0 Txt.em) = true := by simpa using n0
  rw [n0'] at N0
  by_cases n1 : Txt.isNum (ws.getD 1 Txt.em) = false
  · rw [n1] at N1
    clear h h0 hc hW hR n0 n0' n1
    generalize ws.getD 0 Txt.em = s0 at *
    generalize ws.getD 1 Txt.em = s1 at *
    go_enter Tryz.func93, Tryz.ntmps93
    go_wp2_with fail
    refine N0.out.mono ?_
    rintro e w' ⟨rfl, rfl⟩
    go_wp2_with fail
    refine N1.out.mono ?_
    rintro e w' ⟨rfl, rfl⟩
    go_wp2
    go_ret
    exact ⟨ret_int H.out.symm, no_err H.out (by decide), Below.refl _ _⟩
  have n1' : Txt.isNum (ws.getD 1 Txt.em) = true := by simpa using n1
  rw [n1'] at N1
  have h3 : 2 < ws.length ∧ Txt.beg (ws.getD 2 Txt.em) ⟨#[35]⟩ = false := by
    rcases h with h | h | h | h
    · exact absurd h h2
    · exact absurd h n0
    · exact absurd h n1
    · exact h
  obtain ⟨h3, hb⟩ := h3
  have c2 := hc 2 h3
  have HB := hid' (begins_any (ws.getD 2 Txt.em) ⟨#[35]⟩ w)
  rw [hb] at HB
  clear h h0 hc hW hR n0 n0' n1 n1' hb
  generalize ws.getD 0 Txt.em = s0 at *
  generalize ws.getD 1 Txt.em = s1 at *
  generalize ws.getD 2 Txt.em = s2 at *
  go_enter Tryz.func93, Tryz.ntmps93
  go_wp2_with fail
  refine N0.out.mono ?_
  rintro e w' ⟨rfl, rfl⟩
  go_wp2_with fail
  refine N1.out.mono ?_
  rintro e w' ⟨rfl, rfl⟩
  go_wp2_with (go_at_call 88; refine HB.out.mono ?_; rintro e w' ⟨rfl, rfl⟩)
  go_ret
  exact ⟨ret_int H.out.symm, no_err H.out (by decide), Below.refl _ _⟩
end Go.Proofs.YtmmkhodaljpjgabGreatDoor
