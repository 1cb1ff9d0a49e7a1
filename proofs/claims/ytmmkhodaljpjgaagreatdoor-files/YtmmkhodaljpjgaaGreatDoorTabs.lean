import Derived.Test.YtmmkhodaljpjgaaGreatDoorMem
import Derived.Test.YtmmkhodaljpjgaaGreatDoorCivs
import Derived.Test.YtmmkhodaljpjgaaGreatDoorDay
/-! Tables in plain integers. -/
namespace Go.Proofs.YtmmkhodaljpjgaaGreatDoor
open Go.RowKit

namespace Cal
def inB (y m n : Int) : Bool := decide (1900 ≤ y ∧ y ≤ 2999 ∧ 1 ≤ m ∧ m ≤ 12 ∧ yb y + cum y m ≤ n ∧ n < yb y + cum y m + dim y m)
theorem inB_in {y m n : Int} (h : inB y m n = true) : In y m n := by
  obtain ⟨a, b, c, d, e, f⟩ := of_decide_eq_true h
  exact ⟨a, b, c, d, e, f⟩
/-- All months. -/
def allMonths : List (Int × Int) := (List.range 13200).map fun (k : Nat) => (1900 + (k : Int) / 12, 1 + (k : Int) % 12)
/-- The month of a day. -/
def find (n : Int) : Option (Int × Int) := allMonths.find? fun p => inB p.1 p.2 n
theorem find_in {n : Int} {p : Int × Int} (h : find n = some p) : In p.1 p.2 n := by
  have q := List.find?_some (show List.find? (fun p => inB p.1 p.2 n) allMonths = some p from h)
  exact inB_in q
theorem find_eq {y m n : Int} (h : In y m n) : find n = some (y, m) := by
  cases e : find n with
  | none =>
    have mem : (y, m) ∈ allMonths := by
      have := h.y1
      have := h.y2
      have := h.m1
      have := h.m2
      refine List.mem_map.2 ⟨((y - 1900) * 12 + (m - 1)).toNat, List.mem_range.2 (by omega), ?_⟩
      have e : ((((y - 1900) * 12 + (m - 1)).toNat : Nat) : Int) = (y - 1900) * 12 + (m - 1) := by omega
      rw [e]
      exact Prod.ext (by simp only; omega) (by simp only; omega)
    have := List.find?_eq_none.1 e _ mem
    exact absurd (decide_eq_true ⟨h.y1, h.y2, h.m1, h.m2, h.lo, h.hi⟩) this
  | some p =>
    have o := (find_in e).only h
    exact congrArg some (Prod.ext o.1 o.2)
end Cal
namespace Tab
/-- A month begins at a second of UTC. -/
def IsFirst (sec : Int) : Prop := 0 ≤ sec ∧ sec % 86400 = 0 ∧ ∃ y m, Cal.In y m (sec / 86400) ∧ sec / 86400 = Cal.yb y + Cal.cum y m
def first (sec : Int) : Bool := decide (0 ≤ sec ∧ sec % 86400 = 0) && (match Cal.find (sec / 86400) with | none => false | some p => decide (sec / 86400 = Cal.yb p.1 + Cal.cum p.1 p.2))
theorem first_iff (sec : Int) : first sec = true ↔ IsFirst sec := by
  unfold first IsFirst
  rw [Bool.and_eq_true, decide_eq_true_eq]
  refine ⟨fun ⟨⟨a, b⟩, c⟩ => ⟨a, b, ?_⟩, fun ⟨a, b, y, m, hi, e⟩ => ⟨⟨a, b⟩, ?_⟩⟩
  · cases hf : Cal.find (sec / 86400) with
    | none => rw [hf] at c; cases c
    | some p => rw [hf] at c; exact ⟨p.1, p.2, Cal.find_in hf, of_decide_eq_true c⟩
  · rw [Cal.find_eq hi]; exact decide_eq_true e
theorem first_yes {sec : Int} (h : IsFirst sec) : first sec = true := (first_iff sec).2 h
theorem first_no {sec : Int} (h : ¬ IsFirst sec) : first sec = false := by
  cases e : first sec with
  | false => rfl
  | true => exact absurd ((first_iff sec).1 e) h
/-- May an entry stand behind another? -/
def behindB (p : Int × Int) (a o : Int) : Bool := decide (p.1 < a) && (o == p.2 + 1 || o == p.2 - 1)
/-- May an entry stand behind others? -/
def follows (ls : List (Int × Int)) (a o : Int) : Bool :=
  first a && (decide (0 ≤ o) && (decide (o ≤ 200) && ((!(ls.length == 40)) && (match ls.getLast? with | none => true | some p => behindB p a o))))
end Tab
namespace Tab
theorem follows_no1 {ls : List (Int × Int)} {a o : Int} (h : first a = false) : follows ls a o = false := by simp [follows, h]
theorem follows_no2 {ls : List (Int × Int)} {a o : Int} (h : o < 0) : follows ls a o = false := by
  have : decide (0 ≤ o) = false := by simp; omega
  simp [follows, this]
theorem follows_no3 {ls : List (Int × Int)} {a o : Int} (h : 200 < o) : follows ls a o = false := by
  have : decide (o ≤ 200) = false := by simp; omega
  simp [follows, this]
theorem follows_no4 {ls : List (Int × Int)} {a o : Int} (h : ls.length = 40) : follows ls a o = false := by simp [follows, h]
theorem follows_nil {a o : Int} (h : first a = true) (h0 : 0 ≤ o) (h1 : o ≤ 200) : follows [] a o = true := by simp [follows, h, h0, h1]
theorem follows_last {ls : List (Int × Int)} {a o : Int} (h : first a = true) (h0 : 0 ≤ o) (h1 : o ≤ 200) (h2 : ls.length ≠ 40) (q : Nat) (hq : ls.length = q + 1) :
    follows ls a o = behindB (ls[q]'(by omega)) a o := by
  have hl : ls.getLast? = some (ls[q]'(by omega)) := by
    rw [List.getLast?_eq_getElem?, List.getElem?_eq_getElem (by omega)]
    congr 1
    simp [hq]
  unfold follows
  rw [hl, h]
  simp [h0, h1, h2]
end Tab
namespace Tab
/-- Do the first k entries stand as they may? -/
def okUpTo (ls : List (Int × Int)) : Nat → Bool
  | 0 => true
  | k + 1 => okUpTo ls k && (match ls[k]? with | none => true | some p => follows (ls.take k) p.1 p.2)
/-- Is this a table? -/
def whole (up ex : Int) (ls : List (Int × Int)) : Bool :=
  decide (0 ≤ up) && (decide (up < ex) && (decide (ex ≤ 34000000000) && ((!(ls.length == 0)) && okUpTo ls ls.length)))
theorem okUpTo_succ (ls : List (Int × Int)) (k : Nat) (h : k < ls.length) : okUpTo ls (k + 1) = (okUpTo ls k && follows (ls.take k) ls[k].1 ls[k].2) := by
  simp only [okUpTo]; rw [List.getElem?_eq_getElem h]
theorem okUpTo_no {ls : List (Int × Int)} {k m : Nat} (h : okUpTo ls k = false) (hm : k ≤ m) : okUpTo ls m = false := by
  induction m with
  | zero => have : k = 0 := by omega
            subst this; exact h
  | succ m ih =>
    by_cases e : k = m + 1
    · subst e; exact h
    · simp [okUpTo, ih (by omega)]
theorem follows_off {ls : List (Int × Int)} {a o : Int} (h : follows ls a o = true) : 0 ≤ o ∧ o ≤ 200 := by
  by_cases h0 : o < 0
  · rw [follows_no2 h0] at h; cases h
  · by_cases h1 : 200 < o
    · rw [follows_no3 h1] at h; cases h
    · omega
theorem okUpTo_off {ls : List (Int × Int)} (k : Nat) (hk : k ≤ ls.length) (h : okUpTo ls k = true) : ∀ p ∈ ls.take k, 0 ≤ p.2 ∧ p.2 ≤ 200 := by
  induction k with
  | zero => intro p hp; simp at hp
  | succ k ih =>
    rw [okUpTo_succ ls k (by omega)] at h
    simp only [Bool.and_eq_true] at h
    intro p hp
    rw [List.take_succ_eq_append_getElem (by omega)] at hp
    rcases List.mem_append.1 hp with hp | hp
    · exact ih (by omega) h.1 p hp
    · simp at hp; subst hp; exact follows_off h.2
theorem whole_no1 {up ex : Int} {ls : List (Int × Int)} (h : up < 0) : whole up ex ls = false := by
  have : decide (0 ≤ up) = false := by simp; omega
  simp [whole, this]
theorem whole_no2 {up ex : Int} {ls : List (Int × Int)} (h : ex ≤ up) : whole up ex ls = false := by
  have : decide (up < ex) = false := by simp; omega
  simp [whole, this]
theorem whole_no3 {up ex : Int} {ls : List (Int × Int)} (h : 34000000000 < ex) : whole up ex ls = false := by
  have : decide (ex ≤ 34000000000) = false := by simp; omega
  simp [whole, this]
theorem whole_no4 {up ex : Int} {ls : List (Int × Int)} (h : ls.length = 0) : whole up ex ls = false := by simp [whole, h]
theorem whole_is {up ex : Int} {ls : List (Int × Int)} (h0 : ¬ up < 0) (h1 : ¬ ex ≤ up) (h2 : ¬ 34000000000 < ex) (h3 : ¬ ls.length = 0) : whole up ex ls = okUpTo ls ls.length := by
  have a : decide (0 ≤ up) = true := by simp; omega
  have b : decide (up < ex) = true := by simp; omega
  have c : decide (ex ≤ 34000000000) = true := by simp; omega
  have d : (ls.length == 0) = false := by rw [beq_eq_false_iff_ne]; exact h3
  simp only [whole, a, b, c, d, Bool.not_false, Bool.true_and]
end Tab
/-- A list of entries as it lies in memory. -/
def Lies (w : World) (g : Nat) (ls : List (Int × Int)) : Prop := ∀ i (h : i < ls.length), w.cell? ⟨g, i * 2, none⟩ = some (.int .i64 ls[i].1) ∧ w.cell? ⟨g, i * 2 + 1, none⟩ = some (.int .i64 ls[i].2)
/-- Entries within the calendar. -/
def Fine (ls : List (Int × Int)) : Prop := ∀ p ∈ ls, (0 ≤ p.1 ∧ p.1 ≤ 34712668800) ∧ (0 ≤ p.2 ∧ p.2 ≤ 200)
theorem Tab.first_bd {a : Int} (h : Tab.IsFirst a) : 0 ≤ a ∧ a ≤ 34712668800 := by
  obtain ⟨h0, _, y, m, hi, _⟩ := h
  have a := hi.year
  have b := Cal.yb_mono (y + 1) 3000 (by have := hi.y2; omega)
  rw [Cal.yb_last] at b
  omega
theorem Tab.follows_first {ls : List (Int × Int)} {a o : Int} (h : Tab.follows ls a o = true) : Tab.IsFirst a := by
  cases hf : Tab.first a with
  | false => rw [Tab.follows_no1 hf] at h; cases h
  | true => exact (Tab.first_iff a).1 hf
theorem Tab.okUpTo_at {ls : List (Int × Int)} (k : Nat) (hk : k ≤ ls.length) (h : Tab.okUpTo ls k = true) : ∀ i (hi : i < k), Tab.follows (ls.take i) (ls[i]'(by omega)).1 (ls[i]'(by omega)).2 = true := by
  induction k with
  | zero => intro i hi; omega
  | succ k ih =>
    rw [Tab.okUpTo_succ ls k (by omega)] at h
    simp only [Bool.and_eq_true] at h
    intro i hi
    by_cases e : i = k
    · subst e; exact h.2
    · exact ih (by omega) h.1 i (by omega)
theorem Tab.whole_ok {up ex : Int} {ls : List (Int × Int)} (h : Tab.whole up ex ls = true) : Tab.okUpTo ls ls.length = true ∧ 0 < ls.length := by
  unfold Tab.whole at h
  simp only [Bool.and_eq_true, Bool.not_eq_true', beq_eq_false_iff_ne, ne_eq] at h
  exact ⟨h.2.2.2.2, by omega⟩
theorem Tab.fine_of_whole {up ex : Int} {ls : List (Int × Int)} (h : Tab.whole up ex ls = true) : Fine ls := fun p hp => by
  obtain ⟨i, hi, rfl⟩ := List.getElem_of_mem hp
  have := Tab.okUpTo_at ls.length (Nat.le_refl _) (Tab.whole_ok h).1 i hi
  exact ⟨Tab.first_bd (Tab.follows_first this), Tab.follows_off this⟩
/-- The second from which an entry holds. -/
def Tab.when (ls : List (Int × Int)) (i : Nat) : Int :=
  (ls.getD i (0, 0)).1 + (if 0 < i ∧ (ls.getD (i - 1) (0, 0)).2 < (ls.getD i (0, 0)).2 then (ls.getD (i - 1) (0, 0)).2 else (ls.getD i (0, 0)).2)
theorem getD_at {ls : List (Int × Int)} (i : Nat) (h : i < ls.length) : ls.getD i (0, 0) = ls[i] := by
  rw [List.getD_eq_getElem?_getD, List.getElem?_eq_getElem h]; rfl
/-- The last of the first k entries that holds at a second; -1: none does. -/
def Tab.lastAt (ls : List (Int × Int)) (sec : Int) : Nat → Int
  | 0 => -1
  | k + 1 => if Tab.when ls k ≤ sec then (k : Int) else Tab.lastAt ls sec k
theorem Tab.lastAt_bd (ls : List (Int × Int)) (sec : Int) (k : Nat) : -1 ≤ Tab.lastAt ls sec k ∧ Tab.lastAt ls sec k < k := by
  induction k with
  | zero => simp [Tab.lastAt]
  | succ k ih => simp only [Tab.lastAt]; split <;> omega
/-- The offset at a second, and which error. -/
def Tab.offset (up ex : Int) (ls : List (Int × Int)) (sec : Int) : Int × Int :=
  if Tab.whole up ex ls = false then (0, 8) else if 34000000000 < sec then (0, 9)
  else if Tab.lastAt ls sec ls.length < 0 then (0, 9) else ((ls.getD (Tab.lastAt ls sec ls.length).toNat (0, 0)).2, 0)
theorem Lies.below {w w' : World} {g : Nat} {ls : List (Int × Int)} (h : Lies w g ls) (hg : g < w.heap.size) (hb : Below w.heap.size w w') : Lies w' g ls := fun i hi =>
  ⟨(hb.cell (p := ⟨g, i * 2, none⟩) hg).trans (h i hi).1, (hb.cell (p := ⟨g, i * 2 + 1, none⟩) hg).trans (h i hi).2⟩
/-- The offset at the second D of UTC, of the first k + 1 entries. -/
def Tab.offAt (ls : List (Int × Int)) (D : Int) : Nat → Int
  | 0 => (ls.getD 0 (0, 0)).2
  | k + 1 => if (ls.getD (k + 1) (0, 0)).1 ≤ D then (ls.getD (k + 1) (0, 0)).2 else Tab.offAt ls D k
/-- The second of TAI at which a day begins. -/
def Tab.begins (ls : List (Int × Int)) (d : Int) : Int :=
  if d * 86400 < (ls.getD 0 (0, 0)).1 then -1 else d * 86400 + Tab.offAt ls (d * 86400) (ls.length - 1)
/-- A day's seconds, by the entries from i on. -/
def Tab.lenFrom (ls : List (Int × Int)) (D : Int) (i : Nat) : Nat → Int
  | 0 => 86400
  | m + 1 => if (ls.getD i (0, 0)).1 = D then 86400 + (ls.getD i (0, 0)).2 - (ls.getD (i - 1) (0, 0)).2 else Tab.lenFrom ls D (i + 1) m
/-- How many seconds a day has. -/
def Tab.length (ls : List (Int × Int)) (d : Int) : Int := Tab.lenFrom ls ((d + 1) * 86400) 1 (ls.length - 1)
theorem Tab.offAt_bd {ls : List (Int × Int)} (hf : Fine ls) (D : Int) (k : Nat) (hk : k < ls.length) : 0 ≤ Tab.offAt ls D k ∧ Tab.offAt ls D k ≤ 200 := by
  induction k with
  | zero => simp only [Tab.offAt]; rw [getD_at 0 hk]; exact (hf _ (List.getElem_mem hk)).2
  | succ k ih =>
    simp only [Tab.offAt]
    split
    · rw [getD_at (k + 1) hk]; exact (hf _ (List.getElem_mem hk)).2
    · exact ih (by omega)
theorem Tab.lenFrom_bd {ls : List (Int × Int)} (hf : Fine ls) (D : Int) (m i : Nat) (hi : 1 ≤ i) (hm : i + m ≤ ls.length) : 86200 ≤ Tab.lenFrom ls D i m ∧ Tab.lenFrom ls D i m ≤ 86600 := by
  induction m generalizing i with
  | zero => simp [Tab.lenFrom]
  | succ m ih =>
    simp only [Tab.lenFrom]
    split
    · rw [getD_at i (by omega), getD_at (i - 1) (by omega)]
      have a := (hf _ (List.getElem_mem (show i < ls.length by omega))).2
      have b := (hf _ (List.getElem_mem (show i - 1 < ls.length by omega))).2
      omega
    · exact ih (i + 1) (by omega) (by omega)
/-- The second that is called so, and which error. -/
def Tab.second (up ex : Int) (ls : List (Int × Int)) (d s : Int) : Int × Int :=
  if Tab.whole up ex ls = false then (0, 8) else if d < 0 ∨ 401767 ≤ d then (0, 9)
  else if Tab.begins ls d < 0 ∨ s < 0 ∨ Tab.length ls d ≤ s ∨ 34000000000 < Tab.begins ls d + s then (0, 9) else (Tab.begins ls d + s, 0)
theorem Tab.begins_bd {ls : List (Int × Int)} (hf : Fine ls) (hp : 0 < ls.length) (d : Int) : -1 ≤ Tab.begins ls d ∧ (Tab.begins ls d = -1 ∨ (d * 86400 ≤ Tab.begins ls d ∧ Tab.begins ls d ≤ d * 86400 + 200)) := by
  have h0 := (hf _ (List.getElem_mem hp)).1
  have ho := Tab.offAt_bd hf (d * 86400) (ls.length - 1) (by omega)
  unfold Tab.begins
  rw [getD_at 0 hp]
  split <;> omega
theorem Tab.length_bd {ls : List (Int × Int)} (hf : Fine ls) (hp : 0 < ls.length) (d : Int) : 86200 ≤ Tab.length ls d ∧ Tab.length ls d ≤ 86600 :=
  Tab.lenFrom_bd hf _ _ _ (Nat.le_refl _) (by omega)
theorem Tab.offset_err {up ex : Int} {ls : List (Int × Int)} {sec : Int} : (Tab.offset up ex ls sec).2 = 0 ∨ (Tab.offset up ex ls sec).2 = 8 ∨ (Tab.offset up ex ls sec).2 = 9 := by
  unfold Tab.offset
  split
  · simp
  · split
    · simp
    · split <;> simp
theorem Tab.offset_ok {up ex : Int} {ls : List (Int × Int)} {sec : Int} (h : (Tab.offset up ex ls sec).2 = 0) : Tab.whole up ex ls = true ∧ sec ≤ 34000000000 ∧ 0 ≤ Tab.lastAt ls sec ls.length := by
  unfold Tab.offset at h
  split at h
  · simp at h
  · split at h
    · simp at h
    · split at h
      · simp at h
      · refine ⟨by simp_all, by omega, by omega⟩

end Go.Proofs.YtmmkhodaljpjgaaGreatDoor

/-! Days of a table, in plain integers: each begins where the one ahead of it ends. -/
namespace Go.Proofs.YtmmkhodaljpjgaaGreatDoor
open Go.RowKit

namespace Tab
/-- What a table's entries are. -/
structure Good (ls : List (Int × Int)) : Prop where
  pos : 0 < ls.length
  fine : Fine ls
  day : ∀ i, i < ls.length → (ls.getD i (0, 0)).1 % 86400 = 0
  up : ∀ i, i + 1 < ls.length → (ls.getD i (0, 0)).1 < (ls.getD (i + 1) (0, 0)).1
  off : ∀ i, i + 1 < ls.length → (ls.getD (i + 1) (0, 0)).2 = (ls.getD i (0, 0)).2 + 1 ∨ (ls.getD (i + 1) (0, 0)).2 = (ls.getD i (0, 0)).2 - 1
  len : ls.length ≤ 40
theorem good_of_whole {up ex : Int} {ls : List (Int × Int)} (h : whole up ex ls = true) : Good ls := by
  obtain ⟨hok, hpos⟩ := whole_ok h
  have hat := okUpTo_at ls.length (Nat.le_refl _) hok
  have hlast : ∀ i (hi : i + 1 < ls.length), behindB ls[i] ls[i + 1].1 ls[i + 1].2 = true := fun i hi => by
    have hfl := hat (i + 1) hi
    have hne : (ls.take (i + 1)).length ≠ 40 := fun e => by rw [follows_no4 e] at hfl; cases hfl
    have hfi : first ls[i + 1].1 = true := by
      cases hf : first ls[i + 1].1 with
      | false => rw [follows_no1 hf] at hfl; cases hfl
      | true => rfl
    have ho := follows_off hfl
    have := follows_last (ls := ls.take (i + 1)) hfi ho.1 ho.2 hne i (by simp; omega)
    rw [this] at hfl
    simpa using hfl
  refine ⟨hpos, fine_of_whole h, fun i hi => ?_, fun i hi => ?_, fun i hi => ?_, ?_⟩
  · rw [getD_at i hi]; exact (follows_first (hat i hi)).2.1
  · rw [getD_at i (by omega), getD_at (i + 1) hi]
    have := hlast i hi
    simp only [behindB, Bool.and_eq_true, decide_eq_true_eq] at this
    exact this.1
  · rw [getD_at i (by omega), getD_at (i + 1) hi]
    have := hlast i hi
    simp only [behindB, Bool.and_eq_true, Bool.or_eq_true, beq_iff_eq] at this
    exact this.2
  · by_cases c : ls.length ≤ 40
    · exact c
    · have hfl := hat 40 (by omega)
      rw [follows_no4 (by simp; omega)] at hfl
      cases hfl
theorem Good.lt {ls : List (Int × Int)} (h : Good ls) (i j : Nat) (hij : i < j) (hj : j < ls.length) : (ls.getD i (0, 0)).1 < (ls.getD j (0, 0)).1 := by
  induction j with
  | zero => omega
  | succ j ih =>
    by_cases e : i = j
    · subst e; exact h.up i hj
    · have := ih (by omega) (by omega); have := h.up j hj; omega
/-- The last of the first k + 1 entries that is not behind D. -/
theorem Good.last {ls : List (Int × Int)} (_ : Good ls) (D : Int) (h0 : (ls.getD 0 (0, 0)).1 ≤ D) (k : Nat) (hk : k < ls.length) :
    ∃ j, j ≤ k ∧ (ls.getD j (0, 0)).1 ≤ D ∧ ∀ i, j < i → i ≤ k → D < (ls.getD i (0, 0)).1 := by
  induction k with
  | zero => exact ⟨0, Nat.le_refl _, h0, fun i a b => by omega⟩
  | succ k ih =>
    by_cases c : (ls.getD (k + 1) (0, 0)).1 ≤ D
    · exact ⟨k + 1, Nat.le_refl _, c, fun i a b => by omega⟩
    · obtain ⟨j, hj, hd, hr⟩ := ih (by omega)
      refine ⟨j, by omega, hd, fun i a b => ?_⟩
      by_cases e : i = k + 1
      · subst e; omega
      · exact hr i a (by omega)
theorem offAt_eq (ls : List (Int × Int)) (D : Int) (j k : Nat) (hjk : j ≤ k) (hd : (ls.getD j (0, 0)).1 ≤ D) (hr : ∀ i, j < i → i ≤ k → D < (ls.getD i (0, 0)).1) : offAt ls D k = (ls.getD j (0, 0)).2 := by
  induction k with
  | zero => have : j = 0 := by omega
            subst this; rfl
  | succ k ih =>
    simp only [offAt]
    by_cases e : j = k + 1
    · subst e; rw [if_pos hd]
    · have := hr (k + 1) (by omega) (Nat.le_refl _)
      rw [if_neg (by omega)]
      exact ih (by omega) (fun i a b => hr i a (by omega))
theorem lenFrom_no (ls : List (Int × Int)) (E : Int) (m i : Nat) (h : ∀ t, i ≤ t → t < i + m → (ls.getD t (0, 0)).1 ≠ E) : lenFrom ls E i m = 86400 := by
  induction m generalizing i with
  | zero => rfl
  | succ m ih =>
    simp only [lenFrom]
    rw [if_neg (h i (Nat.le_refl _) (by omega))]
    exact ih (i + 1) (fun t a b => h t (by omega) (by omega))
theorem lenFrom_yes (ls : List (Int × Int)) (E : Int) (m i t : Nat) (h0 : i ≤ t) (h1 : t < i + m) (ht : (ls.getD t (0, 0)).1 = E) (h : ∀ q, i ≤ q → q < t → (ls.getD q (0, 0)).1 ≠ E) :
    lenFrom ls E i m = 86400 + (ls.getD t (0, 0)).2 - (ls.getD (t - 1) (0, 0)).2 := by
  induction m generalizing i with
  | zero => omega
  | succ m ih =>
    simp only [lenFrom]
    by_cases e : i = t
    · subst e; rw [if_pos ht]
    · rw [if_neg (h i (Nat.le_refl _) (by omega))]
      exact ih (i + 1) (by omega) (by omega) (fun q a b => h q (by omega) b)
/-- A day begins where the one ahead of it ends. -/
theorem Good.next {ls : List (Int × Int)} (h : Good ls) (d : Int) (h0 : (ls.getD 0 (0, 0)).1 ≤ d * 86400) : begins ls (d + 1) = begins ls d + length ls d := by
  have hp := h.pos
  obtain ⟨j, hj, hd, hr⟩ := h.last (d * 86400) h0 (ls.length - 1) (by omega)
  have e1 : begins ls d = d * 86400 + (ls.getD j (0, 0)).2 := by
    unfold begins; rw [if_neg (by omega), offAt_eq ls (d * 86400) j (ls.length - 1) hj hd hr]
  have hb : ∀ i, j < i → i < ls.length → (d + 1) * 86400 ≤ (ls.getD i (0, 0)).1 := fun i a b => by
    have x := hr i a (by omega)
    have y := h.day i b
    omega
  by_cases c : j + 1 < ls.length ∧ (ls.getD (j + 1) (0, 0)).1 = (d + 1) * 86400
  · have e2 : begins ls (d + 1) = (d + 1) * 86400 + (ls.getD (j + 1) (0, 0)).2 := by
      unfold begins
      rw [if_neg (by omega), offAt_eq ls ((d + 1) * 86400) (j + 1) (ls.length - 1) (by omega) (by omega) (fun i a b => by have := h.lt (j + 1) i a (by omega); omega)]
    have e3 : length ls d = 86400 + (ls.getD (j + 1) (0, 0)).2 - (ls.getD j (0, 0)).2 := by
      unfold length
      exact lenFrom_yes ls ((d + 1) * 86400) (ls.length - 1) 1 (j + 1) (by omega) (by omega) c.2 (fun q a b => by have := h.lt q (j + 1) b c.1; omega)
    omega
  · have hb' : ∀ i, j < i → i < ls.length → (d + 1) * 86400 < (ls.getD i (0, 0)).1 := fun i a b => by
      by_cases e : i = j + 1
      · subst e
        have := hb (j + 1) (by omega) b
        have : (ls.getD (j + 1) (0, 0)).1 ≠ (d + 1) * 86400 := fun q => c ⟨b, q⟩
        omega
      · have := hb (j + 1) (by omega) (by omega)
        have := h.lt (j + 1) i (by omega) b
        omega
    have e2 : begins ls (d + 1) = (d + 1) * 86400 + (ls.getD j (0, 0)).2 := by
      unfold begins
      rw [if_neg (by omega), offAt_eq ls ((d + 1) * 86400) j (ls.length - 1) hj (by omega) (fun i a b => hb' i a (by omega))]
    have e3 : length ls d = 86400 := by
      unfold length
      refine lenFrom_no ls ((d + 1) * 86400) (ls.length - 1) 1 fun t a b => ?_
      by_cases e : t ≤ j
      · by_cases e' : t = j
        · subst e'; omega
        · have := h.lt t j (by omega) (by omega); omega
      · have := hb' t (by omega) (by omega); omega
    omega
/-- The day in which a second of TAI is. -/
structure Day (ls : List (Int × Int)) (sec d : Int) : Prop where
  from' : (ls.getD 0 (0, 0)).1 ≤ d * 86400
  lo : begins ls d ≤ sec
  hi : sec < begins ls d + length ls d
theorem Good.begins_ge {ls : List (Int × Int)} (h : Good ls) (d : Int) (h0 : (ls.getD 0 (0, 0)).1 ≤ d * 86400) : d * 86400 ≤ begins ls d ∧ begins ls d ≤ d * 86400 + 200 := by
  have ho := offAt_bd h.fine (d * 86400) (ls.length - 1) (by have := h.pos; omega)
  unfold begins
  rw [if_neg (by omega)]
  omega
theorem Good.mono {ls : List (Int × Int)} (h : Good ls) (d : Int) (h0 : (ls.getD 0 (0, 0)).1 ≤ d * 86400) (m : Nat) : begins ls d + 86200 * m ≤ begins ls (d + m) := by
  induction m with
  | zero => simp
  | succ m ih =>
    have a := h.next (d + m) (by omega)
    have b := length_bd h.fine h.pos (d + m)
    rw [show d + ((m + 1 : Nat) : Int) = d + m + 1 from by omega]
    omega
theorem Good.le {ls : List (Int × Int)} (h : Good ls) (d e : Int) (h0 : (ls.getD 0 (0, 0)).1 ≤ d * 86400) (hde : d < e) : begins ls (d + 1) ≤ begins ls e := by
  have := h.mono (d + 1) (by omega) (e - (d + 1)).toNat
  rw [show d + 1 + (((e - (d + 1)).toNat : Nat) : Int) = e from by omega] at this
  omega
theorem Good.only {ls : List (Int × Int)} (h : Good ls) {sec d e : Int} (a : Day ls sec d) (b : Day ls sec e) : d = e := by
  rcases Int.lt_trichotomy d e with c | c | c
  · have := h.le d e a.from' c
    have := h.next d a.from'
    have := a.hi
    have := b.lo
    omega
  · exact c
  · have := h.le e d b.from' c
    have := h.next e b.from'
    have := b.hi
    have := a.lo
    omega
theorem Good.some {ls : List (Int × Int)} (h : Good ls) (sec : Int) (fuel : Nat) (d : Int) (h0 : (ls.getD 0 (0, 0)).1 ≤ d * 86400) (hb : begins ls d ≤ sec) (hf : sec - begins ls d < fuel) : ∃ e, Day ls sec e := by
  induction fuel generalizing d with
  | zero => omega
  | succ fuel ih =>
    by_cases c : sec < begins ls d + length ls d
    · exact ⟨d, h0, hb, c⟩
    · have n := h.next d h0
      have l := length_bd h.fine h.pos d
      exact ih (d + 1) (by omega) (by omega) (by omega)
theorem Good.first_begins {ls : List (Int × Int)} (h : Good ls) : begins ls ((ls.getD 0 (0, 0)).1 / 86400) = (ls.getD 0 (0, 0)).1 + (ls.getD 0 (0, 0)).2 := by
  have hd := h.day 0 h.pos
  have e : (ls.getD 0 (0, 0)).1 / 86400 * 86400 = (ls.getD 0 (0, 0)).1 := by omega
  unfold begins
  rw [e, if_neg (by omega), offAt_eq ls _ 0 (ls.length - 1) (by omega) (Int.le_refl _) (fun i a b => h.lt 0 i a (by have := h.pos; omega))]
theorem Good.when_ge {ls : List (Int × Int)} (h : Good ls) (k : Nat) (hk : k < ls.length) : when ls 0 ≤ when ls k := by
  by_cases e : k = 0
  · subst e; exact Int.le_refl _
  · have a := h.lt 0 k (by omega) hk
    have d0 := h.day 0 h.pos
    have dk := h.day k hk
    have f0 := (h.fine _ (List.getElem_mem h.pos)).2
    rw [← getD_at 0 h.pos] at f0
    have fk := (h.fine _ (List.getElem_mem hk)).2
    rw [← getD_at k hk] at fk
    have fp := (h.fine _ (List.getElem_mem (show k - 1 < ls.length by omega))).2
    rw [← getD_at (k - 1) (by omega)] at fp
    have w0 : when ls 0 = (ls.getD 0 (0, 0)).1 + (ls.getD 0 (0, 0)).2 := by unfold when; simp
    have wk : (ls.getD k (0, 0)).1 ≤ when ls k := by unfold when; split <;> omega
    omega
theorem Good.when_first {ls : List (Int × Int)} (h : Good ls) (sec : Int) (k : Nat) (hk : k ≤ ls.length) (hl : 0 ≤ lastAt ls sec k) : when ls 0 ≤ sec := by
  induction k with
  | zero => simp [lastAt] at hl
  | succ k ih =>
    by_cases c : when ls k ≤ sec
    · have := h.when_ge k (by omega); omega
    · simp only [lastAt] at hl
      rw [if_neg c] at hl
      exact ih (by omega) hl
/-- Where an entry holds there is a day. -/
theorem Good.has_day {ls : List (Int × Int)} (h : Good ls) (sec : Int) (hl : 0 ≤ lastAt ls sec ls.length) : ∃ d, Day ls sec d := by
  have hw := h.when_first sec ls.length (Nat.le_refl _) hl
  have w0 : when ls 0 = (ls.getD 0 (0, 0)).1 + (ls.getD 0 (0, 0)).2 := by unfold when; simp
  have hb := h.first_begins
  have hd := h.day 0 h.pos
  exact h.some sec ((sec - begins ls ((ls.getD 0 (0, 0)).1 / 86400)).toNat + 1) ((ls.getD 0 (0, 0)).1 / 86400) (by omega) (by omega) (by omega)
end Tab

end Go.Proofs.YtmmkhodaljpjgaaGreatDoor
