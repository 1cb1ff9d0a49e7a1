import Derived.Test.YtmmkhodaljpjgaaGreatDoorWalks
import Derived.OwnWalk
import Derived.Deep.RegionHeld3
import Derived.Deep.AppendLies
import Derived.Deep.Draws
import Derived.Laws.Rows
import Derived.Laws.AppendOwnNone
import Derived.WalkSmall
import Derived.OpenShut
/-! Memory: what is kept, lists of pairs. -/
namespace Go.Proofs.YtmmkhodaljpjgaaGreatDoor
open Go.RowKit

theorem hid' {p : Prop} (h : p) : Hid p := h

/-- Blocks of one type are as they were. -/
def Keep (t : TypeId) (w w' : World) : Prop := ∀ (k : Nat) (cs : Array Value) (fr : Nat × Nat), w.heap[k]? = some (.cells cs t fr) → w'.heap[k]? = some (.cells cs t fr)

theorem Keep.refl (t : TypeId) (w : World) : Keep t w w := fun _ _ _ h => h

theorem Keep.trans {t : TypeId} {a b c : World} (h : Keep t a b) (g : Keep t b c) : Keep t a c := fun k cs fr e => g k cs fr (h k cs fr e)

theorem lt_of_heap {w : World} {k : Nat} {o : Obj} (h : w.heap[k]? = some o) : k < w.heap.size := by
  by_cases c : k < w.heap.size
  · exact c
  · rw [Array.getElem?_eq_none (by omega)] at h; simp at h

theorem Keep.alloc {t : TypeId} {a w : World} (h : Keep t a w) (o : Obj) : Keep t a (w.alloc o) := fun k cs fr e => by
  have e' := h k cs fr e
  rw [Below.heap_alloc _ _ _ (lt_of_heap e')]; exact e'

theorem Keep.drewN {t : TypeId} {a w : World} (h : Keep t a w) (n : Nat) : Keep t a (w.drewN n) := h

theorem Keep.setCell {t u : TypeId} {a w : World} (h : Keep t a w) {p : Addr} {cs : Array Value} {fr : Nat × Nat} (hp : w.heap[p.block]? = some (.cells cs u fr)) (hu : u ≠ t) (v : Value) : Keep t a (w.setCell p v) := fun k cs' fr' e => by
  have e' := h k cs' fr' e
  rw [heap_setCell_other _ _ _ _ (by intro q; subst q; rw [e'] at hp; simp at hp; exact hu hp.2.1.symm)]; exact e'

theorem Keep.grown {t u : TypeId} {a w w' : World} {v : Value} {base size n : Nat} {xs : List Value} (h : Keep t a w) (hg : w.grownBy w' v.ownBlock) (ho : w.ownsRow base u size v n xs) (hu : u ≠ t) : Keep t a w' := fun k cs fr e => by
  have e' := h k cs fr e
  rw [hg.block k (lt_of_heap e') ?_]; exact e'
  intro q
  rcases ho.2 with ⟨rfl, _⟩ | ⟨g, cap, cur, rfl, _, hh, _⟩
  · simp [Value.ownBlock] at q
  · simp [Value.ownBlock] at q; subst q; rw [e'] at hh; simp at hh; exact hu hh.2.1.symm

/-- Pairs of numbers as cells. -/
def flat : List (Int × Int) → List Value
  | [] => []
  | p :: r => .int .i64 p.1 :: .int .i64 p.2 :: flat r

theorem flat_length (l : List (Int × Int)) : (flat l).length = l.length * 2 := by
  induction l with
  | nil => rfl
  | cons p r ih => simp [flat, ih]; omega

theorem flat_append (l r : List (Int × Int)) : flat (l ++ r) = flat l ++ flat r := by
  induction l with
  | nil => rfl
  | cons p q ih => simp [flat, ih]

theorem own_set {w : World} {B size n : Nat} {e u : TypeId} {v : Value} {xs : List Value} (h : w.ownsRow B e size v n xs) {p : Addr} {cs : Array Value} {fr : Nat × Nat}
    (hp : w.heap[p.block]? = some (.cells cs u fr)) (hu : u ≠ e) (x : Value) : (w.setCell p x).ownsRow B e size v n xs := by
  refine ⟨h.1, ?_⟩
  rcases h.2 with h | ⟨g, cap, cur, rfl, a, hh, b⟩
  · exact .inl h
  · refine .inr ⟨g, cap, cur, rfl, a, ?_, b⟩
    rw [heap_setCell_other _ _ _ _ (by intro q; subst q; rw [hh] at hp; simp at hp; exact hu hp.2.1.symm)]
    exact hh

theorem own_alloc {w : World} {B size n : Nat} {e : TypeId} {v : Value} {xs : List Value} (h : w.ownsRow B e size v n xs) (o : Obj) : (w.alloc o).ownsRow B e size v n xs := h.alloc o

/-- Another row than the one that grew. -/
theorem own_grown {w w' : World} {B B' size size' n n' : Nat} {e u : TypeId} {v v' : Value} {xs xs' : List Value} (h : w.ownsRow B e size v n xs) (hg : w.grownBy w' v'.ownBlock)
    (ho : w.ownsRow B' u size' v' n' xs') (hu : u ≠ e) : w'.ownsRow B e size v n xs := by
  refine ⟨h.1, ?_⟩
  rcases h.2 with h | ⟨g, cap, cur, rfl, a, hh, b⟩
  · exact .inl h
  · exact .inr ⟨g, cap, cur, rfl, a, (Keep.grown (Keep.refl e w) hg ho hu) _ _ _ hh, b⟩

theorem flat_one (l : List (Int × Int)) : ∀ u ∈ flat l, u.oneCell' = true := by
  induction l with
  | nil => intro u h; cases h
  | cons p r ih =>
    intro u h
    simp [flat] at h
    rcases h with rfl | rfl | h
    · rfl
    · rfl
    · exact ih u h

theorem own_cells {w : World} {B e size g n cap : Nat} {xs : List Value} (h : w.ownsRow B e size (.slice (some ⟨g, 0, none⟩) n cap) n xs) :
    ∀ (j : Nat) (u : Value), xs[j]? = some u → w.cell? ((⟨g, 0, none⟩ : Addr).add j) = some u := by
  intro j u hj
  have hl : j < xs.length := by
    by_cases c : j < xs.length
    · exact c
    · rw [List.getElem?_eq_none (by omega)] at hj; cases hj
  have := h.cellAt j (by rw [← h.1]; exact hl)
  rw [hj] at this
  have hadd : (⟨g, 0, none⟩ : Addr).add j = ⟨g, j, none⟩ := by unfold Addr.add; split <;> simp_all
  rw [hadd]; exact this

theorem grown_heap {w w' : World} {v : Value} {B size n : Nat} {l : List Value} {u t : TypeId} {k : Nat} {cs : Array Value} {fr : Nat × Nat} (hg : w.grownBy w' v.ownBlock) (ho : w.ownsRow B u size v n l)
    (hk : w.heap[k]? = some (.cells cs t fr)) (hu : u ≠ t) : w'.heap[k]? = some (.cells cs t fr) := (Keep.grown (Keep.refl t w) hg ho hu) _ _ _ hk

theorem own_ge {w : World} {B e size n : Nat} {v : Value} {xs : List Value} (h : w.ownsRow B e size v n xs) : ∀ k, v.ownBlock = some k → B ≤ k := by
  intro k hk
  rcases h.2 with ⟨rfl, _⟩ | ⟨g, cap, cur, rfl, a, _⟩
  · simp [Value.ownBlock] at hk
  · simp [Value.ownBlock] at hk; omega

theorem own_ne {w : World} {B e size n k : Nat} {v : Value} {xs : List Value} {cs : Array Value} {t : TypeId} {fr : Nat × Nat} (h : w.ownsRow B e size v n xs) (hk : w.heap[k]? = some (.cells cs t fr)) (ht : t ≠ e) : v.ownBlock ≠ some k := by
  intro q
  rcases h.2 with ⟨rfl, _⟩ | ⟨g, cap, cur, rfl, _, hh, _⟩
  · simp [Value.ownBlock] at q
  · simp [Value.ownBlock] at q; subst q; rw [hk] at hh; simp at hh; exact ht hh.2.1

theorem own_lt {w : World} {B e size n : Nat} {v : Value} {xs : List Value} (h : w.ownsRow B e size v n xs) : ∀ k, v.ownBlock = some k → k < w.heap.size := by
  intro k q
  rcases h.2 with ⟨rfl, _⟩ | ⟨g, cap, cur, rfl, _, hh, _⟩
  · simp [Value.ownBlock] at q
  · simp [Value.ownBlock] at q; subst q; exact lt_of_heap hh

theorem ret_bool {a b : Bool} (h : a = b) : Ending.returned (.bool a) = .returned (.bool b) := by rw [h]

theorem flat_at0 (l : List (Int × Int)) (i : Nat) (h : i < l.length) : (flat l)[i * 2]? = some (.int .i64 l[i].1) := by
  induction l generalizing i with
  | nil => simp at h
  | cons p r ih =>
    cases i with
    | zero => rfl
    | succ i =>
      have := ih i (by simpa using h)
      rw [show (i + 1) * 2 = i * 2 + 1 + 1 from by omega]
      simpa [flat] using this

theorem flat_at1 (l : List (Int × Int)) (i : Nat) (h : i < l.length) : (flat l)[i * 2 + 1]? = some (.int .i64 l[i].2) := by
  induction l generalizing i with
  | nil => simp at h
  | cons p r ih =>
    cases i with
    | zero => rfl
    | succ i =>
      have := ih i (by simpa using h)
      rw [show (i + 1) * 2 + 1 = i * 2 + 1 + 1 + 1 from by omega]
      simpa [flat] using this

theorem flat_take_succ (ls : List (Int × Int)) (k : Nat) (h : k < ls.length) : flat (ls.take k) ++ [.int .i64 ls[k].1, .int .i64 ls[k].2] = flat (ls.take (k + 1)) := by
  rw [List.take_succ_eq_append_getElem h]
  generalize ls.take k = a
  induction a with
  | nil => rfl
  | cons p r ih => simp [flat, ih]

theorem own_down {w w' : World} {B size n : Nat} {e : TypeId} {v : Value} {xs : List Value} (h : w.ownsRow B e size v n xs) (hb : Below w.heap.size w w') : w'.ownsRow B e size v n xs := by
  have hlt := h.lt
  rcases h with ⟨h1, ⟨rfl, rfl⟩ | ⟨g, cap, cur, rfl, hbg, hg, r⟩⟩
  · exact ⟨h1, .inl ⟨rfl, rfl⟩⟩
  · exact ⟨h1, .inr ⟨g, cap, cur, rfl, hbg, (hb.block g (hlt g rfl).2).trans hg, r⟩⟩

/-- A pair whose numbers are ints. -/
def WfP (p : Int × Int) : Prop := (Lit.int .i64 p.1).wf = true ∧ (Lit.int .i64 p.2).wf = true

theorem ret_pair {a b c d : Int} (h : a = c) (h' : b = d) : Ending.returned (.tuple #[.int .i64 a, .int .i64 b]) = .returned (.tuple #[.int .i64 c, .int .i64 d]) := by rw [h, h']

theorem own_some {w : World} {B n : Nat} {lv : Value} {xs : List Value} {e size : Nat} (h : w.ownsRow B e size lv n xs) (hn : 0 < n) : ∃ g cap, lv = .slice (some ⟨g, 0, none⟩) n cap := by
  rcases h.2 with ⟨rfl, h⟩ | ⟨g, cap, cur, rfl, _⟩
  · omega
  · exact ⟨_, _, rfl⟩

theorem ret_three {a b c d e f : Int} (h : a = d) (h' : b = e) (h'' : c = f) : Ending.returned (.tuple #[.int .i64 a, .int .i64 b, .int .i64 c]) = .returned (.tuple #[.int .i64 d, .int .i64 e, .int .i64 f]) := by rw [h, h', h'']

end Go.Proofs.YtmmkhodaljpjgaaGreatDoor
