import Derived.Test.YtoffokjjliajaaaGreatDoorDated
import Derived.Deep.RegionHeld3
import Derived.Deep.AppendLies
import Derived.Deep.Draws
import Derived.Laws.Rows
import Derived.Laws.AppendOwnNone
import Derived.WalkSmall
import Derived.OpenShut
/-! What the caller of a script owns: texts, a table, a time. -/
namespace Go.Proofs.YtoffokjjliajaaaGreatDoor
open Go.RowKit

/-- The block of a script's world. -/
def Blk (bW : Nat) (tv : Value) (up ex : Int) (lv : Value) (se fr : Int) (xs : Value) (w : World) : Prop :=
  w.heap[bW]? = some (.cells #[tv, .int .i64 up, .int .i64 ex, lv, .int .i64 se, .int .i64 fr, xs] 38 (0, 0))

theorem Blk.lt {bW : Nat} {tv lv xs : Value} {up ex se fr : Int} {w : World} (h : Blk bW tv up ex lv se fr xs w) : bW < w.heap.size := by
  unfold Blk at h
  by_cases c : bW < w.heap.size
  · exact c
  · rw [Array.getElem?_eq_none (by omega)] at h; simp at h

theorem Blk.cell {bW : Nat} {tv lv xs : Value} {up ex se fr : Int} {w : World} (h : Blk bW tv up ex lv se fr xs w) (j : Nat) :
    w.cell? ⟨bW, j, none⟩ = #[tv, .int .i64 up, .int .i64 ex, lv, .int .i64 se, .int .i64 fr, xs][j]? := cell_of_row _ _ _ _ _ _ h

theorem Blk.free {bW : Nat} {tv lv xs : Value} {up ex se fr : Int} {w : World} (h : Blk bW tv up ex lv se fr xs w) (j : Nat) :
    w.frozen? ⟨bW, j, none⟩ = false := frozen_of_row _ _ _ _ _ h

/-- Blocks of one type are as they were. -/
def Keep (t : TypeId) (w w' : World) : Prop := ∀ (k : Nat) (cs : Array Value) (fr : Nat × Nat), w.heap[k]? = some (.cells cs t fr) → w'.heap[k]? = some (.cells cs t fr)

theorem Keep.refl (t : TypeId) (w : World) : Keep t w w := fun _ _ _ h => h
theorem Keep.trans {t : TypeId} {a b c : World} (h : Keep t a b) (g : Keep t b c) : Keep t a c := fun k cs fr e => g k cs fr (h k cs fr e)
theorem lt_of_heap {w : World} {k : Nat} {o : Obj} (h : w.heap[k]? = some o) : k < w.heap.size := by
  by_cases c : k < w.heap.size
  · exact c
  · rw [Array.getElem?_eq_none (by omega)] at h; simp at h
theorem Keep.alloc {t : TypeId} {a w : World} (h : Keep t a w) (o : Obj) : Keep t a (w.alloc o) := fun k cs fr e => by
  have e' := h k cs fr e
  rw [Below.heap_alloc _ _ _ (lt_of_heap e')]; exact e'
theorem Keep.drewN {t : TypeId} {a w : World} (h : Keep t a w) (n : Nat) : Keep t a (w.drewN n) := h
theorem Keep.setCell {t u : TypeId} {a w : World} (h : Keep t a w) {p : Addr} {cs : Array Value} {fr : Nat × Nat} (hp : w.heap[p.block]? = some (.cells cs u fr)) (hu : u ≠ t) (v : Value) : Keep t a (w.setCell p v) := fun k cs' fr' e => by
  have e' := h k cs' fr' e
  rw [heap_setCell_other _ _ _ _ (by intro q; subst q; rw [e'] at hp; simp at hp; exact hu hp.2.1.symm)]; exact e'
theorem Keep.grown {t u : TypeId} {a w w' : World} {v : Value} {base size n : Nat} {xs : List Value} (h : Keep t a w) (hg : w.grownBy w' v.ownBlock) (ho : w.ownsRow base u size v n xs) (hu : u ≠ t) : Keep t a w' := fun k cs fr e => by
  have e' := h k cs fr e
  rw [hg.block k (lt_of_heap e') ?_]; exact e'
  intro q
  rcases ho.2 with ⟨rfl, _⟩ | ⟨g, cap, cur, rfl, _, hh, _⟩
  · simp [Value.ownBlock] at q
  · simp [Value.ownBlock] at q; subst q; rw [e'] at hh; simp at hh; exact hu hh.2.1.symm

/-- Pairs of numbers as cells. -/
def flat : List (Int × Int) → List Value
  | [] => []
  | p :: r => .int .i64 p.1 :: .int .i64 p.2 :: flat r

theorem flat_length (l : List (Int × Int)) : (flat l).length = l.length * 2 := by
  induction l with
  | nil => rfl
  | cons p r ih => simp [flat, ih]; omega
theorem flat_append (l r : List (Int × Int)) : flat (l ++ r) = flat l ++ flat r := by
  induction l with
  | nil => rfl
  | cons p q ih => simp [flat, ih]

theorem own_set {w : World} {B size n : Nat} {e u : TypeId} {v : Value} {xs : List Value} (h : w.ownsRow B e size v n xs) {p : Addr} {cs : Array Value} {fr : Nat × Nat}
    (hp : w.heap[p.block]? = some (.cells cs u fr)) (hu : u ≠ e) (x : Value) : (w.setCell p x).ownsRow B e size v n xs := by
  refine ⟨h.1, ?_⟩
  rcases h.2 with h | ⟨g, cap, cur, rfl, a, hh, b⟩
  · exact .inl h
  · refine .inr ⟨g, cap, cur, rfl, a, ?_, b⟩
    rw [heap_setCell_other _ _ _ _ (by intro q; subst q; rw [hh] at hp; simp at hp; exact hu hp.2.1.symm)]
    exact hh

theorem Blk.at0 {bW : Nat} {tv lv xs : Value} {up ex se fr : Int} {w : World} (h : Blk bW tv up ex lv se fr xs w) (v : Value) : Blk bW v up ex lv se fr xs (w.setCell ⟨bW, 0, none⟩ v) := by
  unfold Blk at *; rw [heap_setCell_same _ _ _ _ _ _ h]; simp
theorem Blk.at1 {bW : Nat} {tv lv xs : Value} {up ex se fr : Int} {w : World} (h : Blk bW tv up ex lv se fr xs w) (v : Int) : Blk bW tv v ex lv se fr xs (w.setCell ⟨bW, 1, none⟩ (.int .i64 v)) := by
  unfold Blk at *; rw [heap_setCell_same _ _ _ _ _ _ h]; simp
theorem Blk.at2 {bW : Nat} {tv lv xs : Value} {up ex se fr : Int} {w : World} (h : Blk bW tv up ex lv se fr xs w) (v : Int) : Blk bW tv up v lv se fr xs (w.setCell ⟨bW, 2, none⟩ (.int .i64 v)) := by
  unfold Blk at *; rw [heap_setCell_same _ _ _ _ _ _ h]; simp
theorem Blk.at3 {bW : Nat} {tv lv xs : Value} {up ex se fr : Int} {w : World} (h : Blk bW tv up ex lv se fr xs w) (v : Value) : Blk bW tv up ex v se fr xs (w.setCell ⟨bW, 3, none⟩ v) := by
  unfold Blk at *; rw [heap_setCell_same _ _ _ _ _ _ h]; simp
theorem Blk.at4 {bW : Nat} {tv lv xs : Value} {up ex se fr : Int} {w : World} (h : Blk bW tv up ex lv se fr xs w) (v : Int) : Blk bW tv up ex lv v fr xs (w.setCell ⟨bW, 4, none⟩ (.int .i64 v)) := by
  unfold Blk at *; rw [heap_setCell_same _ _ _ _ _ _ h]; simp
theorem Blk.at5 {bW : Nat} {tv lv xs : Value} {up ex se fr : Int} {w : World} (h : Blk bW tv up ex lv se fr xs w) (v : Int) : Blk bW tv up ex lv se v xs (w.setCell ⟨bW, 5, none⟩ (.int .i64 v)) := by
  unfold Blk at *; rw [heap_setCell_same _ _ _ _ _ _ h]; simp
theorem Blk.alloc {bW : Nat} {tv lv xs : Value} {up ex se fr : Int} {w : World} (h : Blk bW tv up ex lv se fr xs w) (o : Obj) : Blk bW tv up ex lv se fr xs (w.alloc o) := by
  have := h.lt
  unfold Blk at *; rw [Below.heap_alloc _ _ _ this]; exact h
theorem Blk.grown {bW : Nat} {tv lv xs : Value} {up ex se fr : Int} {w w' : World} {v : Value} {base size n : Nat} {l : List Value} {u : TypeId} (h : Blk bW tv up ex lv se fr xs w)
    (hg : w.grownBy w' v.ownBlock) (ho : w.ownsRow base u size v n l) (hu : u ≠ 38) : Blk bW tv up ex lv se fr xs w' :=
  (Keep.grown (Keep.refl 38 w) hg ho hu) _ _ _ h
theorem own_alloc {w : World} {B size n : Nat} {e : TypeId} {v : Value} {xs : List Value} (h : w.ownsRow B e size v n xs) (o : Obj) : (w.alloc o).ownsRow B e size v n xs := h.alloc o
/-- Another row than the one that grew. -/
theorem own_grown {w w' : World} {B B' size size' n n' : Nat} {e u : TypeId} {v v' : Value} {xs xs' : List Value} (h : w.ownsRow B e size v n xs) (hg : w.grownBy w' v'.ownBlock)
    (ho : w.ownsRow B' u size' v' n' xs') (hu : u ≠ e) : w'.ownsRow B e size v n xs := by
  refine ⟨h.1, ?_⟩
  rcases h.2 with h | ⟨g, cap, cur, rfl, a, hh, b⟩
  · exact .inl h
  · exact .inr ⟨g, cap, cur, rfl, a, (Keep.grown (Keep.refl e w) hg ho hu) _ _ _ hh, b⟩

theorem Blk.own {bW : Nat} {tv lv xs : Value} {up ex se fr : Int} {w : World} (h : Blk bW tv up ex lv se fr xs w) {B size n : Nat} {e : TypeId} {v : Value} {l : List Value} (ho : w.ownsRow B e size v n l)
    (he : 38 ≠ e) (j : Nat) (x : Value) : (w.setCell ⟨bW, j, none⟩ x).ownsRow B e size v n l := own_set ho (p := ⟨bW, j, none⟩) h he x
theorem Blk.keep {bW : Nat} {tv lv xs : Value} {up ex se fr : Int} {w a : World} (h : Blk bW tv up ex lv se fr xs w) {e : TypeId} (ho : Keep e a w)
    (he : 38 ≠ e) (j : Nat) (x : Value) : Keep e a (w.setCell ⟨bW, j, none⟩ x) := ho.setCell (p := ⟨bW, j, none⟩) h he x

/-- All that a script without servers has made, behind at most n steps. -/
structure Inv (B bW n : Nat) (w : World) : Prop where
  le : B ≤ bW
  is : ∃ (tv lv : Value) (ts : List ByteArray) (ls : List (Int × Int)) (up ex se fr : Int), Blk bW tv up ex lv se fr (.slice none 0 0) w ∧ w.ownsRow B 9 1 tv ts.length (ts.map Value.string) ∧ w.ownsRow B 46 2 lv ls.length (flat ls) ∧
    ts.length ≤ n ∧ ls.length ≤ n ∧ ∀ t ∈ ts, t.size ≤ 16384

abbrev opCells (k x a b c d : Int) (s : ByteArray) : Array Value := #[.int .i64 k, .int .i64 x, .int .i64 a, .int .i64 b, .int .i64 c, .int .i64 d, .string s]

/-- What a step on what the caller owns leaves. -/
def Left (B bW n : Nat) (w w' : World) : Prop := Inv B bW (n + 1) w' ∧ Keep 27 w w' ∧ Below B w w'

theorem owner_stamps (B bW n : Nat) (x a b c d : Int) (s : ByteArray) (w : World) (hI : Inv B bW n w) (hB : B ≤ w.heap.size) :
    Calls Tryz.prog 9 #[.pointer (some ⟨bW, 0, none⟩), .agg #[.int .i64 3, .int .i64 x, .int .i64 a, .int .i64 b, .int .i64 c, .int .i64 d, .string s]] w fun e w' =>
      e = .returned (.bool true) ∧ Left B bW n w w' := by
  obtain ⟨le, tv, lv, ts, ls, up, ex, se, fr, hb, ht, hl, h1, h2, h3⟩ := hI
  have hlt := hb.lt
  have c1 := hb.cell 1
  have c2 := hb.cell 2
  have f1 := hb.free 1
  have f2 := hb.free 2
  simp at c1 c2
  have HB := hid' hb
  have HT := hid' ht
  have HL := hid' hl
  clear hb ht hl
  go_enter Tryz.func9, Tryz.ntmps9
  go_wp2
  go_ret
  have b1 := HB.out
  have b2 := b1.at1 a
  have b3 := b2.at2 b
  refine ⟨rfl, ⟨le, tv, lv, ts, ls, _, _, _, _, b3.alloc _, (b2.own (b1.own HT.out (by decide) 1 _) (by decide) 2 _).alloc _, (b2.own (b1.own HL.out (by decide) 1 _) (by decide) 2 _).alloc _, by omega, by omega, h3⟩, ?_, ?_⟩
  · exact (b2.keep (b1.keep (Keep.refl _ w) (by decide) 1 _) (by decide) 2 _).alloc _
  · exact (((Below.refl B w).setCell le _).setCell le _).alloc (by simpa using hB) _

theorem owner_none (B bW n : Nat) (x a b c d : Int) (s : ByteArray) (w : World) (hI : Inv B bW n w) (hB : B ≤ w.heap.size) :
    Calls Tryz.prog 9 #[.pointer (some ⟨bW, 0, none⟩), .agg #[.int .i64 5, .int .i64 x, .int .i64 a, .int .i64 b, .int .i64 c, .int .i64 d, .string s]] w fun e w' =>
      e = .returned (.bool true) ∧ Left B bW n w w' := by
  obtain ⟨le, tv, lv, ts, ls, up, ex, se, fr, hb, ht, hl, h1, h2, h3⟩ := hI
  have hlt := hb.lt
  have c1 := hb.cell 3
  have f1 := hb.free 3
  simp at c1
  have HB := hid' hb
  have HT := hid' ht
  have HL := hid' hl
  clear hb ht hl
  go_enter Tryz.func9, Tryz.ntmps9
  go_wp2
  go_ret
  have b1 := HB.out
  have b2 := b1.at3 (.slice none 0 0)
  refine ⟨rfl, ⟨le, tv, _, ts, [], _, _, _, _, b2.alloc _, (b1.own HT.out (by decide) 3 _).alloc _, World.ownsRow_nil _ _ _ _, by omega, by simp, h3⟩, ?_, ?_⟩
  · exact (b1.keep (Keep.refl _ w) (by decide) 3 _).alloc _
  · exact ((Below.refl B w).setCell le _).alloc (by simpa using hB) _

theorem owner_time (B bW n : Nat) (x a b c d : Int) (s : ByteArray) (w : World) (hI : Inv B bW n w) (hB : B ≤ w.heap.size) :
    Calls Tryz.prog 9 #[.pointer (some ⟨bW, 0, none⟩), .agg #[.int .i64 6, .int .i64 x, .int .i64 a, .int .i64 b, .int .i64 c, .int .i64 d, .string s]] w fun e w' =>
      e = .returned (.bool true) ∧ Left B bW n w w' := by
  obtain ⟨le, tv, lv, ts, ls, up, ex, se, fr, hb, ht, hl, h1, h2, h3⟩ := hI
  have hlt := hb.lt
  have c1 := hb.cell 4
  have f1 := hb.free 4
  have c2 := hb.cell 5
  have f2 := hb.free 5
  simp at c1 c2
  have HB := hid' hb
  have HT := hid' ht
  have HL := hid' hl
  clear hb ht hl
  go_enter Tryz.func9, Tryz.ntmps9
  go_wp2
  go_ret
  have b1 := HB.out
  have b2 := b1.at4 a
  have b3 := b2.at5 b
  refine ⟨rfl, ⟨le, tv, lv, ts, ls, _, _, _, _, b3.alloc _, (b2.own (b1.own HT.out (by decide) 4 _) (by decide) 5 _).alloc _, (b2.own (b1.own HL.out (by decide) 4 _) (by decide) 5 _).alloc _, by omega, by omega, h3⟩, ?_, ?_⟩
  · exact (b2.keep (b1.keep (Keep.refl _ w) (by decide) 4 _) (by decide) 5 _).alloc _
  · exact (((Below.refl B w).setCell le _).setCell le _).alloc (by simpa using hB) _

theorem owner_other (B bW n : Nat) (k x a b c d : Int) (s : ByteArray) (w : World) (hk : k < 1 ∨ 6 < k) (hI : Inv B bW n w) (hB : B ≤ w.heap.size) :
    Calls Tryz.prog 9 #[.pointer (some ⟨bW, 0, none⟩), .agg #[.int .i64 k, .int .i64 x, .int .i64 a, .int .i64 b, .int .i64 c, .int .i64 d, .string s]] w fun e w' =>
      e = .returned (.bool false) ∧ Left B bW n w w' := by
  obtain ⟨le, tv, lv, ts, ls, up, ex, se, fr, hb, ht, hl, h1, h2, h3⟩ := hI
  have k1 : (k == 1) = false := by rw [beq_eq_false_iff_ne]; omega
  have k2 : (k == 2) = false := by rw [beq_eq_false_iff_ne]; omega
  have k3 : (k == 3) = false := by rw [beq_eq_false_iff_ne]; omega
  have k4 : (k == 4) = false := by rw [beq_eq_false_iff_ne]; omega
  have k5 : (k == 5) = false := by rw [beq_eq_false_iff_ne]; omega
  have k6 : (k == 6) = false := by rw [beq_eq_false_iff_ne]; omega
  clear hk
  have HB := hid' hb
  have HT := hid' ht
  have HL := hid' hl
  clear hb ht hl
  go_enter Tryz.func9, Tryz.ntmps9
  go_wp2
  go_ret
  exact ⟨rfl, ⟨le, tv, lv, ts, ls, _, _, _, _, HB.out.alloc _, HT.out.alloc _, HL.out.alloc _, by omega, by omega, h3⟩, (Keep.refl _ w).alloc _, (Below.refl B w).alloc hB _⟩

end Go.Proofs.YtoffokjjliajaaaGreatDoor
