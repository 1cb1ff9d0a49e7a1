import Derived.Test.YtmmkhodaljpjgaaGreatDoorRefd
import Derived.Deep.RegionHeld3
import Derived.Deep.AppendLies
import Derived.Deep.Draws
import Derived.Laws.Rows
import Derived.Laws.AppendOwnNone
import Derived.WalkSmall
import Derived.OpenShut
/-! What the caller of a script owns: texts, a table, a time. -/
namespace Go.Proofs.YtmmkhodaljpjgaaGreatDoor
open Go.RowKit

/-- The block of a script's world. -/
def Blk (bW : Nat) (tv : Value) (up ex : Int) (lv : Value) (se fr : Int) (xs : Value) (w : World) : Prop :=
  w.heap[bW]? = some (.cells #[tv, .int .i64 up, .int .i64 ex, lv, .int .i64 se, .int .i64 fr, xs] 38 (0, 0))

theorem Blk.lt {bW : Nat} {tv lv xs : Value} {up ex se fr : Int} {w : World} (h : Blk bW tv up ex lv se fr xs w) : bW < w.heap.size := by
  unfold Blk at h
  by_cases c : bW < w.heap.size
  · exact c
  · rw [Array.getElem?_eq_none (by omega)] at h; simp at h

theorem Blk.cell {bW : Nat} {tv lv xs : Value} {up ex se fr : Int} {w : World} (h : Blk bW tv up ex lv se fr xs w) (j : Nat) :
    w.cell? ⟨bW, j, none⟩ = #[tv, .int .i64 up, .int .i64 ex, lv, .int .i64 se, .int .i64 fr, xs][j]? := cell_of_row _ _ _ _ _ _ h

theorem Blk.free {bW : Nat} {tv lv xs : Value} {up ex se fr : Int} {w : World} (h : Blk bW tv up ex lv se fr xs w) (j : Nat) :
    w.frozen? ⟨bW, j, none⟩ = false := frozen_of_row _ _ _ _ _ h

theorem Blk.at0 {bW : Nat} {tv lv xs : Value} {up ex se fr : Int} {w : World} (h : Blk bW tv up ex lv se fr xs w) (v : Value) : Blk bW v up ex lv se fr xs (w.setCell ⟨bW, 0, none⟩ v) := by
  unfold Blk at *; rw [heap_setCell_same _ _ _ _ _ _ h]; simp
theorem Blk.at1 {bW : Nat} {tv lv xs : Value} {up ex se fr : Int} {w : World} (h : Blk bW tv up ex lv se fr xs w) (v : Int) : Blk bW tv v ex lv se fr xs (w.setCell ⟨bW, 1, none⟩ (.int .i64 v)) := by
  unfold Blk at *; rw [heap_setCell_same _ _ _ _ _ _ h]; simp
theorem Blk.at2 {bW : Nat} {tv lv xs : Value} {up ex se fr : Int} {w : World} (h : Blk bW tv up ex lv se fr xs w) (v : Int) : Blk bW tv up v lv se fr xs (w.setCell ⟨bW, 2, none⟩ (.int .i64 v)) := by
  unfold Blk at *; rw [heap_setCell_same _ _ _ _ _ _ h]; simp
theorem Blk.at3 {bW : Nat} {tv lv xs : Value} {up ex se fr : Int} {w : World} (h : Blk bW tv up ex lv se fr xs w) (v : Value) : Blk bW tv up ex v se fr xs (w.setCell ⟨bW, 3, none⟩ v) := by
  unfold Blk at *; rw [heap_setCell_same _ _ _ _ _ _ h]; simp
theorem Blk.at4 {bW : Nat} {tv lv xs : Value} {up ex se fr : Int} {w : World} (h : Blk bW tv up ex lv se fr xs w) (v : Int) : Blk bW tv up ex lv v fr xs (w.setCell ⟨bW, 4, none⟩ (.int .i64 v)) := by
  unfold Blk at *; rw [heap_setCell_same _ _ _ _ _ _ h]; simp
theorem Blk.at5 {bW : Nat} {tv lv xs : Value} {up ex se fr : Int} {w : World} (h : Blk bW tv up ex lv se fr xs w) (v : Int) : Blk bW tv up ex lv se v xs (w.setCell ⟨bW, 5, none⟩ (.int .i64 v)) := by
  unfold Blk at *; rw [heap_setCell_same _ _ _ _ _ _ h]; simp
theorem Blk.alloc {bW : Nat} {tv lv xs : Value} {up ex se fr : Int} {w : World} (h : Blk bW tv up ex lv se fr xs w) (o : Obj) : Blk bW tv up ex lv se fr xs (w.alloc o) := by
  have := h.lt
  unfold Blk at *; rw [Below.heap_alloc _ _ _ this]; exact h
theorem Blk.grown {bW : Nat} {tv lv xs : Value} {up ex se fr : Int} {w w' : World} {v : Value} {base size n : Nat} {l : List Value} {u : TypeId} (h : Blk bW tv up ex lv se fr xs w)
    (hg : w.grownBy w' v.ownBlock) (ho : w.ownsRow base u size v n l) (hu : u ≠ 38) : Blk bW tv up ex lv se fr xs w' :=
  (Keep.grown (Keep.refl 38 w) hg ho hu) _ _ _ h
theorem Blk.own {bW : Nat} {tv lv xs : Value} {up ex se fr : Int} {w : World} (h : Blk bW tv up ex lv se fr xs w) {B size n : Nat} {e : TypeId} {v : Value} {l : List Value} (ho : w.ownsRow B e size v n l)
    (he : 38 ≠ e) (j : Nat) (x : Value) : (w.setCell ⟨bW, j, none⟩ x).ownsRow B e size v n l := own_set ho (p := ⟨bW, j, none⟩) h he x
theorem Blk.keep {bW : Nat} {tv lv xs : Value} {up ex se fr : Int} {w a : World} (h : Blk bW tv up ex lv se fr xs w) {e : TypeId} (ho : Keep e a w)
    (he : 38 ≠ e) (j : Nat) (x : Value) : Keep e a (w.setCell ⟨bW, j, none⟩ x) := ho.setCell (p := ⟨bW, j, none⟩) h he x

/-- The texts are short; the numbers of the table and of the time are ints. -/
structure Nums (ts : List ByteArray) (ls : List (Int × Int)) (up ex se fr : Int) : Prop where
  txt : ∀ t ∈ ts, t.size ≤ 16384
  tab : ∀ p ∈ ls, (Lit.int .i64 p.1).wf = true ∧ (Lit.int .i64 p.2).wf = true
  up : (Lit.int .i64 up).wf = true
  ex : (Lit.int .i64 ex).wf = true
  se : (Lit.int .i64 se).wf = true
  fr : (Lit.int .i64 fr).wf = true

/-- Blocks of other types than the script's own are as they were. -/
def Keeps (w w' : World) : Prop := ∀ e : TypeId, 38 ≠ e → 9 ≠ e → Keep e w w'
theorem Keeps.refl (w : World) : Keeps w w := fun e _ _ => Keep.refl e w
theorem Keeps.trans {a b c : World} (h : Keeps a b) (g : Keeps b c) : Keeps a c := fun e h1 h2 => (h e h1 h2).trans (g e h1 h2)
theorem Keeps.alloc {a w : World} (h : Keeps a w) (o : Obj) : Keeps a (w.alloc o) := fun e h1 h2 => (h e h1 h2).alloc o
theorem Keeps.below {w w' : World} (hb : Below w.heap.size w w') : Keeps w w' := fun _ _ _ k cs fr e => by rw [hb.block k (lt_of_heap e)]; exact e
theorem Keeps.grown {a w w' : World} {v : Value} {base size n : Nat} {xs : List Value} (h : Keeps a w) (hg : w.grownBy w' v.ownBlock) (ho : w.ownsRow base 9 size v n xs) : Keeps a w' := fun e h1 h2 => (h e h1 h2).grown hg ho h2
theorem Blk.keeps {bW : Nat} {tv lv xs : Value} {up ex se fr : Int} {w a : World} (h : Blk bW tv up ex lv se fr xs w) (ho : Keeps a w) (j : Nat) (x : Value) : Keeps a (w.setCell ⟨bW, j, none⟩ x) := fun e h1 h2 => h.keep (ho e h1 h2) h1 j x
theorem Keeps.op {w w' : World} (h : Keeps w w') : Keep 27 w w' := h _ (by decide) (by decide)

/-- What is said of a script's servers behind at most n steps; F: their blocks. -/
structure Xs where
  P : Nat → (Nat → Prop) → Value → World → Prop
  up : ∀ {n m : Nat} {F : Nat → Prop} {v : Value} {w : World}, P n F v w → n ≤ m → P m F v w
  keep : ∀ {n : Nat} {F : Nat → Prop} {v : Value} {w w' : World}, P n F v w → (∀ k, F k → w'.heap[k]? = w.heap[k]?) → P n F v w'
  typ : ∀ {n : Nat} {F : Nat → Prop} {v : Value} {w : World}, P n F v w → ∀ k, F k → ∃ cs e fr, w.heap[k]? = some (.cells cs e fr) ∧ 38 ≠ e ∧ 9 ≠ e

/-- No server. -/
def noXs : Xs where
  P _ F v _ := v = .slice none 0 0 ∧ ∀ k, ¬ F k
  up h _ := h
  keep h _ := h
  typ h k hk := absurd hk (h.2 k)

structure Srv (X : Xs) (n : Nat) (F : Nat → Prop) (lv xv : Value) (w : World) : Prop where
  p : X.P n F xv w
  off : ∀ k, F k → lv.ownBlock ≠ some k

theorem Keeps.same {w w' : World} (h : Keeps w w') {X : Xs} {n : Nat} {F : Nat → Prop} {v : Value} (hp : X.P n F v w) : ∀ k, F k → w'.heap[k]? = w.heap[k]? := fun k hk => by
  obtain ⟨cs, e, fr, h1, h2, h3⟩ := X.typ hp k hk
  rw [h1]; exact h e h2 h3 k cs fr h1
theorem Srv.keeps {X : Xs} {n m : Nat} {F : Nat → Prop} {lv xv : Value} {w w' : World} (h : Srv X n F lv xv w) (hk : Keeps w w') (hm : n ≤ m) : Srv X m F lv xv w' :=
  ⟨X.up (X.keep h.p (hk.same h.p)) hm, h.off⟩
theorem Srv.fresh {X : Xs} {n m : Nat} {F : Nat → Prop} {lv xv lv' : Value} {w w' : World} (h : Srv X n F lv xv w) (hk : Keeps w w') (hm : n ≤ m) (hl : ∀ k, lv'.ownBlock = some k → w.heap.size ≤ k) : Srv X m F lv' xv w' :=
  ⟨X.up (X.keep h.p (hk.same h.p)) hm, fun k hF q => by
    obtain ⟨cs, e, fr, h1, _⟩ := X.typ h.p k hF
    have := lt_of_heap h1
    have := hl k q
    omega⟩

/-- All that a script has made, behind at most n steps. -/
structure Inv (X : Xs) (B bW n : Nat) (w : World) : Prop where
  le : B ≤ bW
  is : ∃ (tv lv xv : Value) (F : Nat → Prop) (ts : List ByteArray) (ls : List (Int × Int)) (up ex se fr : Int), Blk bW tv up ex lv se fr xv w ∧ w.ownsRow B 9 1 tv ts.length (ts.map Value.string) ∧ w.ownsRow B 46 2 lv ls.length (flat ls) ∧
    ts.length ≤ n ∧ ls.length ≤ n + 40 ∧ Nums ts ls up ex se fr ∧ Srv X n F lv xv w

abbrev opCells (k x a b c d : Int) (s : ByteArray) : Array Value := #[.int .i64 k, .int .i64 x, .int .i64 a, .int .i64 b, .int .i64 c, .int .i64 d, .string s]

/-- What a step on what the caller owns leaves. -/
def Left (X : Xs) (B bW n : Nat) (w w' : World) : Prop := Inv X B bW (n + 1) w' ∧ Keeps w w' ∧ Below B w w'

theorem owner_stamps {X : Xs} (B bW n : Nat) (x a b c d : Int) (s : ByteArray) (w : World) (wa : (Lit.int .i64 a).wf = true) (wb : (Lit.int .i64 b).wf = true) (hI : Inv X B bW n w) (hB : B ≤ w.heap.size) :
    Calls Tryz.prog 16 #[.pointer (some ⟨bW, 0, none⟩), .agg #[.int .i64 3, .int .i64 x, .int .i64 a, .int .i64 b, .int .i64 c, .int .i64 d, .string s]] w fun e w' =>
      e = .returned (.bool true) ∧ Left X B bW n w w' := by
  have WA := hid' wa
  have WB := hid' wb
  clear wa wb
  obtain ⟨le, tv, lv, xv, F, ts, ls, up, ex, se, fr, hb, ht, hl, h1, h2, h3, h4⟩ := hI
  have hlt := hb.lt
  have c1 := hb.cell 1
  have c2 := hb.cell 2
  have f1 := hb.free 1
  have f2 := hb.free 2
  simp at c1 c2
  have HB := hid' hb
  have HT := hid' ht
  have HL := hid' hl
  have H4 := hid' h4
  clear hb ht hl h4
  go_enter Tryz.func16, Tryz.ntmps16
  go_wp2
  go_ret
  have b1 := HB.out
  have b2 := b1.at1 a
  have b3 := b2.at2 b
  have kk := fun o => (b2.keeps (b1.keeps (Keeps.refl w) 1 (.int .i64 a)) 2 (.int .i64 b)).alloc o
  refine ⟨rfl, ⟨le, tv, lv, xv, F, ts, ls, _, _, _, _, b3.alloc _, (b2.own (b1.own HT.out (by decide) 1 _) (by decide) 2 _).alloc _, (b2.own (b1.own HL.out (by decide) 1 _) (by decide) 2 _).alloc _, by omega, by omega, ⟨h3.txt, h3.tab, WA.out, WB.out, h3.se, h3.fr⟩, H4.out.keeps (kk _) (Nat.le_succ _)⟩, kk _, ?_⟩
  · exact (((Below.refl B w).setCell le _).setCell le _).alloc (by simpa using hB) _

theorem owner_none {X : Xs} (B bW n : Nat) (x a b c d : Int) (s : ByteArray) (w : World) (hI : Inv X B bW n w) (hB : B ≤ w.heap.size) :
    Calls Tryz.prog 16 #[.pointer (some ⟨bW, 0, none⟩), .agg #[.int .i64 5, .int .i64 x, .int .i64 a, .int .i64 b, .int .i64 c, .int .i64 d, .string s]] w fun e w' =>
      e = .returned (.bool true) ∧ Left X B bW n w w' := by
  obtain ⟨le, tv, lv, xv, F, ts, ls, up, ex, se, fr, hb, ht, hl, h1, h2, h3, h4⟩ := hI
  have hlt := hb.lt
  have c1 := hb.cell 3
  have f1 := hb.free 3
  simp at c1
  have HB := hid' hb
  have HT := hid' ht
  have HL := hid' hl
  have H4 := hid' h4
  clear hb ht hl h4
  go_enter Tryz.func16, Tryz.ntmps16
  go_wp2
  go_ret
  have b1 := HB.out
  have b2 := b1.at3 (.slice none 0 0)
  have kk := fun o => (b1.keeps (Keeps.refl w) 3 (.slice none 0 0)).alloc o
  refine ⟨rfl, ⟨le, tv, _, xv, F, ts, [], _, _, _, _, b2.alloc _, (b1.own HT.out (by decide) 3 _).alloc _, World.ownsRow_nil _ _ _ _, by omega, by simp, ⟨h3.txt, fun p h => (by cases h), h3.up, h3.ex, h3.se, h3.fr⟩, H4.out.fresh (kk _) (Nat.le_succ _) (fun _ h => by simp [Value.ownBlock] at h)⟩, kk _, ?_⟩
  · exact ((Below.refl B w).setCell le _).alloc (by simpa using hB) _

theorem owner_time {X : Xs} (B bW n : Nat) (x a b c d : Int) (s : ByteArray) (w : World) (wa : (Lit.int .i64 a).wf = true) (wb : (Lit.int .i64 b).wf = true) (hI : Inv X B bW n w) (hB : B ≤ w.heap.size) :
    Calls Tryz.prog 16 #[.pointer (some ⟨bW, 0, none⟩), .agg #[.int .i64 6, .int .i64 x, .int .i64 a, .int .i64 b, .int .i64 c, .int .i64 d, .string s]] w fun e w' =>
      e = .returned (.bool true) ∧ Left X B bW n w w' := by
  have WA := hid' wa
  have WB := hid' wb
  clear wa wb
  obtain ⟨le, tv, lv, xv, F, ts, ls, up, ex, se, fr, hb, ht, hl, h1, h2, h3, h4⟩ := hI
  have hlt := hb.lt
  have c1 := hb.cell 4
  have f1 := hb.free 4
  have c2 := hb.cell 5
  have f2 := hb.free 5
  simp at c1 c2
  have HB := hid' hb
  have HT := hid' ht
  have HL := hid' hl
  have H4 := hid' h4
  clear hb ht hl h4
  go_enter Tryz.func16, Tryz.ntmps16
  go_wp2
  go_ret
  have b1 := HB.out
  have b2 := b1.at4 a
  have b3 := b2.at5 b
  have kk := fun o => (b2.keeps (b1.keeps (Keeps.refl w) 4 (.int .i64 a)) 5 (.int .i64 b)).alloc o
  refine ⟨rfl, ⟨le, tv, lv, xv, F, ts, ls, _, _, _, _, b3.alloc _, (b2.own (b1.own HT.out (by decide) 4 _) (by decide) 5 _).alloc _, (b2.own (b1.own HL.out (by decide) 4 _) (by decide) 5 _).alloc _, by omega, by omega, ⟨h3.txt, h3.tab, h3.up, h3.ex, WA.out, WB.out⟩, H4.out.keeps (kk _) (Nat.le_succ _)⟩, kk _, ?_⟩
  · exact (((Below.refl B w).setCell le _).setCell le _).alloc (by simpa using hB) _

theorem owner_other {X : Xs} (B bW n : Nat) (k x a b c d : Int) (s : ByteArray) (w : World) (hk : k < 1 ∨ 6 < k) (hI : Inv X B bW n w) (hB : B ≤ w.heap.size) :
    Calls Tryz.prog 16 #[.pointer (some ⟨bW, 0, none⟩), .agg #[.int .i64 k, .int .i64 x, .int .i64 a, .int .i64 b, .int .i64 c, .int .i64 d, .string s]] w fun e w' =>
      e = .returned (.bool false) ∧ Inv X B bW n w' ∧ Keeps w w' ∧ Below B w w' := by
  obtain ⟨le, tv, lv, xv, F, ts, ls, up, ex, se, fr, hb, ht, hl, h1, h2, h3, h4⟩ := hI
  have k1 : (k == 1) = false := by rw [beq_eq_false_iff_ne]; omega
  have k2 : (k == 2) = false := by rw [beq_eq_false_iff_ne]; omega
  have k3 : (k == 3) = false := by rw [beq_eq_false_iff_ne]; omega
  have k4 : (k == 4) = false := by rw [beq_eq_false_iff_ne]; omega
  have k5 : (k == 5) = false := by rw [beq_eq_false_iff_ne]; omega
  have k6 : (k == 6) = false := by rw [beq_eq_false_iff_ne]; omega
  clear hk
  have HB := hid' hb
  have HT := hid' ht
  have HL := hid' hl
  have H4 := hid' h4
  clear hb ht hl h4
  go_enter Tryz.func16, Tryz.ntmps16
  go_wp2
  go_ret
  exact ⟨rfl, ⟨le, tv, lv, xv, F, ts, ls, _, _, _, _, HB.out.alloc _, HT.out.alloc _, HL.out.alloc _, by omega, by omega, h3, H4.out.keeps ((Keeps.refl w).alloc _) (Nat.le_refl _)⟩, (Keeps.refl w).alloc _, (Below.refl B w).alloc hB _⟩

end Go.Proofs.YtmmkhodaljpjgaaGreatDoor
