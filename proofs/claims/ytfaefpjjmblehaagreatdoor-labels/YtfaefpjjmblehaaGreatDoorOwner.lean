import Derived.Test.YtfaefpjjmblehaaGreatDoorRefd
import Derived.Deep.RegionHeld3
import Derived.Deep.AppendLies
import Derived.Deep.Draws
import Derived.Laws.Rows
import Derived.Laws.AppendOwnNone
import Derived.WalkSmall
import Derived.OpenShut
/-! What the caller of a script owns: texts, a table, a time. -/
namespace Go.Proofs.YtfaefpjjmblehaaGreatDoor
open Go.RowKit

/-- The block of a script's world. -/
def Blk (bW : Nat) (tv : Value) (up ex : Int) (lv : Value) (se fr : Int) (xs : Value) (w : World) : Prop :=
  w.heap[bW]? = some (.cells #[tv, .int .i64 up, .int .i64 ex, lv, .int .i64 se, .int .i64 fr, xs] 38 (0, 0))

theorem Blk.lt {bW : Nat} {tv lv xs : Value} {up ex se fr : Int} {w : World} (h : Blk bW tv up ex lv se fr xs w) : bW < w.heap.size := by
  unfold Blk at h
  by_cases c : bW < w.heap.size
  · exact c
  · rw [Array.getElem?_eq_none (by omega)] at h; simp at h

theorem Blk.cell {bW : Nat} {tv lv xs : Value} {up ex se fr : Int} {w : World} (h : Blk bW tv up ex lv se fr xs w) (j : Nat) :
    w.cell? ⟨bW, j, none⟩ = #[tv, .int .i64 up, .int .i64 ex, lv, .int .i64 se, .int .i64 fr, xs][j]? := cell_of_row _ _ _ _ _ _ h

theorem Blk.free {bW : Nat} {tv lv xs : Value} {up ex se fr : Int} {w : World} (h : Blk bW tv up ex lv se fr xs w) (j : Nat) :
    w.frozen? ⟨bW, j, none⟩ = false := frozen_of_row _ _ _ _ _ h

theorem Blk.at0 {bW : Nat} {tv lv xs : Value} {up ex se fr : Int} {w : World} (h : Blk bW tv up ex lv se fr xs w) (v : Value) : Blk bW v up ex lv se fr xs (w.setCell ⟨bW, 0, none⟩ v) := by
  unfold Blk at *; rw [heap_setCell_same _ _ _ _ _ _ h]; simp
theorem Blk.at1 {bW : Nat} {tv lv xs : Value} {up ex se fr : Int} {w : World} (h : Blk bW tv up ex lv se fr xs w) (v : Int) : Blk bW tv v ex lv se fr xs (w.setCell ⟨bW, 1, none⟩ (.int .i64 v)) := by
  unfold Blk at *; rw [heap_setCell_same _ _ _ _ _ _ h]; simp
theorem Blk.at2 {bW : Nat} {tv lv xs : Value} {up ex se fr : Int} {w : World} (h : Blk bW tv up ex lv se fr xs w) (v : Int) : Blk bW tv up v lv se fr xs (w.setCell ⟨bW, 2, none⟩ (.int .i64 v)) := by
  unfold Blk at *; rw [heap_setCell_same _ _ _ _ _ _ h]; simp
theorem Blk.at3 {bW : Nat} {tv lv xs : Value} {up ex se fr : Int} {w : World} (h : Blk bW tv up ex lv se fr xs w) (v : Value) : Blk bW tv up ex v se fr xs (w.setCell ⟨bW, 3, none⟩ v) := by
  unfold Blk at *; rw [heap_setCell_same _ _ _ _ _ _ h]; simp
theorem Blk.at4 {bW : Nat} {tv lv xs : Value} {up ex se fr : Int} {w : World} (h : Blk bW tv up ex lv se fr xs w) (v : Int) : Blk bW tv up ex lv v fr xs (w.setCell ⟨bW, 4, none⟩ (.int .i64 v)) := by
  unfold Blk at *; rw [heap_setCell_same _ _ _ _ _ _ h]; simp
theorem Blk.at5 {bW : Nat} {tv lv xs : Value} {up ex se fr : Int} {w : World} (h : Blk bW tv up ex lv se fr xs w) (v : Int) : Blk bW tv up ex lv se v xs (w.setCell ⟨bW, 5, none⟩ (.int .i64 v)) := by
  unfold Blk at *; rw [heap_setCell_same _ _ _ _ _ _ h]; simp
theorem Blk.alloc {bW : Nat} {tv lv xs : Value} {up ex se fr : Int} {w : World} (h : Blk bW tv up ex lv se fr xs w) (o : Obj) : Blk bW tv up ex lv se fr xs (w.alloc o) := by
  have := h.lt
  unfold Blk at *; rw [Below.heap_alloc _ _ _ this]; exact h
theorem Blk.grown {bW : Nat} {tv lv xs : Value} {up ex se fr : Int} {w w' : World} {v : Value} {base size n : Nat} {l : List Value} {u : TypeId} (h : Blk bW tv up ex lv se fr xs w)
    (hg : w.grownBy w' v.ownBlock) (ho : w.ownsRow base u size v n l) (hu : u ≠ 38) : Blk bW tv up ex lv se fr xs w' :=
  (Keep.grown (Keep.refl 38 w) hg ho hu) _ _ _ h
theorem Blk.own {bW : Nat} {tv lv xs : Value} {up ex se fr : Int} {w : World} (h : Blk bW tv up ex lv se fr xs w) {B size n : Nat} {e : TypeId} {v : Value} {l : List Value} (ho : w.ownsRow B e size v n l)
    (he : 38 ≠ e) (j : Nat) (x : Value) : (w.setCell ⟨bW, j, none⟩ x).ownsRow B e size v n l := own_set ho (p := ⟨bW, j, none⟩) h he x
theorem Blk.keep {bW : Nat} {tv lv xs : Value} {up ex se fr : Int} {w a : World} (h : Blk bW tv up ex lv se fr xs w) {e : TypeId} (ho : Keep e a w)
    (he : 38 ≠ e) (j : Nat) (x : Value) : Keep e a (w.setCell ⟨bW, j, none⟩ x) := ho.setCell (p := ⟨bW, j, none⟩) h he x

/-- The texts are short; the numbers of the table and of the time are ints. -/
structure Nums (ts : List ByteArray) (ls : List (Int × Int)) (up ex se fr : Int) : Prop where
  txt : ∀ t ∈ ts, t.size ≤ 16384
  tab : ∀ p ∈ ls, (Lit.int .i64 p.1).wf = true ∧ (Lit.int .i64 p.2).wf = true
  up : (Lit.int .i64 up).wf = true
  ex : (Lit.int .i64 ex).wf = true
  se : (Lit.int .i64 se).wf = true
  fr : (Lit.int .i64 fr).wf = true

/-- All that a script without servers has made, behind at most n steps. -/
structure Inv (B bW n : Nat) (w : World) : Prop where
  le : B ≤ bW
  is : ∃ (tv lv : Value) (ts : List ByteArray) (ls : List (Int × Int)) (up ex se fr : Int), Blk bW tv up ex lv se fr (.slice none 0 0) w ∧ w.ownsRow B 9 1 tv ts.length (ts.map Value.string) ∧ w.ownsRow B 46 2 lv ls.length (flat ls) ∧
    ts.length ≤ n ∧ ls.length ≤ n + 40 ∧ Nums ts ls up ex se fr

abbrev opCells (k x a b c d : Int) (s : ByteArray) : Array Value := #[.int .i64 k, .int .i64 x, .int .i64 a, .int .i64 b, .int .i64 c, .int .i64 d, .string s]

/-- What a step on what the caller owns leaves. -/
def Left (B bW n : Nat) (w w' : World) : Prop := Inv B bW (n + 1) w' ∧ Keep 27 w w' ∧ Below B w w'

theorem owner_stamps (B bW n : Nat) (x a b c d : Int) (s : ByteArray) (w : World) (wa : (Lit.int .i64 a).wf = true) (wb : (Lit.int .i64 b).wf = true) (hI : Inv B bW n w) (hB : B ≤ w.heap.size) :
    Calls Tryz.prog 11 #[.pointer (some ⟨bW, 0, none⟩), .agg #[.int .i64 3, .int .i64 x, .int .i64 a, .int .i64 b, .int .i64 c, .int .i64 d, .string s]] w fun e w' =>
      e = .returned (.bool true) ∧ Left B bW n w w' := by
  have WA := hid' wa
  have WB := hid' wb
  clear wa wb
  obtain ⟨le, tv, lv, ts, ls, up, ex, se, fr, hb, ht, hl, h1, h2, h3⟩ := hI
  have hlt := hb.lt
  have c1 := hb.cell 1
  have c2 := hb.cell 2
  have f1 := hb.free 1
  have f2 := hb.free 2
  simp at c1 c2
  have HB := hid' hb
  have HT := hid' ht
  have HL := hid' hl
  clear hb ht hl
  go_enter Tryz.func11, Tryz.ntmps11
  go_wp2
  go_ret
  have b1 := HB.out
  have b2 := b1.at1 a
  have b3 := b2.at2 b
  refine ⟨rfl, ⟨le, tv, lv, ts, ls, _, _, _, _, b3.alloc _, (b2.own (b1.own HT.out (by decide) 1 _) (by decide) 2 _).alloc _, (b2.own (b1.own HL.out (by decide) 1 _) (by decide) 2 _).alloc _, by omega, by omega, ⟨h3.txt, h3.tab, WA.out, WB.out, h3.se, h3.fr⟩⟩, ?_, ?_⟩
  · exact (b2.keep (b1.keep (Keep.refl _ w) (by decide) 1 _) (by decide) 2 _).alloc _
  · exact (((Below.refl B w).setCell le _).setCell le _).alloc (by simpa using hB) _

theorem owner_none (B bW n : Nat) (x a b c d : Int) (s : ByteArray) (w : World) (hI : Inv B bW n w) (hB : B ≤ w.heap.size) :
    Calls Tryz.prog 11 #[.pointer (some ⟨bW, 0, none⟩), .agg #[.int .i64 5, .int .i64 x, .int .i64 a, .int .i64 b, .int .i64 c, .int .i64 d, .string s]] w fun e w' =>
      e = .returned (.bool true) ∧ Left B bW n w w' := by
  obtain ⟨le, tv, lv, ts, ls, up, ex, se, fr, hb, ht, hl, h1, h2, h3⟩ := hI
  have hlt := hb.lt
  have c1 := hb.cell 3
  have f1 := hb.free 3
  simp at c1
  have HB := hid' hb
  have HT := hid' ht
  have HL := hid' hl
  clear hb ht hl
  go_enter Tryz.func11, Tryz.ntmps11
  go_wp2
  go_ret
  have b1 := HB.out
  have b2 := b1.at3 (.slice none 0 0)
  refine ⟨rfl, ⟨le, tv, _, ts, [], _, _, _, _, b2.alloc _, (b1.own HT.out (by decide) 3 _).alloc _, World.ownsRow_nil _ _ _ _, by omega, by simp, ⟨h3.txt, fun p h => (by cases h), h3.up, h3.ex, h3.se, h3.fr⟩⟩, ?_, ?_⟩
  · exact (b1.keep (Keep.refl _ w) (by decide) 3 _).alloc _
  · exact ((Below.refl B w).setCell le _).alloc (by simpa using hB) _

theorem owner_time (B bW n : Nat) (x a b c d : Int) (s : ByteArray) (w : World) (wa : (Lit.int .i64 a).wf = true) (wb : (Lit.int .i64 b).wf = true) (hI : Inv B bW n w) (hB : B ≤ w.heap.size) :
    Calls Tryz.prog 11 #[.pointer (some ⟨bW, 0, none⟩), .agg #[.int .i64 6, .int .i64 x, .int .i64 a, .int .i64 b, .int .i64 c, .int .i64 d, .string s]] w fun e w' =>
      e = .returned (.bool true) ∧ Left B bW n w w' := by
  have WA := hid' wa
  have WB := hid' wb
  clear wa wb
  obtain ⟨le, tv, lv, ts, ls, up, ex, se, fr, hb, ht, hl, h1, h2, h3⟩ := hI
  have hlt := hb.lt
  have c1 := hb.cell 4
  have f1 := hb.free 4
  have c2 := hb.cell 5
  have f2 := hb.free 5
  simp at c1 c2
  have HB := hid' hb
  have HT := hid' ht
  have HL := hid' hl
  clear hb ht hl
  go_enter Tryz.func11, Tryz.ntmps11
  go_wp2
  go_ret
  have b1 := HB.out
  have b2 := b1.at4 a
  have b3 := b2.at5 b
  refine ⟨rfl, ⟨le, tv, lv, ts, ls, _, _, _, _, b3.alloc _, (b2.own (b1.own HT.out (by decide) 4 _) (by decide) 5 _).alloc _, (b2.own (b1.own HL.out (by decide) 4 _) (by decide) 5 _).alloc _, by omega, by omega, ⟨h3.txt, h3.tab, h3.up, h3.ex, WA.out, WB.out⟩⟩, ?_, ?_⟩
  · exact (b2.keep (b1.keep (Keep.refl _ w) (by decide) 4 _) (by decide) 5 _).alloc _
  · exact (((Below.refl B w).setCell le _).setCell le _).alloc (by simpa using hB) _

theorem owner_other (B bW n : Nat) (k x a b c d : Int) (s : ByteArray) (w : World) (hk : k < 1 ∨ 6 < k) (hI : Inv B bW n w) (hB : B ≤ w.heap.size) :
    Calls Tryz.prog 11 #[.pointer (some ⟨bW, 0, none⟩), .agg #[.int .i64 k, .int .i64 x, .int .i64 a, .int .i64 b, .int .i64 c, .int .i64 d, .string s]] w fun e w' =>
      e = .returned (.bool false) ∧ Left B bW n w w' := by
  obtain ⟨le, tv, lv, ts, ls, up, ex, se, fr, hb, ht, hl, h1, h2, h3⟩ := hI
  have k1 : (k == 1) = false := by rw [beq_eq_false_iff_ne]; omega
  have k2 : (k == 2) = false := by rw [beq_eq_false_iff_ne]; omega
  have k3 : (k == 3) = false := by rw [beq_eq_false_iff_ne]; omega
  have k4 : (k == 4) = false := by rw [beq_eq_false_iff_ne]; omega
  have k5 : (k == 5) = false := by rw [beq_eq_false_iff_ne]; omega
  have k6 : (k == 6) = false := by rw [beq_eq_false_iff_ne]; omega
  clear hk
  have HB := hid' hb
  have HT := hid' ht
  have HL := hid' hl
  clear hb ht hl
  go_enter Tryz.func11, Tryz.ntmps11
  go_wp2
  go_ret
  exact ⟨rfl, ⟨le, tv, lv, ts, ls, _, _, _, _, HB.out.alloc _, HT.out.alloc _, HL.out.alloc _, by omega, by omega, h3⟩, (Keep.refl _ w).alloc _, (Below.refl B w).alloc hB _⟩

end Go.Proofs.YtfaefpjjmblehaaGreatDoor
