import Derived.Test.YtmmkhodaljpjgaaDoorFile6
import Derived.Test.YtmmkhodaljpjgaaDoorTxtP
import Derived.Test.YtmmkhodaljpjgaaDoorOf
import Derived.Laws.ResultCell
/-! Package file: finish. -/
namespace Go.Proofs.YtmmkhodaljpjgaaDoor
open Go.RowKit

theorem results_row_tmp {fn : Func} {p u : Tmp} {ty : TypeId} {P : Program} (h : fn.results = #[.cell p ty, .tmp u]) (tmps : Array Value) (w : World) (g : Nat) (cs : Array Value)
    (hp : tmps.getD p undef = .pointer (some ⟨g, 0, none⟩)) (hl : (loadVar ty ⟨g, 0, none⟩).run P w = .ok (.agg cs) w) :
    (results fn tmps).run P w = .ok (.tuple #[.agg cs, tmps.getD u undef]) w := by
  rw [results_cell_tmp h, hp]
  simp [asAddr, hl, Result.andThen]
theorem load_table {w : World} {g : Nat} {cs : Array Value} (hg : w.heap[g]? = some (.cells cs 28 (0, 0))) (hs : cs.size = 3) : (loadVar 28 ⟨g, 0, none⟩).run Tryd.prog w = .ok (.agg cs) w :=
  run_loadVar_row (P := Tryd.prog) w g 28 28 cs (0, 0) _ hg Tryd.underlying28 rfl (by rw [hs]; kernel_rfl)

theorem zero3_row {V : World} {b : Nat} {p q r : Value} {t : TypeId} {x y z : Value} (h1 : V.heap[b]? = some (.cells #[p, q, r] t (0, 0))) : (((V.setCell ⟨b, 0, none⟩ x).setCell ⟨b, 1, none⟩ y).setCell ⟨b, 2, none⟩ z).heap[b]? = some (.cells #[x, y, z] t (0, 0)) := by
  have e1 := heap_setCell_same _ b 0 _ t x h1
  have e2 := heap_setCell_same _ b 1 _ t y e1
  have e3 := heap_setCell_same _ b 2 _ t z e2
  simpa using e3
theorem below3 {W V : World} {b B : Nat} {x y z : Value} (h : Below B W V) (hb : B ≤ b) : Below B W (((V.setCell ⟨b, 0, none⟩ x).setCell ⟨b, 1, none⟩ y).setCell ⟨b, 2, none⟩ z) :=
  ((h.setCell (p := ⟨b, 0, none⟩) hb x).setCell (p := ⟨b, 1, none⟩) hb y).setCell (p := ⟨b, 2, none⟩) hb z
theorem own3 {V : World} {b B n size : Nat} {x y z p q r v : Value} {t e : TypeId} {xs : List Value} (h1 : V.heap[b]? = some (.cells #[p, q, r] t (0, 0))) (ho : V.ownsRow B e size v n xs) (hne : t ≠ e) :
    (((V.setCell ⟨b, 0, none⟩ x).setCell ⟨b, 1, none⟩ y).setCell ⟨b, 2, none⟩ z).ownsRow B e size v n xs := by
  have e1 := heap_setCell_same _ b 0 _ t x h1
  have e2 := heap_setCell_same _ b 1 _ t y e1
  exact own_set (p := ⟨b, 2, none⟩) (own_set (p := ⟨b, 1, none⟩) (own_set (p := ⟨b, 0, none⟩) ho h1 hne x) e1 hne y) e2 hne z

/-- What finish answers. -/
def FinSaid (w : World) (bR : Nat) (gt : Txt.Got) (e : Ending) (w' : World) : Prop := ∃ lv, e = .returned (.tuple #[.agg #[.int .i64 gt.up, .int .i64 gt.ex, lv], .int .i64 gt.err]) ∧ w'.ownsRow (bR + 1) 40 2 lv gt.ls.length (flat gt.ls) ∧ Below w.heap.size w w'

theorem done_no {st : Txt.St} {n : Int} (h : Txt.fin st = n) (hn : n ≠ 0) : Txt.done st = ⟨0, 0, [], n, 0⟩ := by unfold Txt.done; rw [if_neg (by rw [h]; exact hn), h]
theorem done_yes {st : Txt.St} (h : Txt.fin st = 0) : Txt.done st = ⟨Txt.numTo st.u st.u.size, Txt.numTo st.x st.x.size, st.ls, 0, 0⟩ := by unfold Txt.done; rw [if_pos h]
theorem fin_six {st : Txt.St} (h : st.u = Txt.em ∨ st.x = Txt.em ∨ st.h = Txt.em ∨ st.ls.length = 0) : Txt.fin st = 6 := by unfold Txt.fin; rw [if_pos h]
theorem em_toList : (Txt.em).toList.isEmpty = true := by rw [ByteArray.toList_eq]; rfl

set_option maxRecDepth 100000 in
set_option maxHeartbeats 1000000 in
theorem finish_missing (bR : Nat) (st : Txt.St) (w : World) (hR : Rd w bR st) (h : st.u = Txt.em ∨ st.x = Txt.em ∨ st.h = Txt.em ∨ st.ls.length = 0) :
    Calls Tryd.prog 25 #[.pointer (some ⟨bR, 0, none⟩)] w fun e w' => FinSaid w bR (Txt.done st) e w' := by
  have HD := hid' (done_no (fin_six h) (by decide))
  obtain ⟨lv, hrow, hown⟩ := hR
  have hbR := lt_of_heap hrow
  have c0 := cell_of_row _ _ 0 _ _ _ hrow
  have c1 := cell_of_row _ _ 1 _ _ _ hrow
  have c2 := cell_of_row _ _ 2 _ _ _ hrow
  have c3 := cell_of_row _ _ 3 _ _ _ hrow
  simp at c0 c1 c2 c3
  have hlv : ∃ ao cap, lv = .slice ao st.ls.length cap := by
    rcases hown.2 with ⟨rfl, e⟩ | ⟨g, cap, cur, rfl, _⟩
    · exact ⟨_, _, by rw [e]⟩
    · exact ⟨_, _, rfl⟩
  obtain ⟨ao, cap, rfl⟩ := hlv
  have RN := hid' (heap_alloc_new w (.cells #[.int .i64 0, .int .i64 0, .slice none 0 0] 28))
  have BN := hid' ((Below.refl w.heap.size w).alloc (Nat.le_refl _) (.cells #[.int .i64 0, .int .i64 0, .slice none 0 0] 28))
  clear hrow hown
  have fin' : ∀ e : Ending, e = .returned (.tuple #[.agg #[.int .i64 0, .int .i64 0, .slice none 0 0], .int .i64 6]) → ∀ w', Below w.heap.size w w' → FinSaid w bR (Txt.done st) e w' := fun e he w' hb => by
    rw [HD.out]; exact ⟨.slice none 0 0, he, World.ownsRow_nil _ _ _ _, hb⟩
  have FIN := hid' fin'
  clear fin' HD
  by_cases h0 : st.u = Txt.em
  · rw [h0] at c0
    clear h
    go_enter Tryd.func25, Tryd.ntmps25
    go_wp2
    refine bodyPost_ret (results_row_tmp (p := 2) (u := 3) rfl _ _ w.heap.size #[.int .i64 0, .int .i64 0, .slice none 0 0] rfl (load_table RN.out rfl)) rfl ?_
    exact FIN.out _ rfl _ BN.out
  have h0' := em_test h0
  by_cases h1 : st.x = Txt.em
  · rw [h1] at c1
    clear h h0
    go_enter Tryd.func25, Tryd.ntmps25
    go_wp2
    refine bodyPost_ret (results_row_tmp (p := 2) (u := 3) rfl _ _ w.heap.size #[.int .i64 0, .int .i64 0, .slice none 0 0] rfl (load_table RN.out rfl)) rfl ?_
    exact FIN.out _ rfl _ BN.out
  have h1' := em_test h1
  by_cases h2 : st.h = Txt.em
  · rw [h2] at c2
    clear h h0 h1
    go_enter Tryd.func25, Tryd.ntmps25
    go_wp2
    refine bodyPost_ret (results_row_tmp (p := 2) (u := 3) rfl _ _ w.heap.size #[.int .i64 0, .int .i64 0, .slice none 0 0] rfl (load_table RN.out rfl)) rfl ?_
    exact FIN.out _ rfl _ BN.out
  have h2' := em_test h2
  have h3 : st.ls.length = 0 := by
    rcases h with h | h | h | h
    · exact absurd h h0
    · exact absurd h h1
    · exact absurd h h2
    · exact h
  rw [h3] at c3
  clear h h0 h1 h2 h3
  go_enter Tryd.func25, Tryd.ntmps25
  go_wp2
  refine bodyPost_ret (results_row_tmp (p := 2) (u := 3) rfl _ _ w.heap.size #[.int .i64 0, .int .i64 0, .slice none 0 0] rfl (load_table RN.out rfl)) rfl ?_
  exact FIN.out _ rfl _ BN.out

end Go.Proofs.YtmmkhodaljpjgaaDoor
