import Derived.Test.YtmmkhodaljpjgaaGreatDoorPlas
import Derived.Deep.Slices
import Derived.SizedLaws
import Derived.ProofKit
import Derived.OpenShut
/-! A script, as it is read. -/
namespace Go.Proofs.YtmmkhodaljpjgaaGreatDoor
open Go.RowKit Go.ChangeShapes Go.WideShapes

/-- A step as data. -/
def Op.datum {H : Type} (o : Op) : DataW H := .agg [.lit (.int .i64 o.kind), .lit (.int .i64 o.x), .lit (.int .i64 o.a), .lit (.int .i64 o.b), .lit (.int .i64 o.c), .lit (.int .i64 o.d), .lit (.string o.s.data.toList)]

theorem cellsInt : Tryz.prog.cellsOf 3 = 1 := by kernel_rfl
theorem cellsStr : Tryz.prog.cellsOf 9 = 1 := by kernel_rfl
theorem cellsOp : Tryz.prog.cellsOf 27 = 7 := by kernel_rfl
theorem bytesOp : Tryz.prog.bytesOf 27 = 64 := by kernel_rfl

theorem seven {α : Type} {l : List α} (h : l.length = 7) : ∃ a b c d e f g, l = [a, b, c, d, e, f, g] := by
  match l, h with
  | [a, b, c, d, e, f, g], _ => exact ⟨a, b, c, d, e, f, g, rfl⟩

theorem open_op {H : Type} {enc : TypeId × Value → H} {w : World} {base : Nat} {spare : Nat → Bool} {held : Bool} {fuel : Nat} {cs : List Value} {x : DataW H × List MemPlace}
    (h : DataW.trod enc Tryz.prog w base spare held fuel 27 cs = some x) : ∃ o : Op, cs = o.cells.toList ∧ o.Wf ∧ x.1 = o.datum := by
  obtain ⟨xs, n, _, rfl, hl, hn, hf⟩ := DataW.trod_struct Tryz.underlying27 h
  rw [cellsOp] at hl
  obtain ⟨c0, c1, c2, c3, c4, c5, c6, rfl⟩ := seven hl
  obtain ⟨y0, y1, y2, y3, y4, y5, y6, rfl⟩ := seven (show xs.length = 7 from hn)
  have f0 : DataW.trod enc Tryz.prog w base spare held n 3 (([c0, c1, c2, c3, c4, c5, c6].drop 0).take (Tryz.prog.cellsOf 3)) = some y0 := hf 0 _ rfl
  rw [cellsInt] at f0
  have f1 : DataW.trod enc Tryz.prog w base spare held n 3 (([c0, c1, c2, c3, c4, c5, c6].drop 1).take (Tryz.prog.cellsOf 3)) = some y1 := hf 1 _ rfl
  rw [cellsInt] at f1
  have f2 : DataW.trod enc Tryz.prog w base spare held n 3 (([c0, c1, c2, c3, c4, c5, c6].drop 2).take (Tryz.prog.cellsOf 3)) = some y2 := hf 2 _ rfl
  rw [cellsInt] at f2
  have f3 : DataW.trod enc Tryz.prog w base spare held n 3 (([c0, c1, c2, c3, c4, c5, c6].drop 3).take (Tryz.prog.cellsOf 3)) = some y3 := hf 3 _ rfl
  rw [cellsInt] at f3
  have f4 : DataW.trod enc Tryz.prog w base spare held n 3 (([c0, c1, c2, c3, c4, c5, c6].drop 4).take (Tryz.prog.cellsOf 3)) = some y4 := hf 4 _ rfl
  rw [cellsInt] at f4
  have f5 : DataW.trod enc Tryz.prog w base spare held n 3 (([c0, c1, c2, c3, c4, c5, c6].drop 5).take (Tryz.prog.cellsOf 3)) = some y5 := hf 5 _ rfl
  rw [cellsInt] at f5
  have f6 : DataW.trod enc Tryz.prog w base spare held n 9 (([c0, c1, c2, c3, c4, c5, c6].drop 6).take (Tryz.prog.cellsOf 9)) = some y6 := hf 6 _ rfl
  rw [cellsStr] at f6
  obtain ⟨k, e0, g0, w0⟩ := DataW.trod_int Tryz.underlying3 (show DataW.trod enc Tryz.prog w base spare held n 3 [c0] = some y0 from f0)
  obtain ⟨x1, e1, g1, w1⟩ := DataW.trod_int Tryz.underlying3 (show DataW.trod enc Tryz.prog w base spare held n 3 [c1] = some y1 from f1)
  obtain ⟨a, e2, g2, w2⟩ := DataW.trod_int Tryz.underlying3 (show DataW.trod enc Tryz.prog w base spare held n 3 [c2] = some y2 from f2)
  obtain ⟨b, e3, g3, w3⟩ := DataW.trod_int Tryz.underlying3 (show DataW.trod enc Tryz.prog w base spare held n 3 [c3] = some y3 from f3)
  obtain ⟨c, e4, g4, w4⟩ := DataW.trod_int Tryz.underlying3 (show DataW.trod enc Tryz.prog w base spare held n 3 [c4] = some y4 from f4)
  obtain ⟨d, e5, g5, w5⟩ := DataW.trod_int Tryz.underlying3 (show DataW.trod enc Tryz.prog w base spare held n 3 [c5] = some y5 from f5)
  obtain ⟨s, e6, g6, w6⟩ := DataW.trod_string Tryz.underlying9 (show DataW.trod enc Tryz.prog w base spare held n 9 [c6] = some y6 from f6)
  simp only [List.cons.injEq, and_true] at e0 e1 e2 e3 e4 e5 e6
  subst e0 e1 e2 e3 e4 e5 e6 g0 g1 g2 g3 g4 g5 g6
  exact ⟨⟨k, x1, a, b, c, d, s⟩, rfl, ⟨w0, w1, w2, w3, w4, w5⟩, rfl⟩

theorem weights_all {H : Type} {P : Program} {e : TypeId} : ∀ {l : List (DataW H)} {d : DataW H}, d ∈ l → ∀ n ∈ d.weights P e, n ∈ DataW.weightsAll P e l
  | u :: r, d, hd, n, hn => by
    rw [DataW.weightsAll]
    rcases List.mem_cons.1 hd with rfl | hd
    · exact List.mem_append_left _ hn
    · exact List.mem_append_right _ (weights_all hd n hn)

theorem datum_weight {H : Type} (o : Op) : o.s.size ∈ (o.datum : DataW H).weights Tryz.prog 27 := by
  unfold Op.datum
  rw [DataW.weights, Tryz.underlying27]
  simp [DataW.weightsEach, DataW.weights]

/-- What came in. -/
theorem open_script {H : Type} {enc : TypeId × Value → H} {w : World} {fuel : Nat} {v : Value} {x : DataW H × List MemPlace}
    (h : DataW.trod enc Tryz.prog w 0 (fun _ => true) true fuel 22 [v] = some x) (hsz : (DataW.weightsEach Tryz.prog [22] [x.1]).all (fun n => decide (n ≤ reachBytes)) = true) :
    ∃ ao cap ops, v = .slice ao ops.length cap ∧ Script w ao ops ∧ ops.length ≤ 140737488351232 ∧ ∀ o ∈ ops, o.Wf := by
  rcases Deep.open_slice Tryz.underlying22 h with ⟨hcs, hx⟩ | ⟨a, len, cap, m, n, D, Pl, hcs, _, hlc, hcm, hm, hx, hel⟩
  · simp only [List.cons.injEq, and_true] at hcs
    subst hcs
    exact ⟨none, 0, [], rfl, ⟨fun o h => (by cases h), fun h => (by simp at h)⟩, by simp, fun o h => (by cases h)⟩
  · simp only [List.cons.injEq, and_true] at hcs
    subst hcs
    have hml : len ≤ m := by simp at hm; omega
    have hop : ∀ i, i < len → ∃ o : Op, w.cells? 0 (a.add (i * 7)) 7 = some o.cells.toList ∧ o.Wf ∧ D i = o.datum := by
      intro i hi
      obtain ⟨cs', hc, ht⟩ := hel i (by omega)
      rw [cellsOp] at hc
      obtain ⟨o, rfl, hw, hd⟩ := open_op ht
      exact ⟨o, hc, hw, hd⟩
    have hch : ∃ f : Nat → Op, ∀ i, i < len → w.cells? 0 (a.add (i * 7)) 7 = some (f i).cells.toList ∧ (f i).Wf ∧ D i = (f i).datum := by
      refine ⟨fun i => if h : i < len then Classical.choose (hop i h) else ⟨0, 0, 0, 0, 0, 0, ByteArray.empty⟩, fun i hi => ?_⟩
      simp only [hi, dif_pos]
      exact Classical.choose_spec (hop i hi)
    obtain ⟨f, hf⟩ := hch
    have hlen : ((List.range len).map f).length = len := by simp
    have hget : ∀ k (h : k < ((List.range len).map f).length), ((List.range len).map f)[k] = f k := fun k h => by simp
    have hmem : ∀ o ∈ (List.range len).map f, ∃ i, i < len ∧ o = f i := fun o ho => by
      simp at ho; obtain ⟨i, hi, rfl⟩ := ho; exact ⟨i, hi, rfl⟩
    have hD : (List.range len).map D = ((List.range len).map f).map Op.datum := by
      rw [List.map_map]
      apply List.map_congr_left
      intro i hi
      exact (hf i (by simpa using hi)).2.2
    have hx1 : x.1 = .slice ((List.range len).map D) ((List.range (m - len)).map fun j => D (len + j)) := by rw [hx]
    refine ⟨some a, cap, (List.range len).map f, by rw [hlen], ⟨?_, ?_⟩, ?_, ?_⟩
    · intro o ho
      have hw := datum_weight (H := H) o
      have hin : (o.datum : DataW H) ∈ (List.range len).map D := by rw [hD]; exact List.mem_map_of_mem ho
      have h1 := weights_all (P := Tryz.prog) (e := 27) hin _ hw
      have h2 : o.s.size ∈ x.1.weights Tryz.prog 22 := by
        rw [hx1, DataW.weights, Tryz.underlying22]
        exact List.mem_cons_of_mem _ (List.mem_append_left _ h1)
      have h3 := DataW.weights_mem_each (P := Tryz.prog) (ts := [22]) (ds := [x.1]) (j := 0) rfl rfl _ h2
      have h4 := of_decide_eq_true (List.all_eq_true.1 hsz _ h3)
      simpa [reachBytes] using h4
    · intro hpos
      rw [hlen] at hpos
      obtain ⟨_, _, hc0⟩ := World.cells?_some (hf 0 hpos).1
      have h00 := hc0 0 (by omega)
      have hspot : a.spot = none := by
        have : w.cell? (a.add 0) = some (.int .i64 (f 0).kind) := by simpa [Op.cells, Addr.add] using h00
        have := World.cell?_spot this
        simpa [Addr.add] using this
      obtain ⟨b, off, spot⟩ := a
      simp only at hspot
      subst hspot
      have hadd : ∀ i j, ((⟨b, off, none⟩ : Addr).add i).add j = ⟨b, off + i + j, none⟩ := fun i j => by
        unfold Addr.add; simp only []; split <;> split <;> simp_all
      refine ⟨b, off, rfl, ?_, fun k hk j hj => ?_⟩
      · exact World.cells?_block (a := ((⟨b, off, none⟩ : Addr).add (0 * 7))) (hf 0 hpos).1 (by omega)
      · rw [hget]
        have hk' : k < len := by rw [hlen] at hk; exact hk
        obtain ⟨_, _, hc⟩ := World.cells?_some (hf k hk').1
        have := hc j hj
        rw [hadd] at this
        rw [this]; simp
    · have := sized_slice hsz (j := 0) (t := 22) (e := 27) (elems := (List.range len).map D) (spare := (List.range (m - len)).map fun j => D (len + j)) rfl (by simp [hx1]) Tryz.underlying22
      rw [bytesOp] at this
      simp [reachBytes] at this
      rw [hlen]; omega
    · intro o ho
      obtain ⟨i, hi, rfl⟩ := hmem o ho
      exact (hf i hi).2.1

end Go.Proofs.YtmmkhodaljpjgaaGreatDoor
