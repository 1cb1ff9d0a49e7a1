import Derived.Test.YtmmkhodaljpjgaaDoorKTable
import Derived.Test.YtmmkhodaljpjgaaDoorTable2
import Derived.Deep.QuietTactic
import Derived.BigQuiet
/-! smearkeep.same. -/
namespace Go.Proofs.YtmmkhodaljpjgaaDoor
open Go.RowKit

theorem held_own {w : World} {B : Nat} {lv : Value} {ls : List (Int × Int)} (h : w.ownsRow B 40 2 lv ls.length (flat ls)) : Held w lv ls := by
  by_cases h0 : 0 < ls.length
  · obtain ⟨g, cap, rfl⟩ := own_some h h0
    refine .inr ⟨h0, g, cap, rfl, ?_, (h.lt _ rfl).2, fun i hi => ⟨by rw [h.cellAt (i * 2) (by omega)]; exact flat_at0 ls i hi, by rw [h.cellAt (i * 2 + 1) (by omega)]; exact flat_at1 ls i hi⟩⟩
    rcases h.2 with ⟨h, _⟩ | ⟨g', cap', cur, h, _, _, h2, _⟩
    · cases h
    · cases h; exact h2
  · have e : ls = [] := List.eq_nil_of_length_eq_zero (by omega)
    subst e
    rcases h.2 with ⟨rfl, _⟩ | ⟨g, cap, cur, rfl, _⟩
    · exact .inl ⟨rfl, _, _, rfl⟩
    · exact .inl ⟨rfl, _, _, rfl⟩

set_option maxRecDepth 100000 in
set_option maxHeartbeats 1600000 in
theorem ksame_yes (up ex : Int) (av tv : Value) (ls : List (Int × Int)) (w : World) (hA : Held w av ls) (hT : Held w tv ls) (hn : ls.length ≤ 100000) (hp : 0 < ls.length) :
    Calls Tryd.prog 10 #[.agg #[.int .i64 up, .int .i64 ex, av], .agg #[.int .i64 up, .int .i64 ex, tv]] w fun e w' => e = .returned (.bool true) ∧ Below w.heap.size w w' := by
  have n0 : (up != up) = false := by simp
  have n1 : (ex != ex) = false := by simp
  have n2 : ((ls.length : Int) != (ls.length : Int)) = false := by simp
  have B1 := hid' (((Below.refl w.heap.size w).alloc (Nat.le_refl _) (.cells #[.int .i64 up, .int .i64 ex, av] 28)).alloc (by simp) (.cells #[.int .i64 up, .int .i64 ex, tv] 28))
  obtain ⟨ga, ca, rfl, ha1, ha2, ha3⟩ : ∃ g cap, av = .slice (some ⟨g, 0, none⟩) ls.length cap ∧ ls.length ≤ cap ∧ g < w.heap.size ∧ Lies w g ls := by
      rcases hA with ⟨rfl, _⟩ | ⟨_, g, cap, e, a, b, c⟩
      · simp at hp
      · exact ⟨g, cap, e, a, b, c⟩
  obtain ⟨gt, ct, rfl, ht1, ht2, ht3⟩ : ∃ g cap, tv = .slice (some ⟨g, 0, none⟩) ls.length cap ∧ ls.length ≤ cap ∧ g < w.heap.size ∧ Lies w g ls := by
      rcases hT with ⟨rfl, _⟩ | ⟨_, g, cap, e, a, b, c⟩
      · simp at hp
      · exact ⟨g, cap, e, a, b, c⟩
  have LA := hid' (ha3.below ha2 B1.out)
  have LT := hid' (ht3.below ht2 B1.out)
  have R1 := heap_alloc2_old w (.cells #[.int .i64 up, .int .i64 ex, .slice (some ⟨ga, 0, none⟩) ls.length ca] 28) (.cells #[.int .i64 up, .int .i64 ex, .slice (some ⟨gt, 0, none⟩) ls.length ct] 28)
  have R2 := heap_alloc2_new w (.cells #[.int .i64 up, .int .i64 ex, .slice (some ⟨ga, 0, none⟩) ls.length ca] 28) (.cells #[.int .i64 up, .int .i64 ex, .slice (some ⟨gt, 0, none⟩) ls.length ct] 28)
  clear ha3 ht3 hp
  generalize hk : ls.length = k at *
  go_enter Tryd.func10, Tryd.ntmps10
  go_wp2_with fail
  generalize hV : (w.alloc (.cells #[.int .i64 up, .int .i64 ex, .slice (some ⟨ga, 0, none⟩) k ca] 28)).alloc (.cells #[.int .i64 up, .int .i64 ex, .slice (some ⟨gt, 0, none⟩) k ct] 28) = V at *
  have c1 := cell_of_row _ _ 2 _ _ _ R1
  have c2 := cell_of_row _ _ 2 _ _ _ R2
  simp at c1 c2
  clear hV R1 R2
  go_loopw [5] (fun i wr => ∃ (j m : Nat), j ≤ k ∧ i = .int .i64 j ∧ wr = V.drewN m) (fun i _ => k - (intOf i).toNat)
  case atStart => exact ⟨0, 0, by omega, rfl, rfl⟩
  case round =>
    obtain ⟨j, m, hj, rfl, hwr⟩ := hrel
    have d1 : wr.cell? ⟨w.heap.size, 2, none⟩ = some (.slice (some ⟨ga, 0, none⟩) k ca) := by rw [hwr]; exact c1
    have d2 : wr.cell? ⟨w.heap.size + 1, 2, none⟩ = some (.slice (some ⟨gt, 0, none⟩) k ct) := by rw [hwr]; exact c2
    by_cases hlt : j < k
    · have hjl : j < ls.length := by omega
      have a0 : wr.cell? ⟨ga, j * 2, none⟩ = some (.int .i64 ls[j].1) := by rw [hwr]; exact (LA.out j hjl).1
      have a1 : wr.cell? ⟨ga, j * 2 + 1, none⟩ = some (.int .i64 ls[j].2) := by rw [hwr]; exact (LA.out j hjl).2
      have t0 : wr.cell? ⟨gt, j * 2, none⟩ = some (.int .i64 ls[j].1) := by rw [hwr]; exact (LT.out j hjl).1
      have t1 : wr.cell? ⟨gt, j * 2 + 1, none⟩ = some (.int .i64 ls[j].2) := by rw [hwr]; exact (LT.out j hjl).2
      have HWR := hid' hwr
      generalize ls[j] = p at *
      obtain ⟨pa, po⟩ := p
      simp only at a0 a1 t0 t1
      have z0 : (0 : Int) ≤ (j : Int) := by omega
      have z1 : (j : Int) < (k : Int) := by omega
      have g0 : (pa != pa) = false := by simp
      have g1 : (po != po) = false := by simp
      clear hwr hjl c1 c2
      go_wp2_with fail
      go_quiet (fail)
      go_wp2
      go_roundw
      case rel => exact ⟨j + 1, m + nq, by omega, by go_num, by rw [HWR.out, World.drewN_drewN]⟩
      case measure => simp [intOf]; omega
    · have hnl : ¬ (j : Int) < (k : Int) := by omega
      have BW : Hid (Below w.heap.size w wr) := by rw [hwr]; exact below_drewN B1.out m
      clear hwr c1 c2
      go_wp2
      go_ret
      exact ⟨rfl, BW.out⟩

end Go.Proofs.YtmmkhodaljpjgaaDoor
