import Derived.Test.YtmmkhodaljpjgaaGreatDoorRef7
import Derived.Test.YtmmkhodaljpjgaaGreatDoorFileD
import Derived.Deep.QuietTactic
import Derived.BigQuiet
import Derived.OwnWalk
import Derived.Deep.RegionHeld3
import Derived.Test.YtmmkhodaljpjgaaGreatDoorLabs
/-! The law's same. -/
namespace Go.Proofs.YtmmkhodaljpjgaaGreatDoor
open Go.RowKit

theorem held_ref {w : World} {B : Nat} {lv : Value} {ls : List (Int × Int)} (h : w.ownsRow B 46 2 lv ls.length (flat ls)) : Held w lv ls := by
  by_cases h0 : 0 < ls.length
  · obtain ⟨g, cap, rfl⟩ := own_some h h0
    refine .inr ⟨h0, g, cap, rfl, ?_, (h.lt _ rfl).2, fun i hi => ⟨by rw [h.cellAt (i * 2) (by omega)]; exact flat_at0 ls i hi, by rw [h.cellAt (i * 2 + 1) (by omega)]; exact flat_at1 ls i hi⟩⟩
    rcases h.2 with ⟨h, _⟩ | ⟨g', cap', cur, h, _, _, h2, _⟩
    · cases h
    · cases h; exact h2
  · have e : ls = [] := List.eq_nil_of_length_eq_zero (by omega)
    subst e
    rcases h.2 with ⟨rfl, _⟩ | ⟨g, cap, cur, rfl, _⟩
    · exact .inl ⟨rfl, _, _, rfl⟩
    · exact .inl ⟨rfl, _, _, rfl⟩

set_option maxRecDepth 100000 in
set_option maxHeartbeats 1600000 in
theorem same_yes (up ex : Int) (av tv : Value) (ls : List (Int × Int)) (w : World) (hA : Held w av ls) (hT : Held w tv ls) (hn : ls.length ≤ 100000) :
    Calls Tryz.prog 42 #[.agg #[.int .i64 up, .int .i64 ex, av], .agg #[.int .i64 up, .int .i64 ex, tv]] w fun e w' => e = .returned (.bool true) ∧ Below w.heap.size w w' := by
  have n0 : (up != up) = false := by simp
  have n1 : (ex != ex) = false := by simp
  have n2 : ((ls.length : Int) != (ls.length : Int)) = false := by simp
  have B1 := hid' (((Below.refl w.heap.size w).alloc (Nat.le_refl _) (.cells #[.int .i64 up, .int .i64 ex, av] 78)).alloc (by simp) (.cells #[.int .i64 up, .int .i64 ex, tv] 33))
  by_cases h0 : ls.length = 0
  · obtain ⟨aa, ac, rfl⟩ : ∃ ao c, av = .slice ao 0 c := by
      rcases hA with ⟨_, ao, c, rfl⟩ | ⟨h, _⟩
      · exact ⟨_, _, rfl⟩
      · omega
    obtain ⟨ta, tc, rfl⟩ : ∃ ao c, tv = .slice ao 0 c := by
      rcases hT with ⟨_, ao, c, rfl⟩ | ⟨h, _⟩
      · exact ⟨_, _, rfl⟩
      · omega
    clear hA hT n2
    go_enter Tryz.func42, Tryz.ntmps42
    go_wp2_with fail
    go_loop [5] (fun i => i = .int .i64 0) (fun _ => 0)
    case atStart => rfl
    case round =>
      subst hrel
      go_wp2
      go_ret
      exact ⟨rfl, B1.out⟩
  · obtain ⟨ga, ca, rfl, ha1, ha2, ha3⟩ : ∃ g cap, av = .slice (some ⟨g, 0, none⟩) ls.length cap ∧ ls.length ≤ cap ∧ g < w.heap.size ∧ Lies w g ls := by
      rcases hA with ⟨rfl, _⟩ | ⟨_, g, cap, e, a, b, c⟩
      · simp at h0
      · exact ⟨g, cap, e, a, b, c⟩
    obtain ⟨gt, ct, rfl, ht1, ht2, ht3⟩ : ∃ g cap, tv = .slice (some ⟨g, 0, none⟩) ls.length cap ∧ ls.length ≤ cap ∧ g < w.heap.size ∧ Lies w g ls := by
      rcases hT with ⟨rfl, _⟩ | ⟨_, g, cap, e, a, b, c⟩
      · simp at h0
      · exact ⟨g, cap, e, a, b, c⟩
    have LA := hid' (ha3.below ha2 B1.out)
    have LT := hid' (ht3.below ht2 B1.out)
    have R1 := heap_alloc2_old w (.cells #[.int .i64 up, .int .i64 ex, .slice (some ⟨ga, 0, none⟩) ls.length ca] 78) (.cells #[.int .i64 up, .int .i64 ex, .slice (some ⟨gt, 0, none⟩) ls.length ct] 33)
    have R2 := heap_alloc2_new w (.cells #[.int .i64 up, .int .i64 ex, .slice (some ⟨ga, 0, none⟩) ls.length ca] 78) (.cells #[.int .i64 up, .int .i64 ex, .slice (some ⟨gt, 0, none⟩) ls.length ct] 33)
    clear ha3 ht3
    generalize hk : ls.length = k at *
    go_enter Tryz.func42, Tryz.ntmps42
    go_wp2_with fail
    generalize hV : (w.alloc (.cells #[.int .i64 up, .int .i64 ex, .slice (some ⟨ga, 0, none⟩) k ca] 78)).alloc (.cells #[.int .i64 up, .int .i64 ex, .slice (some ⟨gt, 0, none⟩) k ct] 33) = V at *
    have c1 := cell_of_row _ _ 2 _ _ _ R1
    have c2 := cell_of_row _ _ 2 _ _ _ R2
    simp at c1 c2
    clear hV R1 R2
    go_loopw [5] (fun i wr => ∃ (j m : Nat), j ≤ k ∧ i = .int .i64 j ∧ wr = V.drewN m) (fun i _ => k - (intOf i).toNat)
    case atStart => exact ⟨0, 0, by omega, rfl, rfl⟩
    case round =>
      obtain ⟨j, m, hj, rfl, hwr⟩ := hrel
      have d1 : wr.cell? ⟨w.heap.size, 2, none⟩ = some (.slice (some ⟨ga, 0, none⟩) k ca) := by rw [hwr]; exact c1
      have d2 : wr.cell? ⟨w.heap.size + 1, 2, none⟩ = some (.slice (some ⟨gt, 0, none⟩) k ct) := by rw [hwr]; exact c2
      by_cases hlt : j < k
      · have hjl : j < ls.length := by omega
        have a0 : wr.cell? ⟨ga, j * 2, none⟩ = some (.int .i64 ls[j].1) := by rw [hwr]; exact (LA.out j hjl).1
        have a1 : wr.cell? ⟨ga, j * 2 + 1, none⟩ = some (.int .i64 ls[j].2) := by rw [hwr]; exact (LA.out j hjl).2
        have t0 : wr.cell? ⟨gt, j * 2, none⟩ = some (.int .i64 ls[j].1) := by rw [hwr]; exact (LT.out j hjl).1
        have t1 : wr.cell? ⟨gt, j * 2 + 1, none⟩ = some (.int .i64 ls[j].2) := by rw [hwr]; exact (LT.out j hjl).2
        have HWR := hid' hwr
        generalize ls[j] = p at *
        obtain ⟨pa, po⟩ := p
        simp only at a0 a1 t0 t1
        have z0 : (0 : Int) ≤ (j : Int) := by omega
        have z1 : (j : Int) < (k : Int) := by omega
        have g0 : (pa != pa) = false := by simp
        have g1 : (po != po) = false := by simp
        clear hwr hjl c1 c2
        go_wp2_with fail
        go_quiet (fail)
        go_wp2
        go_roundw
        case rel => exact ⟨j + 1, m + nq, by omega, by go_num, by rw [HWR.out, World.drewN_drewN]⟩
        case measure => simp [intOf]; omega
      · have hnl : ¬ (j : Int) < (k : Int) := by omega
        have BW : Hid (Below w.heap.size w wr) := by rw [hwr]; exact below_drewN B1.out m
        clear hwr c1 c2
        go_wp2
        go_ret
        exact ⟨rfl, BW.out⟩

end Go.Proofs.YtmmkhodaljpjgaaGreatDoor

/-! The law's handed: a table with a list of its own, with spare room. -/
namespace Go.Proofs.YtmmkhodaljpjgaaGreatDoor
open Go.RowKit

/-- The list that is handed in, filled up to j. -/
structure Hand (w : World) (g n : Nat) (ls : List (Int × Int)) (j : Nat) (cs : Array Value) : Prop where
  row : w.heap[g]? = some (.cells cs 84 (0, 0))
  size : cs.size = (n + 2) * 2
  fill : ∀ i (_ : i < j) (h : i < ls.length), cs[i * 2]? = some (.int .i64 ls[i].1) ∧ cs[i * 2 + 1]? = some (.int .i64 ls[i].2)
/-- The list that is handed in, with its spare room. -/
def Handed (w : World) (g : Nat) (ls : List (Int × Int)) : Prop := ∃ cs, Hand w g ls.length ls ls.length cs ∧ cs[ls.length * 2]? = some (.int .i64 (-7)) ∧ cs[(ls.length + 1) * 2]? = some (.int .i64 (-7))

theorem set_same {cs : Array Value} {a : Nat} {v : Value} (h : a < cs.size) : (cs.setIfInBounds a v)[a]? = some v := by
  rw [Array.getElem?_setIfInBounds]; simp [h]
theorem set_other {cs : Array Value} {a b : Nat} {v : Value} (h : a ≠ b) : (cs.setIfInBounds a v)[b]? = cs[b]? := by
  rw [Array.getElem?_setIfInBounds]; simp [h]

theorem Hand.put {w : World} {g n j : Nat} {ls : List (Int × Int)} {cs : Array Value} (h : Hand w g n ls j cs) (hj : j < n) (hl : j < ls.length) :
    ∃ cs', Hand ((w.setCell ⟨g, j * 2, none⟩ (.int .i64 ls[j].1)).setCell ⟨g, j * 2 + 1, none⟩ (.int .i64 ls[j].2)) g n ls (j + 1) cs' := by
  have e1 := heap_setCell_same _ g (j * 2) _ _ (.int .i64 ls[j].1) h.row
  have e2 := heap_setCell_same _ g (j * 2 + 1) _ _ (.int .i64 ls[j].2) e1
  have hz := h.size
  refine ⟨_, e2, by simp [hz], fun i hi hil => ?_⟩
  by_cases e : i = j
  · subst e
    exact ⟨by rw [set_other (by omega), set_same (by omega)], by rw [set_same (by simp; omega)]⟩
  · have := h.fill i (by omega) hil
    exact ⟨by rw [set_other (by omega), set_other (by omega)]; exact this.1, by rw [set_other (by omega), set_other (by omega)]; exact this.2⟩
theorem Hand.cell {w : World} {g n j : Nat} {ls : List (Int × Int)} {cs : Array Value} (h : Hand w g n ls j cs) (k : Nat) (hk : k < (n + 2) * 2) : ∃ v, w.cell? ⟨g, k, none⟩ = some v := by
  rw [cell_of_row _ _ k _ _ _ h.row, Array.getElem?_eq_getElem (by rw [h.size]; exact hk)]; exact ⟨_, rfl⟩
theorem Hand.free {w : World} {g n j : Nat} {ls : List (Int × Int)} {cs : Array Value} (h : Hand w g n ls j cs) (k : Nat) : w.frozen? ⟨g, k, none⟩ = false := frozen_of_row _ _ k _ _ h.row

theorem Handed.held {w : World} {g : Nat} {ls : List (Int × Int)} (h : Handed w g ls) : Held w (.slice (some ⟨g, 0, none⟩) ls.length (ls.length + 2)) ls := by
  obtain ⟨cs, hh, _, _⟩ := h
  by_cases h0 : 0 < ls.length
  · exact .inr ⟨h0, g, _, rfl, by omega, lt_of_heap hh.row, fun i hi => ⟨by rw [cell_of_row _ _ _ _ _ _ hh.row]; exact (hh.fill i hi hi).1, by rw [cell_of_row _ _ _ _ _ _ hh.row]; exact (hh.fill i hi hi).2⟩⟩
  · have e : ls = [] := List.eq_nil_of_length_eq_zero (by omega)
    subst e; exact .inl ⟨rfl, _, _, rfl⟩
theorem Handed.below {w w' : World} {g : Nat} {ls : List (Int × Int)} (h : Handed w g ls) (hb : Below w.heap.size w w') : Handed w' g ls := by
  obtain ⟨cs, hh, a, b⟩ := h
  exact ⟨cs, ⟨(hb.block _ (lt_of_heap hh.row)).trans hh.row, hh.size, hh.fill⟩, a, b⟩

theorem infoApi2 : (Tryz.prog.info? 84).map (fun i => (i.zero, i.size, i.bytes)) = some (some (.agg #[.int .i64 0, .int .i64 0]), 2, 16) := by kernel_rfl

/-- What handed answers. -/
def HandSaid (w : World) (up ex : Int) (ls : List (Int × Int)) (e : Ending) (w' : World) : Prop := ∃ g, w.heap.size ≤ g ∧ e = .returned (.agg #[.int .i64 up, .int .i64 ex, .slice (some ⟨g, 0, none⟩) ls.length (ls.length + 2)]) ∧ Handed w' g ls ∧ Below w.heap.size w w'

set_option maxRecDepth 100000 in
set_option maxHeartbeats 3200000 in
theorem handed_any (up ex : Int) (tv : Value) (ls : List (Int × Int)) (w : World) (hT : Held w tv ls) (hn : ls.length ≤ 100000) :
    Calls Tryz.prog 43 #[.agg #[.int .i64 up, .int .i64 ex, tv]] w fun e w' => HandSaid w up ex ls e w' := by
  obtain ⟨i0, hi0, hz0, hz1, hz2⟩ := info_parts infoApi2
  obtain ⟨ta, tc, htv⟩ : ∃ ao c, tv = .slice ao ls.length c := by
    rcases hT with ⟨rfl, ao, c, rfl⟩ | ⟨_, g, c, rfl, _⟩
    · exact ⟨_, _, rfl⟩
    · exact ⟨_, _, rfl⟩
  have HT := hid' hT
  have B1 := hid' (((Below.refl w.heap.size w).alloc (Nat.le_refl _) (.cells #[.int .i64 up, .int .i64 ex, tv] 33)).alloc (by simp) (.cells #[.int .i64 0, .int .i64 0, .slice none 0 0] 78))
  have R1 := hid' (heap_alloc2_old w (.cells #[.int .i64 up, .int .i64 ex, tv] 33) (.cells #[.int .i64 0, .int .i64 0, .slice none 0 0] 78))
  have R2 := hid' (heap_alloc2_new w (.cells #[.int .i64 up, .int .i64 ex, tv] 33) (.cells #[.int .i64 0, .int .i64 0, .slice none 0 0] 78))
  have hsz : ((w.alloc (.cells #[.int .i64 up, .int .i64 ex, tv] 33)).alloc (.cells #[.int .i64 0, .int .i64 0, .slice none 0 0] 78)).heap.size = w.heap.size + 1 + 1 := by simp
  have HSZ := hid' hsz
  clear hT hsz
  subst htv
  generalize hk : ls.length = k at *
  go_enter Tryz.func43, Tryz.ntmps43
  go_wp2_with (first
    | (at_make; refine wpList_make_full _ rfl _ _ 76 rfl (w.heap.size + 1 + 1) 84 i0 (.agg #[.int .i64 0, .int .i64 0]) 2 Tryz.underlying76 hi0 hz0 hz1 .i64 .i64 _ _ (k + 2) rfl rfl (by simp) (by simp) (by rw [hz2]; omega) (by unfold maxLen; omega) (by rw [HSZ.out]; exact Nat.le_refl _) ?_; intro W hown hgr; have HOWN := hid' hown; have HGR := hid' hgr; clear hown hgr))
  have hH : ∃ cs, Hand W (w.heap.size + 1 + 1) k ls 0 cs := by
    rcases HOWN.out.2 with ⟨h, _⟩ | ⟨g, cap, cur, h, _, hh, _, _, hcs, _⟩
    · cases h
    · cases h
      rw [HSZ.out] at hh
      exact ⟨cur, hh, hcs, fun i hi _ => by omega⟩
  have RW1 := hid' ((HGR.out.block _ (lt_of_heap R1.out) (by simp)).trans R1.out)
  have RW2 := hid' ((HGR.out.block _ (lt_of_heap R2.out) (by simp)).trans R2.out)
  have BW := hid' (B1.out.grown HGR.out (by rw [HSZ.out]; omega) (fun k hk => by cases hk))
  have HHH := hid' hH
  clear hH HOWN HGR R1 R2 B1 HSZ hi0 hz0 hz1 hz2
  go_loopw [5] (fun i wr => ∃ (j : Nat) (cs : Array Value), j ≤ k ∧ i = .int .i64 j ∧ Hand wr (w.heap.size + 1 + 1) k ls j cs ∧ wr.heap[w.heap.size]? = some (.cells #[.int .i64 up, .int .i64 ex, .slice ta k tc] 33 (0, 0)) ∧ wr.heap[w.heap.size + 1]? = some (.cells #[.int .i64 0, .int .i64 0, .slice none 0 0] 78 (0, 0)) ∧ Below w.heap.size w wr) (fun i _ => k - (intOf i).toNat)
  case atStart =>
    obtain ⟨cs, h⟩ := HHH.out
    exact ⟨0, cs, by omega, rfl, h, RW1.out, RW2.out, BW.out⟩
  case round =>
    clear HHH RW1 RW2 BW
    obtain ⟨j, cs, hj, rfl, hh, r1, r2, bw⟩ := hrel
    have q0 := cell_of_row _ _ 0 _ _ _ r1
    have q1 := cell_of_row _ _ 1 _ _ _ r1
    have q2 := cell_of_row _ _ 2 _ _ _ r1
    simp at q0 q1 q2
    by_cases hlt : j < k
    · obtain ⟨gt, tcap, htv, htc, hgl, hli⟩ : ∃ g cap, Value.slice ta k tc = .slice (some ⟨g, 0, none⟩) ls.length cap ∧ ls.length ≤ cap ∧ g < w.heap.size ∧ Lies w g ls := by
        rcases HT.out with ⟨e, _⟩ | ⟨_, g, cap, e, a, b, c⟩
        · subst e; simp at hk; omega
        · exact ⟨g, cap, e, a, b, c⟩
      rw [hk] at htv
      obtain ⟨rfl, _, rfl⟩ := Value.slice.inj htv
      have hjl : j < ls.length := by omega
      have c0 := (bw.cell (p := ⟨gt, j * 2, none⟩) hgl).trans (hli j hjl).1
      have c1 := (bw.cell (p := ⟨gt, j * 2 + 1, none⟩) hgl).trans (hli j hjl).2
      obtain ⟨o0, p0⟩ := hh.cell (j * 2) (by omega)
      obtain ⟨o1, p1⟩ := hh.cell (j * 2 + 1) (by omega)
      have f0 := hh.free (j * 2)
      have f1 := hh.free (j * 2 + 1)
      have HPUT := hid' (hh.put hlt hjl)
      have hle : w.heap.size ≤ w.heap.size + 1 + 1 := by omega
      have bw2 := (bw.setCell (p := ⟨w.heap.size + 1 + 1, j * 2, none⟩) hle (.int .i64 ls[j].1)).setCell (p := ⟨w.heap.size + 1 + 1, j * 2 + 1, none⟩) hle (.int .i64 ls[j].2)
      have k1 := (bw2.cell (p := ⟨gt, j * 2, none⟩) hgl).trans (hli j hjl).1
      have k2 := (bw2.cell (p := ⟨gt, j * 2 + 1, none⟩) hgl).trans (hli j hjl).2
      have rr1 : ((wr.setCell ⟨w.heap.size + 1 + 1, j * 2, none⟩ (.int .i64 ls[j].1)).setCell ⟨w.heap.size + 1 + 1, j * 2 + 1, none⟩ (.int .i64 ls[j].2)).heap[w.heap.size]? = _ := (heap_setCell_other _ _ _ _ (by simp; try omega)).trans ((heap_setCell_other _ _ _ _ (by simp; try omega)).trans r1)
      have rr2 : ((wr.setCell ⟨w.heap.size + 1 + 1, j * 2, none⟩ (.int .i64 ls[j].1)).setCell ⟨w.heap.size + 1 + 1, j * 2 + 1, none⟩ (.int .i64 ls[j].2)).heap[w.heap.size + 1]? = _ := (heap_setCell_other _ _ _ _ (by simp; try omega)).trans ((heap_setCell_other _ _ _ _ (by simp; try omega)).trans r2)
      have k0 := cell_of_row _ _ 2 _ _ _ rr1
      simp at k0
      have R1 := hid' rr1
      have R2 := hid' rr2
      have BW := hid' bw2
      have ne1 : ¬ gt = w.heap.size + 1 + 1 := by omega
      have ne2 : ¬ w.heap.size = w.heap.size + 1 + 1 := by omega
      have z0 : (0 : Int) ≤ (j : Int) := by omega
      have z1 : (j : Int) < (k : Int) := by omega
      have z2 : (j : Int) < (k : Int) + 2 := by omega
      clear htv hli hh r1 r2 bw HT hle bw2 rr1 rr2
      generalize ls[j] = p at *
      obtain ⟨pa, po⟩ := p
      simp only at c0 c1 k0 k1 k2
      clear hjl
      go_wp2_with fail
      go_region_held3 (fun w' => w'.cell? ⟨w.heap.size, 2, none⟩ = some (.slice (some ⟨gt, 0, none⟩) k tc) ∧ w'.cell? ⟨gt, j * 2, none⟩ = some (.int .i64 pa) ∧ w'.cell? ⟨gt, j * 2 + 1, none⟩ = some (.int .i64 po)) (go_keep) (fail)
      all_goals
        go_wp2
        go_roundw
        case rel =>
          obtain ⟨cs', h'⟩ := HPUT.out
          exact ⟨j + 1, cs', by omega, by go_num, ⟨h'.row, h'.size, h'.fill⟩, R1.out, R2.out, BW.out.drew⟩
        case measure => simp [intOf]; omega
    · have ej : j = k := by omega
      have hnl : ¬ (j : Int) < (k : Int) := by omega
      obtain ⟨o0, p0⟩ := hh.cell (k * 2) (by omega)
      obtain ⟨o1, p1⟩ := hh.cell (k * 2 + 1) (by omega)
      obtain ⟨o2, p2⟩ := hh.cell ((k + 1) * 2) (by omega)
      obtain ⟨o3, p3⟩ := hh.cell ((k + 1) * 2 + 1) (by omega)
      have f0 := hh.free (k * 2)
      have f1 := hh.free (k * 2 + 1)
      have f2 := hh.free ((k + 1) * 2)
      have f3 := hh.free ((k + 1) * 2 + 1)
      have HE : Hid (∃ cs', ((((wr.setCell ⟨w.heap.size + 1 + 1, k * 2, none⟩ (.int .i64 (-7))).setCell ⟨w.heap.size + 1 + 1, k * 2 + 1, none⟩ (.int .i64 0)).setCell ⟨w.heap.size + 1 + 1, (k + 1) * 2, none⟩ (.int .i64 (-7))).setCell ⟨w.heap.size + 1 + 1, (k + 1) * 2 + 1, none⟩ (.int .i64 0)).heap[w.heap.size + 1 + 1]? = some (.cells cs' 84 (0, 0)) ∧ cs'.size = (k + 2) * 2 ∧ (∀ i (_ : i < k) (h : i < ls.length), cs'[i * 2]? = some (.int .i64 ls[i].1) ∧ cs'[i * 2 + 1]? = some (.int .i64 ls[i].2)) ∧ cs'[k * 2]? = some (.int .i64 (-7)) ∧ cs'[(k + 1) * 2]? = some (.int .i64 (-7))) := by
        have e1 := heap_setCell_same _ (w.heap.size + 1 + 1) (k * 2) _ _ (.int .i64 (-7)) hh.row
        have e2 := heap_setCell_same _ (w.heap.size + 1 + 1) (k * 2 + 1) _ _ (.int .i64 0) e1
        have e3 := heap_setCell_same _ (w.heap.size + 1 + 1) ((k + 1) * 2) _ _ (.int .i64 (-7)) e2
        have e4 := heap_setCell_same _ (w.heap.size + 1 + 1) ((k + 1) * 2 + 1) _ _ (.int .i64 0) e3
        have hz := hh.size
        refine ⟨_, e4, by simp [hz], fun i hi hil => ?_, ?_, ?_⟩
        · have := hh.fill i (by omega) hil
          exact ⟨by rw [set_other (by omega), set_other (by omega), set_other (by omega), set_other (by omega)]; exact this.1, by rw [set_other (by omega), set_other (by omega), set_other (by omega), set_other (by omega)]; exact this.2⟩
        · rw [set_other (by omega), set_other (by omega), set_other (by omega), set_same (by omega)]
        · rw [set_other (by omega), set_same (by simp; omega)]
      have hx1 : ((((wr.setCell ⟨w.heap.size + 1 + 1, k * 2, none⟩ (.int .i64 (-7))).setCell ⟨w.heap.size + 1 + 1, k * 2 + 1, none⟩ (.int .i64 0)).setCell ⟨w.heap.size + 1 + 1, (k + 1) * 2, none⟩ (.int .i64 (-7))).setCell ⟨w.heap.size + 1 + 1, (k + 1) * 2 + 1, none⟩ (.int .i64 0)).heap[w.heap.size]? = _ :=
        (heap_setCell_other _ _ _ _ (by simp; try omega)).trans ((heap_setCell_other _ _ _ _ (by simp; try omega)).trans ((heap_setCell_other _ _ _ _ (by simp; try omega)).trans ((heap_setCell_other _ _ _ _ (by simp; try omega)).trans r1)))
      have hx2 : ((((wr.setCell ⟨w.heap.size + 1 + 1, k * 2, none⟩ (.int .i64 (-7))).setCell ⟨w.heap.size + 1 + 1, k * 2 + 1, none⟩ (.int .i64 0)).setCell ⟨w.heap.size + 1 + 1, (k + 1) * 2, none⟩ (.int .i64 (-7))).setCell ⟨w.heap.size + 1 + 1, (k + 1) * 2 + 1, none⟩ (.int .i64 0)).heap[w.heap.size + 1]? = _ :=
        (heap_setCell_other _ _ _ _ (by simp; try omega)).trans ((heap_setCell_other _ _ _ _ (by simp; try omega)).trans ((heap_setCell_other _ _ _ _ (by simp; try omega)).trans ((heap_setCell_other _ _ _ _ (by simp; try omega)).trans r2)))
      have hle : w.heap.size ≤ w.heap.size + 1 + 1 := by omega
      have hx3 := (((bw.setCell (p := ⟨w.heap.size + 1 + 1, k * 2, none⟩) hle (.int .i64 (-7))).setCell (p := ⟨w.heap.size + 1 + 1, k * 2 + 1, none⟩) hle (.int .i64 0)).setCell (p := ⟨w.heap.size + 1 + 1, (k + 1) * 2, none⟩) hle (.int .i64 (-7))).setCell (p := ⟨w.heap.size + 1 + 1, (k + 1) * 2 + 1, none⟩) hle (.int .i64 0)
      have X1 := hid' hx1
      have X2 := hid' hx2
      have X3 := hid' hx3
      clear hx1 hx2 hx3 hle hh r1 r2 bw ej HT
      go_upto_region 9 with fail
      generalize (((wr.setCell ⟨w.heap.size + 1 + 1, k * 2, none⟩ (.int .i64 (-7))).setCell ⟨w.heap.size + 1 + 1, k * 2 + 1, none⟩ (.int .i64 0)).setCell ⟨w.heap.size + 1 + 1, (k + 1) * 2, none⟩ (.int .i64 (-7))).setCell ⟨w.heap.size + 1 + 1, (k + 1) * 2 + 1, none⟩ (.int .i64 0) = V at *
      clear q0 q1 q2 p0 p1 p2 p3 f0 f1 f2 f3
      have q0 := cell_of_row _ _ 0 _ _ _ X1.out
      have q1 := cell_of_row _ _ 1 _ _ _ X1.out
      have y0 := cell_of_row _ _ 0 _ _ _ X2.out
      have y1 := cell_of_row _ _ 1 _ _ _ X2.out
      have y2 := cell_of_row _ _ 2 _ _ _ X2.out
      simp at q0 q1 y0 y1 y2
      have x0 := frozen_of_row _ _ 0 _ _ X2.out
      have x1 := frozen_of_row _ _ 1 _ _ X2.out
      have x2 := frozen_of_row _ _ 2 _ _ X2.out
      have hsl := fun W => head_run (w.heap.size + 1 + 1) (k + 2) (k + 2) k (by omega) W
      go_region
      all_goals
        go_wp2
        have rowE := zero3_row (x := .int .i64 up) (y := .int .i64 ex) (z := .slice (some ⟨w.heap.size + 1 + 1, 0, none⟩) k (k + 2)) X2.out
        refine bodyPost_ret (results_cell_row rfl _ _ (w.heap.size + 1) 78 #[.int .i64 up, .int .i64 ex, .slice (some ⟨w.heap.size + 1 + 1, 0, none⟩) k (k + 2)] (0, 0) _ rfl rowE Tryz.underlying78 rfl (by kernel_rfl)) rfl ?_
        refine ⟨w.heap.size + 1 + 1, by omega, by rw [hk], ?_, (below3 X3.out (by omega)).drew⟩
        obtain ⟨cs', e1, e2, e3, e4, e5⟩ := HE.out
        refine ⟨cs', ⟨?_, by rw [hk]; exact e2, fun i hi hl => e3 i (by omega) hl⟩, by rw [hk]; exact e4, by rw [hk]; exact e5⟩
        exact (heap_setCell_other _ _ _ _ (by simp)).trans ((heap_setCell_other _ _ _ _ (by simp)).trans ((heap_setCell_other _ _ _ _ (by simp)).trans e1))

end Go.Proofs.YtmmkhodaljpjgaaGreatDoor

/-! The law's still. -/
namespace Go.Proofs.YtmmkhodaljpjgaaGreatDoor
open Go.RowKit

set_option maxRecDepth 100000 in
set_option maxHeartbeats 3200000 in
theorem still_yes (B g : Nat) (up ex : Int) (tv : Value) (ls : List (Int × Int)) (w : World) (hg : B ≤ g) (hH : Handed w g ls) (hT : Held w tv ls) (hn : ls.length ≤ 100000) :
    Calls Tryz.prog 45 #[.agg #[.int .i64 up, .int .i64 ex, .slice (some ⟨g, 0, none⟩) ls.length (ls.length + 2)], .agg #[.int .i64 up, .int .i64 ex, tv]] w fun e w' => e = .returned (.bool true) ∧ Below B w w' := by
  obtain ⟨ta, tc, rfl⟩ : ∃ ao c, tv = .slice ao ls.length c := by
    rcases hT with ⟨rfl, ao, c, rfl⟩ | ⟨_, g, c, rfl, _⟩
    · exact ⟨_, _, rfl⟩
    · exact ⟨_, _, rfl⟩
  have hgl : g < w.heap.size := by obtain ⟨cs, hh, _⟩ := hH; exact lt_of_heap hh.row
  have B1 := hid' (((Below.refl w.heap.size w).alloc (Nat.le_refl _) (.cells #[.int .i64 up, .int .i64 ex, .slice (some ⟨g, 0, none⟩) ls.length (ls.length + 2)] 78)).alloc (by simp) (.cells #[.int .i64 up, .int .i64 ex, .slice ta ls.length tc] 33))
  have R1 := hid' (heap_alloc2_old w (.cells #[.int .i64 up, .int .i64 ex, .slice (some ⟨g, 0, none⟩) ls.length (ls.length + 2)] 78) (.cells #[.int .i64 up, .int .i64 ex, .slice ta ls.length tc] 33))
  have R2 := hid' (heap_alloc2_new w (.cells #[.int .i64 up, .int .i64 ex, .slice (some ⟨g, 0, none⟩) ls.length (ls.length + 2)] 78) (.cells #[.int .i64 up, .int .i64 ex, .slice ta ls.length tc] 33))
  have HSM := hid' (same_yes up ex _ _ ls _ (hH.held.below B1.out) (hT.below B1.out) hn)
  have HH := hid' (hH.below B1.out)
  clear hH hT
  generalize hk : ls.length = k at *
  go_enter Tryz.func45, Tryz.ntmps45
  go_wp2_with fail
  refine HSM.out.mono ?_
  rintro e W ⟨rfl, hb⟩
  obtain ⟨cs, hh, s1, s2⟩ := HH.out.below hb
  rw [hk] at hh s1 s2
  have r1 := (hb.block _ (lt_of_heap R1.out)).trans R1.out
  have bw := hid' (B1.out.trans (hb.mono B1.out.size))
  have q2 := cell_of_row _ _ 2 _ _ _ r1
  simp at q2
  have c0 : W.cell? ⟨g, k * 2, none⟩ = some (.int .i64 (-7)) := by rw [cell_of_row _ _ _ _ _ _ hh.row]; exact s1
  have c1 : W.cell? ⟨g, (k + 1) * 2, none⟩ = some (.int .i64 (-7)) := by rw [cell_of_row _ _ _ _ _ _ hh.row]; exact s2
  have HROW := hid' (⟨cs, hh.row, hh.size⟩ : ∃ cs, W.heap[g]? = some (.cells cs 84 (0, 0)) ∧ cs.size = (k + 2) * 2)
  have hsl := fun V => head_run g k (k + 2) (k + 2) (by omega) V
  have hk2 : (((k + 2 : Nat) : Int)) = (k : Int) + 2 := by omega
  rw [hk2] at hsl
  have BW := hid' (show Below B w W from bw.out.mono (by omega))
  clear hh s1 s2 r1 hb HH HSM R1 R2 B1 hk2 bw
  go_wp2_with fail
  go_loopw [9] (fun i wr => ∃ (j : Nat) (cs : Array Value), j ≤ k ∧ i = .int .i64 j ∧ wr.heap[g]? = some (.cells cs 84 (0, 0)) ∧ cs.size = (k + 2) * 2 ∧ Below B w wr) (fun i _ => k - (intOf i).toNat)
  case atStart =>
    obtain ⟨cs, h, hz⟩ := HROW.out
    exact ⟨0, cs, by omega, rfl, h, hz, BW.out⟩
  case round =>
    clear HROW BW c0 c1 q2
    obtain ⟨j, cs, hj, rfl, hrow, hz, hb⟩ := hrel
    by_cases hlt : j < k
    · obtain ⟨o0, p0⟩ : ∃ v, wr.cell? ⟨g, j * 2, none⟩ = some v := by rw [cell_of_row _ _ (j * 2) _ _ _ hrow, Array.getElem?_eq_getElem (by omega)]; exact ⟨_, rfl⟩
      obtain ⟨o1, p1⟩ : ∃ v, wr.cell? ⟨g, j * 2 + 1, none⟩ = some v := by rw [cell_of_row _ _ (j * 2 + 1) _ _ _ hrow, Array.getElem?_eq_getElem (by omega)]; exact ⟨_, rfl⟩
      have f0 := frozen_of_row _ _ (j * 2) _ _ hrow
      have f1 := frozen_of_row _ _ (j * 2 + 1) _ _ hrow
      have e1 := heap_setCell_same _ g (j * 2) _ _ (.int .i64 (-7)) hrow
      have e2 := hid' (heap_setCell_same _ g (j * 2 + 1) _ _ (.int .i64 0) e1)
      have hb2 := hid' ((hb.setCell (p := ⟨g, j * 2, none⟩) hg (.int .i64 (-7))).setCell (p := ⟨g, j * 2 + 1, none⟩) hg (.int .i64 0))
      have HZ := hid' hz
      clear hrow e1 hb hz
      go_wp2
      go_roundw
      case rel => exact ⟨j + 1, _, by omega, by go_num, e2.out, by simp [HZ.out], hb2.out⟩
      case measure => simp [intOf]; omega
    · have hnl : ¬ (j : Int) < (k : Int) := by omega
      have HB := hid' hb
      clear hrow hb
      go_wp2
      go_ret
      exact ⟨rfl, HB.out⟩

end Go.Proofs.YtmmkhodaljpjgaaGreatDoor
