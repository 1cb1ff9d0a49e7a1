import Derived.Test.YtmmkhodaljpjgaaDoorFile7
import Derived.Deep.RegionHeld3
namespace Go.Proofs.YtmmkhodaljpjgaaDoor
open Go.RowKit

theorem held_of {w : World} {B : Nat} {lv : Value} {ls : List (Int × Int)} (h : w.ownsRow B 40 2 lv ls.length (flat ls)) : Held w lv ls := by
  by_cases h0 : 0 < ls.length
  · obtain ⟨g, cap, rfl⟩ := own_some h h0
    refine .inr ⟨h0, g, cap, rfl, ?_, (h.lt _ rfl).2, lies_api h⟩
    rcases h.2 with ⟨h, _⟩ | ⟨g', cap', cur, h, _, _, h2, _⟩
    · cases h
    · cases h; exact h2
  · have e : ls = [] := List.eq_nil_of_length_eq_zero (by omega)
    subst e
    rcases h.2 with ⟨rfl, _⟩ | ⟨g, cap, cur, rfl, _⟩
    · exact .inl ⟨rfl, _, _, rfl⟩
    · exact .inl ⟨rfl, _, _, rfl⟩

set_option maxRecDepth 100000 in
set_option maxHeartbeats 6400000 in
theorem finish_full (bR : Nat) (st : Txt.St) (w : World) (n : Nat) (hR : Rd w bR st) (hO : Txt.Ok st n) (hn : n ≤ 100000) (hT : Table w) (hu : ¬ st.u = Txt.em) (hx : ¬ st.x = Txt.em) (hh : ¬ st.h = Txt.em) (hls : ¬ st.ls.length = 0) :
    Calls Tryd.prog 25 #[.pointer (some ⟨bR, 0, none⟩)] w fun e w' => FinSaid w bR (Txt.done st) e w' := by
  have nu : Txt.isNum st.u = true := by rcases hO.u with h | h; exact absurd h hu; exact h
  have nx : Txt.isNum st.x = true := by rcases hO.x with h | h; exact absurd h hx; exact h
  have lu := Txt.numTo_le nu
  have lx := Txt.numTo_le nx
  have h6 : ¬ (st.u = Txt.em ∨ st.x = Txt.em ∨ st.h = Txt.em ∨ st.ls.length = 0) := fun h => by
    rcases h with h | h | h | h
    · exact hu h
    · exact hx h
    · exact hh h
    · exact hls h
  have HV := hid' (fun W => value_of st.u W nu)
  have HX := hid' (fun W => value_of st.x W nx)
  have HWH := hid' (fun W (lv : Value) (h : Held W lv st.ls) => is_table lv st.ls _ _ W (wf_small lu.1 lu.2) (wf_small lx.1 lx.2) h (by have := hO.len; omega) hO.wf)
  have hdg := hO.dg
  have HOF := hid' (fun W (h : Table W) => of_any st.dg W (by omega) h)
  have HF8 : Hid (Tab.whole (Txt.numTo st.u st.u.size) (Txt.numTo st.x st.x.size) st.ls = false → Txt.done st = ⟨0, 0, [], 8, 0⟩) := fun h => done_no (by unfold Txt.fin; rw [if_neg h6, if_pos h]) (by decide)
  have HF7 : Hid (Tab.whole (Txt.numTo st.u st.u.size) (Txt.numTo st.x st.x.size) st.ls = true → ¬ ByteArray.mk (Sha.digest st.dg).toArray = st.h → Txt.done st = ⟨0, 0, [], 7, 0⟩) := fun h h' => done_no (by unfold Txt.fin; rw [if_neg h6, if_neg (by rw [h]; decide), if_pos h']) (by decide)
  have HF0 : Hid (Tab.whole (Txt.numTo st.u st.u.size) (Txt.numTo st.x st.x.size) st.ls = true → ByteArray.mk (Sha.digest st.dg).toArray = st.h → Txt.done st = ⟨Txt.numTo st.u st.u.size, Txt.numTo st.x st.x.size, st.ls, 0, 0⟩) := fun h h' => done_yes (by unfold Txt.fin; rw [if_neg h6, if_neg (by rw [h]; decide), if_neg (by simpa using h')])
  obtain ⟨lv, hrow, hown⟩ := hR
  have hbR := lt_of_heap hrow
  obtain ⟨g, cap, rfl⟩ := own_some hown (by omega)
  have RN := hid' (heap_alloc_new w (.cells #[.int .i64 0, .int .i64 0, .slice none 0 0] 28))
  have BN := hid' ((Below.refl w.heap.size w).alloc (Nat.le_refl _) (.cells #[.int .i64 0, .int .i64 0, .slice none 0 0] 28))
  have RR := hid' ((BN.out.block _ hbR).trans hrow)
  have OO := hid' (own_down hown BN.out)
  have TT := hid' (hT.below BN.out)
  have hz : (w.alloc (.cells #[.int .i64 0, .int .i64 0, .slice none 0 0] 28)).heap.size = w.heap.size + 1 := by simp
  have hl0 : ((st.ls.length : Int) == 0) = false := by rw [beq_eq_false_iff_ne]; omega
  have c0 := cell_of_row _ _ 0 _ _ _ hrow
  have c1 := cell_of_row _ _ 1 _ _ _ hrow
  have c2 := cell_of_row _ _ 2 _ _ _ hrow
  have c3 := cell_of_row _ _ 3 _ _ _ hrow
  have c4 := cell_of_row _ _ 4 _ _ _ hrow
  simp at c0 c1 c2 c3 c4
  have e0 := em_test hu
  have e1 := em_test hx
  have e2 := em_test hh
  clear hrow hown hO hT h6 hls hu hx hh nu nx
  generalize Txt.numTo st.u st.u.size = vu at *
  generalize Txt.numTo st.x st.x.size = vx at *
  generalize ByteArray.mk (Sha.digest st.dg).toArray = D at *
  generalize hk : st.ls.length = k at *
  generalize hsu : st.u = su at *
  generalize hsx : st.x = sx at *
  generalize hsh : st.h = sh at *
  generalize hsd : st.dg = sd at *
  go_enter Tryd.func25, Tryd.ntmps25
  go_upto_region 3 with fail
  generalize hV : w.alloc (.cells #[.int .i64 0, .int .i64 0, .slice none 0 0] 28) = V at *
  have d0 := cell_of_row _ _ 0 _ _ _ RR.out
  have d1 := cell_of_row _ _ 1 _ _ _ RR.out
  have d2 := cell_of_row _ _ 2 _ _ _ RR.out
  have d3 := cell_of_row _ _ 3 _ _ _ RR.out
  have d4 := cell_of_row _ _ 4 _ _ _ RR.out
  simp at d0 d1 d2 d3 d4
  clear hV c0 c1 c2 c3 c4
  go_cut [4] from 5 (fun s4 wx => s4 = .pointer (some ⟨w.heap.size + 1, 0, none⟩) ∧ Below V.heap.size V wx ∧ wx.heap[w.heap.size + 1]? = some (.cells #[.int .i64 vu, .int .i64 vx, .slice (some ⟨g, 0, none⟩) k cap] 28 (0, 0)))
  case first =>
    clear HWH HOF HF8 HF7 HF0 RN BN RR OO TT d2 d4 e0 e1 e2 hl0 hdg lu lx
    go_region_held3 (fun w' => w'.cell? ⟨bR, 0, none⟩ = some (.string su) ∧ w'.cell? ⟨bR, 1, none⟩ = some (.string sx) ∧ w'.cell? ⟨bR, 3, none⟩ = some (.slice (some ⟨g, 0, none⟩) k cap)) (go_keep)
      (first
        | (go_at_call_of 38 (Value.string su); refine (HV.out _).mono ?_; rintro e w3 ⟨rfl, rfl⟩)
        | (go_at_call_of 38 (Value.string sx); refine (HX.out _).mono ?_; rintro e w3 ⟨rfl, rfl⟩))
    all_goals
      go_wp2_with fail
      go_meet
      case rel => exact ⟨rfl, ((Below.refl _ _).alloc (Nat.le_refl _) _).drew, by rw [← hz]; exact heap_alloc_new _ _⟩
  case rest =>
    obtain ⟨rfl, bel3, row3⟩ := hcut
    rename World => W1
    have BE1 := hid' (BN.out.trans (bel3.mono (by omega)))
    have RR1 := hid' ((bel3.block _ (lt_of_heap RR.out)).trans RR.out)
    have OO1 := hid' (own_down OO.out bel3)
    have TT1 := hid' (TT.out.below bel3)
    have RN1 := hid' ((bel3.block _ (lt_of_heap RN.out)).trans RN.out)
    have k0 := cell_of_row _ _ 0 _ _ _ row3
    have k1 := cell_of_row _ _ 1 _ _ _ row3
    have k2 := cell_of_row _ _ 2 _ _ _ row3
    simp at k0 k1 k2
    have HR3 := hid' row3
    have HWH1 := hid' (HWH.out W1 (.slice (some ⟨g, 0, none⟩) k cap) (by have := held_of (ls := st.ls) (by rw [hk]; exact OO1.out); exact this))
    clear bel3 row3 d0 d1 d2 d3 d4 HV HX RR OO TT RN BN HWH
    cases hwh : Tab.whole vu vx st.ls with
    | false =>
      rw [hwh] at HWH1
      have HD := hid' (HF8.out hwh)
      clear hwh
      go_wp2_with fail
      refine HWH1.out.mono ?_
      rintro e w4 ⟨rfl, hb4⟩
      have rn4 := (hb4.block _ (lt_of_heap RN1.out)).trans RN1.out
      have y0 := cell_of_row _ _ 0 _ _ _ rn4
      have y1 := cell_of_row _ _ 1 _ _ _ rn4
      have y2 := cell_of_row _ _ 2 _ _ _ rn4
      simp at y0 y1 y2
      have x0 := frozen_of_row _ _ 0 _ _ rn4
      have x1 := frozen_of_row _ _ 1 _ _ rn4
      have x2 := frozen_of_row _ _ 2 _ _ rn4
      have RN4 := hid' rn4
      have BE4 := hid' (BE1.out.trans (hb4.mono BE1.out.size))
      clear rn4 hb4 k0 k1 k2
      go_wp2
      refine bodyPost_ret (results_row_tmp (p := 2) (u := 3) rfl _ _ w.heap.size #[.int .i64 0, .int .i64 0, .slice none 0 0] rfl (load_table (zero3_row RN4.out) rfl)) rfl ?_
      rw [HD.out]
      exact ⟨.slice none 0 0, rfl, World.ownsRow_nil _ _ _ _, below3 BE4.out (Nat.le_refl _)⟩
    | true =>
      rw [hwh] at HWH1
      have HF7' := hid' (HF7.out hwh)
      have HF0' := hid' (HF0.out hwh)
      clear hwh HF7 HF0 HF8
      go_wp2_with fail
      refine HWH1.out.mono ?_
      rintro e W2 ⟨rfl, hb4⟩
      have RN2 := hid' ((hb4.block _ (lt_of_heap RN1.out)).trans RN1.out)
      have RR2 := hid' ((hb4.block _ (lt_of_heap RR1.out)).trans RR1.out)
      have R32 := hid' ((hb4.block _ (lt_of_heap HR3.out)).trans HR3.out)
      have OO2 := hid' (own_down OO1.out hb4)
      have TT2 := hid' (TT1.out.below hb4)
      have BE2 := hid' (BE1.out.trans (hb4.mono BE1.out.size))
      have m2 := cell_of_row _ _ 2 _ _ _ RR2.out
      have m4 := cell_of_row _ _ 4 _ _ _ RR2.out
      simp at m2 m4
      clear hb4 k0 k1 k2 RN1 RR1 OO1 TT1 BE1 HR3 HWH1
      go_upto_region 6 with fail
      go_cut [61] from 5 (fun s61 wx => s61 = .bool (decide (¬ D = sh)) ∧ Below W2.heap.size W2 wx)
      case first =>
        have hbR2 := lt_of_heap RR2.out
        clear HF7' HF0' RN2 RR2 R32 OO2 BE2 e0 e1 e2 hl0 lu lx
        go_region_held3 (fun w' => w'.cell? ⟨bR, 2, none⟩ = some (.string sh) ∧ w'.cell? ⟨bR, 4, none⟩ = some (.string sd)) (go_keep)
          (first
            | (go_at_call 11; refine (HOF.out _ (by exact TT2.out.below (Below.refl _ W2).drew)).mono ?_; rintro e w3 ⟨rfl, hb⟩; have n2 := (hb.cell (p := ⟨bR, 2, none⟩) (by exact hbR2)).trans m2; have n4 := (hb.cell (p := ⟨bR, 4, none⟩) (by exact hbR2)).trans m4; have HB := hid' hb; clear hb))
        all_goals
          go_wp2_with fail
          go_meet
          case rel => exact ⟨by rw [str_eq]; simp, (Below.refl _ W2).drew.trans HB.out⟩
      case rest =>
        obtain ⟨rfl, bel6⟩ := hcut
        rename World => W3
        have rn := (bel6.block _ (lt_of_heap RN2.out)).trans RN2.out
        have r3 := (bel6.block _ (lt_of_heap R32.out)).trans R32.out
        have OO3 := hid' (own_down OO2.out bel6)
        have BE3 := hid' (BE2.out.trans (bel6.mono BE2.out.size))
        have y0 := cell_of_row _ _ 0 _ _ _ rn
        have y1 := cell_of_row _ _ 1 _ _ _ rn
        have y2 := cell_of_row _ _ 2 _ _ _ rn
        simp at y0 y1 y2
        have x0 := frozen_of_row _ _ 0 _ _ rn
        have x1 := frozen_of_row _ _ 1 _ _ rn
        have x2 := frozen_of_row _ _ 2 _ _ rn
        have k0 := cell_of_row _ _ 0 _ _ _ r3
        have k1 := cell_of_row _ _ 1 _ _ _ r3
        have k2 := cell_of_row _ _ 2 _ _ _ r3
        simp at k0 k1 k2
        have RN3 := hid' rn
        clear rn r3 bel6 m2 m4 RN2 RR2 R32 OO2 TT2 BE2
        by_cases hD : D = sh
        · have hDd : decide (¬ D = sh) = false := by simp [hD]
          have HD := hid' (HF0'.out hD)
          rw [hDd]
          clear hD hDd
          go_wp2
          refine bodyPost_ret (results_row_tmp (p := 2) (u := 3) rfl _ _ w.heap.size #[.int .i64 vu, .int .i64 vx, .slice (some ⟨g, 0, none⟩) k cap] rfl (load_table (zero3_row RN3.out) rfl)) rfl ?_
          rw [HD.out]
          refine ⟨.slice (some ⟨g, 0, none⟩) k cap, rfl, ?_, below3 BE3.out (Nat.le_refl _)⟩
          have := own3 (x := .int .i64 vu) (y := .int .i64 vx) (z := .slice (some ⟨g, 0, none⟩) k cap) RN3.out OO3.out (by decide)
          simp only [hk]
          exact this
        · have hDd : decide (¬ D = sh) = true := by simp [hD]
          have HD := hid' (HF7'.out hD)
          rw [hDd]
          clear hD hDd
          go_wp2
          refine bodyPost_ret (results_row_tmp (p := 2) (u := 3) rfl _ _ w.heap.size #[.int .i64 0, .int .i64 0, .slice none 0 0] rfl (load_table (zero3_row RN3.out) rfl)) rfl ?_
          rw [HD.out]
          exact ⟨.slice none 0 0, rfl, World.ownsRow_nil _ _ _ _, below3 BE3.out (Nat.le_refl _)⟩

end Go.Proofs.YtmmkhodaljpjgaaDoor
