import Derived.Test.YtmmkhodaljpjgaaGreatDoorW18
import Derived.Test.YtmmkhodaljpjgaaGreatDoorW07
import Derived.Deep.Cut
import Derived.Deep.CutBlock
import Derived.Deep.CutRange
namespace Go.Proofs.YtmmkhodaljpjgaaGreatDoor
open Go.RowKit
attribute [local go_sem ↓] Go.wp_at_zero Go.wp_at_succ
/-- The entry by which the Offset changes at the month's end. -/
def Sv.chg (s : Sv) (c : Int) : (Int × Int) × Bool := if 0 < s.atN ∧ Tab.follows s.done s.atN (s.old + c) = true then ((s.atN, s.old + c), true) else ((0, 0), false)
theorem load_pleap {w : World} {g : Nat} {cs : Array Value} (hg : w.heap[g]? = some (.cells cs 84 (0, 0))) (hs : cs.size = 2) : (loadVar 84 ⟨g, 0, none⟩).run Tryz.prog w = .ok (.agg cs) w :=
  run_loadVar_row (P := Tryz.prog) w g 84 84 cs (0, 0) _ hg Tryz.underlying84 rfl (by rw [hs]; kernel_rfl)
theorem nextOf_day {y m n : Int} (h : Cal.In y m n) : nextOf y m = -1 ∨ (nextOf y m / 86400 * 86400 = nextOf y m ∧ 0 < nextOf y m ∧ nextOf y m ≤ 34712668800) := by
  have := h.y1
  have := h.y2
  have := h.m1
  have := h.m2
  have ys := Cal.yb_succ y
  unfold nextOf
  split
  · split
    · exact .inl rfl
    · right
      have a := Cal.yb_bd (y + 1) (by omega) (by omega)
      have b := Cal.cum_bd (y + 1) 1 (by omega) (by omega)
      have c := Cal.cum_one (y + 1)
      have d := Cal.yb_mono 1901 (y + 1) (by omega)
      have e := Cal.yb_mono (y + 1) 2999 (by omega)
      have f : Cal.yb 1901 = 365 := by decide
      have g : Cal.yb 2999 = 401402 := by decide
      omega
  · right
    have a := Cal.yb_bd y (by omega) (by omega)
    have b := Cal.cum_mono y 2 (m + 1) (by omega)
    have c := Cal.cum_succ y 1 (by omega) (by omega)
    rw [show (1 : Int) + 1 = 2 from rfl] at c
    have d := Cal.cum_one y
    have e := Cal.dim_bd y 1
    have f := Cal.yb_mono y 2999 (by omega)
    have g : Cal.yb 2999 = 401402 := by decide
    have k := Cal.cum_mono y (m + 1) 12 (by omega)
    have l := Cal.cum_succ y 12 (by omega) (by omega)
    rw [show (12 : Int) + 1 = 13 from rfl] at l
    have n := Cal.cum_end y
    have o := Cal.dim_bd y 12
    have p := Cal.lp_01 y
    omega
set_option maxRecDepth 100000 in
set_option maxHeartbeats 3200000 in
theorem change_at (b : Nat) (s : Sv) (dv cv : Value) (op : Bool) (bs bf c : Int) (w : World) (h : PRow b s dv cv op bs bf w) (hM : s.Mid) (hN : s.Num) (hc : c = 1 ∨ c = -1) :
    Calls Tryz.prog 199 #[.pointer (some ⟨b, 0, none⟩), .int .i64 s.utc, .int .i64 c] w fun e w' => e = .returned (.tuple #[.agg #[.int .i64 (s.chg c).1.1, .int .i64 (s.chg c).1.2], .bool (s.chg c).2]) ∧ Below w.heap.size w w' := by
  have can := hM.can hN
  have u0 := can.u0
  have u1 := can.u1
  obtain ⟨y, m, hin⟩ := in_cal u0 u1
  have HCH : Hid (s.chg c = if 0 < s.atN ∧ Tab.follows s.done s.atN (s.old + c) = true then ((s.atN, s.old + c), true) else ((0, 0), false)) := rfl
  have hat : s.atN = nextOf y m := nextS_eq hin
  have NM := hid' (fun W => next_month (s.utc / 86400) y m W hin)
  have hnd : nextD y m = if nextOf y m = -1 then (0, 1) else (nextOf y m / 86400, 0) := rfl
  have nod := nextOf_day hin
  rw [← hat] at hnd nod
  have HP := hid' h
  have lb := h.lt
  have hpos := hM.pos
  have hlen := hM.fit.good.len
  rw [s.all_length] at hlen
  obtain ⟨gg, cap, hdv⟩ := own_some h.dd hpos
  subst hdv
  have LIE := hid' (lies_of h.dd rfl)
  have lg : gg < w.heap.size := (h.dd.lt _ rfl).2
  have HF := hid' hM.doneFit.good.fine
  obtain ⟨k, hk⟩ : ∃ k, s.done.length = k + 1 := ⟨s.done.length - 1, by omega⟩
  have kl : k < s.done.length := by omega
  have hold : s.old = (s.done[k]'kl).2 := by
    unfold Sv.old; rw [hk, Nat.add_sub_cancel, getD_at k kl]
  have ob := (HF.out _ (List.getElem_mem kl)).2
  have e1 := (LIE.out k kl).2
  rw [← hold] at ob e1
  have CF := hid' (fun (W : World) (hl : Lies W gg s.done) (lg : gg < W.heap.size) (a0 : 0 ≤ s.atN) (a1 : s.atN ≤ 34712668800) => can_follow gg cap s.done.length s.done s.atN (s.old + c) W (wf_at (by omega) (by omega)) (wf_at (by omega) (by omega)) (Nat.le_refl _) (by omega) hl lg (fun p hp => (HF.out p (List.mem_of_mem_take hp)).2))
  rw [List.take_length] at CF
  have c9 := h.c9
  generalize s.utc = u at *
  generalize s.atN = at' at *
  generalize s.old = od at *
  generalize s.chg c = r at *
  generalize Tab.follows s.done at' (od + c) = fo at *
  clear hold
  generalize hln : s.done.length = L at *
  have HL := hid' hln
  have c1 : -1 ≤ c := by omega
  have c2 : c ≤ 1 := by omega
  have hki : (0 : Int) ≤ (k : Int) := by omega
  have hkn : (k : Int) < (L : Int) := by omega
  obtain ⟨hw1, hw2⟩ : IntKind.i64.wrap ((L : Int) - 1) = (k : Int) ∧ wrap64 ((L : Int) - 1) = (k : Int) := ⟨by rw [IntKind.wrap_i64]; omega, by unfold wrap64; omega⟩
  have R0 := hid' (heap_alloc_new w (.cells #[.int .i64 0, .int .i64 0] 84))
  have B0 := hid' ((Below.refl w.heap.size w).alloc (Nat.le_refl _) (.cells #[.int .i64 0, .int .i64 0] 84))
  clear h hM hN can hin hc hat hk hln
  generalize nextD y m = nd at *
  obtain ⟨n1, n2⟩ := nd
  simp only at NM
  go_enter Tryz.func199, Tryz.ntmps199
  go_upto_region 1 with fail
  generalize hV : w.alloc (.cells #[.int .i64 0, .int .i64 0] 84) = V at *
  generalize hQ : w.heap.size = Q at *
  clear hV
  have PV := hid' (HP.out.below (by rw [hQ]; exact B0.out))
  have v9 := PV.out.c9
  have x0 := cell_of_row _ _ 0 _ _ _ R0.out
  have x1 := cell_of_row _ _ 1 _ _ _ R0.out
  have f0 := frozen_of_row _ _ 0 _ _ R0.out
  have f1 := frozen_of_row _ _ 1 _ _ R0.out
  have lv := lt_of_heap R0.out
  have sv := B0.out.size
  simp at x0 x1
  have g1 := (B0.out.cell (p := ⟨gg, k * 2 + 1, none⟩) (by simp only; omega)).trans e1
  clear c9 e1
  go_wp2_with fail
  refine (NM.out _).mono ?_
  rintro e w1 ⟨rfl, hw1e⟩
  subst w1
  by_cases hno : at' = -1
  · rw [if_pos hno] at hnd
    obtain ⟨rfl, rfl⟩ := Prod.mk.inj hnd
    have H : Hid (r = ((0, 0), false)) := by show _ = _; rw [HCH.out, if_neg (by omega)]
    clear nod HCH hno hnd
    go_wp2
    try simp only [Exit.inBlock, Exit.then]
    refine bodyPost_ret (results_row_tmp (p := 6) (u := 7) rfl _ _ Q #[.int .i64 0, .int .i64 0] rfl (load_pleap (two_row R0.out) rfl)) rfl ?_
    rw [H.out]
    exact ⟨rfl, by rw [hQ]; exact (B0.out.setCell (p := ⟨Q, 0, none⟩) (Nat.le_refl _) _).setCell (p := ⟨Q, 1, none⟩) (Nat.le_refl _) _⟩
  · rw [if_neg hno] at hnd
    obtain ⟨rfl, rfl⟩ := Prod.mk.inj hnd
    obtain ⟨a1, a2, a3⟩ : at' / 86400 * 86400 = at' ∧ 0 < at' ∧ at' ≤ 34712668800 := by
      rcases nod with q | q
      · exact absurd q hno
      · exact q
    have HA := hid' a1
    obtain ⟨hw3, hw4⟩ : IntKind.i64.wrap (at' / 86400 * 86400) = at' ∧ wrap64 (at' / 86400 * 86400) = at' := ⟨by rw [IntKind.wrap_i64]; omega, by unfold wrap64; omega⟩
    clear nod hno hnd a1
    have BN := hid' ((Below.refl V.heap.size V).alloc (Nat.le_refl _) (.cells #[.int .i64 at', .int .i64 (od + c)] 84))
    have RN := hid' (heap_alloc_new V (.cells #[.int .i64 at', .int .i64 (od + c)] 84))
    go_upto_region 6 with fail
    generalize hW : V.alloc (.cells #[.int .i64 at', .int .i64 (od + c)] 84) = W at *
    generalize hE : V.heap.size = E at *
    clear hW
    have PW := hid' (PV.out.below (by rw [hE]; exact BN.out))
    have w9 := PW.out.c9
    have z0 := cell_of_row _ _ 0 _ _ _ RN.out
    have z1 := cell_of_row _ _ 1 _ _ _ RN.out
    simp at z0 z1
    have LW := hid' ((LIE.out.below (by omega) (by rw [hQ]; exact B0.out)).below (by omega) (by rw [hE]; exact BN.out))
    have lgw : gg < W.heap.size := by have := BN.out.size; omega
    have SX := hid' ((BN.out.block _ (by omega)).trans R0.out)
    clear v9 g1 x0 x1 f0 f1
    go_cut [53] from 12 (fun s53 wx => s53 = .bool (!fo) ∧ Below W.heap.size W wx)
    case first =>
      go_region_with (go_at_call 169; refine (CF.out _ (LW.out.below (by omega) (Below.refl _ _).drew) (by exact lgw) (by omega) (by omega)).mono ?_; rintro e w2 ⟨rfl, hb2⟩; have HB2 := hid' hb2; clear hb2)
      all_goals
        go_wp2_with fail
        go_meet
        case rel => exact ⟨rfl, (Below.refl _ _).drew.trans HB2.out⟩
    case rest =>
      obtain ⟨rfl, bel⟩ := hcut
      rename World => W1
      have lw := BN.out.size
      have B1 := hid' ((B0.out.trans (BN.out.mono (by omega))).trans (bel.mono (by omega)))
      have SX1 := hid' ((bel.block _ (lt_of_heap SX.out)).trans SX.out)
      have SN1 := hid' ((bel.block _ (lt_of_heap RN.out)).trans RN.out)
      have x0 := cell_of_row _ _ 0 _ _ _ SX1.out
      have x1 := cell_of_row _ _ 1 _ _ _ SX1.out
      have f0 := frozen_of_row _ _ 0 _ _ SX1.out
      have f1 := frozen_of_row _ _ 1 _ _ SX1.out
      have z0 := cell_of_row _ _ 0 _ _ _ SN1.out
      have z1 := cell_of_row _ _ 1 _ _ _ SN1.out
      simp at x0 x1 z0 z1
      clear bel w9
      cases fo with
      | false =>
        have H : Hid (r = ((0, 0), false)) := by show _ = _; rw [HCH.out, if_neg (by simp)]
        clear HCH
        go_wp2
        try simp only [Exit.inBlock, Exit.then]
        refine bodyPost_ret (results_row_tmp (p := 6) (u := 7) rfl _ _ Q #[.int .i64 0, .int .i64 0] rfl (load_pleap (two_row SX1.out) rfl)) rfl ?_
        rw [H.out]
        exact ⟨rfl, by rw [hQ]; exact (B1.out.setCell (p := ⟨Q, 0, none⟩) (Nat.le_refl _) _).setCell (p := ⟨Q, 1, none⟩) (Nat.le_refl _) _⟩
      | true =>
        have H : Hid (r = ((at', od + c), true)) := by show _ = _; rw [HCH.out, if_pos ⟨a2, rfl⟩]
        clear HCH
        go_wp2
        try simp only [Exit.inBlock, Exit.then]
        refine bodyPost_ret (results_row_tmp (p := 6) (u := 7) rfl _ _ Q #[.int .i64 at', .int .i64 (od + c)] rfl (load_pleap (two_row SX1.out) rfl)) rfl ?_
        rw [H.out]
        exact ⟨rfl, by rw [hQ]; exact (B1.out.setCell (p := ⟨Q, 0, none⟩) (Nat.le_refl _) _).setCell (p := ⟨Q, 1, none⟩) (Nat.le_refl _) _⟩
end Go.Proofs.YtmmkhodaljpjgaaGreatDoor
namespace Go.Proofs.YtmmkhodaljpjgaaGreatDoor
open Go.RowKit
attribute [local go_sem ↓] Go.wp_at_zero Go.wp_at_succ
set_option maxRecDepth 100000 in
set_option maxHeartbeats 3200000 in
theorem window_begin (b : Nat) (s : Sv) (dv cv : Value) (op : Bool) (bs bf t : Int) (w : World) (h : PRow b s dv cv op bs bf w) (h0 : 0 ≤ s.win) (h1 : s.win ≤ 1000000) (t0 : 0 ≤ t) (t1 : t ≤ 1000000000000) :
    Calls Tryz.prog 185 #[.pointer (some ⟨b, 0, none⟩), .int .i64 t] w fun e w' => e = .returned (.agg #[.int .i64 (s.opens t).1, .int .i64 (s.opens t).2]) ∧ Below w.heap.size w w' := by
  have HP := hid' h
  have q1 := h.c1
  have lb := lt_of_heap h.row
  have HOP : Hid (s.opens t = if tLater s.ns s.nf (t - s.win / 2) 0 = true then (s.ns, s.nf) else (t - s.win / 2, 0)) := rfl
  have EA := hid' (fun W => clk_earlier (t - s.win / 2) 0 s.ns s.nf W)
  generalize s.opens t = r at *
  generalize tLater s.ns s.nf (t - s.win / 2) 0 = lt at *
  have B0 := hid' (((Below.refl w.heap.size w).alloc (Nat.le_refl _) (.cells #[.int .i64 0, .int .i64 0] 98)).alloc (by simp) (.cells #[.int .i64 (t - s.win / 2), .int .i64 0] 98))
  have R0 := hid' (heap_alloc2_old w (.cells #[.int .i64 0, .int .i64 0] 98) (.cells #[.int .i64 (t - s.win / 2), .int .i64 0] 98))
  have R1 := hid' (heap_alloc2_new w (.cells #[.int .i64 0, .int .i64 0] 98) (.cells #[.int .i64 (t - s.win / 2), .int .i64 0] 98))
  clear h
  go_enter Tryz.func185, Tryz.ntmps185
  go_upto_region 2 with fail
  generalize hV : (w.alloc (.cells #[.int .i64 0, .int .i64 0] 98)).alloc (.cells #[.int .i64 (t - s.win / 2), .int .i64 0] 98) = V at *
  clear hV
  have PV := hid' (HP.out.below B0.out)
  have q2 := PV.out.c4
  have q3 := PV.out.c5
  have d0 := cell_of_row _ _ 0 _ _ _ R1.out
  have d1 := cell_of_row _ _ 1 _ _ _ R1.out
  simp at d0 d1
  go_cut [5, 20] from 6 (fun s5 s20 wx => s5 = .pointer (some ⟨w.heap.size + 1, 0, none⟩) ∧ s20 = .bool lt ∧ Below V.heap.size V wx)
  case first =>
    go_region_with (go_at_call 196; refine (EA.out _).mono ?_; rintro e w1 ⟨rfl, hb1⟩; have HB1 := hid' hb1; clear hb1)
    all_goals
      go_wp2_with fail
      go_meet
      case rel => exact ⟨rfl, rfl, (Below.refl _ _).drew.trans HB1.out⟩
  case rest =>
    obtain ⟨rfl, rfl, bel⟩ := hcut
    rename World => W1
    have B1 := hid' (B0.out.trans (bel.mono B0.out.size))
    have P1 := hid' (PV.out.below bel)
    have A0 := hid' ((bel.block _ (lt_of_heap R0.out)).trans R0.out)
    have A1 := hid' ((bel.block _ (lt_of_heap R1.out)).trans R1.out)
    have x0 := cell_of_row _ _ 0 _ _ _ A0.out
    have x1 := cell_of_row _ _ 1 _ _ _ A0.out
    have f0 := frozen_of_row _ _ 0 _ _ A0.out
    have f1 := frozen_of_row _ _ 1 _ _ A0.out
    have y0 := cell_of_row _ _ 0 _ _ _ A1.out
    have y1 := cell_of_row _ _ 1 _ _ _ A1.out
    have p2 := P1.out.c4
    have p3 := P1.out.c5
    simp at x0 x1 y0 y1
    clear bel q2 q3 d0 d1
    cases lt with
    | true =>
      have H : Hid (r = (s.ns, s.nf)) := HOP.out
      go_wp2
      try simp only [Exit.inBlock, Exit.then]
      refine bodyPost_ret (results_cell_row rfl _ _ w.heap.size 98 #[.int .i64 s.ns, .int .i64 s.nf] (0, 0) _ rfl (two_row A0.out) Tryz.underlying98 rfl (by kernel_rfl)) rfl ?_
      exact ⟨ret_agg2 (by rw [H.out]) (by rw [H.out]), (B1.out.setCell (p := ⟨w.heap.size, 0, none⟩) (Nat.le_refl _) _).setCell (p := ⟨w.heap.size, 1, none⟩) (Nat.le_refl _) _⟩
    | false =>
      have H : Hid (r = (t - s.win / 2, 0)) := HOP.out
      go_wp2
      try simp only [Exit.inBlock, Exit.then]
      refine bodyPost_ret (results_cell_row rfl _ _ w.heap.size 98 #[.int .i64 (t - s.win / 2), .int .i64 0] (0, 0) _ rfl (two_row A0.out) Tryz.underlying98 rfl (by kernel_rfl)) rfl ?_
      exact ⟨ret_agg2 (by rw [H.out]) (by rw [H.out]), (B1.out.setCell (p := ⟨w.heap.size, 0, none⟩) (Nat.le_refl _) _).setCell (p := ⟨w.heap.size, 1, none⟩) (Nat.le_refl _) _⟩
end Go.Proofs.YtmmkhodaljpjgaaGreatDoor
