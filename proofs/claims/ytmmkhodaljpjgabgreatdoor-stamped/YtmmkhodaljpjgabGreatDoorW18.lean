import Derived.Test.YtmmkhodaljpjgabGreatDoorW16
import Derived.Deep.Cut
import Derived.Deep.CutBlock
import Derived.Deep.CutRange
namespace Go.Proofs.YtmmkhodaljpjgabGreatDoor
open Go.RowKit
attribute [local go_sem ↓] Go.wp_at_zero Go.wp_at_succ
set_option maxRecDepth 100000 in
set_option maxHeartbeats 3200000 in
theorem window_begin (b : Nat) (s : Sv) (dv cv : Value) (op : Bool) (bs bf t : Int) (w : World) (h : PRow b s dv cv op bs bf w) (h0 : 0 ≤ s.win) (h1 : s.win ≤ 1000000) (t0 : 0 ≤ t) (t1 : t ≤ 1000000000000) :
    Calls Tryz.prog 71 #[.pointer (some ⟨b, 0, none⟩), .int .i64 t] w fun e w' => e = .returned (.agg #[.int .i64 (s.opens t).1, .int .i64 (s.opens t).2]) ∧ Below w.heap.size w w' := by
  have HP := hid' h
  have q1 := h.c1
  have lb := lt_of_heap h.row
  have HOP : Hid (s.opens t = if tLater s.ns s.nf (t - s.win / 2) 0 = true then (s.ns, s.nf) else (t - s.win / 2, 0)) := rfl
  have EA := hid' (fun W => clk_earlier (t - s.win / 2) 0 s.ns s.nf W)
  generalize s.opens t = r at *
  generalize tLater s.ns s.nf (t - s.win / 2) 0 = lt at *
  have B0 := hid' (((Below.refl w.heap.size w).alloc (Nat.le_refl _) (.cells #[.int .i64 0, .int .i64 0] 33)).alloc (by simp) (.cells #[.int .i64 (t - s.win / 2), .int .i64 0] 33))
  have R0 := hid' (heap_alloc2_old w (.cells #[.int .i64 0, .int .i64 0] 33) (.cells #[.int .i64 (t - s.win / 2), .int .i64 0] 33))
  have R1 := hid' (heap_alloc2_new w (.cells #[.int .i64 0, .int .i64 0] 33) (.cells #[.int .i64 (t - s.win / 2), .int .i64 0] 33))
  clear h
  go_enter Tryz.func71, Tryz.ntmps71
  go_upto_region 2 with fail
  generalize hV : (w.alloc (.cells #[.int .i64 0, .int .i64 0] 33)).alloc (.cells #[.int .i64 (t - s.win / 2), .int .i64 0] 33) = V at *
  clear hV
  have PV := hid' (HP.out.below B0.out)
  have q2 := PV.out.c4
  have q3 := PV.out.c5
  have d0 := cell_of_row _ _ 0 _ _ _ R1.out
  have d1 := cell_of_row _ _ 1 _ _ _ R1.out
  simp at d0 d1
  go_cut [5, 20] from 6 (fun s5 s20 wx => s5 = .pointer (some ⟨w.heap.size + 1, 0, none⟩) ∧ s20 = .bool lt ∧ Below V.heap.size V wx)
  case first =>
    go_region_with (go_at_call 96; refine (EA.out _).mono ?_; rintro e w1 ⟨rfl, hb1⟩; have HB1 := hid' hb1; clear hb1)
    all_goals
      go_wp2_with fail
      go_meet
      case rel => exact ⟨rfl, rfl, (Below.refl _ _).drew.trans HB1.out⟩
  case rest =>
    obtain ⟨rfl, rfl, bel⟩ := hcut
    rename World => W1
    have B1 := hid' (B0.out.trans (bel.mono B0.out.size))
    have P1 := hid' (PV.out.below bel)
    have A0 := hid' ((bel.block _ (lt_of_heap R0.out)).trans R0.out)
    have A1 := hid' ((bel.block _ (lt_of_heap R1.out)).trans R1.out)
    have x0 := cell_of_row _ _ 0 _ _ _ A0.out
    have x1 := cell_of_row _ _ 1 _ _ _ A0.out
    have f0 := frozen_of_row _ _ 0 _ _ A0.out
    have f1 := frozen_of_row _ _ 1 _ _ A0.out
    have y0 := cell_of_row _ _ 0 _ _ _ A1.out
    have y1 := cell_of_row _ _ 1 _ _ _ A1.out
    have p2 := P1.out.c4
    have p3 := P1.out.c5
    simp at x0 x1 y0 y1
    clear bel q2 q3 d0 d1
    cases lt with
    | true =>
      have H : Hid (r = (s.ns, s.nf)) := HOP.out
      go_wp2
      try simp only [Exit.inBlock, Exit.then]
      refine bodyPost_ret (results_cell_row rfl _ _ w.heap.size 33 #[.int .i64 s.ns, .int .i64 s.nf] (0, 0) _ rfl (two_row A0.out) Tryz.underlying33 rfl (by kernel_rfl)) rfl ?_
      exact ⟨ret_agg2 (by rw [H.out]) (by rw [H.out]), (B1.out.setCell (p := ⟨w.heap.size, 0, none⟩) (Nat.le_refl _) _).setCell (p := ⟨w.heap.size, 1, none⟩) (Nat.le_refl _) _⟩
    | false =>
      have H : Hid (r = (t - s.win / 2, 0)) := HOP.out
      go_wp2
      try simp only [Exit.inBlock, Exit.then]
      refine bodyPost_ret (results_cell_row rfl _ _ w.heap.size 33 #[.int .i64 (t - s.win / 2), .int .i64 0] (0, 0) _ rfl (two_row A0.out) Tryz.underlying33 rfl (by kernel_rfl)) rfl ?_
      exact ⟨ret_agg2 (by rw [H.out]) (by rw [H.out]), (B1.out.setCell (p := ⟨w.heap.size, 0, none⟩) (Nat.le_refl _) _).setCell (p := ⟨w.heap.size, 1, none⟩) (Nat.le_refl _) _⟩
end Go.Proofs.YtmmkhodaljpjgabGreatDoor
