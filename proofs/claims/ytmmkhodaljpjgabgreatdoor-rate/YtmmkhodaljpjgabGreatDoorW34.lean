import Derived.Test.YtmmkhodaljpjgabGreatDoorW31
namespace Go.Proofs.YtmmkhodaljpjgabGreatDoor
open Go.RowKit
theorem two_off (w : World) (z : Nat) (a b : Value) : Off (fun j => j = z) w ((w.setCell ⟨z, 0, none⟩ a).setCell ⟨z, 1, none⟩ b) :=
  ((Off.refl (fun j => j = z) w).setCell (p := ⟨z, 0, none⟩) (fun _ => rfl) a).setCell (p := ⟨z, 1, none⟩) (fun _ => rfl) b
theorem TimeAt.put {F : Nat → Prop} {bt z : Nat} {a b : Int} {w : World} (h : TimeAt F bt z a b w) (a' b' : Int) : TimeAt F bt z a' b' ((w.setCell ⟨z, 0, none⟩ (.int .i64 a')).setCell ⟨z, 1, none⟩ (.int .i64 b')) := ⟨two_row h.row, h.fz, h.zb⟩
theorem TimeAt.other {F : Nat → Prop} {bt z y : Nat} {a b : Int} {w W : World} (h : TimeAt F bt z a b w) (ho : Off (fun j => j = y) w W) (hy : z ≠ y) : TimeAt F bt z a b W := ⟨ho.heap h.row hy, h.fz, h.zb⟩
set_option maxRecDepth 100000 in
set_option maxHeartbeats 6400000 in
theorem rate_walk (c : Int) (lo : Option Addr) (L lcap : Nat) (so : Option Addr) (S scap : Nat) (w : World) (wc : (Lit.int .i64 c).wf = true) (hI : Ints w lo L) (hL : L ≤ 9223372036854775807) (hS : Stps w so S) (hSL : S ≤ 9223372036854775807) (hT : Table w) (hP : Pows w) :
    Calls Tryz.prog 3 #[.int .i64 c, .slice lo L lcap, .slice so S scap] w fun e w' => e = .returned (.bool true) ∧ Below w.heap.size w w' := by
  have BG := hid' (k_begun c lo L lcap w wc hI hL hT hP)
  have HS := hid' hS
  clear wc hI hS hT hP
  go_enter Tryz.func3, Tryz.ntmps3
  go_wp2_with fail
  refine Calls.mono BG.out ?_
  rintro e w1 ⟨q, n1, s1, F1, rfl, tri1, b1⟩
  have T1 := hid' tri1
  have BL1 := hid' b1
  have c0 := cell_of_row _ _ 0 _ _ _ tri1.row
  have c5 := cell_of_row _ _ 5 _ _ _ tri1.row
  simp at c0 c5
  clear tri1 b1 BG
  by_cases hm : q.mode = 0
  · rw [hm] at c5
    go_wp2
    go_ret
    exact ⟨rfl, BL1.out⟩
  · have hm' : (q.mode == 0) = false := beq_eq_false_iff_ne.2 hm
    have HM := hid' hm
    obtain ⟨ts, tf, li, er, hTo⟩ := T1.out.inv.tells T1.out.ld
    obtain ⟨rfl, rfl, _⟩ := T1.out.inv.offAt T1.out.ld (by rw [T1.out.em]; exact hm) hTo
    have TO := hid' hTo
    clear hTo
    go_wp2_with fail
    refine Calls.mono T1.out.see ?_
    rintro e w2 ⟨dv, cv, rfl, _, _, b2⟩
    have FN := field_now (.int .i64 s1.ns) (.int .i64 s1.nf) (.bool s1.ld) (.int .i64 s1.up) (.int .i64 s1.ex) dv cv (.int .i64 s1.ref) w2
    have a2 := (Below.refl w2.heap.size w2).alloc (Nat.le_refl _) (.cells #[.int .i64 s1.ns, .int .i64 s1.nf] 33)
    have R2 := hid' (b2.trans (a2.mono b2.size))
    have T2 := hid' (T1.out.keep R2.out)
    have B2 := hid' (BL1.out.trans (R2.out.mono BL1.out.size))
    have M2 := hid' (TimeAt.make T1.out b2 s1.ns s1.nf)
    have ZG8 : Hid (w2.heap.size ≠ q.g) := fun e => by have := T1.out.lg; have := b2.size; omega
    have ZB8 : Hid (w.heap.size ≤ w2.heap.size) := Nat.le_trans BL1.out.size b2.size
    clear c0 c5 b2 a2 R2
    go_upto_region 7 with fail
    clear FN
    generalize w2.alloc (.cells #[.int .i64 s1.ns, .int .i64 s1.nf] 33) = V2 at *
    generalize w2.heap.size = z8 at *
    have NW := hid' (T2.out.now TO.out)
    have c0 := cell_of_row _ _ 0 _ _ _ T2.out.row
    simp at c0
    go_wp2_with fail
    refine Calls.mono NW.out ?_
    rintro e w3 ⟨rfl, b3⟩
    have a3 := (Below.refl w3.heap.size w3).alloc (Nat.le_refl _) (.cells #[.int .i64 ts, .int .i64 tf] 33)
    have R3 := hid' (b3.trans (a3.mono b3.size))
    have T3 := hid' (T2.out.keep R3.out)
    have B3 := hid' (B2.out.trans (R3.out.mono B2.out.size))
    have M3 := hid' (M2.out.below R3.out)
    have K3 := hid' (TimeAt.make T2.out b3 ts tf)
    have ZG9 : Hid (w3.heap.size ≠ q.g) := fun e => by have := T2.out.lg; have := b3.size; omega
    have ZB9 : Hid (w.heap.size ≤ w3.heap.size) := Nat.le_trans B2.out.size b3.size
    have Z89 : Hid (z8 ≠ w3.heap.size) := fun e => by have := lt_of_heap M2.out.row; have := b3.size; omega
    clear c0 b3 a3 R3 NW M2 B2 T2 T1 BL1
    go_upto_region 8 with fail
    generalize w3.alloc (.cells #[.int .i64 ts, .int .i64 tf] 33) = V3 at *
    generalize w3.heap.size = z9 at *
    go_wp2_with fail
    go_loopw [12] (fun i wr => ∃ (k n : Nat) (s : Sv) (F : Nat → Prop) (ts tf : Int), k ≤ 60 ∧ i = .int .i64 k ∧ Tri q w.heap.size k n s F wr ∧ TimeAt F q.bt z8 s.ns s.nf wr ∧ TimeAt F q.bt z9 ts tf wr ∧ s.Told ts tf 0 0 ∧ Below w.heap.size w wr) (fun i _ => 60 - (intOf i).toNat)
    case atStart => exact ⟨0, n1, s1, F1, ts, tf, by omega, rfl, T3.out, M3.out, K3.out, TO.out, B3.out⟩
    case round =>
      clear T3 M3 K3 TO B3
      obtain ⟨k, n, s, F, ts, tf, hk, rfl, tri, m8, m9, hTo, hb⟩ := hrel
      have TR := hid' tri
      have BR := hid' hb
      have M8 := hid' m8
      have M9 := hid' m9
      have TO := hid' hTo
      clear tri hb m8 m9 hTo
      by_cases h1 : k < S
      · have i1 : (k : Int) < (S : Int) := by omega
        by_cases h2 : k < 60
        · have i2 : (k : Int) < 60 := by omega
          obtain ⟨b, off, rfl, hbl, hc⟩ := HS.out.some (by omega)
          obtain ⟨kd, ka, kc, q0, q1, q2, _, wa, wc⟩ := hc k h1
          have p0 := (BR.out.cell (p := ⟨b, off + k * 3, none⟩) hbl).trans q0
          have p1 := (BR.out.cell (p := ⟨b, off + k * 3 + 1, none⟩) hbl).trans q1
          have p2 := (BR.out.cell (p := ⟨b, off + k * 3 + 2, none⟩) hbl).trans q2
          have DS := hid' (does_step q w.heap.size k n s F wr kd ka kc wa wc (by omega) TR.out)
          clear q0 q1 q2 hc wa wc
          go_wp2_with fail
          refine Calls.mono DS.out ?_
          rintro e w3 ⟨ev, s', F', n', rfl, tri3, ⟨o3, f3⟩, st3⟩
          have T3 := hid' tri3
          have K8 := hid' (M8.out.off o3 f3)
          have K9 := hid' (M9.out.off o3 f3)
          have B3 := hid' (BR.out.trans (TR.out.off o3))
          obtain ⟨ts', tf', li', er', hTo'⟩ := tri3.inv.tells tri3.ld
          obtain ⟨rfl, rfl, _⟩ := tri3.inv.offAt tri3.ld (by rw [tri3.em]; exact HM.out) hTo'
          have TO' := hid' hTo'
          obtain ⟨go, go2, _⟩ := st3.goes TR.out.inv TR.out.ld
          have RT := hid' (fun h4 dt ds e1 e2 => Sv.rate (dt := dt) (ds := ds) TR.out.inv tri3.inv TR.out.ld tri3.ld go go2 (by rw [TR.out.em]; exact HM.out) TO.out hTo' h4 e1 e2)
          rw [TR.out.em, TR.out.ew] at RT
          have gns := go.ns
          obtain ⟨t0, t1, t2, t3⟩ := TR.out.inv.num.t'
          obtain ⟨u0, u1, u2, u3⟩ := tri3.inv.num.t'
          obtain ⟨_, _, _, f0, f1⟩ := TR.out.inv.tells_bd TR.out.ld TO.out
          obtain ⟨_, _, _, g0, g1⟩ := tri3.inv.tells_bd tri3.ld hTo'
          have sm := TR.out.inv.smear (by rw [TR.out.em]; exact HM.out)
          rw [TR.out.em, TR.out.ew] at sm
          have c0 := cell_of_row _ _ 0 _ _ _ tri3.row
          simp at c0
          clear tri3 o3 f3 st3 DS p0 p1 p2 hTo' go go2 M8 M9 TR
          go_wp2_with fail
          refine Calls.mono T3.out.see ?_
          rintro e w4 ⟨dv, cv, rfl, _, _, b4⟩
          have FN := field_now (.int .i64 s'.ns) (.int .i64 s'.nf) (.bool s'.ld) (.int .i64 s'.up) (.int .i64 s'.ex) dv cv (.int .i64 s'.ref) w4
          have a4 := (Below.refl w4.heap.size w4).alloc (Nat.le_refl _) (.cells #[.int .i64 s'.ns, .int .i64 s'.nf] 33)
          have R4 := hid' (b4.trans (a4.mono b4.size))
          have T4 := hid' (T3.out.keep R4.out)
          have B4 := hid' (B3.out.trans (R4.out.mono B3.out.size))
          have N8 := hid' (K8.out.below R4.out)
          have N9 := hid' (K9.out.below R4.out)
          have X4 := hid' (TimeAt.make T3.out b4 s'.ns s'.nf)
          have L8 : Hid (z8 < w4.heap.size) := Nat.lt_of_lt_of_le (lt_of_heap K8.out.row) b4.size
          have L9 : Hid (z9 < w4.heap.size) := Nat.lt_of_lt_of_le (lt_of_heap K9.out.row) b4.size
          clear b4 a4 R4 c0 T3 B3 K8 K9
          go_upto_region 15 with fail
          clear FN
          generalize w4.alloc (.cells #[.int .i64 s'.ns, .int .i64 s'.nf] 33) = V4 at *
          generalize w4.heap.size = z13 at *
          have NW := hid' (T4.out.now TO'.out)
          have c0 := cell_of_row _ _ 0 _ _ _ T4.out.row
          simp at c0
          go_wp2_with fail
          refine Calls.mono NW.out ?_
          rintro e w5 ⟨rfl, b5⟩
          have a5 := (Below.refl w5.heap.size w5).alloc (Nat.le_refl _) (.cells #[.int .i64 ts', .int .i64 tf'] 33)
          have R5 := hid' (b5.trans (a5.mono b5.size))
          have T5 := hid' (T4.out.keep R5.out)
          have B5 := hid' (B4.out.trans (R5.out.mono B4.out.size))
          have P8 := hid' (N8.out.below R5.out)
          have P9 := hid' (N9.out.below R5.out)
          have X5 := hid' (X4.out.below R5.out)
          have Y5 := hid' (TimeAt.make T4.out b5 ts' tf')
          have L13 : Hid (z13 < w5.heap.size) := Nat.lt_of_lt_of_le (lt_of_heap X4.out.row) b5.size
          clear b5 a5 R5 c0 T4 B4 N8 N9 X4 NW
          go_upto_region 16 with fail
          generalize w5.alloc (.cells #[.int .i64 ts', .int .i64 tf'] 33) = V5 at *
          generalize w5.heap.size = z14 at *
          have a0 := cell_of_row _ _ 0 _ _ _ P8.out.row
          have a1 := cell_of_row _ _ 1 _ _ _ P8.out.row
          have b0 := cell_of_row _ _ 0 _ _ _ X5.out.row
          have b1 := cell_of_row _ _ 1 _ _ _ X5.out.row
          simp at a0 a1 b0 b1
          by_cases h4 : s'.ns - s.ns < 400000
          · obtain ⟨dt, hdt⟩ : ∃ dt, (s'.ns - s.ns) * 4294967296 + s'.nf - s.nf = dt := ⟨_, rfl⟩
            obtain ⟨ds, hds⟩ : ∃ ds, (ts' - ts) * 4294967296 + tf' - tf = ds := ⟨_, rfl⟩
            obtain ⟨D, d0, dd, d1, d2, d3, d4, d5, d6⟩ := RT.out h4 dt ds hdt hds
            have A1 := hid' (k_after s.ns s.nf s'.ns s'.nf V5 (by omega) (by omega) t2 t3 u2 u3)
            go_wp2_with fail
            refine Calls.mono A1.out ?_
            rintro e w6 ⟨rfl, b6⟩
            rw [hdt]
            have A2 := hid' (k_after ts tf ts' tf' w6 (by omega) (by omega) f0 f1 g0 g1)
            have T6 := hid' (T5.out.keep b6)
            have B6 := hid' (B5.out.trans (b6.mono B5.out.size))
            have C8 := hid' (P8.out.below b6)
            have C9 := hid' (P9.out.below b6)
            have CX := hid' (X5.out.below b6)
            have CY := hid' (Y5.out.below b6)
            have HDS := hid' hds
            have k0 := cell_of_row _ _ 0 _ _ _ C9.out.row
            have k1 := cell_of_row _ _ 1 _ _ _ C9.out.row
            have l0 := cell_of_row _ _ 0 _ _ _ CY.out.row
            have l1 := cell_of_row _ _ 1 _ _ _ CY.out.row
            simp at k0 k1 l0 l1
            clear b6 hdt hds A1 a0 a1 b0 b1 T5 B5 P8 P9 X5 Y5 RT
            go_wp2_with fail
            refine Calls.mono A2.out ?_
            rintro e w7 ⟨rfl, b7⟩
            rw [HDS.out]
            have TQ := hid' (T6.out.keep b7)
            have BQ := hid' (B6.out.trans (b7.mono B6.out.size))
            have Q8 := hid' (C8.out.below b7)
            have Q9 := hid' (C9.out.below b7)
            have QX := hid' (CX.out.below b7)
            have QY := hid' (CY.out.below b7)
            have r5 := cell_of_row _ _ 5 _ _ _ TQ.out.row
            have r6 := cell_of_row _ _ 6 _ _ _ TQ.out.row
            simp at r5 r6
            clear b7 HDS A2 k0 k1 l0 l1 T6 B6 C8 C9 CX CY
            obtain ⟨smm, sw0, sw1⟩ := sm
            have m3 : (1 + q.mode) * dt ≤ 3 * dt := Int.mul_le_mul_of_nonneg_right (by omega) d4
            have m0 : 0 ≤ (1 + q.mode) * dt := Int.mul_nonneg (by omega) d4
            have p0 : 0 ≤ D * (2 * q.win) := Int.mul_nonneg d0 (by omega)
            have pe : D * 2 * q.win = D * (2 * q.win) := by rw [Int.mul_assoc]
            obtain ⟨pr, hpr⟩ : ∃ pr, D * 2 * q.win = pr := ⟨_, rfl⟩
            obtain ⟨md, hmd⟩ : ∃ md, (1 + q.mode) * dt = md := ⟨_, rfl⟩
            rw [← pe, hpr] at d1 p0
            rw [hmd] at d1 m3 m0
            have y1 : IntKind.i64.wrap (D * 2) = D * 2 := by rw [IntKind.wrap_i64]; omega
            have y2 : IntKind.i64.wrap (D * 2 * q.win) = pr := by rw [hpr, IntKind.wrap_i64]; omega
            have y3 : IntKind.i64.wrap ((1 + q.mode) * dt) = md := by rw [hmd, IntKind.wrap_i64]; omega
            have y4 : ¬ md + 2 * q.win < pr := by omega
            have y0 : IntKind.i64.wrap (1 + q.mode) = 1 + q.mode := by rw [IntKind.wrap_i64]; omega
            have y6 : IntKind.i64.wrap (2 * q.win) = 2 * q.win := by rw [IntKind.wrap_i64]; omega
            have y7 : IntKind.i64.wrap (md + 2 * q.win) = md + 2 * q.win := by rw [IntKind.wrap_i64]; omega
            have y8 : decide (md + 2 * q.win < pr) = false := decide_eq_false y4
            have y5 : ¬ ds < 0 := by omega
            clear hpr hmd pe
            go_upto_region 22 with fail
            generalize ds - dt = of at *
            by_cases hneg : of < 0
            · obtain rfl : of = -D := by omega
              go_upto_region 24 with fail
              by_cases h1 : 1 < dt
              · have h5 : (ds == 0) = false := beq_eq_false_iff_ne.2 (by have := d3 h1; omega)
                go_quiet (fail)
                have RD := hid' (below_drewN (Below.refl w7.heap.size w7) nq)
                generalize w7.drewN nq = W8 at *
                have TQ := hid' (TQ.out.keep RD.out)
                have BQ := hid' (BQ.out.trans (RD.out.mono BQ.out.size))
                have Q8 := hid' (Q8.out.below RD.out)
                have Q9 := hid' (Q9.out.below RD.out)
                have QX := hid' (QX.out.below RD.out)
                have QY := hid' (QY.out.below RD.out)
                clear r5 r6
                have E8 := hid' (TimeAt.put Q8.out s'.ns s'.nf)
                have O8 := hid' (two_off W8 z8 (.int .i64 s'.ns) (.int .i64 s'.nf))
                have E9 := hid' (Q9.out.other O8.out (fun e => Z89.out e.symm))
                have E14 := hid' (QY.out.other O8.out (fun e => by have := L8.out; have := L13.out; omega))
                have O9 := hid' (two_off ((W8.setCell ⟨z8, 0, none⟩ (.int .i64 s'.ns)).setCell ⟨z8, 1, none⟩ (.int .i64 s'.nf)) z9 (.int .i64 ts') (.int .i64 tf'))
                have FN8 := hid' (E8.out.other O9.out Z89.out)
                have FN9 := hid' (E9.out.put ts' tf')
                have FT := hid' ((TQ.out.other O8.out Q8.out.fz Q8.out.zb ZG8.out ZB8.out).other O9.out Q9.out.fz Q9.out.zb ZG9.out ZB9.out)
                have FB := hid' ((BQ.out.trans (O8.out.below (fun k e => by rw [e]; exact ZB8.out) BQ.out.size)).trans (O9.out.below (fun k e => by rw [e]; exact ZB9.out) (Nat.le_trans BQ.out.size O8.out.size)))
                have v0 := cell_of_row _ _ 0 _ _ _ Q8.out.row
                have v1 := cell_of_row _ _ 1 _ _ _ Q8.out.row
                have v2 := frozen_of_row _ _ 0 _ _ Q8.out.row
                have v3 := frozen_of_row _ _ 1 _ _ Q8.out.row
                have v4 := cell_of_row _ _ 0 _ _ _ E9.out.row
                have v5 := cell_of_row _ _ 1 _ _ _ E9.out.row
                have v6 := frozen_of_row _ _ 0 _ _ E9.out.row
                have v7 := frozen_of_row _ _ 1 _ _ E9.out.row
                have v8 := cell_of_row _ _ 0 _ _ _ E14.out.row
                have v9 := cell_of_row _ _ 1 _ _ _ E14.out.row
                have x0 := cell_of_row _ _ 0 _ _ _ QX.out.row
                have x1 := cell_of_row _ _ 1 _ _ _ QX.out.row
                simp at v0 v1 v4 v5 v8 v9 x0 x1
                go_wp2_with fail
                go_roundw
                case rel => exact ⟨k + 1, n', s', F', ts', tf', by omega, by go_num, FT.out, FN8.out, FN9.out, TO'.out, FB.out⟩
                case measure => simp [intOf]; omega
              · have h5 : ¬ 1 < dt := h1
                go_quiet (fail)
                have RD := hid' (below_drewN (Below.refl w7.heap.size w7) nq)
                generalize w7.drewN nq = W8 at *
                have TQ := hid' (TQ.out.keep RD.out)
                have BQ := hid' (BQ.out.trans (RD.out.mono BQ.out.size))
                have Q8 := hid' (Q8.out.below RD.out)
                have Q9 := hid' (Q9.out.below RD.out)
                have QX := hid' (QX.out.below RD.out)
                have QY := hid' (QY.out.below RD.out)
                clear r5 r6
                have E8 := hid' (TimeAt.put Q8.out s'.ns s'.nf)
                have O8 := hid' (two_off W8 z8 (.int .i64 s'.ns) (.int .i64 s'.nf))
                have E9 := hid' (Q9.out.other O8.out (fun e => Z89.out e.symm))
                have E14 := hid' (QY.out.other O8.out (fun e => by have := L8.out; have := L13.out; omega))
                have O9 := hid' (two_off ((W8.setCell ⟨z8, 0, none⟩ (.int .i64 s'.ns)).setCell ⟨z8, 1, none⟩ (.int .i64 s'.nf)) z9 (.int .i64 ts') (.int .i64 tf'))
                have FN8 := hid' (E8.out.other O9.out Z89.out)
                have FN9 := hid' (E9.out.put ts' tf')
                have FT := hid' ((TQ.out.other O8.out Q8.out.fz Q8.out.zb ZG8.out ZB8.out).other O9.out Q9.out.fz Q9.out.zb ZG9.out ZB9.out)
                have FB := hid' ((BQ.out.trans (O8.out.below (fun k e => by rw [e]; exact ZB8.out) BQ.out.size)).trans (O9.out.below (fun k e => by rw [e]; exact ZB9.out) (Nat.le_trans BQ.out.size O8.out.size)))
                have v0 := cell_of_row _ _ 0 _ _ _ Q8.out.row
                have v1 := cell_of_row _ _ 1 _ _ _ Q8.out.row
                have v2 := frozen_of_row _ _ 0 _ _ Q8.out.row
                have v3 := frozen_of_row _ _ 1 _ _ Q8.out.row
                have v4 := cell_of_row _ _ 0 _ _ _ E9.out.row
                have v5 := cell_of_row _ _ 1 _ _ _ E9.out.row
                have v6 := frozen_of_row _ _ 0 _ _ E9.out.row
                have v7 := frozen_of_row _ _ 1 _ _ E9.out.row
                have v8 := cell_of_row _ _ 0 _ _ _ E14.out.row
                have v9 := cell_of_row _ _ 1 _ _ _ E14.out.row
                have x0 := cell_of_row _ _ 0 _ _ _ QX.out.row
                have x1 := cell_of_row _ _ 1 _ _ _ QX.out.row
                simp at v0 v1 v4 v5 v8 v9 x0 x1
                go_wp2_with fail
                go_roundw
                case rel => exact ⟨k + 1, n', s', F', ts', tf', by omega, by go_num, FT.out, FN8.out, FN9.out, TO'.out, FB.out⟩
                case measure => simp [intOf]; omega
            · obtain rfl : of = D := by omega
              go_upto_region 24 with fail
              by_cases h1 : 1 < dt
              · have h5 : (ds == 0) = false := beq_eq_false_iff_ne.2 (by have := d3 h1; omega)
                go_quiet (fail)
                have RD := hid' (below_drewN (Below.refl w7.heap.size w7) nq)
                generalize w7.drewN nq = W8 at *
                have TQ := hid' (TQ.out.keep RD.out)
                have BQ := hid' (BQ.out.trans (RD.out.mono BQ.out.size))
                have Q8 := hid' (Q8.out.below RD.out)
                have Q9 := hid' (Q9.out.below RD.out)
                have QX := hid' (QX.out.below RD.out)
                have QY := hid' (QY.out.below RD.out)
                clear r5 r6
                have E8 := hid' (TimeAt.put Q8.out s'.ns s'.nf)
                have O8 := hid' (two_off W8 z8 (.int .i64 s'.ns) (.int .i64 s'.nf))
                have E9 := hid' (Q9.out.other O8.out (fun e => Z89.out e.symm))
                have E14 := hid' (QY.out.other O8.out (fun e => by have := L8.out; have := L13.out; omega))
                have O9 := hid' (two_off ((W8.setCell ⟨z8, 0, none⟩ (.int .i64 s'.ns)).setCell ⟨z8, 1, none⟩ (.int .i64 s'.nf)) z9 (.int .i64 ts') (.int .i64 tf'))
                have FN8 := hid' (E8.out.other O9.out Z89.out)
                have FN9 := hid' (E9.out.put ts' tf')
                have FT := hid' ((TQ.out.other O8.out Q8.out.fz Q8.out.zb ZG8.out ZB8.out).other O9.out Q9.out.fz Q9.out.zb ZG9.out ZB9.out)
                have FB := hid' ((BQ.out.trans (O8.out.below (fun k e => by rw [e]; exact ZB8.out) BQ.out.size)).trans (O9.out.below (fun k e => by rw [e]; exact ZB9.out) (Nat.le_trans BQ.out.size O8.out.size)))
                have v0 := cell_of_row _ _ 0 _ _ _ Q8.out.row
                have v1 := cell_of_row _ _ 1 _ _ _ Q8.out.row
                have v2 := frozen_of_row _ _ 0 _ _ Q8.out.row
                have v3 := frozen_of_row _ _ 1 _ _ Q8.out.row
                have v4 := cell_of_row _ _ 0 _ _ _ E9.out.row
                have v5 := cell_of_row _ _ 1 _ _ _ E9.out.row
                have v6 := frozen_of_row _ _ 0 _ _ E9.out.row
                have v7 := frozen_of_row _ _ 1 _ _ E9.out.row
                have v8 := cell_of_row _ _ 0 _ _ _ E14.out.row
                have v9 := cell_of_row _ _ 1 _ _ _ E14.out.row
                have x0 := cell_of_row _ _ 0 _ _ _ QX.out.row
                have x1 := cell_of_row _ _ 1 _ _ _ QX.out.row
                simp at v0 v1 v4 v5 v8 v9 x0 x1
                go_wp2_with fail
                go_roundw
                case rel => exact ⟨k + 1, n', s', F', ts', tf', by omega, by go_num, FT.out, FN8.out, FN9.out, TO'.out, FB.out⟩
                case measure => simp [intOf]; omega
              · have h5 : ¬ 1 < dt := h1
                go_quiet (fail)
                have RD := hid' (below_drewN (Below.refl w7.heap.size w7) nq)
                generalize w7.drewN nq = W8 at *
                have TQ := hid' (TQ.out.keep RD.out)
                have BQ := hid' (BQ.out.trans (RD.out.mono BQ.out.size))
                have Q8 := hid' (Q8.out.below RD.out)
                have Q9 := hid' (Q9.out.below RD.out)
                have QX := hid' (QX.out.below RD.out)
                have QY := hid' (QY.out.below RD.out)
                clear r5 r6
                have E8 := hid' (TimeAt.put Q8.out s'.ns s'.nf)
                have O8 := hid' (two_off W8 z8 (.int .i64 s'.ns) (.int .i64 s'.nf))
                have E9 := hid' (Q9.out.other O8.out (fun e => Z89.out e.symm))
                have E14 := hid' (QY.out.other O8.out (fun e => by have := L8.out; have := L13.out; omega))
                have O9 := hid' (two_off ((W8.setCell ⟨z8, 0, none⟩ (.int .i64 s'.ns)).setCell ⟨z8, 1, none⟩ (.int .i64 s'.nf)) z9 (.int .i64 ts') (.int .i64 tf'))
                have FN8 := hid' (E8.out.other O9.out Z89.out)
                have FN9 := hid' (E9.out.put ts' tf')
                have FT := hid' ((TQ.out.other O8.out Q8.out.fz Q8.out.zb ZG8.out ZB8.out).other O9.out Q9.out.fz Q9.out.zb ZG9.out ZB9.out)
                have FB := hid' ((BQ.out.trans (O8.out.below (fun k e => by rw [e]; exact ZB8.out) BQ.out.size)).trans (O9.out.below (fun k e => by rw [e]; exact ZB9.out) (Nat.le_trans BQ.out.size O8.out.size)))
                have v0 := cell_of_row _ _ 0 _ _ _ Q8.out.row
                have v1 := cell_of_row _ _ 1 _ _ _ Q8.out.row
                have v2 := frozen_of_row _ _ 0 _ _ Q8.out.row
                have v3 := frozen_of_row _ _ 1 _ _ Q8.out.row
                have v4 := cell_of_row _ _ 0 _ _ _ E9.out.row
                have v5 := cell_of_row _ _ 1 _ _ _ E9.out.row
                have v6 := frozen_of_row _ _ 0 _ _ E9.out.row
                have v7 := frozen_of_row _ _ 1 _ _ E9.out.row
                have v8 := cell_of_row _ _ 0 _ _ _ E14.out.row
                have v9 := cell_of_row _ _ 1 _ _ _ E14.out.row
                have x0 := cell_of_row _ _ 0 _ _ _ QX.out.row
                have x1 := cell_of_row _ _ 1 _ _ _ QX.out.row
                simp at v0 v1 v4 v5 v8 v9 x0 x1
                go_wp2_with fail
                go_roundw
                case rel => exact ⟨k + 1, n', s', F', ts', tf', by omega, by go_num, FT.out, FN8.out, FN9.out, TO'.out, FB.out⟩
                case measure => simp [intOf]; omega
          · have h4' : ¬ s'.ns - s.ns < 400000 := h4
            have TQ := hid' T5.out
            have BQ := hid' B5.out
            have Q8 := hid' P8.out
            have Q9 := hid' P9.out
            have QX := hid' X5.out
            have QY := hid' Y5.out
            clear RT T5 B5 P8 P9 X5 Y5
            have E8 := hid' (TimeAt.put Q8.out s'.ns s'.nf)
            have O8 := hid' (two_off V5 z8 (.int .i64 s'.ns) (.int .i64 s'.nf))
            have E9 := hid' (Q9.out.other O8.out (fun e => Z89.out e.symm))
            have E14 := hid' (QY.out.other O8.out (fun e => by have := L8.out; have := L13.out; omega))
            have O9 := hid' (two_off ((V5.setCell ⟨z8, 0, none⟩ (.int .i64 s'.ns)).setCell ⟨z8, 1, none⟩ (.int .i64 s'.nf)) z9 (.int .i64 ts') (.int .i64 tf'))
            have FN8 := hid' (E8.out.other O9.out Z89.out)
            have FN9 := hid' (E9.out.put ts' tf')
            have FT := hid' ((TQ.out.other O8.out Q8.out.fz Q8.out.zb ZG8.out ZB8.out).other O9.out Q9.out.fz Q9.out.zb ZG9.out ZB9.out)
            have FB := hid' ((BQ.out.trans (O8.out.below (fun k e => by rw [e]; exact ZB8.out) BQ.out.size)).trans (O9.out.below (fun k e => by rw [e]; exact ZB9.out) (Nat.le_trans BQ.out.size O8.out.size)))
            have v0 := cell_of_row _ _ 0 _ _ _ Q8.out.row
            have v1 := cell_of_row _ _ 1 _ _ _ Q8.out.row
            have v2 := frozen_of_row _ _ 0 _ _ Q8.out.row
            have v3 := frozen_of_row _ _ 1 _ _ Q8.out.row
            have v4 := cell_of_row _ _ 0 _ _ _ E9.out.row
            have v5 := cell_of_row _ _ 1 _ _ _ E9.out.row
            have v6 := frozen_of_row _ _ 0 _ _ E9.out.row
            have v7 := frozen_of_row _ _ 1 _ _ E9.out.row
            have v8 := cell_of_row _ _ 0 _ _ _ E14.out.row
            have v9 := cell_of_row _ _ 1 _ _ _ E14.out.row
            have x0 := cell_of_row _ _ 0 _ _ _ QX.out.row
            have x1 := cell_of_row _ _ 1 _ _ _ QX.out.row
            simp at v0 v1 v4 v5 v8 v9 x0 x1
            go_wp2_with fail
            go_roundw
            case rel => exact ⟨k + 1, n', s', F', ts', tf', by omega, by go_num, FT.out, FN8.out, FN9.out, TO'.out, FB.out⟩
            case measure => simp [intOf]; omega
        · have i2 : ¬ (k : Int) < 60 := by omega
          go_wp2
          go_ret
          exact ⟨rfl, BR.out⟩
      · have i1 : ¬ (k : Int) < (S : Int) := by omega
        go_wp2
        go_ret
        exact ⟨rfl, BR.out⟩
end Go.Proofs.YtmmkhodaljpjgabGreatDoor
