import Derived.Test.YtmmkhodaljpjgabGreatDoorW31
namespace Go.Proofs.YtmmkhodaljpjgabGreatDoor
open Go.RowKit
set_option maxRecDepth 100000 in
set_option maxHeartbeats 6400000 in
theorem kept_walk (c : Int) (lo : Option Addr) (L lcap : Nat) (so : Option Addr) (S scap : Nat) (w : World) (wc : (Lit.int .i64 c).wf = true) (hI : Ints w lo L) (hL : L ≤ 9223372036854775807) (hS : Stps w so S) (hSL : S ≤ 9223372036854775807) (hT : Table w) (hP : Pows w) :
    Calls Tryz.prog 6 #[.int .i64 c, .slice lo L lcap, .slice so S scap] w fun e w' => e = .returned (.bool true) ∧ Below w.heap.size w w' := by
  have BG := hid' (k_begun c lo L lcap w wc hI hL hT hP)
  have HS := hid' hS
  clear wc hI hS hT hP
  go_enter Tryz.func6, Tryz.ntmps6
  go_wp2_with fail
  refine Calls.mono BG.out ?_
  rintro e w1 ⟨q, n1, s1, F1, rfl, tri1, b1⟩
  have T1 := hid' tri1
  have BL1 := hid' b1
  have c0 := cell_of_row _ _ 0 _ _ _ tri1.row
  simp at c0
  clear tri1 b1 BG
  go_wp2_with fail
  refine Calls.mono T1.out.see ?_
  rintro e w2 ⟨dv, cv, rfl, od, oc, b2⟩
  obtain ⟨g, cap, ao, cp, rfl, rfl, SN⟩ := Seen.make T1.out od oc b2
  unfold seenC at SN
  have a2 := (Below.refl w2.heap.size w2).alloc (Nat.le_refl _) (.cells #[.int .i64 s1.ns, .int .i64 s1.nf, .bool s1.ld, .int .i64 s1.up, .int .i64 s1.ex, .slice (some ⟨g, 0, none⟩) s1.done.length cap, .slice ao s1.com.length cp, .int .i64 s1.ref] 36)
  have B2 := hid' (b2.trans (a2.mono b2.size))
  have T2 := hid' (T1.out.keep B2.out)
  have BL2 := hid' (BL1.out.trans (B2.out.mono BL1.out.size))
  have S2 := hid' SN
  have ZG : Hid (w2.heap.size ≠ q.g) := fun e => by have := T1.out.lg; have := b2.size; omega
  have ZB : Hid (w.heap.size ≤ w2.heap.size) := Nat.le_trans BL1.out.size b2.size
  clear SN a2 b2 od oc c0 T1 BL1 B2
  go_upto_region 5 with fail
  generalize w2.alloc (.cells #[.int .i64 s1.ns, .int .i64 s1.nf, .bool s1.ld, .int .i64 s1.up, .int .i64 s1.ex, .slice (some ⟨g, 0, none⟩) s1.done.length cap, .slice ao s1.com.length cp, .int .i64 s1.ref] 36) = V2 at *
  generalize w2.heap.size = z at *
  go_wp2_with fail
  go_loopw [9] (fun i wr => ∃ (k n : Nat) (s : Sv) (F : Nat → Prop) (g cap : Nat) (ao : Option Addr) (cp : Nat), k ≤ 60 ∧ i = .int .i64 k ∧ Tri q w.heap.size k n s F wr ∧ Seen F q.bt z g cap ao cp s wr ∧ Below w.heap.size w wr) (fun i _ => 60 - (intOf i).toNat)
  case atStart => exact ⟨0, n1, s1, F1, g, cap, ao, cp, by omega, rfl, T2.out, S2.out, BL2.out⟩
  case round =>
    clear T2 S2 BL2
    obtain ⟨k, n, s, F, g, cap, ao, cp, hk, rfl, tri, sn, hb⟩ := hrel
    have TR := hid' tri
    have SR := hid' sn
    have BR := hid' hb
    clear tri sn hb
    by_cases h1 : k < S
    · have i1 : (k : Int) < (S : Int) := by omega
      by_cases h2 : k < 60
      · have i2 : (k : Int) < 60 := by omega
        obtain ⟨b, off, rfl, hbl, hc⟩ := HS.out.some (by omega)
        obtain ⟨kd, ka, kc, q0, q1, q2, _, wa, wc⟩ := hc k h1
        have Q0 := hid' q0
        have p0 := (BR.out.cell (p := ⟨b, off + k * 3, none⟩) hbl).trans q0
        have p1 := (BR.out.cell (p := ⟨b, off + k * 3 + 1, none⟩) hbl).trans q1
        have p2 := (BR.out.cell (p := ⟨b, off + k * 3 + 2, none⟩) hbl).trans q2
        have dl : s.done.length ≤ 1000 := by have := TR.out.inv.lens; omega
        clear q0 q1 q2
        have DS := hid' (does_step q w.heap.size k n s F wr kd ka kc wa wc (by omega) TR.out)
        clear hc wa wc
        go_wp2_with fail
        refine Calls.mono DS.out ?_
        rintro e w3 ⟨ev, s', F', n', rfl, tri3, ⟨o3, f3⟩, st3⟩
        have T3 := hid' tri3
        have S3 := hid' (SR.out.off o3 f3)
        have B3 := hid' (BR.out.trans (TR.out.off o3))
        obtain ⟨go, _, gr⟩ := st3.goes TR.out.inv TR.out.ld
        have c0 := cell_of_row _ _ 0 _ _ _ tri3.row
        simp at c0
        have gns := go.ns
        have grf := go.ref
        obtain ⟨rr, gpre⟩ := go.pre
        have gl : s.done.length ≤ s'.done.length := by rw [gpre, List.length_append]; omega
        have GP := hid' gpre
        have GR := hid' gr
        clear tri3 o3 f3 st3 go gpre gr p0 p1 p2 DS
        go_wp2_with fail
        refine Calls.mono T3.out.see ?_
        rintro e w4 ⟨dv, cv, rfl, od, oc, b4⟩
        obtain ⟨g', cap', ao', cp', rfl, rfl, SN⟩ := Seen.make T3.out od oc b4
        unfold seenC at SN
        have a4 := (Below.refl w4.heap.size w4).alloc (Nat.le_refl _) (.cells #[.int .i64 s'.ns, .int .i64 s'.nf, .bool s'.ld, .int .i64 s'.up, .int .i64 s'.ex, .slice (some ⟨g', 0, none⟩) s'.done.length cap', .slice ao' s'.com.length cp', .int .i64 s'.ref] 36)
        have V34 := hid' (b4.trans (a4.mono b4.size))
        have T4 := hid' (T3.out.keep V34.out)
        have S4 := hid' (S3.out.below V34.out)
        have B4 := hid' (B3.out.trans (V34.out.mono B3.out.size))
        have N4 := hid' SN
        have zy : Hid (z < w4.heap.size) := Nat.lt_of_lt_of_le (lt_of_heap S3.out.row) b4.size
        have gy : Hid (w3.heap.size ≤ g') := own_ge od g' rfl
        have zz : Hid (z < w3.heap.size) := lt_of_heap S3.out.row
        clear SN a4 b4 od oc c0 T3 S3 B3 V34
        go_upto_region 10 with fail
        generalize w4.alloc (.cells #[.int .i64 s'.ns, .int .i64 s'.nf, .bool s'.ld, .int .i64 s'.up, .int .i64 s'.ex, .slice (some ⟨g', 0, none⟩) s'.done.length cap', .slice ao' s'.com.length cp', .int .i64 s'.ref] 36) = V4 at *
        generalize w4.heap.size = y at *
        have ra := S4.out.row
        have rb := N4.out.row
        unfold seenC at ra rb
        have a0 := cell_of_row _ _ 0 _ _ _ ra
        have a5 := cell_of_row _ _ 5 _ _ _ ra
        have a7 := cell_of_row _ _ 7 _ _ _ ra
        have b0 := cell_of_row _ _ 0 _ _ _ rb
        have b5 := cell_of_row _ _ 5 _ _ _ rb
        have b7 := cell_of_row _ _ 7 _ _ _ rb
        simp at a0 a5 a7 b0 b5 b7
        clear ra rb
        have j1 : ¬ (s'.done.length : Int) < (s.done.length : Int) := by omega
        have j2 : ¬ s'.ns < s.ns := by omega
        have j3 : ¬ s'.ref < s.ref := by omega
        go_wp2_with fail
        clear a0 a5 a7 b0 b5 b7
        go_loopw [12] (fun kk wx => ∃ j : Nat, j ≤ s.done.length ∧ kk = .int .i64 j ∧ Below V4.heap.size V4 wx) (fun kk _ => s.done.length - (intOf kk).toNat)
        case atStart => exact ⟨0, by omega, rfl, Below.refl _ _⟩
        case round =>
          obtain ⟨j, hj, rfl, hb⟩ := hrel
          rename World => wx
          have S5 := hid' (S4.out.below hb)
          have N5 := hid' (N4.out.below hb)
          have HB := hid' hb
          have ra := S5.out.row
          have rb := N5.out.row
          unfold seenC at ra rb
          have RA := hid' ra
          have RB := hid' rb
          have a5 := cell_of_row _ _ 5 _ _ _ ra
          have b5 := cell_of_row _ _ 5 _ _ _ rb
          simp at a5 b5
          clear ra rb hb
          by_cases hjl : j < s.done.length
          · have i3 : (j : Int) < (s.done.length : Int) := by omega
            have i4 : (j : Int) < (s'.done.length : Int) := by omega
            obtain ⟨l1, l2⟩ := S5.out.lies j hjl
            obtain ⟨l3, l4⟩ := N5.out.lies j (by omega)
            have ee : s'.done[j]'(by omega) = s.done[j] := by
              have h := GP.out
              simp only [h]
              exact List.getElem_append_left hjl
            rw [ee] at l3 l4
            generalize (s.done[j]'hjl).1 = pa at *
            generalize (s.done[j]'hjl).2 = po at *
            clear ee
            go_wp2_with fail
            go_quiet (fail)
            go_wp2_with fail
            go_roundw
            case rel => exact ⟨j + 1, by omega, by go_num, below_drewN HB.out _⟩
            case measure => simp [intOf]; omega
          · have i3 : ¬ (j : Int) < (s.done.length : Int) := by omega
            have c0 := cell_of_row _ _ 0 _ _ _ RA.out
            have c1 := cell_of_row _ _ 1 _ _ _ RA.out
            have c2 := cell_of_row _ _ 2 _ _ _ RA.out
            have c3 := cell_of_row _ _ 3 _ _ _ RA.out
            have c4 := cell_of_row _ _ 4 _ _ _ RA.out
            have c6 := cell_of_row _ _ 6 _ _ _ RA.out
            have c7 := cell_of_row _ _ 7 _ _ _ RA.out
            have d0 := cell_of_row _ _ 0 _ _ _ RB.out
            have d1 := cell_of_row _ _ 1 _ _ _ RB.out
            have d2 := cell_of_row _ _ 2 _ _ _ RB.out
            have d3 := cell_of_row _ _ 3 _ _ _ RB.out
            have d4 := cell_of_row _ _ 4 _ _ _ RB.out
            have d6 := cell_of_row _ _ 6 _ _ _ RB.out
            have d7 := cell_of_row _ _ 7 _ _ _ RB.out
            simp at c0 c1 c2 c3 c4 c6 c7 d0 d1 d2 d3 d4 d6 d7
            have k0 := frozen_of_row _ _ 0 _ _ RA.out
            have k1 := frozen_of_row _ _ 1 _ _ RA.out
            have k2 := frozen_of_row _ _ 2 _ _ RA.out
            have k3 := frozen_of_row _ _ 3 _ _ RA.out
            have k4 := frozen_of_row _ _ 4 _ _ RA.out
            have k5 := frozen_of_row _ _ 5 _ _ RA.out
            have k6 := frozen_of_row _ _ 6 _ _ RA.out
            have k7 := frozen_of_row _ _ 7 _ _ RA.out
            have pk := ((B4.out.trans (HB.out.mono B4.out.size)).cell (p := ⟨b, off + k * 3, none⟩) hbl).trans Q0.out
            go_upto_region 17 with fail
            by_cases hkd : kd = 2
            · subst hkd
              have gg := GR.out rfl
              by_cases hev : ev = 0
              · have e7 : (s'.ref == s.ref) = true := beq_iff_eq.2 (gg.1 hev)
                subst hev
                clear gg
                go_wp2_with fail
                have SP := hid' (S5.out.put N5.out (fun e => by have := gy.out; have := zz.out; omega))
                have OP := hid' (put8_off wx z (.int .i64 s'.ns) (.int .i64 s'.nf) (.bool s'.ld) (.int .i64 s'.up) (.int .i64 s'.ex) (.slice (some ⟨g', 0, none⟩) s'.done.length cap') (.slice ao' s'.com.length cp') (.int .i64 s'.ref))
                have TP := hid' ((T4.out.keep HB.out).other OP.out S5.out.fz S5.out.zb ZG.out ZB.out)
                have BP := hid' ((B4.out.trans (HB.out.mono B4.out.size)).trans (OP.out.below (fun k e => by rw [e]; exact ZB.out) (B4.out.trans (HB.out.mono B4.out.size)).size))
                go_roundw
                case rel => exact ⟨k + 1, n', s', F', g', cap', ao', cp', by omega, by go_num, TP.out, SP.out, BP.out⟩
                case measure => simp [intOf]; omega
              · have e6 : (ev == 0) = false := beq_eq_false_iff_ne.2 hev
                have e7 : (s'.ref == s.ref) = false := beq_eq_false_iff_ne.2 (fun c => hev (gg.2 c))
                clear gg
                go_wp2_with fail
                have SP := hid' (S5.out.put N5.out (fun e => by have := gy.out; have := zz.out; omega))
                have OP := hid' (put8_off wx z (.int .i64 s'.ns) (.int .i64 s'.nf) (.bool s'.ld) (.int .i64 s'.up) (.int .i64 s'.ex) (.slice (some ⟨g', 0, none⟩) s'.done.length cap') (.slice ao' s'.com.length cp') (.int .i64 s'.ref))
                have TP := hid' ((T4.out.keep HB.out).other OP.out S5.out.fz S5.out.zb ZG.out ZB.out)
                have BP := hid' ((B4.out.trans (HB.out.mono B4.out.size)).trans (OP.out.below (fun k e => by rw [e]; exact ZB.out) (B4.out.trans (HB.out.mono B4.out.size)).size))
                go_roundw
                case rel => exact ⟨k + 1, n', s', F', g', cap', ao', cp', by omega, by go_num, TP.out, SP.out, BP.out⟩
                case measure => simp [intOf]; omega
            · have e6 : (kd == 2) = false := beq_eq_false_iff_ne.2 hkd
              go_wp2_with fail
              have SP := hid' (S5.out.put N5.out (fun e => by have := gy.out; have := zz.out; omega))
              have OP := hid' (put8_off wx z (.int .i64 s'.ns) (.int .i64 s'.nf) (.bool s'.ld) (.int .i64 s'.up) (.int .i64 s'.ex) (.slice (some ⟨g', 0, none⟩) s'.done.length cap') (.slice ao' s'.com.length cp') (.int .i64 s'.ref))
              have TP := hid' ((T4.out.keep HB.out).other OP.out S5.out.fz S5.out.zb ZG.out ZB.out)
              have BP := hid' ((B4.out.trans (HB.out.mono B4.out.size)).trans (OP.out.below (fun k e => by rw [e]; exact ZB.out) (B4.out.trans (HB.out.mono B4.out.size)).size))
              go_roundw
              case rel => exact ⟨k + 1, n', s', F', g', cap', ao', cp', by omega, by go_num, TP.out, SP.out, BP.out⟩
              case measure => simp [intOf]; omega
      · have i2 : ¬ (k : Int) < 60 := by omega
        go_wp2
        go_ret
        exact ⟨rfl, BR.out⟩
    · have i1 : ¬ (k : Int) < (S : Int) := by omega
      go_wp2
      go_ret
      exact ⟨rfl, BR.out⟩
end Go.Proofs.YtmmkhodaljpjgabGreatDoor
