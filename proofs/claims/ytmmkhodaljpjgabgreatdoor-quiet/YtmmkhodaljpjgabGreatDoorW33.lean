import Derived.Test.YtmmkhodaljpjgabGreatDoorW31
namespace Go.Proofs.YtmmkhodaljpjgabGreatDoor
open Go.RowKit
set_option maxRecDepth 100000 in
set_option maxHeartbeats 6400000 in
theorem quiet_walk (c : Int) (lo : Option Addr) (L lcap : Nat) (so : Option Addr) (S scap : Nat) (w : World) (wc : (Lit.int .i64 c).wf = true) (hI : Ints w lo L) (hL : L ≤ 9223372036854775807) (hS : Stps w so S) (hSL : S ≤ 9223372036854775807) (hT : Table w) (hP : Pows w) :
    Calls Tryz.prog 5 #[.int .i64 c, .slice lo L lcap, .slice so S scap] w fun e w' => e = .returned (.bool true) ∧ Below w.heap.size w w' := by
  have BG := hid' (k_begun c lo L lcap w wc hI hL hT hP)
  have HS := hid' hS
  clear wc hI hS hT hP
  go_enter Tryz.func5, Tryz.ntmps5
  go_wp2_with fail
  refine Calls.mono BG.out ?_
  rintro e w1 ⟨q, n1, s1, F1, rfl, tri1, b1⟩
  have T1 := hid' tri1
  have BL1 := hid' b1
  clear tri1 b1 BG
  go_wp2_with fail
  go_loopw [8] (fun i wr => ∃ (k n : Nat) (s : Sv) (F : Nat → Prop), k ≤ 60 ∧ i = .int .i64 k ∧ Tri q w.heap.size k n s F wr ∧ Below w.heap.size w wr) (fun i _ => 60 - (intOf i).toNat)
  case atStart => exact ⟨0, n1, s1, F1, by omega, rfl, T1.out, BL1.out⟩
  case round =>
    clear T1 BL1
    obtain ⟨k, n, s, F, hk, rfl, tri, hb⟩ := hrel
    have TR := hid' tri
    have BR := hid' hb
    clear tri hb
    by_cases h1 : k < S
    · have i1 : (k : Int) < (S : Int) := by omega
      by_cases h2 : k < 60
      · have i2 : (k : Int) < 60 := by omega
        obtain ⟨ts, tf, li, er, hTo⟩ := TR.out.inv.tells TR.out.ld
        obtain ⟨lb, er0, tb, f0, f1⟩ := TR.out.inv.tells_bd TR.out.ld hTo
        subst er0
        have TO := hid' hTo
        have mi := TR.out.inv.mid TR.out.ld
        have dpos := mi.pos
        have dlen : s.done.length ≤ 1000 := by have := TR.out.inv.lens; omega
        have UE : Hid (s.ns - Tab.offTo s.done s.ns (s.done.length - 1) = s.utc) := by
          show _ = _
          unfold Sv.utc
          rw [Tab.offTo_eq _ _ mi.firstD, show s.done.length - 1 + 1 = s.done.length by omega]
        have FI := hid' mi.doneFit.good.fine
        obtain ⟨t0, t1, t2, t3⟩ := TR.out.inv.num.t'
        obtain ⟨b, off, rfl, hbl, hc⟩ := HS.out.some (by omega)
        obtain ⟨kd, ka, kc, q0, q1, q2, _, wa, wc⟩ := hc k h1
        have Q0 := hid' q0
        have Q1 := hid' q1
        have Q2 := hid' q2
        have WA := hid' wa
        have WC := hid' wc
        clear hTo mi hc q0 q1 q2 wa wc lb
        have c0 := cell_of_row _ _ 0 _ _ _ TR.out.row
        simp at c0
        go_wp2_with fail
        refine Calls.mono TR.out.see ?_
        rintro e w2 ⟨dv, cv, rfl, od, oc, b2⟩
        obtain ⟨g, cap, ao, cp, rfl, rfl, SN⟩ := Seen.make TR.out od oc b2
        unfold seenC at SN
        have a2 := (Below.refl w2.heap.size w2).alloc (Nat.le_refl _) (.cells #[.int .i64 s.ns, .int .i64 s.nf, .bool s.ld, .int .i64 s.up, .int .i64 s.ex, .slice (some ⟨g, 0, none⟩) s.done.length cap, .slice ao s.com.length cp, .int .i64 s.ref] 36)
        have R2 := hid' (b2.trans (a2.mono b2.size))
        have T2 := hid' (TR.out.keep R2.out)
        have B2 := hid' (BR.out.trans (R2.out.mono BR.out.size))
        have S2 := hid' SN
        clear SN a2 b2 od oc c0 R2
        go_upto_region 8 with fail
        generalize w2.alloc (.cells #[.int .i64 s.ns, .int .i64 s.nf, .bool s.ld, .int .i64 s.up, .int .i64 s.ex, .slice (some ⟨g, 0, none⟩) s.done.length cap, .slice ao s.com.length cp, .int .i64 s.ref] 36) = V2 at *
        generalize w2.heap.size = z9 at *
        have NW := hid' (T2.out.now TO.out)
        have c0 := cell_of_row _ _ 0 _ _ _ T2.out.row
        simp at c0
        go_wp2_with fail
        refine Calls.mono NW.out ?_
        rintro e w3 ⟨rfl, b3⟩
        have a3 := (Below.refl w3.heap.size w3).alloc (Nat.le_refl _) (.cells #[.int .i64 ts, .int .i64 tf] 33)
        have R3 := hid' (b3.trans (a3.mono b3.size))
        have T3 := hid' (T2.out.keep R3.out)
        have B3 := hid' (B2.out.trans (R3.out.mono B2.out.size))
        have S3 := hid' (S2.out.below R3.out)
        have M3 := hid' (TimeAt.make T2.out b3 ts tf)
        clear a3 b3 c0 R3 NW T2 S2 B2
        go_upto_region 9 with fail
        generalize w3.alloc (.cells #[.int .i64 ts, .int .i64 tf] 33) = V3 at *
        generalize w3.heap.size = z10 at *
        have p0 := (B3.out.cell (p := ⟨b, off + k * 3, none⟩) hbl).trans Q0.out
        have p1 := (B3.out.cell (p := ⟨b, off + k * 3 + 1, none⟩) hbl).trans Q1.out
        have p2 := (B3.out.cell (p := ⟨b, off + k * 3 + 2, none⟩) hbl).trans Q2.out
        have DS := hid' (does_step q w.heap.size k n s F V3 kd ka kc WA.out WC.out (by omega) T3.out)
        go_wp2_with fail
        refine Calls.mono DS.out ?_
        rintro e w4 ⟨ev, s', F', n', rfl, tri4, ⟨o4, f4⟩, st4⟩
        have T4 := hid' tri4
        have S4 := hid' (S3.out.off o4 f4)
        have M4 := hid' (M3.out.off o4 f4)
        have B4 := hid' (B3.out.trans (T3.out.off o4))
        have ST := hid' st4
        have c0 := cell_of_row _ _ 0 _ _ _ tri4.row
        simp at c0
        obtain ⟨ts', tf', li', er', hTo'⟩ := tri4.inv.tells tri4.ld
        obtain ⟨_, er0', _, _, _⟩ := tri4.inv.tells_bd tri4.ld hTo'
        subst er0'
        have TO' := hid' hTo'
        clear tri4 o4 f4 st4 DS p0 p1 p2 hTo' T3 S3 M3 B3
        go_wp2_with fail
        refine Calls.mono T4.out.see ?_
        rintro e w5 ⟨dv, cv, rfl, od, oc, b5⟩
        obtain ⟨g', cap', ao', cp', rfl, rfl, SN⟩ := Seen.make T4.out od oc b5
        unfold seenC at SN
        have a5 := (Below.refl w5.heap.size w5).alloc (Nat.le_refl _) (.cells #[.int .i64 s'.ns, .int .i64 s'.nf, .bool s'.ld, .int .i64 s'.up, .int .i64 s'.ex, .slice (some ⟨g', 0, none⟩) s'.done.length cap', .slice ao' s'.com.length cp', .int .i64 s'.ref] 36)
        have R5 := hid' (b5.trans (a5.mono b5.size))
        have T5 := hid' (T4.out.keep R5.out)
        have B5 := hid' (B4.out.trans (R5.out.mono B4.out.size))
        have S5 := hid' (S4.out.below R5.out)
        have M5 := hid' (M4.out.below R5.out)
        have N5 := hid' SN
        clear SN a5 b5 od oc c0 R5 T4 S4 M4 B4
        go_upto_region 11 with fail
        generalize w5.alloc (.cells #[.int .i64 s'.ns, .int .i64 s'.nf, .bool s'.ld, .int .i64 s'.up, .int .i64 s'.ex, .slice (some ⟨g', 0, none⟩) s'.done.length cap', .slice ao' s'.com.length cp', .int .i64 s'.ref] 36) = V5 at *
        generalize w5.heap.size = z14 at *
        have NW := hid' (T5.out.now TO'.out)
        have c0 := cell_of_row _ _ 0 _ _ _ T5.out.row
        simp at c0
        go_wp2_with fail
        refine Calls.mono NW.out ?_
        rintro e w6 ⟨rfl, b6⟩
        have a6 := (Below.refl w6.heap.size w6).alloc (Nat.le_refl _) (.cells #[.int .i64 ts', .int .i64 tf'] 33)
        have R6 := hid' (b6.trans (a6.mono b6.size))
        have T6 := hid' (T5.out.keep R6.out)
        have B6 := hid' (B5.out.trans (R6.out.mono B5.out.size))
        have S6 := hid' (S5.out.below R6.out)
        have N6 := hid' (N5.out.below R6.out)
        have M6 := hid' (M5.out.below R6.out)
        have K6 := hid' (TimeAt.make T5.out b6 ts' tf')
        clear a6 b6 c0 R6 NW T5 S5 M5 B5 N5
        go_upto_region 12 with fail
        generalize w6.alloc (.cells #[.int .i64 ts', .int .i64 tf'] 33) = V6 at *
        generalize w6.heap.size = z15 at *
        have UT := hid' (k_utc s.ns s.nf s.up s.ex s.ref s.ld g s.done.length cap (.slice ao s.com.length cp) s.done V6 rfl dpos S6.out.lies S6.out.lg FI.out dlen t0 t1)
        unfold stC at UT
        have ra := S6.out.row
        unfold seenC at ra
        have s0 := cell_of_row _ _ 0 _ _ _ ra
        have s1 := cell_of_row _ _ 1 _ _ _ ra
        have s2 := cell_of_row _ _ 2 _ _ _ ra
        have s3 := cell_of_row _ _ 3 _ _ _ ra
        have s4 := cell_of_row _ _ 4 _ _ _ ra
        have s5 := cell_of_row _ _ 5 _ _ _ ra
        have s6 := cell_of_row _ _ 6 _ _ _ ra
        have s7 := cell_of_row _ _ 7 _ _ _ ra
        simp at s0 s1 s2 s3 s4 s5 s6 s7
        go_wp2_with fail
        refine Calls.mono UT.out ?_
        rintro e w7 ⟨rfl, b7⟩
        have a7 := (Below.refl w7.heap.size w7).alloc (Nat.le_refl _) (.cells #[.int .i64 (s.ns - Tab.offTo s.done s.ns (s.done.length - 1)), .int .i64 s.nf] 33)
        have R7 := hid' (b7.trans (a7.mono b7.size))
        have U7 := hid' (heap_alloc_new w7 (.cells #[.int .i64 (s.ns - Tab.offTo s.done s.ns (s.done.length - 1)), .int .i64 s.nf] 33))
        have ue := UE.out
        have aw := Tab.awayTo_bd s.done s.ns (s.done.length - 1)
        clear a7 b7 UT s0 s1 s2 s3 s4 s5 s6 s7 ra UE
        go_upto_region 15 with fail
        generalize Tab.awayTo s.done s.ns (s.done.length - 1) = av at *
        generalize s.ns - Tab.offTo s.done s.ns (s.done.length - 1) = uu at *
        subst ue
        generalize w7.alloc (.cells #[.int .i64 s.utc, .int .i64 s.nf] 33) = V7 at *
        generalize w7.heap.size = z18 at *
        have T7 := hid' (T6.out.keep R7.out)
        have B7 := hid' (B6.out.trans (R7.out.mono B6.out.size))
        have ra := (S6.out.below R7.out).row
        have rb := (N6.out.below R7.out).row
        have rm := (M6.out.below R7.out).row
        have rk := (K6.out.below R7.out).row
        unfold seenC at ra rb
        have u0 := cell_of_row _ _ 0 _ _ _ U7.out
        have pk := (B7.out.cell (p := ⟨b, off + k * 3, none⟩) hbl).trans Q0.out
        have x4 := cell_of_row _ _ 4 _ _ _ ra
        simp at u0 x4
        by_cases hkd : kd = 1
        · subst hkd
          by_cases hu : s.utc < s.ex
          · obtain ⟨q1, q2, q3, q4, q5⟩ := ST.out.quiet TR.out.inv TR.out.ld TR.out.wd hu
            obtain ⟨rfl, rfl, rfl, _⟩ := Sv.told_same (q5 _ _ _ _ TO.out) TO'.out
            rw [q1, q2, q3, q4] at rb
            have x0 := cell_of_row _ _ 0 _ _ _ ra
            have x1 := cell_of_row _ _ 1 _ _ _ ra
            have x5 := cell_of_row _ _ 5 _ _ _ ra
            have x6 := cell_of_row _ _ 6 _ _ _ ra
            have y0 := cell_of_row _ _ 0 _ _ _ rb
            have y1 := cell_of_row _ _ 1 _ _ _ rb
            have y5 := cell_of_row _ _ 5 _ _ _ rb
            have y6 := cell_of_row _ _ 6 _ _ _ rb
            have m0 := cell_of_row _ _ 0 _ _ _ rm
            have m1 := cell_of_row _ _ 1 _ _ _ rm
            have l0 := cell_of_row _ _ 0 _ _ _ rk
            have l1 := cell_of_row _ _ 1 _ _ _ rk
            simp at x0 x1 x5 x6 y0 y1 y5 y6 m0 m1 l0 l1
            clear ra rb rm rk q1 q2 q3 q4 q5
            by_cases hev : ev = 0
            · subst hev
              go_wp2_with fail
              go_roundw
              case rel => exact ⟨k + 1, n', s', F', by omega, by go_num, T7.out, B7.out⟩
              case measure => simp [intOf]; omega
            · have e6 : (ev != 0) = true := bne_iff_ne.2 hev
              go_wp2_with fail
              go_roundw
              case rel => exact ⟨k + 1, n', s', F', by omega, by go_num, T7.out, B7.out⟩
              case measure => simp [intOf]; omega
          · have hu' : decide (s.utc < s.ex) = false := decide_eq_false hu
            by_cases hev : ev = 0
            · subst hev
              clear ra rb rm rk
              go_wp2_with fail
              go_roundw
              case rel => exact ⟨k + 1, n', s', F', by omega, by go_num, T7.out, B7.out⟩
              case measure => simp [intOf]; omega
            · have e6 : (ev != 0) = true := bne_iff_ne.2 hev
              rw [ST.out.err hev] at rb
              have x6 := cell_of_row _ _ 6 _ _ _ ra
              have y6 := cell_of_row _ _ 6 _ _ _ rb
              simp at x6 y6
              clear ra rb rm rk
              go_wp2_with fail
              go_roundw
              case rel => exact ⟨k + 1, n', s', F', by omega, by go_num, T7.out, B7.out⟩
              case measure => simp [intOf]; omega
        · have e6 : (kd == 1) = false := beq_eq_false_iff_ne.2 hkd
          clear ra rb rm rk
          go_wp2_with fail
          go_roundw
          case rel => exact ⟨k + 1, n', s', F', by omega, by go_num, T7.out, B7.out⟩
          case measure => simp [intOf]; omega
      · have i2 : ¬ (k : Int) < 60 := by omega
        go_wp2
        go_ret
        exact ⟨rfl, BR.out⟩
    · have i1 : ¬ (k : Int) < (S : Int) := by omega
      go_wp2
      go_ret
      exact ⟨rfl, BR.out⟩
end Go.Proofs.YtmmkhodaljpjgabGreatDoor
