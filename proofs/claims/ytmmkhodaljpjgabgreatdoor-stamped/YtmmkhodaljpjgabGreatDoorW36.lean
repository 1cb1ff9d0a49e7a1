import Derived.Test.YtmmkhodaljpjgabGreatDoorW31
import Derived.Test.YtmmkhodaljpjgabGreatDoorW35
namespace Go.Proofs.YtmmkhodaljpjgabGreatDoor
open Go.RowKit
/-- What is served is a time of the clock. -/
theorem Sv.Inv.tells_pos {x : Sv} {ts tf li er : Int} (h : x.Inv) (hl : x.ld = true) (hT : x.Told ts tf li er) : 0 ≤ ts := by
  have m := h.mid hl
  have can := m.can h.num
  have u0 := can.u0
  by_cases hm : x.mode = 0
  · obtain ⟨e, _⟩ := hT.step hl hm
    omega
  · by_cases hw : x.wide
    · obtain ⟨_, a, _⟩ := h.near hl hT
      obtain ⟨o, q, T, W⟩ := h.wideAt hl hw
      have lo := W.lo
      have ob := W.ob
      have st := W.step
      have ut := W.utc
      have wb := h.num.win
      have g := m.doneFit.when_lt 0 (x.done.length - 1) (by have := W.len; omega) (by have := W.len; omega)
      have g0 := (m.doneFit.when_bd 0 m.pos).1
      have b0 := m.doneFit.bd 0 m.pos
      rw [W.et] at g
      split at ut <;> omega
    · obtain ⟨e, _⟩ := hT.out hl hm hw
      omega
set_option maxRecDepth 100000 in
set_option maxHeartbeats 6400000 in
theorem stamped_walk (c : Int) (lo : Option Addr) (L lcap : Nat) (so : Option Addr) (S scap : Nat) (ow : ByteArray) (w : World) (wc : (Lit.int .i64 c).wf = true) (hI : Ints w lo L) (hL : L ≤ 9223372036854775807) (hS : Stps w so S) (hSL : S ≤ 9223372036854775807) (hos : ow.size ≤ 140737488351232) (hT : Table w) (hP : Pows w) :
    Calls Tryz.prog 7 #[.int .i64 c, .slice lo L lcap, .slice so S scap, .string ow] w fun e w' => e = .returned (.bool true) ∧ Below w.heap.size w w' := by
  have BG := hid' (k_begun c lo L lcap w wc hI hL hT hP)
  have HS := hid' hS
  clear wc hI hS hT hP
  go_enter Tryz.func7, Tryz.ntmps7
  go_wp2_with fail
  refine Calls.mono BG.out ?_
  rintro e w1 ⟨q, n1, s1, F1, rfl, tri1, b1⟩
  have T1 := hid' tri1
  have BL1 := hid' b1
  clear tri1 b1 BG
  go_wp2_with fail
  go_loopw [10] (fun i wr => ∃ (k n : Nat) (s : Sv) (F : Nat → Prop), k ≤ 60 ∧ i = .int .i64 k ∧ Tri q w.heap.size k n s F wr ∧ Below w.heap.size w wr) (fun i _ => 60 - (intOf i).toNat)
  case atStart => exact ⟨0, n1, s1, F1, by omega, rfl, T1.out, BL1.out⟩
  case round =>
    clear T1 BL1
    obtain ⟨k, n, s, F, hk, rfl, tri, hb⟩ := hrel
    have TR := hid' tri
    have BR := hid' hb
    clear tri hb
    by_cases h1 : k < S
    · have i1 : (k : Int) < (S : Int) := by omega
      by_cases h2 : k < 60
      · have i2 : (k : Int) < 60 := by omega
        obtain ⟨b, off, rfl, hbl, hc⟩ := HS.out.some (by omega)
        obtain ⟨kd, ka, kc, q0, q1, q2, _, wa, wc⟩ := hc k h1
        have p0 := (BR.out.cell (p := ⟨b, off + k * 3, none⟩) hbl).trans q0
        have p1 := (BR.out.cell (p := ⟨b, off + k * 3 + 1, none⟩) hbl).trans q1
        have p2 := (BR.out.cell (p := ⟨b, off + k * 3 + 2, none⟩) hbl).trans q2
        have DS := hid' (does_step q w.heap.size k n s F wr kd ka kc wa wc (by omega) TR.out)
        clear q0 q1 q2 hc wa wc
        go_wp2_with fail
        refine Calls.mono DS.out ?_
        rintro e w3 ⟨ev, s', F', n', rfl, tri3, ⟨o3, f3⟩, st3⟩
        have T3 := hid' tri3
        have B3 := hid' (BR.out.trans (TR.out.off o3))
        clear tri3 o3 f3 st3
        go_wp2_with fail
        go_roundw
        case rel => exact ⟨k + 1, n', s', F', by omega, by go_num, T3.out, B3.out⟩
        case measure => simp [intOf]; omega
      · have i2 : ¬ (k : Int) < 60 := by omega
        go_upto_region 9 with fail
        rw [asked_eq]
        obtain ⟨ts, tf, li, er, hTo⟩ := TR.out.inv.tells TR.out.ld
        obtain ⟨lb, er0, tb, f0, f1⟩ := TR.out.inv.tells_bd TR.out.ld hTo
        have tp := TR.out.inv.tells_pos TR.out.ld hTo
        subst er0
        obtain ⟨ky, kz⟩ := asked_yes ow
        obtain ⟨kn, km⟩ := asked_no ow
        have psz := asked_size ow
        have pcut := asked_cut ow
        have pb := asked_byte ow 48 (by omega)
        have AY := hid' (fun (W : World) (hb : Below wr.heap.size wr W) => p_answer_yes q.bx ((asked ow).extract 0 48) s F ts tf li 0 W (TR.out.ps.below hb) TR.out.inv hTo (by rw [kz]; decide) ky (by omega))
        have AN := hid' (fun (W : World) (hb : Below wr.heap.size wr W) => p_answer_no q.bx ((asked ow).extract 0 47) s F W (TR.out.ps.below hb) (by rw [km]; decide) kn)
        have TO := hid' hTo
        have z1 := ans_size li ((asked ow).extract 0 48) ts tf (by omega)
        have z2 := ans_own li ((asked ow).extract 0 48) ts tf (by omega)
        have z3 := ans_rec li ((asked ow).extract 0 48) ts tf (by omega)
        have Z4 := hid' (fun i hi => ans_byte li ((asked ow).extract 0 48) ts tf (by omega) i hi)
        have Z5 := hid' (ans_first li ((asked ow).extract 0 48) ts tf (by omega))
        rw [pcut] at z2
        have ps : 48 ≤ (asked ow).size := by omega
        have psI : (48 : Int) ≤ ((asked ow).size : Int) := by omega
        have psJ : (47 : Int) ≤ ((asked ow).size : Int) := by omega
        have e0 : ((0 : Int) == 0) = true := rfl
        rw [e0] at AY
        generalize ansB li ((asked ow).extract 0 48) true ts tf = an at *
        clear hTo pcut psz ky kn
        generalize asked ow = p at *
        have c0 := cell_of_row _ _ 0 _ _ _ TR.out.row
        simp at c0
        have lb0 := lt_of_heap TR.out.row
        go_region_held3 (fun w' => w'.cell? ⟨q.bt, 0, none⟩ = some (.pointer (some ⟨q.bx, 0, none⟩))) (first | go_keep | assumption) (first | (go_at_call 14; refine Calls.mono (AY.out _ (by exact (Below.refl wr.heap.size wr).drew)) ?_; rintro e w5 ⟨rfl, b5⟩; have Y5 := hid' (below_two (by exact (Below.refl wr.heap.size wr).drew) b5); have m0 : w5.cell? ⟨q.bt, 0, none⟩ = wr.cell? ⟨q.bt, 0, none⟩ := Y5.out.cell (p := ⟨q.bt, 0, none⟩) lb0; clear b5))
        all_goals
          have T5 := hid' (TR.out.keep Y5.out)
          have NW := hid' (T5.out.now TO.out)
          clear c0 m0
          have c0 := cell_of_row _ _ 0 _ _ _ T5.out.row
          simp at c0
          go_wp2_with fail
          refine Calls.mono NW.out ?_
          rintro e w6 ⟨rfl, b6⟩
          have a6 := (Below.refl w6.heap.size w6).alloc (Nat.le_refl _) (.cells #[.int .i64 ts, .int .i64 tf] 33)
          have R6 := hid' (below_two Y5.out (below_two b6 a6))
          have M6 := hid' (heap_alloc_new w6 (.cells #[.int .i64 ts, .int .i64 tf] 33))
          clear b6 a6 NW c0
          go_upto_region 11 with fail
          generalize w6.alloc (.cells #[.int .i64 ts, .int .i64 tf] 33) = V6 at *
          generalize w6.heap.size = z14 at *
          have ns : (an.size : Int) = 48 := by omega
          have s0 : 0 < an.size := by omega
          have F0 := first_ok' pb Z5.out s0 lb
          have AC := hid' (fun j hj => ans_acc Z4.out z1 j hj)
          go_quiet (fail)
          have RD := hid' (below_two R6.out (below_drewN (Below.refl V6.heap.size V6) nq))
          have M7 := hid' (((below_drewN (Below.refl V6.heap.size V6) nq).block _ (lt_of_heap M6.out)).trans M6.out)
          generalize V6.drewN nq = V7 at *
          clear F0 R6 M6
          go_wp2_with fail
          go_loop [17, 18, 19] (fun a b i => ∃ j : Nat, j ≤ 4 ∧ i = .int .i64 j ∧ a = .int .i64 (acc4 ts j) ∧ b = .int .i64 (acc4 tf j)) (fun _ _ i => 4 - (intOf i).toNat)
          case atStart => exact ⟨0, by omega, rfl, rfl, rfl⟩
          case round =>
            obtain ⟨j, hj, rfl, rfl, rfl⟩ := hrel
            have ba := acc4_bd ts j hj
            have bb := acc4_bd tf j hj
            by_cases hjl : j < 4
            · have i3 : (j : Int) < 4 := by omega
              obtain ⟨ea, eb⟩ := AC.out j hjl
              have na := acc4_bd ts (j + 1) hjl
              have nb := acc4_bd tf (j + 1) hjl
              have q1 : 40 + j < an.size := by omega
              have q2 : 44 + j < an.size := by omega
              go_wp2
              exact ⟨⟨j + 1, by omega, by go_num, rfl, rfl⟩, by simp [intOf]; omega⟩
            · obtain rfl : j = 4 := by omega
              rw [acc4_end, show acc4 tf 4 = tf by rw [acc4_end]; omega]
              have i3 : ¬ ((4 : Nat) : Int) < 4 := by omega
              have T7 := hid' (TR.out.keep RD.out)
              have c0 := cell_of_row _ _ 0 _ _ _ T7.out.row
              have lb7 := lt_of_heap T7.out.row
              simp at c0
              clear ba bb AC
              go_upto_region 20 with fail
              go_region_held3 (fun w' => w'.cell? ⟨q.bt, 0, none⟩ = some (.pointer (some ⟨q.bx, 0, none⟩))) (first | go_keep | assumption) (first | (go_at_call 14; refine Calls.mono (AN.out _ (by exact RD.out.drew)) ?_; rintro e w8 ⟨rfl, b8⟩; have X8 := hid' (below_two (by exact (Below.refl V7.heap.size V7).drew) b8); have m0 : w8.cell? ⟨q.bt, 0, none⟩ = V7.cell? ⟨q.bt, 0, none⟩ := X8.out.cell (p := ⟨q.bt, 0, none⟩) lb7; clear b8))
              all_goals
                have M8 := hid' ((X8.out.block _ (lt_of_heap M7.out)).trans M7.out)
                have B8 := hid' (BR.out.trans ((below_two RD.out X8.out).mono BR.out.size))
                have t0 := cell_of_row _ _ 0 _ _ _ M8.out
                have t1 := cell_of_row _ _ 1 _ _ _ M8.out
                simp at t0 t1
                clear c0 m0
                go_upto_region 21 with fail
                go_quiet (fail)
                go_wp2
                go_ret
                exact ⟨rfl, below_drewN B8.out _⟩
    · have i1 : ¬ (k : Int) < (S : Int) := by omega
      go_upto_region 9 with fail
      rw [asked_eq]
      obtain ⟨ts, tf, li, er, hTo⟩ := TR.out.inv.tells TR.out.ld
      obtain ⟨lb, er0, tb, f0, f1⟩ := TR.out.inv.tells_bd TR.out.ld hTo
      have tp := TR.out.inv.tells_pos TR.out.ld hTo
      subst er0
      obtain ⟨ky, kz⟩ := asked_yes ow
      obtain ⟨kn, km⟩ := asked_no ow
      have psz := asked_size ow
      have pcut := asked_cut ow
      have pb := asked_byte ow 48 (by omega)
      have AY := hid' (fun (W : World) (hb : Below wr.heap.size wr W) => p_answer_yes q.bx ((asked ow).extract 0 48) s F ts tf li 0 W (TR.out.ps.below hb) TR.out.inv hTo (by rw [kz]; decide) ky (by omega))
      have AN := hid' (fun (W : World) (hb : Below wr.heap.size wr W) => p_answer_no q.bx ((asked ow).extract 0 47) s F W (TR.out.ps.below hb) (by rw [km]; decide) kn)
      have TO := hid' hTo
      have z1 := ans_size li ((asked ow).extract 0 48) ts tf (by omega)
      have z2 := ans_own li ((asked ow).extract 0 48) ts tf (by omega)
      have z3 := ans_rec li ((asked ow).extract 0 48) ts tf (by omega)
      have Z4 := hid' (fun i hi => ans_byte li ((asked ow).extract 0 48) ts tf (by omega) i hi)
      have Z5 := hid' (ans_first li ((asked ow).extract 0 48) ts tf (by omega))
      rw [pcut] at z2
      have ps : 48 ≤ (asked ow).size := by omega
      have psI : (48 : Int) ≤ ((asked ow).size : Int) := by omega
      have psJ : (47 : Int) ≤ ((asked ow).size : Int) := by omega
      have e0 : ((0 : Int) == 0) = true := rfl
      rw [e0] at AY
      generalize ansB li ((asked ow).extract 0 48) true ts tf = an at *
      clear hTo pcut psz ky kn
      generalize asked ow = p at *
      have c0 := cell_of_row _ _ 0 _ _ _ TR.out.row
      simp at c0
      have lb0 := lt_of_heap TR.out.row
      go_region_held3 (fun w' => w'.cell? ⟨q.bt, 0, none⟩ = some (.pointer (some ⟨q.bx, 0, none⟩))) (first | go_keep | assumption) (first | (go_at_call 14; refine Calls.mono (AY.out _ (by exact (Below.refl wr.heap.size wr).drew)) ?_; rintro e w5 ⟨rfl, b5⟩; have Y5 := hid' (below_two (by exact (Below.refl wr.heap.size wr).drew) b5); have m0 : w5.cell? ⟨q.bt, 0, none⟩ = wr.cell? ⟨q.bt, 0, none⟩ := Y5.out.cell (p := ⟨q.bt, 0, none⟩) lb0; clear b5))
      all_goals
        have T5 := hid' (TR.out.keep Y5.out)
        have NW := hid' (T5.out.now TO.out)
        clear c0 m0
        have c0 := cell_of_row _ _ 0 _ _ _ T5.out.row
        simp at c0
        go_wp2_with fail
        refine Calls.mono NW.out ?_
        rintro e w6 ⟨rfl, b6⟩
        have a6 := (Below.refl w6.heap.size w6).alloc (Nat.le_refl _) (.cells #[.int .i64 ts, .int .i64 tf] 33)
        have R6 := hid' (below_two Y5.out (below_two b6 a6))
        have M6 := hid' (heap_alloc_new w6 (.cells #[.int .i64 ts, .int .i64 tf] 33))
        clear b6 a6 NW c0
        go_upto_region 11 with fail
        generalize w6.alloc (.cells #[.int .i64 ts, .int .i64 tf] 33) = V6 at *
        generalize w6.heap.size = z14 at *
        have ns : (an.size : Int) = 48 := by omega
        have s0 : 0 < an.size := by omega
        have F0 := first_ok' pb Z5.out s0 lb
        have AC := hid' (fun j hj => ans_acc Z4.out z1 j hj)
        go_quiet (fail)
        have RD := hid' (below_two R6.out (below_drewN (Below.refl V6.heap.size V6) nq))
        have M7 := hid' (((below_drewN (Below.refl V6.heap.size V6) nq).block _ (lt_of_heap M6.out)).trans M6.out)
        generalize V6.drewN nq = V7 at *
        clear F0 R6 M6
        go_wp2_with fail
        go_loop [17, 18, 19] (fun a b i => ∃ j : Nat, j ≤ 4 ∧ i = .int .i64 j ∧ a = .int .i64 (acc4 ts j) ∧ b = .int .i64 (acc4 tf j)) (fun _ _ i => 4 - (intOf i).toNat)
        case atStart => exact ⟨0, by omega, rfl, rfl, rfl⟩
        case round =>
          obtain ⟨j, hj, rfl, rfl, rfl⟩ := hrel
          have ba := acc4_bd ts j hj
          have bb := acc4_bd tf j hj
          by_cases hjl : j < 4
          · have i3 : (j : Int) < 4 := by omega
            obtain ⟨ea, eb⟩ := AC.out j hjl
            have na := acc4_bd ts (j + 1) hjl
            have nb := acc4_bd tf (j + 1) hjl
            have q1 : 40 + j < an.size := by omega
            have q2 : 44 + j < an.size := by omega
            go_wp2
            exact ⟨⟨j + 1, by omega, by go_num, rfl, rfl⟩, by simp [intOf]; omega⟩
          · obtain rfl : j = 4 := by omega
            rw [acc4_end, show acc4 tf 4 = tf by rw [acc4_end]; omega]
            have i3 : ¬ ((4 : Nat) : Int) < 4 := by omega
            have T7 := hid' (TR.out.keep RD.out)
            have c0 := cell_of_row _ _ 0 _ _ _ T7.out.row
            have lb7 := lt_of_heap T7.out.row
            simp at c0
            clear ba bb AC
            go_upto_region 20 with fail
            go_region_held3 (fun w' => w'.cell? ⟨q.bt, 0, none⟩ = some (.pointer (some ⟨q.bx, 0, none⟩))) (first | go_keep | assumption) (first | (go_at_call 14; refine Calls.mono (AN.out _ (by exact RD.out.drew)) ?_; rintro e w8 ⟨rfl, b8⟩; have X8 := hid' (below_two (by exact (Below.refl V7.heap.size V7).drew) b8); have m0 : w8.cell? ⟨q.bt, 0, none⟩ = V7.cell? ⟨q.bt, 0, none⟩ := X8.out.cell (p := ⟨q.bt, 0, none⟩) lb7; clear b8))
            all_goals
              have M8 := hid' ((X8.out.block _ (lt_of_heap M7.out)).trans M7.out)
              have B8 := hid' (BR.out.trans ((below_two RD.out X8.out).mono BR.out.size))
              have t0 := cell_of_row _ _ 0 _ _ _ M8.out
              have t1 := cell_of_row _ _ 1 _ _ _ M8.out
              simp at t0 t1
              clear c0 m0
              go_upto_region 21 with fail
              go_quiet (fail)
              go_wp2
              go_ret
              exact ⟨rfl, below_drewN B8.out _⟩
end Go.Proofs.YtmmkhodaljpjgabGreatDoor
