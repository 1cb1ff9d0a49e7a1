import Derived.Test.YtmmkhodaljpjgaaGreatDoorW28
import Derived.Test.YtmmkhodaljpjgaaGreatDoorW29
import Derived.Test.YtmmkhodaljpjgaaGreatDoorW10
import Derived.Test.YtmmkhodaljpjgaaGreatDoorW01
import Derived.Deep.QuietTactic
import Derived.BigQuiet
namespace Go.Proofs.YtmmkhodaljpjgaaGreatDoor
open Go.RowKit
attribute [local go_sem ↓] Go.wp_at_zero Go.wp_at_succ
set_option maxRecDepth 100000 in
set_option maxHeartbeats 6400000 in
theorem ref_window (b : Nat) (x : Sv) (dv bv cv hv : Value) (i : Int) (w : World) (hr : RSrv b x dv bv cv hv w) (hl : x.done.length ≤ 1000) (hb : x.BegOk) (hw : x.WinAt i) :
    Calls Tryz.prog 94 #[.pointer (some ⟨b, 0, none⟩)] w fun e w' => e = .returned (.int .i64 i) ∧ Below w.heap.size w w' := by
  have HR := hid' hr
  have HOK := hid' hb.ok
  have hbl := hb.len
  have w0 := hb.w0
  have w1 := hb.w1
  have HT : Hid (∀ i, x.till i = tLater (tSum (x.began.getD i (0, 0)).1 (x.began.getD i (0, 0)).2 x.win 0).1 (tSum (x.began.getD i (0, 0)).1 (x.began.getD i (0, 0)).2 x.win 0).2 x.ns x.nf) := fun _ => rfl
  have HW : Hid ((i = -1 ∧ ∀ j, 1 ≤ j → j < x.done.length → x.till j = false) ∨ ∃ k : Nat, i = k ∧ 1 ≤ k ∧ k < x.done.length ∧ x.till k = true ∧ ∀ j, 1 ≤ j → j < k → x.till j = false) := hw
  generalize htl : x.till = till at *
  clear htl hb hw
  obtain ⟨mode, win, fresh, ns, nf, ld, up, ex, done, began, com, ref, said⟩ := x
  simp only at hl hbl w0 w1 HT HW HOK
  obtain ⟨da, dcp, hdv⟩ := own_slice hr.dd
  obtain ⟨ba, bcp, hbv⟩ := own_slice hr.bb
  subst hdv hbv
  obtain ⟨L, hL⟩ : ∃ L, done.length = L := ⟨_, rfl⟩
  have HL := hid' hL
  have HBL := hid' (hbl.trans hL)
  have hl' : L ≤ 1000 := by omega
  clear hr hL hbl hl
  rw [HL.out] at HW
  go_enter Tryz.func94, Tryz.ntmps94
  go_wp2_with fail
  go_loopw [3, 4, 5] (fun iv _ _ wr => ∃ k : Nat, 1 ≤ k ∧ k ≤ max L 1 ∧ iv = .int .i64 k ∧ (∀ j, 1 ≤ j → j < k → till j = false) ∧ Below w.heap.size w wr) (fun iv _ _ _ => L - (intOf iv).toNat)
  case atStart => exact ⟨1, by omega, by omega, rfl, fun j h1 h2 => by omega, Below.refl _ _⟩
  case round =>
    obtain ⟨k, hk1, hk, rfl, hz, hb⟩ := hrel
    have HZ := hid' hz
    have HB := hid' hb
    have rr := HR.out.below hb
    have q8 := cell_of_row _ _ 8 _ _ _ rr.row
    have q9 := cell_of_row _ _ 9 _ _ _ rr.row
    have q1 := cell_of_row _ _ 1 _ _ _ rr.row
    have lb := lt_of_heap rr.row
    simp at q8 q9 q1
    rw [HL.out] at q8
    rw [HBL.out] at q9
    by_cases hlt : k < L
    · have hkb : k < began.length := by rw [HBL.out]; exact hlt
      obtain ⟨g, cap', hg⟩ := own_some rr.bb (show 0 < began.length by omega)
      obtain ⟨rfl, _, rfl⟩ := Value.slice.inj hg
      have a0 := (rr.bb.cellAt (k * 2) (by omega)).trans (flat_at0 began k hkb)
      have a1 := (rr.bb.cellAt (k * 2 + 1) (by omega)).trans (flat_at1 began k hkb)
      have lg : g < wr.heap.size := (rr.bb.lt _ rfl).2
      have ne1 : ¬ b = wr.heap.size := by omega
      have ne2 : ¬ g = wr.heap.size := by omega
      have ne3 : ¬ wr.heap.size = b := by omega
      have ne4 : ¬ wr.heap.size = g := by omega
      have hO := HOK.out _ (List.getElem_mem hkb)
      have eg : began.getD k (0, 0) = began[k] := getD_at k hkb
      have TT := HT.out k
      rw [eg] at TT
      generalize began[k] = p at *
      obtain ⟨ps, pf⟩ := p
      simp only at a0 a1 hO TT
      have SU := hid' (fun W => ref_sum ps pf win 0 W (by omega) (by omega) (by omega) (by omega) (by omega) (by omega) (by omega) (by omega))
      have LA := hid' (fun W => ref_later (tSum ps pf win 0).1 (tSum ps pf win 0).2 ns nf W)
      have HTT := hid' TT
      generalize tSum ps pf win 0 = tm at *
      obtain ⟨ts, tf⟩ := tm
      simp only at SU LA HTT
      generalize tLater ts tf ns nf = old at *
      have z0 : (0 : Int) ≤ (k : Int) := by omega
      have z1 : (k : Int) < (L : Int) := by omega
      clear TT hg rr hb eg hz
      go_upto_region 4 with fail
      go_cut [4] from 6 to 35 (fun s4 wx => TimeAt wr ts tf s4 wx)
      case first =>
        go_region_held3 (fun w' => w'.cell? ⟨b, 9, none⟩ = some (.slice (some ⟨g, 0, none⟩) L bcp) ∧ w'.cell? ⟨g, k * 2, none⟩ = some (.int .i64 ps) ∧ w'.cell? ⟨g, k * 2 + 1, none⟩ = some (.int .i64 pf) ∧ w'.cell? ⟨b, 1, none⟩ = some (.int .i64 win)) (go_keep)
          (first | (go_at_call 101; refine (SU.out _).mono ?_; rintro e w1 ⟨rfl, hb1⟩; have HB1 := hid' hb1; have n1 : w1.cell? ⟨b, 1, none⟩ = some (.int .i64 win) := (hb1.cell (p := ⟨b, 1, none⟩) (by simp <;> omega)).trans (by go_simp); have n9 : w1.cell? ⟨b, 9, none⟩ = some (.slice (some ⟨g, 0, none⟩) L bcp) := (hb1.cell (p := ⟨b, 9, none⟩) (by simp <;> omega)).trans (by go_simp); have m0 : w1.cell? ⟨g, k * 2, none⟩ = some (.int .i64 ps) := (hb1.cell (p := ⟨g, k * 2, none⟩) (by simp <;> omega)).trans (by go_simp); have m1 : w1.cell? ⟨g, k * 2 + 1, none⟩ = some (.int .i64 pf) := (hb1.cell (p := ⟨g, k * 2 + 1, none⟩) (by simp <;> omega)).trans (by go_simp); (try (have zr := (hb1.block wr.heap.size (by simp <;> omega)).trans (heap_alloc_new wr _); have HZR := hid' zr; have y0 := cell_of_row _ _ 0 _ _ _ zr; have y1 := cell_of_row _ _ 1 _ _ _ zr; have g0 := frozen_of_row _ _ 0 _ _ zr; have g1 := frozen_of_row _ _ 1 _ _ zr; (simp at y0 y1); clear zr)); clear hb1))
        all_goals
          go_wp2_with fail
          go_meet
          case rel =>
            refine ⟨_, rfl, ?_, ?_⟩
            · first
                | exact ((Below.refl _ _).drew.trans HB1.out).alloc (by exact HB1.out.size) _
                | exact ((((Below.refl _ _).alloc (Nat.le_refl _) _).drew.trans (HB1.out.mono (by simp))).setCell (p := ⟨wr.heap.size, 0, none⟩) (by simp) _).setCell (p := ⟨wr.heap.size, 1, none⟩) (by simp) _
            · first
                | exact heap_alloc_new _ _
                | exact two_row HZR.out
      case rest =>
        obtain ⟨tq, rfl, bel, row⟩ := hcut
        rename World => W1
        have BN := hid' (HB.out.trans (bel.mono HB.out.size))
        have RS := hid' (HR.out.below BN.out)
        have RW := hid' row
        clear q8 q9 q1 a0 a1 lg bel row ne1 ne2 ne3 ne4
        have q3 := cell_of_row _ _ 3 _ _ _ RS.out.row
        have q4 := cell_of_row _ _ 4 _ _ _ RS.out.row
        have t0 := cell_of_row _ _ 0 _ _ _ RW.out
        have t1 := cell_of_row _ _ 1 _ _ _ RW.out
        simp at q3 q4 t0 t1
        go_upto_region 5 with fail
        go_cut [4, 5] from 6 to 35 (fun s4 s5 wx => s5 = .bool old ∧ Below W1.heap.size W1 wx)
        case first =>
          go_region_with (go_at_call 140; refine (LA.out _).mono ?_; rintro e w1 ⟨rfl, hb1⟩; have HB1 := hid' hb1; clear hb1)
          all_goals
            go_wp2_with fail
            go_meet
            case rel => exact ⟨rfl, (Below.refl _ _).drew.trans HB1.out⟩
        case rest =>
          obtain ⟨rfl, bel9⟩ := hcut
          rename World => W2
          have B2 := hid' (BN.out.trans (bel9.mono BN.out.size))
          clear q3 q4 t0 t1 bel9 SU LA
          cases old with
          | true =>
            have H : Hid (i = k) := by
              rcases HW.out with ⟨_, h⟩ | ⟨j, rfl, h1, h2, h3, h4⟩
              · have := h k hk1 hlt; rw [HTT.out] at this; cases this
              · rcases Nat.lt_trichotomy j k with c | c | c
                · have := HZ.out j h1 c; rw [h3] at this; cases this
                · rw [c]; rfl
                · have := h4 k hk1 c; rw [HTT.out] at this; cases this
            clear HW
            go_wp2
            go_ret
            exact ⟨ret_int H.out.symm, B2.out⟩
          | false =>
            clear HW
            go_wp2
            go_roundw
            case rel =>
              refine ⟨k + 1, by omega, by omega, by go_num, fun j h1 h2 => ?_, B2.out⟩
              by_cases c : j = k
              · subst c; exact HTT.out
              · exact HZ.out j h1 (by omega)
            case measure => simp [intOf]; omega
    · have hnl : ¬ (k : Int) < (L : Int) := by omega
      have H : Hid (i = -1) := by
        rcases HW.out with ⟨h, _⟩ | ⟨j, rfl, h1, h2, h3, h4⟩
        · exact h
        · have := HZ.out j h1 (by omega); rw [h3] at this; cases this
      clear rr hb hz HW
      go_wp2
      go_ret
      exact ⟨ret_int H.out.symm, HB.out⟩
end Go.Proofs.YtmmkhodaljpjgaaGreatDoor
namespace Go.Proofs.YtmmkhodaljpjgaaGreatDoor
open Go.RowKit
theorem load_time {w : World} {g : Nat} {cs : Array Value} (hg : w.heap[g]? = some (.cells cs 35 (0, 0))) (hs : cs.size = 2) : (loadVar 35 ⟨g, 0, none⟩).run Tryz.prog w = .ok (.agg cs) w :=
  run_loadVar_row (P := Tryz.prog) w g 35 35 cs (0, 0) _ hg Tryz.underlying35 rfl (by rw [hs]; kernel_rfl)
set_option maxRecDepth 100000 in
theorem ref_served_no (b : Nat) (x : Sv) (dv bv cv hv : Value) (w : World) (hr : RSrv b x dv bv cv hv w) (hld : x.ld = false) :
    Calls Tryz.prog 56 #[.pointer (some ⟨b, 0, none⟩)] w fun e w' => e = .returned (.tuple #[.agg #[.int .i64 0, .int .i64 0], .int .i64 3, .int .i64 8]) ∧ Below w.heap.size w w' := by
  have q5 := cell_of_row _ _ 5 _ _ _ hr.row
  have lb := lt_of_heap hr.row
  simp at q5
  rw [hld] at q5
  have RN := hid' (heap_alloc_new w (.cells #[.int .i64 0, .int .i64 0] 35))
  have BN := hid' ((Below.refl w.heap.size w).alloc (Nat.le_refl _) (.cells #[.int .i64 0, .int .i64 0] 35))
  clear hr hld
  go_enter Tryz.func56, Tryz.ntmps56
  go_wp2
  try simp only [Exit.inBlock, Exit.then]
  first
    | (refine bodyPost_ret (results_row_tt (p := 2) (u := 3) (v := 4) rfl _ _ w.heap.size #[.int .i64 0, .int .i64 0] rfl (load_time RN.out rfl)) rfl ?_
       exact ⟨rfl, BN.out⟩)
    | (refine bodyPost_ret (results_row_tt (p := 2) (u := 3) (v := 4) rfl _ _ w.heap.size #[.int .i64 0, .int .i64 0] rfl (load_time (two_row RN.out) rfl)) rfl ?_
       exact ⟨rfl, (BN.out.setCell (p := ⟨w.heap.size, 0, none⟩) (Nat.le_refl _) _).setCell (p := ⟨w.heap.size, 1, none⟩) (Nat.le_refl _) _⟩)
set_option maxRecDepth 100000 in
set_option maxHeartbeats 1600000 in
theorem ref_served_step (b : Nat) (x : Sv) (dv bv cv hv : Value) (iv : Int) (w : World) (hr : RSrv b x dv bv cv hv w) (hld : x.ld = true) (hm : x.mode = 0) (hc : x.Can)
    (hi : ∀ W, Below w.heap.size w W → Calls Tryz.prog 93 #[.pointer (some ⟨b, 0, none⟩)] W fun e w' => e = .returned (.int .i64 iv) ∧ Below W.heap.size W w') :
    Calls Tryz.prog 56 #[.pointer (some ⟨b, 0, none⟩)] w fun e w' => e = .returned (.tuple #[.agg #[.int .i64 x.utc, .int .i64 x.nf], .int .i64 iv, .int .i64 0]) ∧ Below w.heap.size w w' := by
  have HR := hid' hr
  have HI := hid' hi
  have HCan := hid' hc
  have RN := hid' (heap_alloc_new w (.cells #[.int .i64 0, .int .i64 0] 35))
  have BN := hid' ((Below.refl w.heap.size w).alloc (Nat.le_refl _) (.cells #[.int .i64 0, .int .i64 0] 35))
  have q5 := cell_of_row _ _ 5 _ _ _ hr.row
  have q0 := cell_of_row _ _ 0 _ _ _ hr.row
  have lb := lt_of_heap hr.row
  simp at q5 q0
  rw [hld] at q5
  rw [hm] at q0
  have UT := hid' (fun (W : World) h => ref_utc b x dv bv cv hv W h HCan.out.fine (by have := HCan.out.len; omega) HCan.out.hold HCan.out.n0 (by have := HCan.out.n1; omega))
  clear hr hi hc hld hm
  generalize x.utc = u at *
  go_enter Tryz.func56, Tryz.ntmps56
  go_wp2_with fail
  refine (UT.out _ (HR.out.below BN.out)).mono ?_
  rintro e w1 ⟨rfl, m1, hw1⟩
  have B1 := hid' (show Below w.heap.size w w1 by rw [hw1]; exact below_drewN BN.out m1)
  have RN1 : Hid (w1.heap[w.heap.size]? = some (.cells #[.int .i64 0, .int .i64 0] 35 (0, 0))) := by show _ = _; rw [hw1]; exact RN.out
  clear hw1 UT q5 q0
  go_wp2_with fail
  refine (HI.out _ B1.out).mono ?_
  rintro e w2 ⟨rfl, hb2⟩
  have B2 := hid' (B1.out.trans (hb2.mono B1.out.size))
  have RN2 := hid' ((hb2.block _ (lt_of_heap RN1.out)).trans RN1.out)
  have R2 := hid' (HR.out.below B2.out)
  have q4 := cell_of_row _ _ 4 _ _ _ R2.out.row
  have t0 := cell_of_row _ _ 0 _ _ _ RN2.out
  have t1 := cell_of_row _ _ 1 _ _ _ RN2.out
  have f0 := frozen_of_row _ _ 0 _ _ RN2.out
  have f1 := frozen_of_row _ _ 1 _ _ RN2.out
  simp at q4 t0 t1
  clear hb2
  go_wp2
  try simp only [Exit.inBlock, Exit.then]
  refine bodyPost_ret (results_row_tt (p := 2) (u := 3) (v := 4) rfl _ _ w.heap.size #[.int .i64 u, .int .i64 x.nf] rfl (load_time (two_row RN2.out) rfl)) rfl ?_
  exact ⟨rfl, (B2.out.setCell (p := ⟨w.heap.size, 0, none⟩) (Nat.le_refl _) _).setCell (p := ⟨w.heap.size, 1, none⟩) (Nat.le_refl _) _⟩
end Go.Proofs.YtmmkhodaljpjgaaGreatDoor
namespace Go.Proofs.YtmmkhodaljpjgaaGreatDoor
open Go.RowKit
set_option maxRecDepth 100000 in
set_option maxHeartbeats 3200000 in
theorem ref_served_out (b : Nat) (x : Sv) (dv bv cv hv : Value) (w : World) (hr : RSrv b x dv bv cv hv w) (hld : x.ld = true) (hm : x.mode ≠ 0) (hc : x.Can) (hb : x.BegOk) (hw : x.WinAt (-1)) :
    Calls Tryz.prog 56 #[.pointer (some ⟨b, 0, none⟩)] w fun e w' => e = .returned (.tuple #[.agg #[.int .i64 x.utc, .int .i64 x.nf], .int .i64 0, .int .i64 0]) ∧ Below w.heap.size w w' := by
  have HR := hid' hr
  have HCan := hid' hc
  have RN := hid' (heap_alloc_new w (.cells #[.int .i64 0, .int .i64 0] 35))
  have BN := hid' ((Below.refl w.heap.size w).alloc (Nat.le_refl _) (.cells #[.int .i64 0, .int .i64 0] 35))
  have q5 := cell_of_row _ _ 5 _ _ _ hr.row
  have q0 := cell_of_row _ _ 0 _ _ _ hr.row
  have lb := lt_of_heap hr.row
  simp at q5 q0
  rw [hld] at q5
  have nm : (x.mode == 0) = false := beq_eq_false_iff_ne.2 hm
  have UT := hid' (fun (W : World) h => ref_utc b x dv bv cv hv W h HCan.out.fine (by have := HCan.out.len; omega) HCan.out.hold HCan.out.n0 (by have := HCan.out.n1; omega))
  have WI := hid' (fun (W : World) h => ref_window b x dv bv cv hv (-1) W h (by have := HCan.out.len; omega) hb hw)
  clear hr hc hld hm hb hw
  generalize x.utc = u at *
  go_enter Tryz.func56, Tryz.ntmps56
  go_wp2_with fail
  refine (WI.out _ (HR.out.below BN.out)).mono ?_
  rintro e w1 ⟨rfl, hb1⟩
  have B1 := hid' (BN.out.trans (hb1.mono BN.out.size))
  have RN1 := hid' ((hb1.block _ (lt_of_heap RN.out)).trans RN.out)
  have R1 := hid' (HR.out.below B1.out)
  have q4 := cell_of_row _ _ 4 _ _ _ R1.out.row
  have t0 := cell_of_row _ _ 0 _ _ _ RN1.out
  have t1 := cell_of_row _ _ 1 _ _ _ RN1.out
  have f0 := frozen_of_row _ _ 0 _ _ RN1.out
  have f1 := frozen_of_row _ _ 1 _ _ RN1.out
  simp at q4 t0 t1
  clear hb1 q5 q0 WI RN BN
  go_wp2_with fail
  go_region_with (go_at_call 92; refine (UT.out _ (by exact R1.out.below (below_drewN (Below.refl _ _) _))).mono ?_; rintro e w2 ⟨rfl, m2, rfl⟩)
  all_goals
    go_wp2
    try simp only [Exit.inBlock, Exit.then]
    refine bodyPost_ret (results_row_tt (p := 2) (u := 3) (v := 4) rfl _ _ w.heap.size #[.int .i64 u, .int .i64 x.nf] rfl (load_time (two_row RN1.out) rfl)) rfl ?_
    exact ⟨rfl, ((below_drewN B1.out _).setCell (p := ⟨w.heap.size, 0, none⟩) (Nat.le_refl _) _).setCell (p := ⟨w.heap.size, 1, none⟩) (Nat.le_refl _) _⟩
end Go.Proofs.YtmmkhodaljpjgaaGreatDoor
namespace Go.Proofs.YtmmkhodaljpjgaaGreatDoor
open Go.RowKit
/-- Digits to the base 10,000, the lowest first (f: at most so many). -/
def digsF : Nat → Nat → List Int
  | 0, _ => []
  | f + 1, n => if n = 0 then [] else ((n % 10000 : Nat) : Int) :: digsF f (n / 10000)
def digs (n : Nat) : List Int := digsF n n
theorem digsF_succ (f n : Nat) : digsF (f + 1) n = if n = 0 then [] else ((n % 10000 : Nat) : Int) :: digsF f (n / 10000) := rfl
theorem digsF_more (f n : Nat) (h : n ≤ f) : digsF (f + 1) n = digsF f n := by
  induction f generalizing n with
  | zero =>
    obtain rfl : n = 0 := by omega
    rfl
  | succ f ih =>
    by_cases c : n = 0
    · subst c; rfl
    · rw [digsF_succ (f + 1) n, digsF_succ f n, if_neg c, if_neg c, ih (n / 10000) (by omega)]
theorem digsF_all (n k : Nat) : digsF (n + k) n = digs n := by
  induction k with
  | zero => rfl
  | succ k ih => rw [← Nat.add_assoc, digsF_more _ _ (by omega), ih]
def valD : List Int → Int
  | [] => 0
  | d :: r => d + 10000 * valD r
def Dg (l : List Int) : Prop := ∀ d ∈ l, 0 ≤ d ∧ d < 10000
/-- No nought at the end. -/
def Nm (l : List Int) : Prop := l.getLast? ≠ some 0
theorem digs_zero : digs 0 = [] := rfl
theorem digs_pos {n : Nat} (h : 0 < n) : digs n = ((n % 10000 : Nat) : Int) :: digs (n / 10000) := by
  obtain ⟨m, rfl⟩ : ∃ m, n = m + 1 := ⟨n - 1, by omega⟩
  have e : digsF m ((m + 1) / 10000) = digs ((m + 1) / 10000) := by
    have h2 : (m + 1) / 10000 + (m - (m + 1) / 10000) = m := by omega
    rw [← digsF_all ((m + 1) / 10000) (m - (m + 1) / 10000), h2]
  rw [digs, digsF_succ, if_neg (by omega), e]
theorem digs_nil {n : Nat} (h : digs n = []) : n = 0 := by
  by_cases c : n = 0
  · exact c
  · rw [digs_pos (by omega)] at h; cases h
theorem digs_dg (n : Nat) : Dg (digs n) := by
  induction n using Nat.strongRecOn with
  | _ n ih =>
    by_cases c : n = 0
    · subst c; rw [digs_zero]; intro d hd; cases hd
    · rw [digs_pos (by omega)]
      intro d hd
      rcases List.mem_cons.1 hd with rfl | hd
      · omega
      · exact ih (n / 10000) (by omega) d hd
theorem digs_val (n : Nat) : valD (digs n) = n := by
  induction n using Nat.strongRecOn with
  | _ n ih =>
    by_cases c : n = 0
    · subst c; rw [digs_zero]; rfl
    · rw [digs_pos (by omega)]
      show _ + 10000 * valD _ = _
      rw [ih (n / 10000) (by omega)]
      omega
theorem valD_nonneg {l : List Int} (h : Dg l) : 0 ≤ valD l := by
  induction l with
  | nil => exact Int.le_refl _
  | cons d r ih =>
    have := h d (by simp)
    have := ih (fun x hx => h x (List.mem_cons_of_mem _ hx))
    show 0 ≤ d + 10000 * valD r
    omega
theorem valD_pos {l : List Int} (h : Dg l) (hn : Nm l) (hl : l ≠ []) : 0 < valD l := by
  induction l with
  | nil => exact absurd rfl hl
  | cons d r ih =>
    have hd := h d (by simp)
    have hr : Dg r := fun x hx => h x (List.mem_cons_of_mem _ hx)
    show 0 < d + 10000 * valD r
    cases r with
    | nil =>
      unfold Nm at hn
      simp at hn
      simp [valD]
      omega
    | cons e q =>
      have := ih hr (by unfold Nm at hn ⊢; rwa [List.getLast?_cons_cons] at hn) (by simp)
      omega
/-- Digits without a nought at the end are a number's. -/
theorem canon {l : List Int} (h : Dg l) (hn : Nm l) : l = digs (valD l).toNat := by
  induction l with
  | nil => simp [valD, digs_zero]
  | cons d r ih =>
    have hp := valD_pos h hn (by simp)
    have hd := h d (by simp)
    have hr : Dg r := fun x hx => h x (List.mem_cons_of_mem _ hx)
    have hrn : Nm r := by
      cases r with
      | nil => simp [Nm]
      | cons e q => unfold Nm at hn ⊢; rwa [List.getLast?_cons_cons] at hn
    have h0 := valD_nonneg hr
    have e := ih hr hrn
    have ev : valD (d :: r) = d + 10000 * valD r := rfl
    rw [ev] at hp ⊢
    rw [digs_pos (by omega)]
    have e1 : (((d + 10000 * valD r).toNat % 10000 : Nat) : Int) = d := by omega
    have e2 : (d + 10000 * valD r).toNat / 10000 = (valD r).toNat := by omega
    rw [e1, e2, ← e]
theorem digs_length {n k : Nat} (h : n < 10000 ^ k) : (digs n).length ≤ k := by
  induction k generalizing n with
  | zero => have : n = 0 := by simpa using h
            subst this; simp [digs_zero]
  | succ k ih =>
    by_cases c : n = 0
    · subst c; simp [digs_zero]
    · rw [digs_pos (by omega)]
      have : n / 10000 < 10000 ^ k := by
        rw [Nat.div_lt_iff_lt_mul (by omega)]; rwa [Nat.pow_succ] at h
      have := ih this
      simp; omega
theorem digs_lt (n : Nat) : n < 10000 ^ (digs n).length := by
  induction n using Nat.strongRecOn with
  | _ n ih =>
    by_cases c : n = 0
    · subst c; simp [digs_zero]
    · rw [digs_pos (by omega)]
      have := ih (n / 10000) (by omega)
      rw [List.length_cons, Nat.pow_succ]
      generalize 10000 ^ (digs (n / 10000)).length = q at *
      omega
theorem digs_ge {n : Nat} (h : 0 < n) : 10000 ^ ((digs n).length - 1) ≤ n := by
  induction n using Nat.strongRecOn with
  | _ n ih =>
    rw [digs_pos h]
    by_cases c : n / 10000 = 0
    · rw [c, digs_zero]; simp; omega
    · have := ih (n / 10000) (by omega) (by omega)
      have hl : 0 < (digs (n / 10000)).length := by rw [digs_pos (by omega)]; simp
      rw [List.length_cons, Nat.add_sub_cancel]
      have e : 10000 ^ (digs (n / 10000)).length = 10000 ^ ((digs (n / 10000)).length - 1) * 10000 := by
        rw [← Nat.pow_succ]; congr 1; omega
      rw [e]
      generalize 10000 ^ ((digs (n / 10000)).length - 1) = q at *
      omega
/-- What is behind the first digit. -/
theorem digs_tail {l : List Int} {i n : Nat} (h : l.drop i = digs n) : l.drop (i + 1) = digs (n / 10000) := by
  have e : l.drop (i + 1) = (l.drop i).drop 1 := by rw [List.drop_drop]
  rw [e, h]
  by_cases c : n = 0
  · subst c; simp [digs_zero]
  · rw [digs_pos (by omega)]; rfl
theorem digs_head {l : List Int} {i n : Nat} (h : l.drop i = digs n) (hi : i < l.length) : l[i] = ((n % 10000 : Nat) : Int) ∧ 0 < n := by
  have e : l.drop i = l[i] :: l.drop (i + 1) := List.drop_eq_getElem_cons hi
  by_cases c : n = 0
  · subst c; rw [digs_zero] at h; rw [h] at e; cases e
  · rw [h, digs_pos (by omega)] at e
    exact ⟨(List.cons.inj e).1.symm, by omega⟩
theorem digs_end {l : List Int} {i n : Nat} (h : l.drop i = digs n) (hi : l.length ≤ i) : n = 0 := by
  rw [List.drop_eq_nil_of_le hi] at h; exact digs_nil h.symm
/-- Both together. -/
theorem digs_plus {a b c : Nat} (h : 0 < a + b + c) : digs (a + b + c) = (((a % 10000 + b % 10000 + c) % 10000 : Nat) : Int) :: digs (a / 10000 + b / 10000 + (a % 10000 + b % 10000 + c) / 10000) := by
  rw [digs_pos h]
  have e1 : (a + b + c) % 10000 = (a % 10000 + b % 10000 + c) % 10000 := by omega
  have e2 : (a + b + c) / 10000 = a / 10000 + b / 10000 + (a % 10000 + b % 10000 + c) / 10000 := by omega
  rw [e1, e2]
theorem valD_append (l r : List Int) : valD (l ++ r) = valD l + 10000 ^ l.length * valD r := by
  induction l with
  | nil => simp [valD]
  | cons d q ih =>
    show d + 10000 * valD (q ++ r) = d + 10000 * valD q + 10000 ^ (q.length + 1) * valD r
    rw [ih, Int.pow_succ]
    grind
theorem valD_lt {l : List Int} (h : Dg l) : valD l < 10000 ^ l.length := by
  induction l with
  | nil => simp [valD]
  | cons d q ih =>
    have := h d (by simp)
    have := ih (fun x hx => h x (List.mem_cons_of_mem _ hx))
    show d + 10000 * valD q < 10000 ^ (q.length + 1)
    rw [Int.pow_succ]
    generalize (10000 : Int) ^ q.length = p at *
    omega
theorem valD_set (l : List Int) (j : Nat) (h : j < l.length) (x : Int) : valD (l.set j x) = valD l + 10000 ^ j * (x - l[j]) := by
  induction l generalizing j with
  | nil => simp at h
  | cons d q ih =>
    cases j with
    | zero => show x + 10000 * valD q = d + 10000 * valD q + _ ; simp; omega
    | succ j =>
      show d + 10000 * valD (q.set j x) = d + 10000 * valD q + _
      rw [ih j (by simpa using h), Int.pow_succ]
      simp only [List.getElem_cons_succ]
      grind
theorem Dg.set {l : List Int} (h : Dg l) (j : Nat) {x : Int} (h0 : 0 ≤ x) (h1 : x < 10000) : Dg (l.set j x) := fun d hd => by
  rcases List.mem_or_eq_of_mem_set hd with q | rfl
  · exact h d q
  · exact ⟨h0, h1⟩
theorem Dg.take {l : List Int} (h : Dg l) (k : Nat) : Dg (l.take k) := fun d hd => h d (List.mem_of_mem_take hd)
theorem Dg.drop {l : List Int} (h : Dg l) (k : Nat) : Dg (l.drop k) := fun d hd => h d (List.mem_of_mem_drop hd)
theorem Dg.at {l : List Int} (h : Dg l) (k : Nat) (hk : k < l.length) : 0 ≤ l[k] ∧ l[k] < 10000 := h _ (List.getElem_mem hk)
theorem valD_zeros (k : Nat) : valD (List.replicate k 0) = 0 := by
  induction k with
  | zero => rfl
  | succ k ih => rw [List.replicate_succ]; show 0 + 10000 * valD _ = 0; rw [ih]; rfl
theorem dg_zeros (k : Nat) : Dg (List.replicate k 0) := fun d hd => by rw [(List.mem_replicate.1 hd).2]; decide
/-- Noughts at the end say nothing. -/
theorem valD_take {l : List Int} {k : Nat} (h : ∀ i (hi : i < l.length), k ≤ i → l[i] = 0) : valD (l.take k) = valD l := by
  have e : l = l.take k ++ l.drop k := (List.take_append_drop k l).symm
  have z : l.drop k = List.replicate (l.drop k).length 0 := by
    refine List.eq_replicate_iff.2 ⟨rfl, fun b hb => ?_⟩
    obtain ⟨i, hi, rfl⟩ := List.getElem_of_mem hb
    rw [List.getElem_drop]
    exact h _ _ (by omega)
  have := valD_append (l.take k) (l.drop k)
  rw [← e, z, valD_zeros] at this
  omega
theorem trim_nm {l : List Int} {k : Nat} (hk : k ≤ l.length) (h : ∀ hk' : 0 < k, l[k - 1]'(by omega) ≠ 0) : Nm (l.take k) := by
  unfold Nm
  rw [List.getLast?_take]
  intro e
  by_cases c : k = 0
  · simp [c] at e
  · rw [if_neg c, List.getElem?_eq_getElem (by omega)] at e
    simp at e
    exact h (by omega) e
/-- What is trimmed. -/
theorem trim_digs {l : List Int} {k n : Nat} (hd : Dg l) (hv : valD l = n) (hk : k ≤ l.length) (hz : ∀ i (hi : i < l.length), k ≤ i → l[i] = 0) (hn : ∀ hk' : 0 < k, l[k - 1]'(by omega) ≠ 0) : l.take k = digs n := by
  have e := canon (hd.take k) (trim_nm hk hn)
  rw [valD_take hz, hv] at e
  simpa using e
/-- Which of two is greater: the first digits from above that part tell it. -/
theorem above_len {a b : Nat} (h : (digs a).length ≠ (digs b).length) : decide ((digs b).length < (digs a).length) = decide (b < a) := by
  have key : ∀ x y : Nat, (digs x).length < (digs y).length → x < y := fun x y hxy => by
    have h1 := digs_lt x
    have hy : 0 < y := by
      by_cases c : y = 0
      · subst c; simp [digs_zero] at hxy
      · omega
    have h2 := digs_ge hy
    have h3 : 10000 ^ (digs x).length ≤ 10000 ^ ((digs y).length - 1) := Nat.pow_le_pow_right (by omega) (by omega)
    omega
  by_cases c : (digs b).length < (digs a).length
  · have := key b a c
    simp [c, this]
  · have := key a b (by omega)
    have d : ¬ b < a := by omega
    simp [c, d]
theorem valD_split {l : List Int} {i : Nat} (h : i < l.length) : valD l = valD (l.take i) + 10000 ^ i * (l[i] + 10000 * valD (l.drop (i + 1))) := by
  have e : l = l.take i ++ l.drop i := (List.take_append_drop i l).symm
  have := valD_append (l.take i) (l.drop i)
  rw [← e, List.drop_eq_getElem_cons h, List.length_take, Nat.min_eq_left (by omega)] at this
  exact this
theorem above_at {a b : Nat} {i : Nat} (ha : i < (digs a).length) (hb : i < (digs b).length) (ht : (digs a).drop (i + 1) = (digs b).drop (i + 1)) (hne : (digs a)[i] ≠ (digs b)[i]) : decide ((digs b)[i] < (digs a)[i]) = decide (b < a) := by
  have key : ∀ x y : Nat, ∀ (hx : i < (digs x).length) (hy : i < (digs y).length), (digs x).drop (i + 1) = (digs y).drop (i + 1) → (digs x)[i] < (digs y)[i] → x < y := fun x y hx hy hd hl => by
    have h1 := valD_split hx
    have h2 := valD_split hy
    rw [digs_val] at h1 h2
    have t1 := valD_lt ((digs_dg x).take i)
    have t2 := valD_nonneg ((digs_dg y).take i)
    rw [List.length_take, Nat.min_eq_left (by omega)] at t1
    rw [hd] at h1
    generalize valD ((digs y).drop (i + 1)) = D at *
    generalize (digs x)[i] = p at *
    generalize (digs y)[i] = q at *
    generalize valD ((digs x).take i) = u at *
    generalize valD ((digs y).take i) = v at *
    have hp : (0 : Int) < 10000 ^ i := Int.pow_pos (by decide)
    generalize (10000 : Int) ^ i = P at *
    have : P * (p + 10000 * D) + P ≤ P * (q + 10000 * D) := by
      have : P * (p + 10000 * D + 1) ≤ P * (q + 10000 * D) := Int.mul_le_mul_of_nonneg_left (by omega) (by omega)
      have e : P * (p + 10000 * D + 1) = P * (p + 10000 * D) + P := by grind
      omega
    omega
  by_cases c : (digs b)[i] < (digs a)[i]
  · have := key b a hb ha ht.symm c
    simp [c, this]
  · have := key a b ha hb ht (by omega)
    have d : ¬ b < a := by omega
    simp [c, d]
/-- a times b, behind the first i digits of a. -/
structure Tm (a b i : Nat) (O : List Int) : Prop where
  dg : Dg O
  len : O.length = (digs a).length + (digs b).length + 1
  val : valD O = valD ((digs a).take i) * b
/-- Within the i-th digit, behind the first k digits of b; A is the i-th digit of a. -/
structure TmI (a b i k : Nat) (A c : Int) (O : List Int) : Prop where
  dg : Dg O
  len : O.length = (digs a).length + (digs b).length + 1
  c0 : 0 ≤ c
  c1 : c ≤ 9999
  a0 : 0 ≤ A
  a1 : A ≤ 9999
  val : valD O + 10000 ^ (i + k) * (c + A * valD ((digs b).drop k)) = valD ((digs a).take (i + 1)) * b
theorem tm_start (a b : Nat) : Tm a b 0 (List.replicate ((digs a).length + (digs b).length + 1) 0) :=
  ⟨dg_zeros _, by simp, by rw [valD_zeros]; simp [valD]⟩
theorem Tm.enter {a b i : Nat} {O : List Int} (h : Tm a b i O) (hi : i < (digs a).length) : TmI a b i 0 ((digs a)[i]) 0 O := by
  have ha := (digs_dg a).at i hi
  refine ⟨h.dg, h.len, by omega, by omega, ha.1, by omega, ?_⟩
  rw [h.val, List.take_succ_eq_append_getElem hi, valD_append, List.drop_zero, digs_val, List.length_take, Nat.min_eq_left (by omega)]
  simp only [valD, Nat.add_zero, Int.zero_add, Int.mul_zero, Int.add_zero]
  grind
theorem TmI.room {a b i k : Nat} {A c : Int} {O : List Int} (h : TmI a b i k A c O) (hi : i < (digs a).length) (hk : k < (digs b).length ∨ 0 < c) : i + k < O.length ∧ k ≤ (digs b).length := by
  have hl := h.len
  suffices hs : k ≤ (digs b).length from ⟨by omega, hs⟩
  rcases hk with hk | hk
  · omega
  · have hv := h.val
    have h0 := valD_nonneg h.dg
    have h1 := valD_nonneg ((digs_dg b).drop k)
    have hp : (0 : Int) < 10000 ^ (i + k) := Int.pow_pos (by decide)
    have h2 := valD_lt ((digs_dg a).take (i + 1))
    have h3 := valD_nonneg ((digs_dg a).take (i + 1))
    have h4 := valD_lt (digs_dg b)
    rw [digs_val] at h4
    rw [List.length_take, Nat.min_eq_left (by omega)] at h2
    have a0 := h.a0
    have hav : 0 ≤ A * valD ((digs b).drop k) := Int.mul_nonneg a0 h1
    have m1 : (10000 : Int) ^ (i + k) * 1 ≤ 10000 ^ (i + k) * (c + A * valD ((digs b).drop k)) := Int.mul_le_mul_of_nonneg_left (by omega) (by omega)
    have hb0 : (0 : Int) ≤ b := by omega
    have m2 : valD ((digs a).take (i + 1)) * (b : Int) ≤ 10000 ^ (i + 1) * (b : Int) := Int.mul_le_mul_of_nonneg_right (by omega) hb0
    have hp2 : (0 : Int) < 10000 ^ (i + 1) := Int.pow_pos (by decide)
    have m3 : (10000 : Int) ^ (i + 1) * (b : Int) < 10000 ^ (i + 1) * 10000 ^ (digs b).length := Int.mul_lt_mul_of_pos_left h4 hp2
    rw [← Int.pow_add] at m3
    have m4 : (10000 : Int) ^ (i + k) < 10000 ^ (i + 1 + (digs b).length) := by omega
    have m5 : (10000 : Nat) ^ (i + k) < 10000 ^ (i + 1 + (digs b).length) := Int.ofNat_lt.1 (by rw [Int.natCast_pow, Int.natCast_pow]; exact m4)
    have := (Nat.pow_lt_pow_iff_right (by decide : 1 < 10000)).1 m5
    omega
/-- What the k-th digit of b brings. -/
def tmD (b k : Nat) (A : Int) : Int := if h : k < (digs b).length then A * (digs b)[k] else 0
theorem tmD_lt {b k : Nat} {A : Int} (h : k < (digs b).length) : tmD b k A = A * (digs b)[k] := by rw [tmD, dif_pos h]
theorem tmD_ge {b k : Nat} {A : Int} (h : ¬ k < (digs b).length) : tmD b k A = 0 := by rw [tmD, dif_neg h]
theorem tmD_bd {b k : Nat} {A : Int} (a0 : 0 ≤ A) (a1 : A ≤ 9999) : 0 ≤ tmD b k A ∧ tmD b k A ≤ 99980001 := by
  by_cases h : k < (digs b).length
  · rw [tmD_lt h]
    have := (digs_dg b).at k h
    generalize (digs b)[k] = B at *
    refine ⟨Int.mul_nonneg a0 this.1, ?_⟩
    have m1 : A * B ≤ 9999 * B := Int.mul_le_mul_of_nonneg_right a1 this.1
    omega
  · rw [tmD_ge h]; decide
theorem TmI.step {a b i k : Nat} {A c : Int} {O : List Int} (h : TmI a b i k A c O) (hr : i + k < O.length) :
    TmI a b i (k + 1) A ((c + tmD b k A + O[i + k]) / 10000) (O.set (i + k) ((c + tmD b k A + O[i + k]) % 10000)) := by
  have hb := tmD_bd (b := b) (k := k) h.a0 h.a1
  have ho := h.dg.at _ hr
  have c0 := h.c0
  have c1 := h.c1
  refine ⟨h.dg.set _ (by omega) (by omega), by rw [List.length_set]; exact h.len, by omega, by omega, h.a0, h.a1, ?_⟩
  rw [valD_set _ _ hr, ← h.val]
  have hv : A * valD ((digs b).drop k) = tmD b k A + 10000 * (A * valD ((digs b).drop (k + 1))) := by
    by_cases hk : k < (digs b).length
    · rw [tmD_lt hk, List.drop_eq_getElem_cons hk]
      show A * (_ + 10000 * valD _) = _
      grind
    · rw [tmD_ge hk, List.drop_eq_nil_of_le (by omega), List.drop_eq_nil_of_le (by omega)]; simp [valD]
  rw [hv, show i + (k + 1) = i + k + 1 from rfl, Int.pow_succ]
  generalize A * valD ((digs b).drop (k + 1)) = V at *
  generalize tmD b k A = t at *
  generalize O[i + k] = o at *
  generalize (10000 : Int) ^ (i + k) = P at *
  have hq : (c + t + o) % 10000 + 10000 * ((c + t + o) / 10000) = c + t + o := Int.emod_add_mul_ediv _ _
  generalize (c + t + o) % 10000 = r at *
  generalize (c + t + o) / 10000 = q at *
  have : r = c + t + o - 10000 * q := by omega
  subst this
  grind
theorem TmI.leave {a b i k : Nat} {A c : Int} {O : List Int} (h : TmI a b i k A c O) (hk : ¬ k < (digs b).length) (hc : ¬ 0 < c) : Tm a b (i + 1) O := by
  refine ⟨h.dg, h.len, ?_⟩
  have hv := h.val
  have : c = 0 := by have := h.c0; omega
  rw [List.drop_eq_nil_of_le (by omega), this] at hv
  simpa [valD] using hv
theorem Tm.done {a b : Nat} {O : List Int} (h : Tm a b (digs a).length O) : valD O = ((a * b : Nat) : Int) := by
  rw [h.val, List.take_length, digs_val]; simp
theorem getD0 {l : List Int} {i : Nat} (h : i < l.length) : l.getD i 0 = l[i] := by rw [List.getD_eq_getElem?_getD, List.getElem?_eq_getElem h]; rfl
theorem trim_digs' {l : List Int} {k n : Nat} (hd : Dg l) (hv : valD l = n) (hk : k ≤ l.length) (hz : ∀ i, i < l.length → k ≤ i → l.getD i 0 = 0) (hn : 0 < k → l.getD (k - 1) 0 ≠ 0) : l.take k = digs n :=
  trim_digs hd hv hk (fun i hi hk => (getD0 hi).symm.trans (hz i hi hk)) (fun h e => hn h ((getD0 (by omega)).trans e))
theorem above_at' {a b : Nat} {i : Nat} (ha : i < (digs a).length) (hb : i < (digs b).length) (ht : (digs a).drop (i + 1) = (digs b).drop (i + 1)) (hne : (digs a).getD i 0 ≠ (digs b).getD i 0) : decide ((digs b).getD i 0 < (digs a).getD i 0) = decide (b < a) := by
  rw [getD0 ha, getD0 hb] at hne ⊢; exact above_at ha hb ht hne
theorem drop_same {a b : List Int} {i : Nat} (ha : i < a.length) (hb : i < b.length) (ht : a.drop (i + 1) = b.drop (i + 1)) (he : a.getD i 0 = b.getD i 0) : a.drop i = b.drop i := by
  rw [getD0 ha, getD0 hb] at he
  rw [List.drop_eq_getElem_cons ha, List.drop_eq_getElem_cons hb, ht, he]
theorem digs_same {a b : Nat} (h : digs a = digs b) : a = b := by
  have h1 := digs_val a
  have h2 := digs_val b
  rw [h] at h1; omega
theorem dg_bd {l : List Int} (h : Dg l) (i : Nat) : 0 ≤ l.getD i 0 ∧ l.getD i 0 < 10000 := by
  by_cases c : i < l.length
  · rw [getD0 c]; exact h.at i c
  · rw [List.getD_eq_getElem?_getD, List.getElem?_eq_none (by omega)]; decide
theorem digs_head' {l : List Int} {i n : Nat} (h : l.drop i = digs n) (hi : i < l.length) : l.getD i 0 = ((n % 10000 : Nat) : Int) ∧ 0 < n := by
  rw [getD0 hi]; exact digs_head h hi
theorem Tm.enter' {a b i : Nat} {O : List Int} (h : Tm a b i O) (hi : i < (digs a).length) : TmI a b i 0 ((digs a).getD i 0) 0 O := by
  rw [getD0 hi]; exact h.enter hi
theorem tmD_lt' {b k : Nat} {A : Int} (h : k < (digs b).length) : tmD b k A = A * (digs b).getD k 0 := by rw [getD0 h]; exact tmD_lt h
theorem TmI.step' {a b i k : Nat} {A c : Int} {O : List Int} (h : TmI a b i k A c O) (hr : i + k < O.length) :
    TmI a b i (k + 1) A ((c + tmD b k A + O.getD (i + k) 0) / 10000) (O.set (i + k) ((c + tmD b k A + O.getD (i + k) 0) % 10000)) := by
  rw [getD0 hr]; exact h.step hr
/-- Numbers as cells. -/
def nums (l : List Int) : List Value := l.map (Value.int .i64)
theorem nums_length (l : List Int) : (nums l).length = l.length := by simp [nums]
theorem nums_append (l r : List Int) : nums (l ++ r) = nums l ++ nums r := by simp [nums]
theorem nums_at (l : List Int) (i : Nat) (h : i < l.length) : (nums l)[i]? = some (.int .i64 l[i]) := by simp [nums, List.getElem?_eq_getElem h]
/-- A list of numbers in memory. -/
def Num (B : Nat) (v : Value) (l : List Int) (w : World) : Prop := w.ownsRow B 3 1 v l.length (nums l)
theorem Num.slice {B : Nat} {v : Value} {l : List Int} {w : World} (h : Num B v l w) : ∃ ao cap, v = .slice ao l.length cap := by
  rcases h.2 with ⟨rfl, e⟩ | ⟨g, cap, cur, rfl, _⟩
  · exact ⟨none, 0, by rw [e]⟩
  · exact ⟨_, _, rfl⟩
theorem Num.lies {B : Nat} {v : Value} {l : List Int} {w : World} (h : Num B v l w) (hl : 0 < l.length) : ∃ g cap, v = .slice (some ⟨g, 0, none⟩) l.length cap ∧ g < w.heap.size ∧ B ≤ g ∧ l.length ≤ cap ∧ ∀ i, i < l.length → w.cell? ⟨g, i, none⟩ = some (.int .i64 (l.getD i 0)) := by
  obtain ⟨g, cap, rfl⟩ := own_some h hl
  refine ⟨g, cap, rfl, (h.lt _ rfl).2, (h.lt _ rfl).1, ?_, fun i hi => ?_⟩
  · rcases h.2 with ⟨e, _⟩ | ⟨g', cap', cur, e, _, _, h2, _⟩
    · cases e
    · cases e; exact h2
  · rw [h.cellAt i (by omega), nums_at l i hi, List.getD_eq_getElem?_getD, List.getElem?_eq_getElem hi]; rfl
theorem Num.below {B : Nat} {v : Value} {l : List Int} {w w' : World} (h : Num B v l w) (hb : Below w.heap.size w w') : Num B v l w' := own_down h hb
end Go.Proofs.YtmmkhodaljpjgaaGreatDoor
namespace Go.Proofs.YtmmkhodaljpjgaaGreatDoor
open Go.RowKit
theorem infoInt : (Tryz.prog.info? 3).map (fun i => (i.zero, i.size, i.bytes)) = some (some (.int .i64 0), 1, 8) := by kernel_rfl
set_option maxRecDepth 100000 in
set_option maxHeartbeats 3200000 in
theorem ref_nat (N : Nat) (hN : N < 10000 ^ 5) (w : World) :
    Calls Tryz.prog 98 #[.int .i64 N] w fun e w' => ∃ v, e = .returned v ∧ Num w.heap.size v (digs N) w' ∧ Below w.heap.size w w' := by
  obtain ⟨i0, hi0, hz0, hz1, hz2⟩ := info_parts infoInt
  have HL := hid' (digs_length hN)
  have hN2 : N < 100000000000000000000 := by simpa using hN
  clear hN
  go_enter Tryz.func98, Tryz.ntmps98
  go_wp2
  go_loopw [0, 3] (fun n v wr => ∃ (m : Nat) (xs : List Int), m ≤ N ∧ n = .int .i64 m ∧ Num w.heap.size v xs wr ∧ xs ++ digs m = digs N ∧ Below w.heap.size w wr) (fun n _ _ => (intOf n).toNat)
  case atStart => exact ⟨N, [], Nat.le_refl _, rfl, World.ownsRow_nil _ _ _ _, rfl, Below.refl _ _⟩
  case round =>
    obtain ⟨m, xs, hm, rfl, own, hx, hb⟩ := hrel
    have OWN := hid' own
    have HB := hid' hb
    have HX := hid' hx
    have hsz := hb.size
    by_cases c : 0 < m
    · have hlen : xs.length + 1 ≤ 5 := by
        have := HL.out
        rw [← hx, digs_pos c] at this
        simp at this
        omega
      obtain ⟨va, vcp, hv⟩ := own.slice
      subst hv
      have hli : (0 : Int) < (m : Int) := by omega
      obtain ⟨q, hq⟩ : ∃ q : Nat, m / 10000 = q := ⟨_, rfl⟩
      obtain ⟨r, hr⟩ : ∃ r : Nat, m % 10000 = r := ⟨_, rfl⟩
      have HD : Hid (digs m = (r : Int) :: digs q) := by rw [← hq, ← hr]; exact digs_pos c
      have q1 : (m : Int) / 10000 = (q : Int) := by omega
      have r1 : (m : Int) % 10000 = (r : Int) := by omega
      have q2 : q < m := by omega
      have q3 : q < 1000000000000000000 := by omega
      have r2 : r < 10000 := by omega
      clear own hb hx hq hr
      go_wp2_with (at_builtin; refine wpList_append_own _ (by rfl) (.tmp 6) (.tmp 9) 24 (by rfl) w.heap.size 3 i0 (.int .i64 0) 1 8 Tryz.underlying24 hi0 hz0 hz1 hz2 rfl (by decide) (.slice va xs.length vcp) xs.length (nums xs) (by rfl) (OWN.out.alloc _) ⟨wr.heap.size, 0, none⟩ 1 1 [.int .i64 r] (by rfl) (by rfl) (World.news_of_block (cs := #[.int .i64 r]) (t := 3) (fr := (0, 0)) (heap_alloc_new wr _)) (by simp [Value.oneCell']) (by unfold maxLen; omega) (by omega) (by simp <;> omega) ?_; intro v3 w3 own3 hg3 hn3; have OWN3 := hid' own3; have HG3 := hid' hg3; clear own3 hg3 hn3)
      go_roundw
      case rel =>
        refine ⟨q, xs ++ [(r : Int)], by omega, rfl, ?_, ?_, (HB.out.alloc hsz _).grown HG3.out (by simp; omega) (own_ge OWN.out)⟩
        · show World.ownsRow _ _ _ _ _ _ _
          rw [nums_append, List.length_append]; exact OWN3.out
        · rw [List.append_assoc]; rw [← HX.out, HD.out]; rfl
      case measure => simp [intOf]; omega
    · have hnl : ¬ (0 : Int) < (m : Int) := by omega
      obtain rfl : m = 0 := by omega
      clear own hb hx
      go_wp2
      go_ret
      refine ⟨_, rfl, ?_, HB.out⟩
      have := HX.out
      rw [digs_zero, List.append_nil] at this
      rw [← this]
      exact OWN.out
theorem int_size : ∀ w : World, (sizeOf (Tryz.prog.elem 24)).run Tryz.prog w = .ok 1 w := fun _ => by kernel_rfl
theorem cut_nums (g L cap k : Nat) (h : k ≤ cap) (w : World) :
    (Instr.slice 24 (.slice (some ⟨g, 0, none⟩) L cap) none (some (.int .i64 (k : Int))) none).run Tryz.prog w = .ok (.slice (some ⟨g, 0, none⟩) k cap) w := by
  rw [run_slice_h (P := Tryz.prog) w 24 (some ⟨g, 0, none⟩) L cap (by kernel_rfl) .i64 (k : Int) (by omega) (by omega), int_size]
  simp [sliced, Addr.add, Result.andThen]
theorem Num.take {B g n cap : Nat} {l : List Int} {w : World} (h : Num B (.slice (some ⟨g, 0, none⟩) n cap) l w) (k : Nat) (hk : k ≤ l.length) : Num B (.slice (some ⟨g, 0, none⟩) k cap) (l.take k) w := by
  have hl : (l.take k).length = k := by rw [List.length_take]; omega
  refine ⟨by rw [nums_length]; omega, .inr ?_⟩
  rcases h.2 with ⟨e, _⟩ | ⟨g', cap', cur, e, a, b, c, d, f, q⟩
  · cases e
  · cases e
    refine ⟨g, cap, cur, by rw [hl], a, b, by omega, d, f, ?_⟩
    rw [hl]
    have : nums (l.take k) = (nums l).take (k * 1) := by simp [nums, List.map_take]
    rw [this, ← q, List.take_take]
    congr 1
    omega
set_option maxRecDepth 100000 in
set_option maxHeartbeats 3200000 in
theorem ref_trim (B g L cap : Nat) (l : List Int) (n : Nat) (w : World) (h : Num B (.slice (some ⟨g, 0, none⟩) L cap) l w) (hL : l.length = L) (hd : Dg l) (hv : valD l = n) (hl : L ≤ 10000) :
    Calls Tryz.prog 143 #[.slice (some ⟨g, 0, none⟩) L cap] w fun e w' => ∃ v, e = .returned v ∧ Num B v (digs n) w' ∧ w' = w := by
  have hc : ∀ i, i < L → w.cell? ⟨g, i, none⟩ = some (.int .i64 (l.getD i 0)) := fun i hi => by
    obtain ⟨g', cap', hs, _, _, _, hc⟩ := h.lies (by omega)
    obtain ⟨hgg, _, _⟩ := Value.slice.inj hs
    obtain rfl : g = g' := by simpa using hgg
    exact hc i (by omega)
  have lc : L ≤ cap := by
    rcases h.2 with ⟨e, _⟩ | ⟨g', cap', cur, e, _, _, h2, _⟩
    · cases e
    · obtain ⟨_, _, rfl⟩ := Value.slice.inj e; omega
  have H := hid' h
  have HC := hid' hc
  have HD := hid' hd
  have HV := hid' hv
  have HL := hid' hL
  clear h hc hd hv hL
  go_enter Tryz.func143, Tryz.ntmps143
  go_wp2
  go_loopw [3] (fun i wr => wr = w ∧ ∃ k : Nat, k ≤ L ∧ i = .int .i64 k ∧ ∀ j, j < l.length → k ≤ j → l.getD j 0 = 0) (fun i _ => (intOf i).toNat)
  case atStart => exact ⟨rfl, L, Nat.le_refl _, rfl, fun j hj hk => by have := HL.out; omega⟩
  case round =>
    obtain ⟨rfl, k, hk, rfl, hz⟩ := hrel
    have HZ := hid' hz
    have hcut := fun W => cut_nums g L cap k (by omega) W
    clear hz
    by_cases c1 : 0 < k
    · have a0 := HC.out (k - 1) (by omega)
      have hli : decide ((0 : Int) < (k : Int)) = true := by simp; omega
      generalize hj : k - 1 = j at *
      have HJ := hid' hj
      have hsub : (k : Int) - 1 = (j : Int) := by omega
      have z0 : (0 : Int) ≤ (j : Int) := by omega
      have z1 : (j : Int) < (L : Int) := by omega
      clear hj
      obtain ⟨x, hx⟩ : ∃ x, l.getD j 0 = x := ⟨_, rfl⟩
      have HX := hid' hx
      rw [hx] at a0
      clear hx
      by_cases c2 : x = 0
      · subst c2
        go_wp2
        go_roundw
        case rel =>
          refine ⟨by trivial, j, by have := HJ.out; omega, by go_num, fun i hi hk2 => ?_⟩
          by_cases e : i = j
          · subst e
            exact HX.out
          · exact HZ.out i hi (by have := HJ.out; omega)
        case measure => have := HJ.out; simp [intOf]; omega
      · have ne : (x == 0) = false := beq_eq_false_iff_ne.2 c2
        go_wp2
        go_ret
        refine ⟨_, rfl, ?_, rfl⟩
        have e := trim_digs' (k := k) HD.out HV.out (by have := HL.out; omega) HZ.out (fun _ h0 => by
          have e1 := HX.out
          have e2 := HJ.out
          rw [e2] at h0
          exact c2 (e1.symm.trans h0))
        rw [← e]
        exact H.out.take k (by have := HL.out; omega)
    · have hli : decide ((0 : Int) < (k : Int)) = false := by simp; omega
      obtain rfl : k = 0 := by omega
      go_wp2
      go_ret
      refine ⟨_, rfl, ?_, rfl⟩
      have e := trim_digs' (k := 0) HD.out HV.out (by omega) HZ.out (fun h => absurd h (by omega))
      rw [← e]
      exact H.out.take 0 (by omega)
set_option maxRecDepth 100000 in
set_option maxHeartbeats 3200000 in
theorem ref_above (B C : Nat) (a b : Nat) (va vb : Value) (w : World) (ha : Num B va (digs a) w) (hb : Num C vb (digs b) w) (la : (digs a).length ≤ 1000) (lb : (digs b).length ≤ 1000) :
    Calls Tryz.prog 100 #[va, vb] w fun e w' => e = .returned (.bool (decide (b < a))) ∧ Below w.heap.size w w' := by
  obtain ⟨aa, ac, rfl⟩ := ha.slice
  obtain ⟨ba, bc, rfl⟩ := hb.slice
  have HA := hid' ha
  have HB := hid' hb
  have HN := hid' (above_len (a := a) (b := b))
  clear ha hb
  obtain ⟨L, hL⟩ : ∃ L, (digs a).length = L := ⟨_, rfl⟩
  obtain ⟨M, hM⟩ : ∃ M, (digs b).length = M := ⟨_, rfl⟩
  have HLA' := hid' hL
  have HLB' := hid' hM
  rw [hL] at la HN ⊢
  rw [hM] at lb HN ⊢
  clear hL hM
  go_enter Tryz.func100, Tryz.ntmps100
  by_cases c : L = M
  case neg =>
    have ne : ((L : Int) != (M : Int)) = true := bne_iff_ne.2 (by omega)
    have e := HN.out c
    go_wp2
    go_ret
    refine ⟨?_, Below.refl _ _⟩
    rw [← e]
    congr 2
  subst c
  go_wp2
  go_loopw [5] (fun i wr => Below w.heap.size w wr ∧ ∃ k : Int, -1 ≤ k ∧ k < L ∧ i = .int .i64 k ∧ (digs a).drop (k + 1).toNat = (digs b).drop (k + 1).toNat) (fun i _ => (intOf i + 1).toNat)
  case atStart => exact ⟨Below.refl _ _, (L : Int) - 1, by omega, by omega, rfl, by rw [List.drop_eq_nil_of_le (by have := HLA'.out; omega), List.drop_eq_nil_of_le (by have := HLB'.out; omega)]⟩
  case round =>
    obtain ⟨hbl, k, hk, hk2, rfl, hz⟩ := hrel
    have HBL := hid' hbl
    have HZ := hid' hz
    clear hz
    by_cases c1 : 0 ≤ k
    · obtain ⟨j, rfl⟩ : ∃ j : Nat, k = j := ⟨k.toNat, by omega⟩
      obtain ⟨ga, ca, e1, lga, _, _, qa⟩ := HA.out.lies (by have := HLA'.out; omega)
      obtain ⟨gb, cb, e2, lgb, _, _, qb⟩ := HB.out.lies (by have := HLB'.out; omega)
      obtain ⟨rfl, _, rfl⟩ := Value.slice.inj e1
      obtain ⟨rfl, _, rfl⟩ := Value.slice.inj e2
      have a0 := (hbl.cell (p := ⟨ga, j, none⟩) lga).trans (qa j (by have := HLA'.out; omega))
      have b0 := (hbl.cell (p := ⟨gb, j, none⟩) lgb).trans (qb j (by have := HLB'.out; omega))
      have HAT := hid' (above_at' (a := a) (b := b) (i := j) (by have := HLA'.out; omega) (by have := HLB'.out; omega) HZ.out)
      have HDS := hid' (drop_same (a := digs a) (b := digs b) (i := j) (by have := HLA'.out; omega) (by have := HLB'.out; omega) HZ.out)
      clear hbl qa qb e1 e2
      generalize (digs a).getD j 0 = x at HAT HDS a0
      generalize (digs b).getD j 0 = y at HAT HDS b0
      by_cases c2 : x = y
      · subst c2
        have HDS2 := hid' (HDS.out rfl)
        have ne : (x != x) = false := by simp
        clear HDS HAT
        go_wp2_with fail
        go_quiet (fail)
        go_wp2
        go_roundw
        case rel => exact ⟨below_drewN HBL.out nq, (j : Int) - 1, by omega, by omega, by go_num, (by rw [show ((j : Int) - 1 + 1).toNat = j from by omega]; exact HDS2.out)⟩
        case measure => simp [intOf]
      · have ne : (x != y) = true := bne_iff_ne.2 c2
        have e := hid' (HAT.out c2)
        clear HAT HDS
        go_wp2_with fail
        go_quiet (fail)
        go_wp2_with fail
        go_quiet (fail)
        go_wp2
        go_ret
        refine ⟨?_, below_drewN (below_drewN HBL.out _) _⟩
        rw [← e.out]
        rfl
    · obtain rfl : k = -1 := by omega
      have he : a = b := digs_same (by have := HZ.out; simpa using this)
      clear hbl
      go_wp2
      go_ret
      refine ⟨?_, HBL.out⟩
      subst he; simp
end Go.Proofs.YtmmkhodaljpjgaaGreatDoor
