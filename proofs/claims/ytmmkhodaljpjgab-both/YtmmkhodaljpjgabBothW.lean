import Derived.Test.YtmmkhodaljpjgabBothM
import Derived.Test.YtmmkhodaljpjgabKTable
import Derived.Test.YtmmkhodaljpjgabLabel2
import Derived.Deep.Cut
import Derived.Deep.CutBlock
import Derived.Deep.CutRange
/-! smearkeep.Both: the walk. -/
namespace Go.Proofs.Ytmmkhodaljpjgab
open Go.RowKit

theorem held_own {w : World} {B : Nat} {lv : Value} {ls : List (Int × Int)} (h : w.ownsRow B 29 2 lv ls.length (flat ls)) : Held w lv ls := by
  by_cases h0 : 0 < ls.length
  · obtain ⟨g, cap, rfl⟩ := own_some h h0
    refine .inr ⟨h0, g, cap, rfl, ?_, (h.lt _ rfl).2, fun i hi => ⟨by rw [h.cellAt (i * 2) (by omega)]; exact flat_at0 ls i hi, by rw [h.cellAt (i * 2 + 1) (by omega)]; exact flat_at1 ls i hi⟩⟩
    rcases h.2 with ⟨h, _⟩ | ⟨g', cap', cur, h, _, _, h2, _⟩
    · cases h
    · cases h; exact h2
  · have e : ls = [] := List.eq_nil_of_length_eq_zero (by omega)
    subst e
    rcases h.2 with ⟨rfl, _⟩ | ⟨g, cap, cur, rfl, _⟩
    · exact .inl ⟨rfl, _, _, rfl⟩
    · exact .inl ⟨rfl, _, _, rfl⟩
theorem wf_of {x : Int} (h0 : -1000000000000 ≤ x) (h1 : x ≤ 1000000000000) : (Lit.int .i64 x).wf = true := by
  simp [Lit.wf, IntKind.min, IntKind.max, IntKind.signed, IntKind.bits]
  omega

/-- The second of which is asked. -/
def SecAt (a : Int) (V : World) (s : Value) (wx : World) : Prop := ∃ (x : Int) (m : Nat), s = .int .i64 x ∧ a ≤ x ∧ x ≤ 6000000000 ∧ wx = V.drewN m

set_option maxRecDepth 100000 in
set_option maxHeartbeats 6400000 in
theorem both_walk (c far : Int) (lo : Option Addr) (L lcap : Nat) (w : World) (wc : (Lit.int .i64 c).wf = true) (wf : (Lit.int .i64 far).wf = true) (hI : Ints w lo L) (hL : L ≤ 9223372036854775807) :
    Calls Try.prog 3 #[.int .i64 c, .slice lo L lcap, .int .i64 far] w fun e w' => e = .returned (.bool true) ∧ Below w.heap.size w w' := by
  have HT := hid' (keep_table c lo L lcap w wc hI hL)
  have hfb := bounds_i64 wf
  have hP9 : ∀ W : World, Calls Try.prog 5 #[.int .i64 (far.tdiv 16), .int .i64 9] W fun e w' => e = .returned (.int .i64 (kpick (far.tdiv 16) 9)) ∧ w' = W := fun W => keep_pick (far.tdiv 16) 9 W (by
    have h1 : -(9223372036854775808) ≤ far.tdiv 16 := by
      have := Int.mul_tdiv_add_tmod far 16
      have a := Int.tmod_lt_of_pos far (show (0 : Int) < 16 by omega)
      have b : -16 < far.tmod 16 := by
        by_cases c : 0 ≤ far
        · have := Int.tmod_nonneg 16 c; omega
        · have := Int.tmod_lt_of_pos (-far) (show (0 : Int) < 16 by omega); rw [Int.neg_tmod] at this; omega
      omega
    have h2 : far.tdiv 16 ≤ 9223372036854775807 := by
      have := Int.mul_tdiv_add_tmod far 16
      have a := Int.tmod_lt_of_pos far (show (0 : Int) < 16 by omega)
      have b : -16 < far.tmod 16 := by
        by_cases c : 0 ≤ far
        · have := Int.tmod_nonneg 16 c; omega
        · have := Int.tmod_lt_of_pos (-far) (show (0 : Int) < 16 by omega); rw [Int.neg_tmod] at this; omega
      omega
    simp [Lit.wf, IntKind.min, IntKind.max, IntKind.signed, IntKind.bits]
    omega) (by omega) (by omega)
  have b9 := kpick_bd (far.tdiv 16) 9 (by omega)
  have HP9 := hid' hP9
  have HP5 := hid' (fun W => keep_pick far 5 W wf (by omega) (by omega))
  have b5 := kpick_bd far 5 (by omega)
  have HP4 := hid' (fun W => keep_pick far 400000000 W wf (by omega) (by omega))
  have b4 := kpick_bd far 400000000 (by omega)
  have WF := hid' wf
  clear hP9 wc wf hI
  generalize kpick (far.tdiv 16) 9 = p9 at *
  generalize kpick far 5 = p5 at *
  generalize kpick far 400000000 = p4 at *
  go_enter Try.func3, Try.ntmps3
  go_wp2_with fail
  refine HT.out.mono ?_
  rintro e w1 ⟨up, ex, lv, ls, rfl, own, hwh, h12, hsm, u0, u1, x0, x1, bel⟩
  have hG := Tab.good_of_whole hwh
  have hpos := hG.pos
  obtain ⟨g, cap, rfl⟩ := own_some own hpos
  have hgl := (own.lt _ rfl).2
  have HOWN := hid' own
  have HBEL := hid' bel
  have HWH := hid' hwh
  have HSM := hid' hsm
  clear own bel hwh hsm HT hG
  have HN := hid' (fun W => keep_pick far ls.length W WF.out (by omega) (by omega))
  have bn := kpick_bd far ls.length (by omega)
  obtain ⟨k, hk⟩ : ∃ k : Nat, kpick far ls.length = (k : Int) := ⟨(kpick far ls.length).toNat, by omega⟩
  rw [hk] at HN bn
  clear hk
  have hkl : k < ls.length := by omega
  go_wp2_with fail
  refine (HN.out _).mono ?_
  rintro e w2 ⟨rfl, rfl⟩
  have hBt := HBEL.out.alloc (Nat.le_trans HBEL.out.size (Nat.le_refl _)) (.cells #[.int .i64 up, .int .i64 ex, .slice (some ⟨g, 0, none⟩) ls.length cap] 25)
  have hrow := heap_alloc_new w1 (.cells #[.int .i64 up, .int .i64 ex, .slice (some ⟨g, 0, none⟩) ls.length cap] 25)
  have hown := HOWN.out.alloc (.cells #[.int .i64 up, .int .i64 ex, .slice (some ⟨g, 0, none⟩) ls.length cap] 25)
  have hz : (w1.alloc (.cells #[.int .i64 up, .int .i64 ex, .slice (some ⟨g, 0, none⟩) ls.length cap] 25)).heap.size = w1.heap.size + 1 := by simp
  generalize hV : w1.alloc (.cells #[.int .i64 up, .int .i64 ex, .slice (some ⟨g, 0, none⟩) ls.length cap] 25) = V at *
  generalize hb : w1.heap.size = bT at *
  clear hV
  have t0 := cell_of_row _ _ 0 _ _ _ hrow
  have t1 := cell_of_row _ _ 1 _ _ _ hrow
  have t2 := cell_of_row _ _ 2 _ _ _ hrow
  simp at t0 t1 t2
  have q0 : V.cell? ⟨g, 0, none⟩ = some (.int .i64 (ls.getD 0 (0, 0)).1) := by
    have := hown.cellAt (0 * 2) (by omega); rw [flat_at0 ls 0 (by omega)] at this; rw [getD_at 0 (by omega)]; exact this
  have q1 : V.cell? ⟨g, 1, none⟩ = some (.int .i64 (ls.getD 0 (0, 0)).2) := by
    have := hown.cellAt (0 * 2 + 1) (by omega); rw [flat_at1 ls 0 (by omega)] at this; rw [getD_at 0 (by omega)]; exact this
  have r0 : V.cell? ⟨g, k * 2, none⟩ = some (.int .i64 (ls.getD k (0, 0)).1) := by
    have := hown.cellAt (k * 2) (by omega); rw [flat_at0 ls k (by omega)] at this; rw [getD_at k (by omega)]; exact this
  have r1 : V.cell? ⟨g, k * 2 + 1, none⟩ = some (.int .i64 (ls.getD k (0, 0)).2) := by
    have := hown.cellAt (k * 2 + 1) (by omega); rw [flat_at1 ls k (by omega)] at this; rw [getD_at k (by omega)]; exact this
  have s0 := HSM.out _ (List.getElem_mem (show 0 < ls.length by omega))
  have sk := HSM.out _ (List.getElem_mem (show k < ls.length by omega))
  rw [← getD_at 0 (by omega)] at s0
  rw [← getD_at k (by omega)] at sk
  have HFACT : Hid (∀ sec : Int, (ls.getD 0 (0, 0)).1 + (ls.getD 0 (0, 0)).2 ≤ sec → sec + 1 ≤ 34000000000 → _) := fun sec h h' => Tab.both_facts HWH.out h h'
  generalize (ls.getD 0 (0, 0)).1 = A0 at *
  generalize (ls.getD 0 (0, 0)).2 = O0 at *
  generalize (ls.getD k (0, 0)).1 = Ak at *
  generalize (ls.getD k (0, 0)).2 = Ok at *
  have HROW := hid' hrow
  have HOW := hid' hown
  have HBT := hid' hBt
  clear hrow hown hBt HOWN HBEL
  have z0 : (0 : Int) ≤ (k : Int) := by omega
  have z1 : (k : Int) < (ls.length : Int) := by omega
  have z2 : (0 : Int) < (ls.length : Int) := by omega
  have a1 : IntKind.i64.wrap (Ak + Ok) = Ak + Ok := by rw [IntKind.wrap_i64]; omega
  have a2 : IntKind.i64.wrap (Ak + Ok + p9) = Ak + Ok + p9 := by rw [IntKind.wrap_i64]; omega
  have a3 : IntKind.i64.wrap (Ak + Ok + p9 - 4) = Ak + Ok + p9 - 4 := by rw [IntKind.wrap_i64]; omega
  have a4 : IntKind.i64.wrap (Ak + Ok + p4) = Ak + Ok + p4 := by rw [IntKind.wrap_i64]; omega
  have a5 : IntKind.i64.wrap (A0 + O0) = A0 + O0 := by rw [IntKind.wrap_i64]; omega
  have a6 : IntKind.i64.wrap (far.tdiv 16) = far.tdiv 16 := by
    have := Int.mul_tdiv_add_tmod far 16
    have a := Int.tmod_lt_of_pos far (show (0 : Int) < 16 by omega)
    have b : -16 < far.tmod 16 := by
      by_cases c : 0 ≤ far
      · have := Int.tmod_nonneg 16 c; omega
      · have := Int.tmod_lt_of_pos (-far) (show (0 : Int) < 16 by omega); rw [Int.neg_tmod] at this; omega
    rw [IntKind.wrap_i64]; omega
  go_upto_region 3 with fail
  go_cut [9] from 18 (fun s9 wx => SecAt (-10) V s9 wx)
  case first =>
    go_quiet (first | (go_at_call 5; refine Calls.quiet_of_same (HP9.out _)))
    go_wp2_with fail
    go_meet
    case rel => exact ⟨Ak + Ok + p9 - 4, nq, rfl, by omega, by omega, rfl⟩
  case rest =>
    obtain ⟨xa, ma, rfl, xa0, xa1, hwa⟩ := hcut
    have t0a : wc.cell? ⟨bT, 0, none⟩ = some (.int .i64 up) := by rw [hwa]; exact t0
    have t1a : wc.cell? ⟨bT, 1, none⟩ = some (.int .i64 ex) := by rw [hwa]; exact t1
    have t2a : wc.cell? ⟨bT, 2, none⟩ = some (.slice (some ⟨g, 0, none⟩) ls.length cap) := by rw [hwa]; exact t2
    have q0a : wc.cell? ⟨g, 0, none⟩ = some (.int .i64 A0) := by rw [hwa]; exact q0
    have q1a : wc.cell? ⟨g, 1, none⟩ = some (.int .i64 O0) := by rw [hwa]; exact q1
    have r0a : wc.cell? ⟨g, k * 2, none⟩ = some (.int .i64 Ak) := by rw [hwa]; exact r0
    have r1a : wc.cell? ⟨g, k * 2 + 1, none⟩ = some (.int .i64 Ok) := by rw [hwa]; exact r1
    have HWA := hid' hwa
    clear hwa
    go_upto_if 46 with (go_at_call 5; refine (HP5.out _).mono ?_; rintro e w3 ⟨rfl, rfl⟩)
    go_cut [9] from 18 (fun s9 wx => SecAt (-10) V s9 wx)
    case first =>
      by_cases h5 : p5 = 0
      · have h5' : (p5 == 0) = true := by rw [beq_iff_eq]; exact h5
        clear h5
        go_wp2_with fail
        go_quiet (first | (go_at_call 5; refine Calls.quiet_of_same (HP4.out _)))
        go_wp2_with fail
        go_meet
        case rel => exact ⟨Ak + Ok + p4, _, rfl, by omega, by omega, by rw [HWA.out, World.drewN_drewN]⟩
      · have h5' : (p5 == 0) = false := by rw [beq_eq_false_iff_ne]; exact h5
        clear h5
        go_wp2_with fail
        go_meet
        case rel => exact ⟨xa, ma, rfl, xa0, xa1, HWA.out⟩
    case rest =>
      clear t0a t1a t2a q0a q1a r0a r1a HWA
      obtain ⟨xb, mb, rfl, xb0, xb1, hwb⟩ := hcut
      have t0b : wc.cell? ⟨bT, 0, none⟩ = some (.int .i64 up) := by rw [hwb]; exact t0
      have t1b : wc.cell? ⟨bT, 1, none⟩ = some (.int .i64 ex) := by rw [hwb]; exact t1
      have t2b : wc.cell? ⟨bT, 2, none⟩ = some (.slice (some ⟨g, 0, none⟩) ls.length cap) := by rw [hwb]; exact t2
      have q0b : wc.cell? ⟨g, 0, none⟩ = some (.int .i64 A0) := by rw [hwb]; exact q0
      have q1b : wc.cell? ⟨g, 1, none⟩ = some (.int .i64 O0) := by rw [hwb]; exact q1
      have r0b : wc.cell? ⟨g, k * 2, none⟩ = some (.int .i64 Ak) := by rw [hwb]; exact r0
      have r1b : wc.cell? ⟨g, k * 2 + 1, none⟩ = some (.int .i64 Ok) := by rw [hwb]; exact r1
      have HWB := hid' hwb
      clear hwb
      go_upto_region 6 with fail
      go_cut [75] from 18 (fun s75 wx => s75 = .bool (decide (xb < A0 + O0)) ∧ ∃ m, wx = V.drewN m)
      case first =>
        go_quiet (fail)
        go_wp2_with fail
        go_meet
        case rel => exact ⟨rfl, _, by rw [HWB.out, World.drewN_drewN]⟩
      case rest =>
        clear t0b t1b t2b q0b q1b r0b r1b HWB
        obtain ⟨rfl, mc, hwc⟩ := hcut
        have t0c : wc.cell? ⟨bT, 0, none⟩ = some (.int .i64 up) := by rw [hwc]; exact t0
        have t1c : wc.cell? ⟨bT, 1, none⟩ = some (.int .i64 ex) := by rw [hwc]; exact t1
        have t2c : wc.cell? ⟨bT, 2, none⟩ = some (.slice (some ⟨g, 0, none⟩) ls.length cap) := by rw [hwc]; exact t2
        have q0c : wc.cell? ⟨g, 0, none⟩ = some (.int .i64 A0) := by rw [hwc]; exact q0
        have q1c : wc.cell? ⟨g, 1, none⟩ = some (.int .i64 O0) := by rw [hwc]; exact q1
        have r0c : wc.cell? ⟨g, k * 2, none⟩ = some (.int .i64 Ak) := by rw [hwc]; exact r0
        have r1c : wc.cell? ⟨g, k * 2 + 1, none⟩ = some (.int .i64 Ok) := by rw [hwc]; exact r1
        have HWC := hid' hwc
        clear hwc
        go_upto_if 75 with fail
        go_cut [9] from 18 (fun s9 wx => SecAt (A0 + O0) V s9 wx)
        case first =>
          by_cases h7 : xb < A0 + O0
          · go_wp2_with fail
            go_quiet (fail)
            go_wp2_with fail
            go_meet
            case rel => exact ⟨A0 + O0, _, rfl, by omega, by omega, by rw [HWC.out, World.drewN_drewN]⟩
          · have h7' : decide (xb < A0 + O0) = false := by simpa using h7
            go_wp2_with fail
            go_meet
            case rel => exact ⟨xb, mc, rfl, by omega, xb1, HWC.out⟩
        case rest =>
          clear t0c t1c t2c q0c q1c r0c r1c HWC
          obtain ⟨sec, md, rfl, xd0, xd1, hwd⟩ := hcut
          have t0d : wc.cell? ⟨bT, 0, none⟩ = some (.int .i64 up) := by rw [hwd]; exact t0
          have t1d : wc.cell? ⟨bT, 1, none⟩ = some (.int .i64 ex) := by rw [hwd]; exact t1
          have t2d : wc.cell? ⟨bT, 2, none⟩ = some (.slice (some ⟨g, 0, none⟩) ls.length cap) := by rw [hwd]; exact t2
          have q0d : wc.cell? ⟨g, 0, none⟩ = some (.int .i64 A0) := by rw [hwd]; exact q0
          have q1d : wc.cell? ⟨g, 1, none⟩ = some (.int .i64 O0) := by rw [hwd]; exact q1
          have r0d : wc.cell? ⟨g, k * 2, none⟩ = some (.int .i64 Ak) := by rw [hwd]; exact r0
          have r1d : wc.cell? ⟨g, k * 2 + 1, none⟩ = some (.int .i64 Ok) := by rw [hwd]; exact r1
          have HWD := hid' hwd
          clear hwd
          obtain ⟨d, d', hd, hd', ho, ho', hsec, d0, d1, s0, s1, s0', s1', halt⟩ := HFACT.out sec xd0 (by omega)
          have hsz : wc.heap.size = bT + 1 := by rw [HWD.out]; exact hz
          have HH : Hid (Held wc (.slice (some ⟨g, 0, none⟩) ls.length cap) ls) := by rw [HWD.out]; exact held_own HOW.out
          have hBw : Below w.heap.size w wc := by rw [HWD.out]; exact below_drewN HBT.out md
          have HBw := hid' hBw
          have hws : w.heap.size ≤ wc.heap.size := hBw.size
          have wfs : ∀ p ∈ ls, WfP p := fun p hp => ⟨wf_of (by have := HSM.out p hp; omega) (by have := HSM.out p hp; omega), wf_of (by have := HSM.out p hp; omega) (by have := HSM.out p hp; omega)⟩
          have wu := wf_of (x := up) (by omega) (by omega)
          have wx := wf_of (x := ex) (by omega) (by omega)
          have HL := hid' (fun W (h : Held W (.slice (some ⟨g, 0, none⟩) ls.length cap) ls) => smear_label_yes _ ls up ex sec d W wu wx h (by omega) wfs ho hd)
          have HL2 := hid' (fun W (h : Held W (.slice (some ⟨g, 0, none⟩) ls.length cap) ls) => smear_label_yes _ ls up ex (sec + 1) d' W wu wx h (by omega) wfs ho' hd')
          have hS2 := fun W (h : Held W (.slice (some ⟨g, 0, none⟩) ls.length cap) ls) => smear_second _ ls up ex d (sec - Tab.begins ls d) W wu wx h (by omega) wfs
          rw [hsec] at hS2
          have HS2 := hid' hS2
          clear hS2 hsec ho ho' hd hd' wfs wu wx hBw HFACT HP9 HP5 HP4 HN a1 a2 a3 a4 a5 a6 t0 t1 t2 q0 q1 r0 r1 b9 b5 b4 q0d q1d r0d r1d
          generalize sec - Tab.begins ls d = s at *
          generalize sec + 1 - Tab.begins ls d' = s' at *
          go_wp2_with fail
          refine (HL.out wc HH.out).mono ?_
          rintro e w3 ⟨rfl, hb3⟩
          have H3 := hid' (HH.out.below hb3)
          have t03 := (hb3.cell (p := ⟨bT, 0, none⟩) (by show bT < _; omega)).trans t0d
          have t13 := (hb3.cell (p := ⟨bT, 1, none⟩) (by show bT < _; omega)).trans t1d
          have t23 := (hb3.cell (p := ⟨bT, 2, none⟩) (by show bT < _; omega)).trans t2d
          have hs3 := hb3.size
          have HB3 := hid' (HBw.out.trans (hb3.mono hws))
          clear hb3 t0d t1d t2d
          go_wp2_with fail
          refine (HS2.out w3 H3.out).mono ?_
          rintro e w4 ⟨rfl, hb4⟩
          have H4 := hid' (H3.out.below hb4)
          have t04 := (hb4.cell (p := ⟨bT, 0, none⟩) (by show bT < _; omega)).trans t03
          have t14 := (hb4.cell (p := ⟨bT, 1, none⟩) (by show bT < _; omega)).trans t13
          have t24 := (hb4.cell (p := ⟨bT, 2, none⟩) (by show bT < _; omega)).trans t23
          have hs4 := hb4.size
          have HB4 := hid' (HB3.out.trans (hb4.mono (by omega)))
          clear hb4 t03 t13 t23
          go_wp2_with fail
          refine (HL2.out w4 H4.out).mono ?_
          rintro e w5 ⟨rfl, hb5⟩
          have HB5 := hid' (HB4.out.trans (hb5.mono (by omega)))
          clear hb5 t04 t14 t24
          have e0 : (sec != sec) = false := by simp
          rcases halt with ⟨rfl, rfl⟩ | ⟨rfl, rfl, hlo⟩
          · have e1 : (d' == d') = true := by simp
            have e2 : (s + 1 == s + 1) = true := by simp
            go_wp2
            go_ret
            exact ⟨rfl, HB5.out⟩
          · have e1 : (d + 1 == d) = false := by rw [beq_eq_false_iff_ne]; omega
            have e2 : (d + 1 == d + 1) = true := by simp
            go_wp2
            go_ret
            exact ⟨rfl, HB5.out⟩

end Go.Proofs.Ytmmkhodaljpjgab
