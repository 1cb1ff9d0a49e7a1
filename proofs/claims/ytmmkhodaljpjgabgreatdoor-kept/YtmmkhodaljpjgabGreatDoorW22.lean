import Derived.Test.YtmmkhodaljpjgabGreatDoorW21
import Derived.Test.YtmmkhodaljpjgabGreatDoorW15
import Derived.Deep.QuietTactic
import Derived.BigQuiet
namespace Go.Proofs.YtmmkhodaljpjgabGreatDoor
open Go.RowKit
attribute [local go_sem ↓] Go.wp_at_zero Go.wp_at_succ
/-- Which window can be open. -/
def Sv.wide (x : Sv) : Prop := 2 ≤ x.done.length ∧ x.till (x.done.length - 1) = true
/-- P12, P13: what is told of the time, and the error. -/
structure Sv.Told (x : Sv) (ts tf li er : Int) : Prop where
  no : x.ld = false → ts = 0 ∧ tf = 0 ∧ li = 3 ∧ er = 8
  step : x.ld = true → x.mode = 0 → ts = x.utc ∧ tf = x.nf ∧ li = x.ind (x.utc / 86400) ∧ er = 0
  out : x.ld = true → x.mode ≠ 0 → ¬ x.wide → ts = x.utc ∧ tf = x.nf ∧ li = 0 ∧ er = 0
  in' : x.ld = true → x.mode ≠ 0 → x.wide → ts = (x.smeared (x.done.length - 1)).1 ∧ tf = (x.smeared (x.done.length - 1)).2 ∧ li = 0 ∧ er = 0
theorem Sv.Inv.open_iff {x : Sv} (h : x.Inv) (hl : x.ld = true) {op : Bool} {bs bf : Int} (ho : Opn x op bs bf) : (op = true ∧ (gone x.ns x.nf bs bf).1 < x.win) ↔ x.wide := by
  have m := h.mid hl
  obtain ⟨t0, t1, t2, t3⟩ := h.num.t'
  have p := m.pos
  have last := m.bg (x.done.length - 1) (by omega)
  unfold Sv.wide
  cases op with
  | false =>
    refine ⟨fun e => (by cases e.1), fun e => ?_⟩
    have q := ho.2 rfl (x.done.length - 1) (by rw [m.bl]; omega)
    have e2 := e.2
    rw [Sv.till_eq _ last.f0 last.f1] at e2
    have := of_decide_eq_true e2
    omega
  | true =>
    obtain ⟨l2, eb⟩ := ho.1 rfl
    rw [m.bl] at l2 eb
    rw [eb] at last
    have g := gone_till (s := x.ns) (f := x.nf) (z := bs) (g := bf) (k := x.win) t2 t3 last.f0 last.f1
    have tl : x.till (x.done.length - 1) = decide ((gone x.ns x.nf bs bf).1 < x.win) := by
      unfold Sv.till; rw [eb]; exact g
    rw [tl, decide_eq_true_eq]
    exact ⟨fun e => ⟨l2, e.2⟩, fun e => ⟨rfl, e.2⟩⟩
/-- When the last window began. -/
theorem Sv.Inv.begin_bd {x : Sv} (h : x.Inv) (hl : x.ld = true) {bs bf : Int} (ho : Opn x true bs bf) : 0 ≤ bf ∧ bf < 4294967296 ∧ (bs < x.ns ∨ (bs = x.ns ∧ bf ≤ x.nf)) ∧ -1000000 ≤ bs ∧ x.gap (x.done.length - 1) = (x.ns - bs) * 4294967296 + x.nf - bf ∧ 2 ≤ x.done.length := by
  have m := h.mid hl
  have w := h.num.win
  obtain ⟨l2, eb⟩ := ho.1 rfl
  rw [m.bl] at l2 eb
  have last := m.bg (x.done.length - 1) (by omega)
  have wb := m.fit.when_bd (x.done.length - 1) (by rw [x.all_length]; omega)
  have bd := m.fit.bd (x.done.length - 1) (by rw [x.all_length]; omega)
  rw [eb] at last
  have := last.lo
  refine ⟨last.f0, last.f1, last.now, by simp only at this; omega, ?_, l2⟩
  unfold Sv.gap
  rw [eb]
/-- What openFor answers. -/
def OpenP (s : Sv) (w : World) (e : Ending) (w' : World) : Prop := (∃ n o, e = .returned (.tuple #[.int .i64 n, .bool o]) ∧ (o = true ↔ s.wide) ∧ (o = true → n = s.gap (s.done.length - 1))) ∧ Below w.heap.size w w'
set_option maxRecDepth 100000 in
set_option maxHeartbeats 3200000 in
theorem open_for (b : Nat) (s : Sv) (dv cv : Value) (op : Bool) (bs bf : Int) (w : World) (h : PRow b s dv cv op bs bf w) (ho : Opn s op bs bf) (hI : s.Inv) (hl : s.ld = true) :
    Calls Tryz.prog 33 #[.pointer (some ⟨b, 0, none⟩)] w fun e w' => OpenP s w e w' := by
  have HP := hid' h
  have HIF := hid' (hI.open_iff hl ho)
  have win := hI.num.win
  obtain ⟨t0, t1, t2, t3⟩ := hI.num.t'
  have c44 := h.c44
  have lb := h.lt
  cases op with
  | false =>
    clear h ho hI
    go_enter Tryz.func33, Tryz.ntmps33
    go_wp2
    go_ret2
    exact ⟨⟨_, _, rfl, ⟨fun q => (by cases q), fun q => (by cases (HIF.out.2 q).1)⟩, fun q => (by cases q)⟩, Below.refl _ _⟩
  | true =>
    obtain ⟨g0, g1, gn, gb, gg, g2⟩ := hI.begin_bd hl ho
    have GO := hid' (fun W => clk_gone s.ns s.nf bs bf W (by omega) (by omega) (by omega) (by omega) t2 t3 g0 g1)
    have gbd := gone_bd (s := s.ns) (f := s.nf) (z := bs) (g := bf) t2 t3 g0 g1 gn
    have HGG : Hid ((gone s.ns s.nf bs bf).1 * 4294967296 + (gone s.ns s.nf bs bf).2 = s.gap (s.done.length - 1)) := by show _ = _; rw [gone_gap, gg]
    have c4 := h.c4
    have c5 := h.c5
    have c45 := h.c45
    have c46 := h.c46
    have c1 := h.c1
    generalize gone s.ns s.nf bs bf = gt at *
    obtain ⟨ga, gf⟩ := gt
    simp only at GO gbd HIF HGG
    obtain ⟨a0, a1, a2, a3⟩ := gbd
    have hne1 : ¬ b = w.heap.size := by omega
    have hne2 : ¬ w.heap.size = b := by omega
    clear h ho hI gn gg
    go_enter Tryz.func33, Tryz.ntmps33
    go_upto_region 3 with fail
    go_cut [4] from 5 (fun s4 wx => ∃ q, s4 = .pointer (some ⟨q, 0, none⟩) ∧ Below w.heap.size w wx ∧ wx.heap[q]? = some (.cells #[.int .i64 ga, .int .i64 gf] 33 (0, 0)))
    case first =>
      go_region_held3 (fun w' => w'.cell? ⟨b, 4, none⟩ = some (.int .i64 s.ns) ∧ w'.cell? ⟨b, 5, none⟩ = some (.int .i64 s.nf) ∧ w'.cell? ⟨b, 45, none⟩ = some (.int .i64 bs) ∧ w'.cell? ⟨b, 46, none⟩ = some (.int .i64 bf)) (first | go_keep | assumption) (first | (go_at_call 49; refine (GO.out _).mono ?_; rintro e w1 ⟨rfl, hb1⟩; (try (have hrow := (hb1.block w.heap.size (by exact Nat.lt_of_lt_of_eq (Nat.lt_succ_self _) (alloc_sz w (.cells #[.int .i64 0, .int .i64 0] 33)).symm)).trans (heap_alloc_new w.drew (.cells #[.int .i64 0, .int .i64 0] 33)); have z0 := cell_of_row _ _ 0 _ _ _ hrow; have z1 := cell_of_row _ _ 1 _ _ _ hrow; have zf0 := frozen_of_row _ _ 0 _ _ hrow; have zf1 := frozen_of_row _ _ 1 _ _ hrow; simp at z0 z1; have HROW := hid' hrow; clear hrow)); have m4 := hb1.cell (p := ⟨b, 4, none⟩) (by first | exact lb | exact Nat.lt_of_lt_of_le lb (Nat.le_of_lt (Nat.lt_of_lt_of_eq (Nat.lt_succ_self _) (alloc_sz w (.cells #[.int .i64 0, .int .i64 0] 33)).symm))); have m5 := hb1.cell (p := ⟨b, 5, none⟩) (by first | exact lb | exact Nat.lt_of_lt_of_le lb (Nat.le_of_lt (Nat.lt_of_lt_of_eq (Nat.lt_succ_self _) (alloc_sz w (.cells #[.int .i64 0, .int .i64 0] 33)).symm))); have m45 := hb1.cell (p := ⟨b, 45, none⟩) (by first | exact lb | exact Nat.lt_of_lt_of_le lb (Nat.le_of_lt (Nat.lt_of_lt_of_eq (Nat.lt_succ_self _) (alloc_sz w (.cells #[.int .i64 0, .int .i64 0] 33)).symm))); have m46 := hb1.cell (p := ⟨b, 46, none⟩) (by first | exact lb | exact Nat.lt_of_lt_of_le lb (Nat.le_of_lt (Nat.lt_of_lt_of_eq (Nat.lt_succ_self _) (alloc_sz w (.cells #[.int .i64 0, .int .i64 0] 33)).symm))); have hs1 := hb1.size; have HB1 := hid' hb1; clear hb1))
      all_goals
        go_wp2_with fail
        go_meet
        case rel =>
          first
            | exact ⟨_, rfl, ((Below.refl _ _).drew.trans HB1.out).alloc (by exact HB1.out.size) _, by exact heap_alloc_new _ _⟩
            | exact ⟨_, rfl, ((((Below.refl w.heap.size w).drew.alloc (Nat.le_refl _) (.cells #[.int .i64 0, .int .i64 0] 33)).trans (HB1.out.mono (by exact Nat.le_of_lt (Nat.lt_of_lt_of_eq (Nat.lt_succ_self _) (alloc_sz w (.cells #[.int .i64 0, .int .i64 0] 33)).symm)))).setCell (p := ⟨w.heap.size, 0, none⟩) (Nat.le_refl _) _).setCell (p := ⟨w.heap.size, 1, none⟩) (Nat.le_refl _) _, by exact two_row HROW.out⟩
    case rest =>
      obtain ⟨q, rfl, bel, qrow⟩ := hcut
      rename World => W1
      have B1 := hid' bel
      have P1 := hid' (HP.out.below bel)
      have d1 := P1.out.c1
      have o0 := cell_of_row _ _ 0 _ _ _ qrow
      have o1 := cell_of_row _ _ 1 _ _ _ qrow
      simp at o0 o1
      clear bel qrow c44 c4 c5 c45 c46 c1
      by_cases hw : ga < s.win
      · go_upto_region 4 with fail
        go_quiet (fail)
        go_wp2
        go_ret2
        exact ⟨⟨_, _, rfl, ⟨fun _ => (by first | exact HIF.out.1 ⟨rfl, hw⟩ | exact HIF.out.1 ⟨trivial, hw⟩), fun _ => rfl⟩, fun _ => HGG.out⟩, below_drewN B1.out _⟩
      · go_upto_region 4 with fail
        go_quiet (fail)
        go_wp2
        go_ret2
        exact ⟨⟨_, _, rfl, ⟨fun q => (by cases q), fun q => (by have := (HIF.out.2 q).2; omega)⟩, fun q => (by cases q)⟩, below_drewN B1.out _⟩
set_option maxRecDepth 100000 in
set_option maxHeartbeats 3200000 in
theorem srv_smeared (b : Nat) (s : Sv) (dv cv : Value) (op : Bool) (bs bf : Int) (w : World) (h : PRow b s dv cv op bs bf w) (hI : s.Inv) (hl : s.ld = true) (hm : s.mode ≠ 0) (hw : s.wide) :
    Calls Tryz.prog 34 #[.pointer (some ⟨b, 0, none⟩), .int .i64 (s.gap (s.done.length - 1))] w fun e w' => e = .returned (.agg #[.int .i64 (s.smeared (s.done.length - 1)).1, .int .i64 (s.smeared (s.done.length - 1)).2]) ∧ Below w.heap.size w w' := by
  obtain ⟨t0, t1, t2, t3⟩ := hI.num.t'
  have hM := hI.mid hl
  obtain ⟨l2, ht⟩ := hw
  have ok := hI.pullOk hl (s.done.length - 1) (by omega) ht
  have hmd : s.mode = 1 ∨ s.mode = 2 := by
    rcases hI.num.mode with ⟨q, _⟩ | ⟨q, _⟩
    · exact absurd q hm
    · exact q
  have hse := Sv.smeared_eq ok t2 t3
  have pu := Sv.pq_bd ok true
  have pd := Sv.pq_bd ok false
  have PL := hid' (fun (up : Bool) (W : World) (hb : Below w.heap.size w W) => p_pull b s dv cv op bs bf (s.gap (s.done.length - 1)) up W (h.below hb) ok hmd)
  have PLT := hid' (fun (W : World) (hb : Below w.heap.size w W) => PL.out true W hb)
  have PLF := hid' (fun (W : World) (hb : Below w.heap.size w W) => PL.out false W hb)
  have epq : ∀ up, quo (pullU s.mode s.win (s.gap (s.done.length - 1))) (pullD s.mode s.win) up = s.pq (s.done.length - 1) up := fun _ => rfl
  simp only [epq] at PLT PLF
  clear PL
  have hlen := hM.fit.good.len
  rw [s.all_length] at hlen
  have hG := hM.doneFit.good
  obtain ⟨k, hk⟩ : ∃ k, s.done.length = k + 2 := ⟨s.done.length - 2, by omega⟩
  obtain ⟨g, cap, hdv⟩ := own_some h.dd (by omega)
  subst hdv
  have lie := lies_of h.dd rfl
  have k1 : k + 1 < s.done.length := by omega
  have k0 : k < s.done.length := by omega
  have e1 := (lie (k + 1) k1).2
  have e0 := (lie k k0).2
  have lg : g < w.heap.size := (h.dd.lt _ rfl).2
  have f0 := (hG.fine _ (List.getElem_mem k0)).2
  have f1 := (hG.fine _ (List.getElem_mem k1)).2
  have hst := hG.off k (by omega)
  rw [show s.done.length - 1 = k + 1 from by omega] at hse ⊢
  rw [show s.done.length - 1 = k + 1 from by omega] at pu pd PLT PLF
  rw [Nat.add_sub_cancel, getD_at (k + 1) k1, getD_at k k0] at hse
  rw [getD_at (k + 1) k1, getD_at k k0] at hst
  have HSE := hid' hse
  generalize (s.done[k + 1]'k1).2 = o1 at *
  generalize (s.done[k]'k0).2 = o0 at *
  generalize s.pq (k + 1) true = pt at *
  generalize s.pq (k + 1) false = pf at *
  generalize s.gap (k + 1) = gp at *
  generalize s.smeared (k + 1) = r at *
  obtain ⟨pu0, pu1⟩ := pu
  obtain ⟨pd0, pd1⟩ := pd
  obtain ⟨np, hnp⟩ : ∃ np, np = -pt := ⟨_, rfl⟩
  have hnw : IntKind.i64.wrap (-pt) = np := by rw [IntKind.wrap_i64]; omega
  have hnw2 : wrap64 (-pt) = np := by unfold wrap64; omega
  have np0 : -4294967296 ≤ np := by omega
  have np1 : np ≤ 4294967296 := by omega
  rw [← hnp] at HSE
  have MU := hid' (fun W => clk_moved (s.ns - o0) s.nf np W (by omega) (by omega) t2 t3 np0 np1)
  have MD := hid' (fun W => clk_moved (s.ns - o0) s.nf pf W (by omega) (by omega) t2 t3 (by omega) (by omega))
  generalize moved (s.ns - o0) s.nf np = mu at *
  generalize moved (s.ns - o0) s.nf pf = md at *
  have HP := hid' h
  have lb := h.lt
  have B0 := hid' ((Below.refl w.heap.size w).alloc (Nat.le_refl _) (.cells #[.int .i64 0, .int .i64 0] 33))
  have R0 := hid' (heap_alloc_new w (.cells #[.int .i64 0, .int .i64 0] 33))
  generalize hL : s.done.length = L at *
  obtain ⟨x1, x2, x3, x4⟩ : IntKind.i64.wrap ((L : Int) - 1) = ((k + 1 : Nat) : Int) ∧ wrap64 ((L : Int) - 1) = ((k + 1 : Nat) : Int) ∧ IntKind.i64.wrap (((k + 1 : Nat) : Int) - 1) = (k : Int) ∧ wrap64 (((k + 1 : Nat) : Int) - 1) = (k : Int) := ⟨by rw [IntKind.wrap_i64]; omega, by unfold wrap64; omega, by rw [IntKind.wrap_i64]; omega, by unfold wrap64; omega⟩
  have z1 : (1 : Int) ≤ ((k + 1 : Nat) : Int) := by omega
  have z2 : ((k + 1 : Nat) : Int) < (L : Int) := by omega
  have z3 : (0 : Int) ≤ (k : Int) := by omega
  have z4 : (k : Int) < (L : Int) := by omega
  have z5 : (0 : Int) ≤ ((k + 1 : Nat) : Int) := by omega
  clear h hI hM ok hse epq hG lie hk hm hmd ht l2 hL hnp
  generalize hK : k + 1 = K at *
  have z6 : ¬ (K : Int) < 1 := by omega
  clear hK
  go_enter Tryz.func34, Tryz.ntmps34
  go_upto_region 1 with fail
  generalize hV : w.alloc (.cells #[.int .i64 0, .int .i64 0] 33) = V at *
  generalize hQ : w.heap.size = Q at *
  clear hV
  have PV := hid' (HP.out.below (by rw [hQ]; exact B0.out))
  have c9 := PV.out.c9
  have c4 := PV.out.c4
  have c5 := PV.out.c5
  have y1 := (B0.out.cell (p := ⟨g, K * 2 + 1, none⟩) (by simp only; omega)).trans e1
  have y0 := (B0.out.cell (p := ⟨g, k * 2 + 1, none⟩) (by simp only; omega)).trans e0
  have lv := lt_of_heap R0.out
  have sv := B0.out.size
  clear e0 e1
  go_upto_region 7 with fail
  have BN := hid' ((Below.refl V.heap.size V).alloc (Nat.le_refl _) (.cells #[.int .i64 (s.ns - o0), .int .i64 s.nf] 33))
  have RN := hid' (heap_alloc_new V (.cells #[.int .i64 (s.ns - o0), .int .i64 s.nf] 33))
  generalize hW : V.alloc (.cells #[.int .i64 (s.ns - o0), .int .i64 s.nf] 33) = W at *
  generalize hE : V.heap.size = E at *
  clear hW
  have PW := hid' (PV.out.below (by rw [hE]; exact BN.out))
  have c9 := PW.out.c9
  have y1 := (BN.out.cell (p := ⟨g, K * 2 + 1, none⟩) (by simp only; omega)).trans y1
  have RQ := hid' ((BN.out.block _ (by omega)).trans R0.out)
  have lqw := lt_of_heap RQ.out
  have d0 := cell_of_row _ _ 0 _ _ _ RN.out
  have d1 := cell_of_row _ _ 1 _ _ _ RN.out
  simp at d0 d1
  have BW := hid' (show Below Q w W from B0.out.trans (BN.out.mono (by omega)))
  clear c4 c5 y0
  by_cases c : o0 < o1
  · have H : Hid (r = mu) := by show _ = _; rw [HSE.out, if_neg (by omega)]
    clear HSE
    go_upto_region 8 with fail
    go_region_with (first | (go_at_call 51; refine (PLT.out _ (by exact BW.out.drew)).mono ?_; rintro e w1 ⟨rfl, hw⟩; subst w1) | (go_at_call 50; refine (MU.out _).mono ?_; rintro e w2 ⟨rfl, hb2⟩; have Q2 := hid' ((hb2.block Q (by exact lqw)).trans RQ.out); have n0 := cell_of_row _ _ 0 _ _ _ Q2.out; have n1 := cell_of_row _ _ 1 _ _ _ Q2.out; have nf0 := frozen_of_row _ _ 0 _ _ Q2.out; have nf1 := frozen_of_row _ _ 1 _ _ Q2.out; simp at n0 n1; have B2 := hid' (BW.out.drew.trans (hb2.mono (by have := BW.out.size; rw [← hQ]; exact this))); clear hb2))
    all_goals
      go_wp2
      try simp only [Exit.inBlock, Exit.then]
      refine bodyPost_ret (results_cell_row rfl _ _ Q 33 #[.int .i64 mu.1, .int .i64 mu.2] (0, 0) _ rfl (two_row Q2.out) Tryz.underlying33 rfl (by kernel_rfl)) rfl ?_
      rw [H.out]
      exact ⟨rfl, by rw [hQ]; exact (B2.out.setCell (p := ⟨Q, 0, none⟩) (by simp only; omega) _).setCell (p := ⟨Q, 1, none⟩) (by simp only; omega) _⟩
  · have H : Hid (r = md) := by show _ = _; rw [HSE.out, if_pos (by omega)]
    clear HSE
    go_upto_region 9 with fail
    go_region_with (first | (go_at_call 51; refine (PLF.out _ (by exact BW.out.drew)).mono ?_; rintro e w1 ⟨rfl, hw⟩; subst w1) | (go_at_call 50; refine (MD.out _).mono ?_; rintro e w2 ⟨rfl, hb2⟩; have Q2 := hid' ((hb2.block Q (by exact lqw)).trans RQ.out); have n0 := cell_of_row _ _ 0 _ _ _ Q2.out; have n1 := cell_of_row _ _ 1 _ _ _ Q2.out; have nf0 := frozen_of_row _ _ 0 _ _ Q2.out; have nf1 := frozen_of_row _ _ 1 _ _ Q2.out; simp at n0 n1; have B2 := hid' (BW.out.drew.trans (hb2.mono (by have := BW.out.size; rw [← hQ]; exact this))); clear hb2))
    all_goals
      go_wp2
      try simp only [Exit.inBlock, Exit.then]
      refine bodyPost_ret (results_cell_row rfl _ _ Q 33 #[.int .i64 md.1, .int .i64 md.2] (0, 0) _ rfl (two_row Q2.out) Tryz.underlying33 rfl (by kernel_rfl)) rfl ?_
      rw [H.out]
      exact ⟨rfl, by rw [hQ]; exact (B2.out.setCell (p := ⟨Q, 0, none⟩) (by simp only; omega) _).setCell (p := ⟨Q, 1, none⟩) (by simp only; omega) _⟩
set_option maxRecDepth 100000 in
set_option maxHeartbeats 3200000 in
theorem srv_now (b : Nat) (s : Sv) (dv cv : Value) (op : Bool) (bs bf ts tf li er : Int) (w : World) (h : PRow b s dv cv op bs bf w) (ho : Opn s op bs bf) (hI : s.Inv) (hT : s.Told ts tf li er) :
    Calls Tryz.prog 22 #[.pointer (some ⟨b, 0, none⟩)] w fun e w' => e = .returned (.tuple #[.agg #[.int .i64 ts, .int .i64 tf], .int .i64 li, .int .i64 er]) ∧ Below w.heap.size w w' := by
  have HP := hid' h
  have c6 := h.c6
  have B0 := hid' ((Below.refl w.heap.size w).alloc (Nat.le_refl _) (.cells #[.int .i64 0, .int .i64 0] 33))
  have R0 := hid' (heap_alloc_new w (.cells #[.int .i64 0, .int .i64 0] 33))
  have lb := h.lt
  cases hld : s.ld with
  | false =>
    obtain ⟨rfl, rfl, rfl, rfl⟩ := hT.no hld
    rw [hld] at c6
    clear h ho hI hT hld
    go_enter Tryz.func22, Tryz.ntmps22
    go_wp2
    try simp only [Exit.inBlock, Exit.then]
    first
      | (refine bodyPost_ret (results_row_tt (p := 2) (u := 3) (v := 4) rfl _ _ w.heap.size #[.int .i64 0, .int .i64 0] rfl (load_ptime R0.out rfl)) rfl ?_
         exact ⟨rfl, B0.out⟩)
      | (refine bodyPost_ret (results_row_tt (p := 2) (u := 3) (v := 4) rfl _ _ w.heap.size #[.int .i64 0, .int .i64 0] rfl (load_ptime (two_row R0.out) rfl)) rfl ?_
         exact ⟨rfl, (B0.out.setCell (p := ⟨w.heap.size, 0, none⟩) (Nat.le_refl _) _).setCell (p := ⟨w.heap.size, 1, none⟩) (Nat.le_refl _) _⟩)
  | true =>
    rw [hld] at c6
    have hM := hI.mid hld
    have IN : Hid (∀ W, Below w.heap.size w W → Calls Tryz.prog 32 #[.pointer (some ⟨b, 0, none⟩)] W fun e w' => e = .returned (.int .i64 li) ∧ Below W.heap.size W w') := fun W hb => by
      by_cases hm : s.mode = 0
      · obtain ⟨k, hk⟩ := hI.indOk hld hm
        rw [(hT.step hld hm).2.2.1]
        exact srv_indicator b s dv cv op bs bf k W (h.below hb) hI hm hk
      · have e : li = 0 := by
          by_cases q : s.wide
          · exact (hT.in' hld hm q).2.2.1
          · exact (hT.out hld hm q).2.2.1
        rw [e]
        exact srv_indicator_no b s dv cv op bs bf W (h.below hb) hm
    have OF := hid' (fun (W : World) (hb : Below w.heap.size w W) => open_for b s dv cv op bs bf W (h.below hb) ho hI hld)
    have US := hid' (fun (W : World) (hb : Below w.heap.size w W) => un_smeared b s dv cv op bs bf W (h.below hb) hM hI.num)
    have SM := hid' (fun (W : World) (hb : Below w.heap.size w W) (hm : s.mode ≠ 0) (hw : s.wide) => srv_smeared b s dv cv op bs bf W (h.below hb) hI hld hm hw)
    have HT := hid' hT
    have H0 : Hid (s.wide → s.mode ≠ 0) := fun hw hm => by
      have wz : s.win = 0 := by
        rcases hI.num.mode with ⟨_, a⟩ | ⟨a, _⟩
        · exact a
        · omega
      have l2 := hw.1
      have last := hM.bg (s.done.length - 1) (by omega)
      have ht := hw.2
      rw [Sv.till_eq _ last.f0 last.f1, wz] at ht
      have q := of_decide_eq_true ht
      have := last.now
      omega
    have E0 : Hid (er = 0) := by
      show er = 0
      by_cases hm : s.mode = 0
      · exact (hT.step hld hm).2.2.2
      · by_cases q : s.wide
        · exact (hT.in' hld hm q).2.2.2
        · exact (hT.out hld hm q).2.2.2
    clear h ho hI hT hM
    go_enter Tryz.func22, Tryz.ntmps22
    go_upto_region 1 with fail
    generalize hV : w.alloc (.cells #[.int .i64 0, .int .i64 0] 33) = V at *
    clear hV
    have c6 := (B0.out.cell (p := ⟨b, 6, none⟩) lb).trans c6
    go_wp2_with fail
    refine (IN.out _ B0.out).mono ?_
    rintro e w1 ⟨rfl, hb1⟩
    have B1 := hid' (B0.out.trans (hb1.mono B0.out.size))
    have R1 := hid' ((hb1.block _ (lt_of_heap R0.out)).trans R0.out)
    clear hb1 IN c6
    go_wp2_with fail
    refine (OF.out _ B1.out).mono ?_
    rintro e w2 ⟨⟨n, o, rfl, ho1, ho2⟩, hb2⟩
    have B2 := hid' (B1.out.trans (hb2.mono B1.out.size))
    have R2 := hid' ((hb2.block _ (lt_of_heap R1.out)).trans R1.out)
    clear hb2 OF
    cases o with
    | true =>
      have hw := ho1.1 rfl
      have hm := H0.out hw
      have q1 := (HT.out.in' hld hm hw).1
      have q2 := (HT.out.in' hld hm hw).2.1
      have en := ho2 rfl
      subst en
      have SMW := hid' (SM.out _ B2.out hm hw)
      rw [← q1, ← q2] at SMW
      clear ho1 ho2 hw hm q1 q2 SM hld
      go_wp2_with fail
      refine SMW.out.mono ?_
      rintro e w3 ⟨rfl, hb3⟩
      have B3 := hid' (B2.out.trans (hb3.mono B2.out.size))
      have R3 := hid' ((hb3.block _ (lt_of_heap R2.out)).trans R2.out)
      have n0 := cell_of_row _ _ 0 _ _ _ R3.out
      have n1 := cell_of_row _ _ 1 _ _ _ R3.out
      have nf0 := frozen_of_row _ _ 0 _ _ R3.out
      have nf1 := frozen_of_row _ _ 1 _ _ R3.out
      simp at n0 n1
      clear hb3 SMW
      go_wp2
      try simp only [Exit.inBlock, Exit.then]
      refine bodyPost_ret (results_row_tt (p := 2) (u := 3) (v := 4) rfl _ _ w.heap.size #[.int .i64 ts, .int .i64 tf] rfl (load_ptime (two_row R3.out) rfl)) rfl ?_
      rw [E0.out]
      exact ⟨rfl, (B3.out.setCell (p := ⟨w.heap.size, 0, none⟩) (Nat.le_refl _) _).setCell (p := ⟨w.heap.size, 1, none⟩) (Nat.le_refl _) _⟩
    | false =>
      have hw : ¬ s.wide := fun q => by cases ho1.2 q
      have hu : ts = s.utc ∧ tf = s.nf := by
        by_cases hm : s.mode = 0
        · have q := HT.out.step hld hm; exact ⟨q.1, q.2.1⟩
        · have q := HT.out.out hld hm hw; exact ⟨q.1, q.2.1⟩
      have USW := hid' (US.out _ B2.out)
      rw [← hu.1, ← hu.2] at USW
      clear ho1 ho2 hw hu US hld
      go_wp2_with fail
      refine USW.out.mono ?_
      rintro e w3 ⟨rfl, hb3⟩
      have B3 := hid' (B2.out.trans (hb3.mono B2.out.size))
      have R3 := hid' ((hb3.block _ (lt_of_heap R2.out)).trans R2.out)
      have n0 := cell_of_row _ _ 0 _ _ _ R3.out
      have n1 := cell_of_row _ _ 1 _ _ _ R3.out
      have nf0 := frozen_of_row _ _ 0 _ _ R3.out
      have nf1 := frozen_of_row _ _ 1 _ _ R3.out
      simp at n0 n1
      clear hb3 USW
      go_wp2
      try simp only [Exit.inBlock, Exit.then]
      refine bodyPost_ret (results_row_tt (p := 2) (u := 3) (v := 4) rfl _ _ w.heap.size #[.int .i64 ts, .int .i64 tf] rfl (load_ptime (two_row R3.out) rfl)) rfl ?_
      rw [E0.out]
      exact ⟨rfl, (B3.out.setCell (p := ⟨w.heap.size, 0, none⟩) (Nat.le_refl _) _).setCell (p := ⟨w.heap.size, 1, none⟩) (Nat.le_refl _) _⟩
set_option maxRecDepth 100000 in
theorem p_now (b : Nat) (s : Sv) (F : Nat → Prop) (ts tf li er : Int) (w : World) (h : PS b s F w) (hI : s.Inv) (hT : s.Told ts tf li er) : Tells 10 b ts tf li er w := by
  obtain ⟨dv, cv, op, bs, bf, r, o, _⟩ := h
  have B0 := hid' ((Below.refl w.heap.size w).alloc (Nat.le_refl _) (.cells #[.int .i64 0, .int .i64 0] 33))
  have R0 := hid' (heap_alloc_new w (.cells #[.int .i64 0, .int .i64 0] 33))
  have SA := hid' (srv_now b s dv cv op bs bf ts tf li er _ (r.below B0.out) o hI hT)
  clear r o hI hT
  unfold Tells
  go_enter Tryz.func10, Tryz.ntmps10
  go_wp2_with fail
  refine SA.out.mono ?_
  rintro e w1 ⟨rfl, hb1⟩
  have R1 := hid' ((hb1.block _ (lt_of_heap R0.out)).trans R0.out)
  have B1 := hid' (B0.out.trans (hb1.mono B0.out.size))
  have n0 := cell_of_row _ _ 0 _ _ _ R1.out
  have n1 := cell_of_row _ _ 1 _ _ _ R1.out
  have nf0 := frozen_of_row _ _ 0 _ _ R1.out
  have nf1 := frozen_of_row _ _ 1 _ _ R1.out
  simp at n0 n1
  clear hb1 SA
  go_wp2
  try simp only [Exit.inBlock, Exit.then]
  refine bodyPost_ret (results_row_tt (p := 2) (u := 3) (v := 4) rfl _ _ w.heap.size #[.int .i64 ts, .int .i64 tf] rfl (load_ptime (two_row R1.out) rfl)) rfl ?_
  exact ⟨rfl, (B1.out.setCell (p := ⟨w.heap.size, 0, none⟩) (Nat.le_refl _) _).setCell (p := ⟨w.heap.size, 1, none⟩) (Nat.le_refl _) _⟩
end Go.Proofs.YtmmkhodaljpjgabGreatDoor
namespace Go.Proofs.YtmmkhodaljpjgabGreatDoor
open Go.RowKit
/-- What has begun stays; all but what begins is as it was. -/
structure Sv.Kin (x y : Sv) : Prop where
  mode : y.mode = x.mode
  win : y.win = x.win
  ns : y.ns = x.ns
  nf : y.nf = x.nf
  ld : y.ld = x.ld
  ex : y.ex = x.ex
  ref : y.ref = x.ref
  pre : ∃ r, y.done = x.done ++ r
theorem begunL_pre (ns nf : Int) : ∀ (com : List Cm) (d b : List (Int × Int)), ∃ r, (begunL ns nf com d b).1 = d ++ r
  | [], d, b => ⟨[], by simp [begunL]⟩
  | c :: q, d, b => by
    rw [begunL]
    split
    · exact ⟨[], by simp⟩
    · obtain ⟨r, hr⟩ := begunL_pre ns nf q (d ++ [(c.a, c.o)]) (b ++ [(c.bs, c.bf)])
      exact ⟨[(c.a, c.o)] ++ r, by rw [hr, List.append_assoc]⟩
theorem Sv.kin_begun (x : Sv) : x.Kin x.begun := ⟨rfl, rfl, rfl, rfl, rfl, rfl, rfl, begunL_pre _ _ _ _ _⟩
theorem Sv.kin_refl (x : Sv) : x.Kin x := ⟨rfl, rfl, rfl, rfl, rfl, rfl, rfl, [], by simp⟩
theorem Sv.Kin.trans {x y z : Sv} (h : x.Kin y) (g : y.Kin z) : x.Kin z := by
  obtain ⟨r, hr⟩ := h.pre
  obtain ⟨q, hq⟩ := g.pre
  exact ⟨g.mode.trans h.mode, g.win.trans h.win, g.ns.trans h.ns, g.nf.trans h.nf, g.ld.trans h.ld, g.ex.trans h.ex, g.ref.trans h.ref, r ++ q, by rw [hq, hr, List.append_assoc]⟩
theorem Sv.kin_voted (x : Sv) : x.Kin x.voted := by
  unfold Sv.voted
  split
  · exact ⟨rfl, rfl, rfl, rfl, rfl, rfl, rfl, [], by simp⟩
  · exact Sv.Kin.trans (y := { x with com := [⟨x.atN, x.old + x.sign, (x.opens x.whenN).1, (x.opens x.whenN).2, true⟩] }) ⟨rfl, rfl, rfl, rfl, rfl, rfl, rfl, [], by simp⟩ (Sv.kin_begun _)
theorem Sv.kin_weigh (x : Sv) : x.Kin x.weigh := by
  unfold Sv.weigh
  split
  · exact x.kin_refl
  · split
    · exact x.kin_begun
    · exact x.kin_begun.trans (Sv.kin_voted _)
/-- From one look to the next. -/
structure Sv.Goes (x y : Sv) : Prop where
  mode : y.mode = x.mode
  win : y.win = x.win
  ld : y.ld = true
  ns : x.ns ≤ y.ns
  ref : x.ref ≤ y.ref
  pre : ∃ r, y.done = x.done ++ r
theorem Sv.goes_refl {x : Sv} (hl : x.ld = true) : x.Goes x := ⟨rfl, rfl, hl, Int.le_refl _, Int.le_refl _, [], by simp⟩
theorem Sv.goes_adv {x : Sv} (h : x.Inv) (hl : x.ld = true) (s f : Int) : x.Goes (x.adv s f).2 := by
  unfold Sv.adv
  split
  · exact Sv.goes_refl hl
  · rename_i c1
    split
    · exact Sv.goes_refl hl
    · have k := (x.at' (tSum x.ns x.nf s f).1 (tSum x.ns x.nf s f).2).kin_weigh
      have t := isT_bd (show isT s f = true by simpa using c1)
      obtain ⟨t0, t1, t2, t3⟩ := h.num.t'
      refine ⟨k.mode, k.win, k.ld.trans hl, ?_, by show x.ref ≤ _; rw [k.ref]; exact Int.le_refl _, k.pre⟩
      show x.ns ≤ _
      rw [k.ns]
      show x.ns ≤ x.ns + s + (x.nf + f) / 4294967296
      omega
theorem Sv.goes_hear {x : Sv} (hl : x.ld = true) (a b : Int) : x.Goes (x.hear a b).2 := by
  unfold Sv.hear
  split
  · exact Sv.goes_refl hl
  · split
    · exact Sv.goes_refl hl
    · have k := (x.says a.toNat b).kin_weigh
      exact ⟨k.mode, k.win, k.ld.trans hl, by show x.ns ≤ _; rw [k.ns]; exact Int.le_refl _, by show x.ref ≤ _; rw [k.ref]; exact Int.le_refl _, k.pre⟩
theorem Sv.taken_kin {x : Sv} (hl : x.ld = true) (up ex : Int) (ls : List (Int × Int)) : (x.taken up ex ls).mode = x.mode ∧ (x.taken up ex ls).win = x.win ∧ (x.taken up ex ls).ns = x.ns ∧ (x.taken up ex ls).nf = x.nf ∧ (x.taken up ex ls).ld = true ∧ (x.taken up ex ls).ref = x.ref ∧ (x.taken up ex ls).done = x.done ∧ (x.taken up ex ls).ex = ex ∧ (x.taken up ex ls).began = x.began := by
  unfold Sv.taken Sv.begun1
  rw [if_neg (by rw [hl]; simp)]
  exact ⟨rfl, rfl, rfl, rfl, rfl, rfl, rfl, rfl, rfl⟩
theorem Sv.goes_load {x : Sv} (hl : x.ld = true) (g : Txt.Got) : x.Goes (x.load g).2.2 ∧ ((x.load g).1 = 0 ↔ (x.load g).2.2.ref = x.ref) := by
  unfold Sv.load
  split
  · rename_i q
    refine ⟨⟨rfl, rfl, hl, Int.le_refl _, by show x.ref ≤ x.ref + 1; omega, [], by simp [Sv.refuse]⟩, fun e => absurd e q, fun e => ?_⟩
    have : x.ref + 1 = x.ref := e
    omega
  · have k := (x.taken g.up g.ex g.ls).kin_weigh
    obtain ⟨t1, t2, t3, _, t5, t6, t7, _, _⟩ := Sv.taken_kin hl g.up g.ex g.ls
    obtain ⟨r, hr⟩ := k.pre
    refine ⟨⟨k.mode.trans t1, k.win.trans t2, k.ld.trans t5, by show x.ns ≤ _; rw [k.ns, t3]; exact Int.le_refl _, by show x.ref ≤ _; rw [k.ref, t6]; exact Int.le_refl _, r, by rw [hr, t7]⟩, fun _ => by show _ = x.ref; rw [k.ref, t6], fun _ => rfl⟩
/-- What sources say is to come only where the file has run out. -/
def Sv.Wd (x : Sv) : Prop := ∀ c ∈ x.com, c.v = true → x.ex ≤ x.utc
theorem Sv.wd_voted (x : Sv) : x.voted.Wd := by
  unfold Sv.voted
  split
  · intro c hc; cases hc
  · rename_i q
    have ok : x.okN = true := by
      cases e : x.okN with
      | true => rfl
      | false => exact absurd (.inl e) q
    have sg : x.ex ≤ x.utc := by
      have s0 : x.sign ≠ 0 := by
        intro e
        unfold Sv.okN at ok
        rw [e] at ok
        simp at ok
      unfold Sv.sign at s0
      split at s0
      · exact absurd rfl s0
      · omega
    by_cases l : tLater (x.opens x.whenN).1 (x.opens x.whenN).2 x.ns x.nf = true
    · rw [Sv.begun_stop _ _ _ rfl l]
      intro c _ _
      exact sg
    · rw [Sv.begun_one _ _ _ rfl (by simpa using l), Sv.begun_end _ rfl]
      intro c hc
      cases hc
theorem Sv.wd_weigh {x : Sv} (hl : x.ld = true) (fl : (∀ c ∈ x.weigh.com, c.v = false) ∨ ∃ c, x.weigh.com = [c] ∧ c.v = true) : x.weigh.Wd := by
  unfold Sv.weigh at fl ⊢
  rw [if_neg (by rw [hl]; simp)] at fl ⊢
  split
  · rename_i f
    rw [if_pos f] at fl
    rcases fl with a | ⟨c, a, b⟩
    · intro c hc hv
      rw [a c hc] at hv
      cases hv
    · unfold Sv.filed at f
      rw [a] at f
      simp [b] at f
  · exact Sv.wd_voted _
theorem Sv.wd_adv {x : Sv} (h : x.Inv) (hl : x.ld = true) (hw : x.Wd) (s f : Int) : (x.adv s f).2.Wd := by
  have iv := h.adv s f
  unfold Sv.adv at iv ⊢
  split
  · exact hw
  · rename_i c1
    rw [if_neg c1] at iv
    split
    · exact hw
    · rename_i c2
      rw [if_neg c2] at iv
      have k := (x.at' (tSum x.ns x.nf s f).1 (tSum x.ns x.nf s f).2).kin_weigh
      exact Sv.wd_weigh (x := x.at' (tSum x.ns x.nf s f).1 (tSum x.ns x.nf s f).2) hl (iv.fl (k.ld.trans hl))
theorem Sv.wd_hear {x : Sv} (h : x.Inv) (hl : x.ld = true) (hw : x.Wd) (a b : Int) : (x.hear a b).2.Wd := by
  have iv := h.hear a b
  unfold Sv.hear at iv ⊢
  split
  · exact hw
  · rename_i c1
    rw [if_neg c1] at iv
    split
    · exact hw
    · rename_i c2
      rw [if_neg c2] at iv
      have k := (x.says a.toNat b).kin_weigh
      exact Sv.wd_weigh (x := x.says a.toNat b) hl (iv.fl (k.ld.trans hl))
theorem Sv.wd_load {x : Sv} (h : x.Inv) (hw : x.Wd) (t : ByteArray) : (x.load (Txt.parse t)).2.2.Wd := by
  have iv := h.load t
  unfold Sv.load at iv ⊢
  split
  · exact hw
  · rename_i c1
    rw [if_neg c1] at iv
    have k := (x.taken (Txt.parse t).up (Txt.parse t).ex (Txt.parse t).ls).kin_weigh
    exact Sv.wd_weigh (x := x.taken (Txt.parse t).up (Txt.parse t).ex (Txt.parse t).ls) rfl (iv.fl k.ld)
/-- What a source says turns nothing while the file holds. -/
theorem Sv.quiet {x : Sv} (h : x.Inv) (hl : x.ld = true) (hw : x.Wd) (hu : x.utc < x.ex) (k : Nat) (b : Int) : (x.says k b).weigh = x.says k b := by
  have la := h.lat hl
  have bg : (x.says k b).begun = x.says k b := by
    cases hc : x.com with
    | nil => exact Sv.begun_end _ hc
    | cons c r => exact Sv.begun_stop _ c r hc (la c (by rw [hc]; exact List.mem_cons_self))
  unfold Sv.weigh
  rw [if_neg (by show ¬ x.ld = false; rw [hl]; simp), bg]
  split
  · rfl
  · rename_i f
    have hc : x.com = [] := by
      cases hc : x.com with
      | nil => rfl
      | cons c r =>
        exfalso
        have f' : ¬ (x.says k b).filed = true := f
        unfold Sv.filed at f'
        rw [show (x.says k b).com = c :: r from hc] at f'
        have cv : c.v = true := by simpa using f'
        have := hw c (by rw [hc]; exact List.mem_cons_self) cv
        omega
    unfold Sv.voted
    have ok : (x.says k b).okN = false := by
      unfold Sv.okN
      have : (x.says k b).sign = 0 := by
        unfold Sv.sign
        exact if_pos (show (x.says k b).utc < (x.says k b).ex from hu)
      rw [this]
      simp
    rw [if_pos (.inl ok)]
    unfold Sv.says
    rw [hc]
theorem Sv.quiet_hear {x : Sv} (h : x.Inv) (hl : x.ld = true) (hw : x.Wd) (hu : x.utc < x.ex) (a b : Int) : (x.hear a b).2 = x ∨ ∃ k l, (x.hear a b).2 = x.says k l := by
  unfold Sv.hear
  split
  · exact .inl rfl
  · split
    · exact .inl rfl
    · exact .inr ⟨a.toNat, b, Sv.quiet h hl hw hu _ _⟩
theorem Sv.told_says {x : Sv} {ts tf li er : Int} (h : x.Told ts tf li er) (k : Nat) (l : Int) : (x.says k l).Told ts tf li er := ⟨h.no, h.step, h.out, h.in'⟩
theorem Sv.told_same {x : Sv} {ts tf li er ts' tf' li' er' : Int} (h : x.Told ts tf li er) (g : x.Told ts' tf' li' er') : ts = ts' ∧ tf = tf' ∧ li = li' ∧ er = er' := by
  cases hl : x.ld with
  | false =>
    obtain ⟨rfl, rfl, rfl, rfl⟩ := h.no hl
    obtain ⟨rfl, rfl, rfl, rfl⟩ := g.no hl
    exact ⟨rfl, rfl, rfl, rfl⟩
  | true =>
    by_cases hm : x.mode = 0
    · obtain ⟨rfl, rfl, rfl, rfl⟩ := h.step hl hm
      obtain ⟨rfl, rfl, rfl, rfl⟩ := g.step hl hm
      exact ⟨rfl, rfl, rfl, rfl⟩
    · by_cases hw : x.wide
      · obtain ⟨rfl, rfl, rfl, rfl⟩ := h.in' hl hm hw
        obtain ⟨rfl, rfl, rfl, rfl⟩ := g.in' hl hm hw
        exact ⟨rfl, rfl, rfl, rfl⟩
      · obtain ⟨rfl, rfl, rfl, rfl⟩ := h.out hl hm hw
        obtain ⟨rfl, rfl, rfl, rfl⟩ := g.out hl hm hw
        exact ⟨rfl, rfl, rfl, rfl⟩
theorem moved_val (s f p : Int) : (moved s f p).1 * 4294967296 + (moved s f p).2 = s * 4294967296 + f + p := by
  unfold moved
  split
  · simp only; omega
  · split
    · simp only; omega
    · simp only
      omega
def s_bd (a b s : Int) : Prop := s - 1 ≤ a ∧ a ≤ s + 1 ∧ 0 ≤ b ∧ b < 4294967296
theorem moved_sbd {s f p : Int} (f0 : 0 ≤ f) (f1 : f < 4294967296) (p0 : -4294967296 ≤ p) (p1 : p ≤ 4294967296) : s_bd (moved s f p).1 (moved s f p).2 s := by
  unfold s_bd moved
  split
  · simp only; omega
  · split
    · simp only; omega
    · simp only; omega
/-- Where a window is open: the entry before the last one, and which of the two holds. -/
structure Sv.Wide (x : Sv) (o q T : Int) : Prop where
  len : 2 ≤ x.done.length
  eo : (x.done.getD (x.done.length - 1 - 1) (0, 0)).2 = o
  eq : (x.done.getD (x.done.length - 1) (0, 0)).2 = q
  et : Tab.when x.done (x.done.length - 1) = T
  step : q = o + 1 ∨ q = o - 1
  utc : x.utc = if T ≤ x.ns then x.ns - q else x.ns - o
  lo : T - x.win ≤ x.ns
  hi : x.ns ≤ T + x.win
  ob : 0 ≤ o ∧ o ≤ 200
theorem Sv.Inv.wideAt {x : Sv} (h : x.Inv) (hl : x.ld = true) (hw : x.wide) : ∃ o q T, x.Wide o q T := by
  have m := h.mid hl
  obtain ⟨l2, ht⟩ := hw
  have ft := m.doneFit
  have b := m.bg (x.done.length - 1) (by omega)
  have wd : Tab.when x.all (x.done.length - 1) = Tab.when x.done (x.done.length - 1) := Tab.when_append _ _ _ (by omega)
  rw [wd] at b
  have lo := b.lo
  have nw := b.now
  have hi := b.hi
  have wb := h.num.win
  obtain ⟨t0, t1, t2, t3⟩ := h.num.t'
  have q := of_decide_eq_true (by rw [Sv.till_eq (x.done.length - 1) b.f0 b.f1] at ht; exact ht)
  have g := ft.when_lt (x.done.length - 1 - 1) (x.done.length - 1) (by omega) (by omega)
  have st := ft.good.off (x.done.length - 1 - 1) (by omega)
  rw [show x.done.length - 1 - 1 + 1 = x.done.length - 1 by omega] at st
  have bo := ft.bd (x.done.length - 1 - 1) (by omega)
  have i1 := ft.lastAt_iff x.ns x.done.length (x.done.length - 1) (Nat.le_refl _) (by omega)
  have i0 := ft.lastAt_iff x.ns x.done.length (x.done.length - 1 - 1) (Nat.le_refl _) (by omega)
  have lb := Tab.lastAt_bd x.done x.ns x.done.length
  refine ⟨_, _, _, ⟨l2, rfl, rfl, rfl, st, ?_, ?_, ?_, bo.2⟩⟩
  · unfold Sv.utc
    split
    · rename_i c
      have e : (Tab.lastAt x.done x.ns x.done.length).toNat = x.done.length - 1 := by have := i1.1 c; omega
      rw [e]
    · rename_i c
      have e : (Tab.lastAt x.done x.ns x.done.length).toNat = x.done.length - 1 - 1 := by
        have a : ¬ ((x.done.length - 1 : Nat) : Int) ≤ Tab.lastAt x.done x.ns x.done.length := fun z => c (i1.2 z)
        have b := i0.1 (by omega)
        omega
      rw [e]
  · omega
  · omega
theorem Sv.Inv.near {x : Sv} (h : x.Inv) (hl : x.ld = true) {ts tf li er : Int} (hT : x.Told ts tf li er) :
    er = 0 ∧ -2 ≤ ts - x.utc ∧ ts - x.utc ≤ 2 ∧ (0 ≤ tf ∧ tf < 4294967296) ∧ (ts - x.utc) * 4294967296 + tf - x.nf ≤ 4294967296 ∧ -4294967296 ≤ (ts - x.utc) * 4294967296 + tf - x.nf ∧ (¬ (ts - x.utc) * 4294967296 + tf - x.nf = 0 → ¬ x.mode = 0 ∧ Tab.awayTo x.done x.ns (x.done.length - 1) ≤ x.win) := by
  obtain ⟨t0, t1, t2, t3⟩ := h.num.t'
  by_cases hm : x.mode = 0
  · obtain ⟨rfl, rfl, _, rfl⟩ := hT.step hl hm
    exact ⟨rfl, by omega, by omega, ⟨t2, t3⟩, by omega, by omega, fun e => absurd (by omega) e⟩
  · by_cases hw : x.wide
    · obtain ⟨e1, e2, rfl, rfl⟩ := hT.in' hl hm hw
      obtain ⟨o, q, T, W⟩ := h.wideAt hl hw
      obtain ⟨l2, ht⟩ := hw
      have ok := h.pullOk hl (x.done.length - 1) (by omega) ht
      have pu := Sv.pq_bd ok true
      have pd := Sv.pq_bd ok false
      have aw := Tab.awayTo_le x.done x.ns (x.done.length - 1) (x.done.length - 1) (by omega) (Nat.le_refl _)
      rw [W.et] at aw
      have ds : Tab.dist T x.ns ≤ x.win := by
        have := W.lo
        have := W.hi
        unfold Tab.dist
        split <;> omega
      rw [Sv.smeared_eq ok t2 t3, W.eo, W.eq] at e1 e2
      have st := W.step
      have ut := W.utc
      have key : ∀ p, -4294967296 ≤ p → p ≤ 4294967296 → (q = o + 1 → p ≤ 0) → (q = o - 1 → 0 ≤ p) → ts = (moved (x.ns - o) x.nf p).1 → tf = (moved (x.ns - o) x.nf p).2 → -2 ≤ ts - x.utc ∧ ts - x.utc ≤ 2 ∧ (0 ≤ tf ∧ tf < 4294967296) ∧ (ts - x.utc) * 4294967296 + tf - x.nf ≤ 4294967296 ∧ -4294967296 ≤ (ts - x.utc) * 4294967296 + tf - x.nf := fun p p0 p1 p2 p3 a1 a2 => by
        have v := moved_val (x.ns - o) x.nf p
        have z : s_bd (moved (x.ns - o) x.nf p).1 (moved (x.ns - o) x.nf p).2 (x.ns - o) := moved_sbd t2 t3 p0 p1
        rw [← a1, ← a2] at v z
        obtain ⟨z1, z2, z3, z4⟩ := z
        clear e1 e2 a1 a2 aw ds
        split at ut <;> rcases st with st | st
        · have := p2 st; omega
        · have := p3 st; omega
        · have := p2 st; omega
        · have := p3 st; omega
      have fin : -2 ≤ ts - x.utc ∧ ts - x.utc ≤ 2 ∧ (0 ≤ tf ∧ tf < 4294967296) ∧ (ts - x.utc) * 4294967296 + tf - x.nf ≤ 4294967296 ∧ -4294967296 ≤ (ts - x.utc) * 4294967296 + tf - x.nf := by
        split at e1
        · rename_i c
          rw [if_pos c] at e2
          exact key _ (by omega) pd.2 (fun z => by omega) (fun _ => pd.1) e1 e2
        · rename_i c
          rw [if_neg c] at e2
          exact key _ (by omega) (by omega) (fun _ => by omega) (fun z => by omega) e1 e2
      exact ⟨rfl, fin.1, fin.2.1, fin.2.2.1, fin.2.2.2.1, fin.2.2.2.2, fun _ => ⟨hm, by omega⟩⟩
    · obtain ⟨rfl, rfl, rfl, rfl⟩ := hT.out hl hm hw
      exact ⟨rfl, by omega, by omega, ⟨t2, t3⟩, by omega, by omega, fun e => absurd (by omega) e⟩
/-- Does a list begin with another? -/
def begB (ls ds : List (Int × Int)) : Bool := decide (ds.length ≤ ls.length) && decide (ls.take ds.length = ds)
set_option maxRecDepth 100000 in
set_option maxHeartbeats 3200000 in
theorem begins_with (ao bo : Option Addr) (n m cap cbp : Nat) (ls ds : List (Int × Int)) (w : World) (hr : Read w ao ls) (hd : Read w bo ds) (hn : ls.length = n) (hm : ds.length = m) (n1 : n ≤ 1000) (m1 : m ≤ 1000) :
    Calls Tryz.prog 95 #[.slice ao n cap, .slice bo m cbp] w fun e w' => e = .returned (.bool (begB ls ds)) ∧ ∃ k, w' = w.drewN k := by
  have HR := hid' hr
  have HD := hid' hd
  by_cases hlt : n < m
  · have H : Hid (begB ls ds = false) := by show _ = _; unfold begB; rw [decide_eq_false (by omega)]; rfl
    have hi : (n : Int) < (m : Int) := by omega
    clear hr hd
    go_enter Tryz.func95, Tryz.ntmps95
    go_wp2
    go_ret
    exact ⟨ret_bool H.out.symm, 0, rfl⟩
  · have H : Hid (begB ls ds = decide (ls.take ds.length = ds)) := by show _ = _; unfold begB; rw [decide_eq_true (show ds.length ≤ ls.length by omega)]; rfl
    have hi : ¬ (n : Int) < (m : Int) := by omega
    generalize begB ls ds = res at *
    clear hr hd
    go_enter Tryz.func95, Tryz.ntmps95
    go_wp2_with fail
    go_loopw [5] (fun i wr => ∃ k q : Nat, k ≤ m ∧ i = .int .i64 k ∧ ls.take k = ds.take k ∧ wr = w.drewN q) (fun i _ => m - (intOf i).toNat)
    case atStart => exact ⟨0, 0, by omega, rfl, rfl, rfl⟩
    case round =>
      obtain ⟨k, q, hk, rfl, htk, hwr⟩ := hrel
      have HTK := hid' htk
      have HWR := hid' hwr
      by_cases hkl : k < m
      · obtain ⟨g, rfl, lg, hlies⟩ := HR.out (by omega)
        obtain ⟨g', rfl, lg', hlies'⟩ := HD.out (by omega)
        have a0 : wr.cell? ⟨g, k * 2, none⟩ = some (.int .i64 (ls.getD k (0, 0)).1) := by rw [hwr, getD_at k (by omega)]; exact (hlies k (by omega)).1
        have a1 : wr.cell? ⟨g, k * 2 + 1, none⟩ = some (.int .i64 (ls.getD k (0, 0)).2) := by rw [hwr, getD_at k (by omega)]; exact (hlies k (by omega)).2
        have b0 : wr.cell? ⟨g', k * 2, none⟩ = some (.int .i64 (ds.getD k (0, 0)).1) := by rw [hwr, getD_at k (by omega)]; exact (hlies' k (by omega)).1
        have b1 : wr.cell? ⟨g', k * 2 + 1, none⟩ = some (.int .i64 (ds.getD k (0, 0)).2) := by rw [hwr, getD_at k (by omega)]; exact (hlies' k (by omega)).2
        have HS := hid' (take_same (a := ls) (c := ds) k (by omega) (by omega) HTK.out)
        have HN := hid' (take_not (a := ls) (c := ds) k (by omega) (by omega))
        generalize ls.getD k (0, 0) = pl at *
        generalize ds.getD k (0, 0) = pd at *
        obtain ⟨la, lo⟩ := pl
        obtain ⟨ea, eo⟩ := pd
        simp only at a0 a1 b0 b1
        have z0 : (0 : Int) ≤ (k : Int) := by omega
        have z1 : (k : Int) < (m : Int) := by omega
        have z2 : (k : Int) < (n : Int) := by omega
        clear hwr htk hlies hlies'
        by_cases e1 : la = ea ∧ lo = eo
        · obtain ⟨rfl, rfl⟩ := e1
          have HS2 := hid' (HS.out rfl)
          clear HS HN
          go_wp2_with fail
          go_quiet (fail)
          go_wp2
          go_roundw
          case rel => exact ⟨k + 1, q + nq, by omega, by go_num, HS2.out, by rw [HWR.out, World.drewN_drewN]⟩
          case measure => simp [intOf]; omega
        · have H3 : Hid (res = false) := by show _ = _; rw [H.out]; exact decide_eq_false (HN.out (fun q => e1 ⟨congrArg Prod.fst q, congrArg Prod.snd q⟩))
          by_cases e2 : la = ea
          · have e3 : lo ≠ eo := fun q => e1 ⟨e2, q⟩
            subst e2
            have n1' : (lo == eo) = false := by rw [beq_eq_false_iff_ne]; exact e3
            clear HS HN e1 e3
            go_wp2_with fail
            go_quiet (fail)
            go_wp2
            go_ret
            exact ⟨ret_bool H3.out.symm, q + nq, by rw [HWR.out, World.drewN_drewN]⟩
          · have n0' : (la == ea) = false := by rw [beq_eq_false_iff_ne]; exact e2
            clear HS HN e1 e2
            go_wp2_with fail
            go_quiet (fail)
            go_wp2
            go_ret
            exact ⟨ret_bool H3.out.symm, q + nq, by rw [HWR.out, World.drewN_drewN]⟩
      · have znl : ¬ (k : Int) < (m : Int) := by omega
        have ek : k = m := by omega
        have H3 : Hid (res = true) := by
          show _ = _
          rw [H.out]
          have := HTK.out
          rw [ek, ← hm, List.take_length] at this
          exact decide_eq_true this
        clear hwr htk ek
        go_wp2
        go_ret
        exact ⟨ret_bool H3.out.symm, q, HWR.out⟩
end Go.Proofs.YtmmkhodaljpjgabGreatDoor
