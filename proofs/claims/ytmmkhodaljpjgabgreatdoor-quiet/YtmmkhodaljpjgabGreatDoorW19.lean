import Derived.Test.YtmmkhodaljpjgabGreatDoorW17
import Derived.Test.YtmmkhodaljpjgabGreatDoorW18
namespace Go.Proofs.YtmmkhodaljpjgabGreatDoor
open Go.RowKit
attribute [local go_sem ↓] Go.wp_at_zero Go.wp_at_succ
/-- The entry that most sources say. -/
def Sv.vt (s : Sv) : Cm × Bool := if s.okN = false ∨ s.whenN ≤ s.ns then (⟨0, 0, 0, 0, false⟩, false) else (⟨s.atN, s.old + s.sign, (s.opens s.whenN).1, (s.opens s.whenN).2, true⟩, true)
theorem Sv.okN_zero {s : Sv} (h : s.sign = 0) : s.okN = false := by
  unfold Sv.okN; rw [h]; simp
theorem Sv.chg_eq {s : Sv} (h : s.sign ≠ 0) : s.chg s.sign = if s.okN = true then ((s.atN, s.old + s.sign), true) else ((0, 0), false) := by
  have e : (s.okN = true) = (0 < s.atN ∧ Tab.follows s.done s.atN (s.old + s.sign) = true) := by
    unfold Sv.okN
    have : (s.sign != 0) = true := bne_iff_ne.2 h
    rw [this]; simp
  unfold Sv.chg
  simp only [e]
theorem Sv.Mid.when_new {x : Sv} (h : x.Mid) (hs0 : x.sign ≠ 0) : Tab.when (x.done ++ [(x.atN, x.old + x.sign)]) x.done.length = x.whenN := by
  unfold Tab.when Sv.whenN
  rw [getD_new, getD_leftI _ _ (x.done.length - 1) (by have := h.pos; omega), ← x.old_eq]
  have hp := h.pos
  rcases x.sign_bd with e | e | e
  · rw [e, if_pos (by simp only; omega), if_neg (by omega)]
  · rw [e, if_neg (by simp only; omega), if_pos (by omega)]
    simp only; omega
  · exact absurd e hs0
theorem load_pcoming {w : World} {g : Nat} {cs : Array Value} (hg : w.heap[g]? = some (.cells cs 84 (0, 0))) (hs : cs.size = 5) : (loadVar 84 ⟨g, 0, none⟩).run Tryz.prog w = .ok (.agg cs) w :=
  run_loadVar_row (P := Tryz.prog) w g 84 84 cs (0, 0) _ hg Tryz.underlying84 rfl (by rw [hs]; kernel_rfl)
/-- A block of five cells is written over. -/
def set5 (V : World) (b : Nat) (a0 a1 a2 a3 a4 : Value) : World := ((((V.setCell ⟨b, 0, none⟩ a0).setCell ⟨b, 1, none⟩ a1).setCell ⟨b, 2, none⟩ a2).setCell ⟨b, 3, none⟩ a3).setCell ⟨b, 4, none⟩ a4
theorem set5_row {V : World} {b : Nat} {t : TypeId} {a0 a1 a2 a3 a4 p0 p1 p2 p3 p4 : Value} (h : V.heap[b]? = some (.cells #[p0, p1, p2, p3, p4] t (0, 0))) : (set5 V b a0 a1 a2 a3 a4).heap[b]? = some (.cells #[a0, a1, a2, a3, a4] t (0, 0)) := by
  have h0 := heap_setCell_same _ b 0 _ t a0 h
  have h1 := heap_setCell_same _ b 1 _ t a1 h0
  have h2 := heap_setCell_same _ b 2 _ t a2 h1
  have h3 := heap_setCell_same _ b 3 _ t a3 h2
  have h4 := heap_setCell_same _ b 4 _ t a4 h3
  unfold set5
  simpa using h4
theorem set5_below {B : Nat} {w V : World} {b : Nat} {a0 a1 a2 a3 a4 : Value} (h : Below B w V) (hb : B ≤ b) : Below B w (set5 V b a0 a1 a2 a3 a4) :=
  ((((h.setCell (p := ⟨b, 0, none⟩) hb _).setCell (p := ⟨b, 1, none⟩) hb _).setCell (p := ⟨b, 2, none⟩) hb _).setCell (p := ⟨b, 3, none⟩) hb _).setCell (p := ⟨b, 4, none⟩) hb _
theorem zeroC {W : World} {q : Nat} {t : TypeId} (h : W.heap[q]? = some (.cells #[.int .i64 0, .int .i64 0, .int .i64 0, .int .i64 0, .bool false] t (0, 0))) : (W.cell? ⟨q, 0, none⟩ = some (.int .i64 0) ∧ W.cell? ⟨q, 1, none⟩ = some (.int .i64 0) ∧ W.cell? ⟨q, 2, none⟩ = some (.int .i64 0) ∧ W.cell? ⟨q, 3, none⟩ = some (.int .i64 0) ∧ W.cell? ⟨q, 4, none⟩ = some (.bool false)) ∧ W.frozen? ⟨q, 0, none⟩ = false ∧ W.frozen? ⟨q, 1, none⟩ = false ∧ W.frozen? ⟨q, 2, none⟩ = false ∧ W.frozen? ⟨q, 3, none⟩ = false ∧ W.frozen? ⟨q, 4, none⟩ = false :=
  ⟨⟨(cell_of_row _ _ _ _ _ _ h).trans rfl, (cell_of_row _ _ _ _ _ _ h).trans rfl, (cell_of_row _ _ _ _ _ _ h).trans rfl, (cell_of_row _ _ _ _ _ _ h).trans rfl, (cell_of_row _ _ _ _ _ _ h).trans rfl⟩, frozen_of_row _ _ _ _ _ h, frozen_of_row _ _ _ _ _ h, frozen_of_row _ _ _ _ _ h, frozen_of_row _ _ _ _ _ h, frozen_of_row _ _ _ _ _ h⟩
set_option maxRecDepth 100000 in
set_option maxHeartbeats 6400000 in
theorem srv_voted (b : Nat) (s : Sv) (dv cv : Value) (op : Bool) (bs bf : Int) (w : World) (h : PRow b s dv cv op bs bf w) (hM : s.Mid) (hN : s.Num) (hx : 0 ≤ s.ex ∧ s.ex ≤ 34000000000) :
    Calls Tryz.prog 74 #[.pointer (some ⟨b, 0, none⟩)] w fun e w' => e = .returned (.tuple #[.agg #[.int .i64 s.vt.1.a, .int .i64 s.vt.1.o, .int .i64 s.vt.1.bs, .int .i64 s.vt.1.bf, .bool s.vt.1.v], .bool s.vt.2]) ∧ Below w.heap.size w w' := by
  obtain ⟨i0, hi0, hz0, hz1, hz2⟩ := info_parts infoALeap
  have can := hM.can hN
  have u0 := can.u0
  have u1 := can.u1
  obtain ⟨t0, t1, t2, t3⟩ := hN.t'
  have win := hN.win
  have x0 := hx.1
  have x1 := hx.2
  have HVT : Hid (s.vt = if s.okN = false ∨ s.whenN ≤ s.ns then (⟨0, 0, 0, 0, false⟩, false) else (⟨s.atN, s.old + s.sign, (s.opens s.whenN).1, (s.opens s.whenN).2, true⟩, true)) := rfl
  have HSG : Hid (s.sign = if s.utc < s.ex then 0 else s.most) := rfl
  obtain ⟨da, dcp, hdv⟩ := own_slice h.dd
  subst hdv
  have HP := hid' h
  have HM := hid' hM
  have HN := hid' hN
  have lb := h.lt
  have hlen := hM.fit.good.len
  rw [s.all_length] at hlen
  have US := hid' (fun (W : World) (hb : Below w.heap.size w W) => un_smeared b s _ cv op bs bf W (h.below hb) hM hN)
  have VC := hid' (fun (W : World) (hb : Below w.heap.size w W) => v_change b s _ cv op bs bf W (h.below hb) hN)
  have CH := hid' (fun (W : World) (hb : Below w.heap.size w W) (c : Int) (hc : c = 1 ∨ c = -1) => change_at b s _ cv op bs bf c W (h.below hb) hM hN hc)
  have mb := s.most_bd
  have HZ := hid' (fun q => Sv.okN_zero (s := s) q)
  have HCE := hid' (fun q => Sv.chg_eq (s := s) q)
  have B0 := hid' ((Below.refl w.heap.size w).alloc (Nat.le_refl _) (.cells #[.int .i64 0, .int .i64 0, .int .i64 0, .int .i64 0, .bool false] 84))
  have R0 := hid' (heap_alloc_new w (.cells #[.int .i64 0, .int .i64 0, .int .i64 0, .int .i64 0, .bool false] 84))
  generalize hut : s.utc = u at *
  generalize hmo : s.most = mo at *
  generalize hvt : s.vt = r at *
  clear h hM hN can hx
  go_enter Tryz.func74, Tryz.ntmps74
  go_upto_region 1 with fail
  generalize hV : w.alloc (.cells #[.int .i64 0, .int .i64 0, .int .i64 0, .int .i64 0, .bool false] 84) = V at *
  clear hV
  have sv := B0.out.size
  have lv := lt_of_heap R0.out
  go_wp2_with fail
  refine (US.out _ B0.out).mono ?_
  rintro e w1 ⟨rfl, hb1⟩
  have B1 := hid' ((B0.out.trans (hb1.mono sv)).alloc (by have := hb1.size; omega) (.cells #[.int .i64 u, .int .i64 s.nf] 33))
  have R1 := hid' (heap_alloc_new w1 (.cells #[.int .i64 u, .int .i64 s.nf] 33))
  have Q1 := hid' ((Below.heap_alloc w1 (.cells #[.int .i64 u, .int .i64 s.nf] 33) _ (by have := hb1.size; omega)).trans ((hb1.block _ lv).trans R0.out))
  have hs1 := hb1.size
  clear hb1 US
  go_upto_region 2 with fail
  generalize hW : w1.alloc (.cells #[.int .i64 u, .int .i64 s.nf] 33) = W at *
  generalize hE : w1.heap.size = E at *
  clear hW hE
  have P1 := hid' (HP.out.below B1.out)
  have c8 := P1.out.c8
  have d0 := cell_of_row _ _ 0 _ _ _ R1.out
  simp at d0
  go_quiet (fail)
  have DB := hid' (below_drewN (Below.refl W.heap.size W) nq)
  generalize hX : W.drewN nq = X at *
  clear hX
  have B2 := hid' (B1.out.trans (DB.out.mono B1.out.size))
  have Q2 := hid' ((DB.out.block _ (lt_of_heap Q1.out)).trans Q1.out)
  have R2 := hid' ((DB.out.block _ (lt_of_heap R1.out)).trans R1.out)
  clear c8 d0
  by_cases c1 : u < s.ex
  · have H : Hid (r = (⟨0, 0, 0, 0, false⟩, false)) := by
      show _ = _
      rw [HVT.out, if_pos (.inl (HZ.out (by rw [HSG.out, if_pos c1])))]
    obtain ⟨⟨k0, k1, k2, k3, k4⟩, l0, l1, l2, l3, l4⟩ := zeroC Q2.out
    clear HVT HSG
    go_wp2
    try simp only [Exit.inBlock, Exit.then]
    refine bodyPost_ret (results_row_tmp (p := 2) (u := 3) rfl _ _ w.heap.size #[.int .i64 0, .int .i64 0, .int .i64 0, .int .i64 0, .bool false] rfl (load_pcoming (set5_row Q2.out) rfl)) rfl ?_
    rw [H.out]
    exact ⟨rfl, set5_below B2.out (Nat.le_refl _)⟩
  · have HS2 : Hid (s.sign = mo) := by show _ = _; rw [HSG.out, if_neg c1]
    have P2 := hid' (HP.out.below B2.out)
    have c4 := P2.out.c4
    have c5 := P2.out.c5
    have c3 := P2.out.c3
    clear HSG
    go_upto_region 4 with fail
    go_cut [5] from 10 (fun s5 wx => s5 = .int .i64 mo ∧ Below X.heap.size X wx)
    case first =>
      go_region_with (go_at_call 98; refine (VC.out _ (by exact B2.out.drew)).mono ?_; rintro e w2 ⟨rfl, hb2⟩; have HB2 := hid' hb2; clear hb2)
      all_goals
        go_wp2_with fail
        go_meet
        case rel => exact ⟨rfl, (Below.refl _ _).drew.trans HB2.out⟩
    case rest =>
      obtain ⟨rfl, bel⟩ := hcut
      rename World => Y
      have B3 := hid' (B2.out.trans (bel.mono B2.out.size))
      have Q3 := hid' ((bel.block _ (lt_of_heap Q2.out)).trans Q2.out)
      have R3 := hid' ((bel.block _ (lt_of_heap R2.out)).trans R2.out)
      clear bel c4 c5 c3 VC
      by_cases c2 : mo = 0
      · have H : Hid (r = (⟨0, 0, 0, 0, false⟩, false)) := by
          show _ = _
          rw [HVT.out, if_pos (.inl (HZ.out (by rw [HS2.out]; exact c2)))]
        have e2 : (mo == 0) = true := beq_iff_eq.2 c2
        obtain ⟨⟨k0, k1, k2, k3, k4⟩, l0, l1, l2, l3, l4⟩ := zeroC Q3.out
        clear HVT c2
        go_wp2
        try simp only [Exit.inBlock, Exit.then]
        refine bodyPost_ret (results_row_tmp (p := 2) (u := 3) rfl _ _ w.heap.size #[.int .i64 0, .int .i64 0, .int .i64 0, .int .i64 0, .bool false] rfl (load_pcoming (set5_row Q3.out) rfl)) rfl ?_
        rw [H.out]
        exact ⟨rfl, set5_below B3.out (Nat.le_refl _)⟩
      · have e2 : (mo == 0) = false := by rw [beq_eq_false_iff_ne]; exact c2
        have hsn : s.sign ≠ 0 := by rw [HS2.out]; exact c2
        have hce := HCE.out hsn
        rw [HS2.out] at hce
        have CHM := hid' (fun W hb => CH.out W hb mo (by omega))
        have d0 := cell_of_row _ _ 0 _ _ _ R3.out
        simp at d0
        generalize hch : s.chg mo = ch at *
        obtain ⟨⟨na, no⟩, ok⟩ := ch
        simp only at CHM
        have HCH := hid' hce
        have HSN := hid' hsn
        clear hch hce CH c2 mb hsn
        go_wp2_with fail
        refine (CHM.out _ B3.out).mono ?_
        rintro e w4 ⟨rfl, hb4⟩
        have B4 := hid' ((B3.out.trans (hb4.mono B3.out.size)).alloc (by have := hb4.size; have := B3.out.size; omega) (.cells #[.int .i64 na, .int .i64 no] 49))
        have R4 := hid' (heap_alloc_new w4 (.cells #[.int .i64 na, .int .i64 no] 49))
        have Q4 := hid' ((Below.heap_alloc w4 (.cells #[.int .i64 na, .int .i64 no] 49) _ (by have := hb4.size; have := lt_of_heap Q3.out; omega)).trans ((hb4.block _ (lt_of_heap Q3.out)).trans Q3.out))
        clear hb4 d0
        go_upto_region 8 with fail
        generalize hW4 : w4.alloc (.cells #[.int .i64 na, .int .i64 no] 49) = W4 at *
        generalize hE4 : w4.heap.size = E4 at *
        clear hW4 hE4
        cases ok with
        | false =>
          have H : Hid (r = (⟨0, 0, 0, 0, false⟩, false)) := by
            show _ = _
            have hf : s.okN = false := by
              cases q : s.okN with
              | false => rfl
              | true => have := HCH.out; rw [if_pos q] at this; cases this
            rw [HVT.out, if_pos (.inl hf)]
          obtain ⟨⟨k0, k1, k2, k3, k4⟩, l0, l1, l2, l3, l4⟩ := zeroC Q4.out
          clear HVT HCH
          go_wp2
          try simp only [Exit.inBlock, Exit.then]
          refine bodyPost_ret (results_row_tmp (p := 2) (u := 3) rfl _ _ w.heap.size #[.int .i64 0, .int .i64 0, .int .i64 0, .int .i64 0, .bool false] rfl (load_pcoming (set5_row Q4.out) rfl)) rfl ?_
          rw [H.out]
          exact ⟨rfl, set5_below B4.out (Nat.le_refl _)⟩
        | true =>
          have hok : s.okN = true := by
            cases q : s.okN with
            | true => rfl
            | false => have := HCH.out; rw [if_neg (by rw [q]; simp)] at this; cases this
          have hno : (na, no) = (s.atN, s.old + s.sign) := by
            have := HCH.out
            rw [if_pos hok] at this
            have q := (Prod.mk.inj this).1
            rw [HS2.out]
            exact q
          obtain ⟨en, eo⟩ := Prod.mk.inj hno
          have hfo : Tab.follows s.done na no = true := by
            rw [en, eo]
            have q := hok
            unfold Sv.okN at q
            simp only [Bool.and_eq_true] at q
            exact q.2
          have hfit := HM.out.doneFit.grow hfo
          have hwn := HM.out.when_new HSN.out
          rw [← en, ← eo] at hwn
          have hwb := hfit.when_bd s.done.length (by simp)
          have hbd := hfit.bd s.done.length (by simp)
          rw [hwn] at hwb
          have HV2 : Hid (r = if s.whenN ≤ s.ns then (⟨0, 0, 0, 0, false⟩, false) else (⟨na, no, (s.opens s.whenN).1, (s.opens s.whenN).2, true⟩, true)) := by
            show _ = _
            rw [HVT.out, hok, en, eo]
            simp only [Bool.true_eq_false, false_or]
          have WB := hid' (fun (W : World) (hb : Below w.heap.size w W) => window_begin b s _ cv op bs bf s.whenN W (HP.out.below hb) win.1 (by omega) (by omega) (by omega))
          generalize s.whenN = T at *
          generalize hop : s.opens T = og at *
          obtain ⟨o1, o2⟩ := og
          simp only at WB HV2
          have TU := hid' (fun (g cap : Nat) (W : World) (hl : Lies W g (s.done ++ [(na, no)])) => turn_any g cap s.done.length (s.done.length + 1) (s.done ++ [(na, no)]) W (by simp) (by omega) hl hfit.good.fine (by omega))
          rw [hwn] at TU
          have P4 := hid' (HP.out.below B4.out)
          have c9 := P4.out.c9
          have CO := hid' (copy_of da s.done.length dcp s.done W4 (read_of P4.out.dd rfl) rfl (by omega))
          clear HVT HCH hok hno en eo hfo hfit hwn hwb hbd hop HSN HS2
          go_upto_region 10 with fail
          go_wp2_with fail
          refine CO.out.mono ?_
          rintro e w5 ⟨v5, rfl, own5, hb5⟩
          obtain ⟨va, vcp, hv5⟩ := own_slice own5
          subst hv5
          have lE := lt_of_heap R4.out
          have z0 := (hb5.cell (p := ⟨E4, 0, none⟩) lE).trans (cell_of_row _ _ 0 _ _ _ R4.out)
          have z1 := (hb5.cell (p := ⟨E4, 1, none⟩) lE).trans (cell_of_row _ _ 1 _ _ _ R4.out)
          simp at z0 z1
          have OWN5 := hid' own5
          have B5 := hid' (B4.out.trans (hb5.mono B4.out.size))
          have Q5 := hid' ((hb5.block _ (lt_of_heap Q4.out)).trans Q4.out)
          have R5 := hid' ((hb5.block _ lE).trans R4.out)
          have s4 := B4.out.size
          have s5 := hb5.size
          have hw1 : IntKind.i64.wrap (((s.done.length + 1 : Nat) : Int) - 1) = (s.done.length : Int) := by rw [IntKind.wrap_i64]; omega
          have hw2 : wrap64 (((s.done.length + 1 : Nat) : Int) - 1) = (s.done.length : Int) := by unfold wrap64; omega
          clear own5 hb5 CO c9
          go_wp2_with (at_builtin; refine wpList_append_lies _ (by rfl) (.tmp 54) (.tmp 56) 27 (by rfl) W4.heap.size 49 i0 (.agg #[.int .i64 0, .int .i64 0]) 2 16 Tryz.underlying27 hi0 hz0 hz1 hz2 rfl (by decide) (.slice va s.done.length vcp) s.done.length (flat s.done) (by rfl) (OWN5.out.alloc _) ⟨w5.heap.size, 0, none⟩ 1 1 [.int .i64 na, .int .i64 no] (by rfl) (by rfl) (World.news_of_block (cs := #[.int .i64 na, .int .i64 no]) (t := 49) (fr := (0, 0)) (heap_alloc_new w5 _)) (by simp [Value.oneCell']) (by decide) (by unfold maxLen; omega) (by omega) (by simp <;> omega) (w5.heap.size + 1) (by simp) ?_; intro g6 cap6 w6 own6 hg6 hat6 hlt6; have OWN6 := hid' own6; have HG6 := hid' hg6; clear own6 hg6 hat6)
          have lie6 : Lies w6 g6 (s.done ++ [(na, no)]) := by
            have o6 := OWN6.out
            rw [show flat s.done ++ [.int .i64 na, .int .i64 no] = flat (s.done ++ [(na, no)]) from by rw [flat_append]; rfl] at o6
            exact lies_of o6 (by simp)
          have LIE := hid' lie6
          have B6 := hid' ((B5.out.alloc (by omega) (.cells #[.int .i64 na, .int .i64 no] 49)).grown HG6.out (by simp; omega) (fun k q => Nat.le_trans s4 (own_ge OWN5.out k q)))
          have Q6 := hid' (grown_heap (t := 84) HG6.out (OWN5.out.alloc _) ((Below.heap_alloc w5 (.cells #[.int .i64 na, .int .i64 no] 49) _ (lt_of_heap Q5.out)).trans Q5.out) (by decide))
          have R6 := hid' ((HG6.out.block E4 (by simp; omega) (fun q => by have := own_ge OWN5.out E4 q.symm; omega)).trans ((Below.heap_alloc w5 (.cells #[.int .i64 na, .int .i64 no] 49) _ (by omega)).trans R5.out))
          clear lie6 z0 z1
          refine (TU.out g6 cap6 _ LIE.out).mono ?_
          rintro e w7 ⟨rfl, hw7⟩
          subst w7
          have P6 := hid' (HP.out.below B6.out)
          have c4 := P6.out.c4
          by_cases c3 : T ≤ s.ns
          · have H : Hid (r = (⟨0, 0, 0, 0, false⟩, false)) := by show _ = _; rw [HV2.out, if_pos c3]
            obtain ⟨⟨k0, k1, k2, k3, k4⟩, l0, l1, l2, l3, l4⟩ := zeroC Q6.out
            clear HV2
            go_wp2
            try simp only [Exit.inBlock, Exit.then]
            refine bodyPost_ret (results_row_tmp (p := 2) (u := 3) rfl _ _ w.heap.size #[.int .i64 0, .int .i64 0, .int .i64 0, .int .i64 0, .bool false] rfl (load_pcoming (set5_row Q6.out) rfl)) rfl ?_
            rw [H.out]
            exact ⟨rfl, set5_below B6.out (Nat.le_refl _)⟩
          · have H : Hid (r = (⟨na, no, o1, o2, true⟩, true)) := by show _ = _; rw [HV2.out, if_neg c3]
            clear HV2
            go_upto_region 15 with fail
            have y0 := cell_of_row _ _ 0 _ _ _ R6.out
            have y1 := cell_of_row _ _ 1 _ _ _ R6.out
            simp at y0 y1
            have lq := lt_of_heap Q6.out
            have le6 := lt_of_heap R6.out
            have ne1 : ¬ E4 = w.heap.size := fun q => by have h1 := R6.out; rw [q, Q6.out] at h1; simp at h1
            have ne2 : ¬ w.heap.size = E4 := fun q => ne1 q.symm
            clear c4 c3 hut hmo hvt x0 x1 u0 u1 c1 hi0 hz0 hz1 hz2 e2 hw1 hw2 s4 s5 lE
            go_region_held3 (fun w' => w'.cell? ⟨E4, 0, none⟩ = some (.int .i64 na) ∧ w'.cell? ⟨E4, 1, none⟩ = some (.int .i64 no)) (first | go_keep | assumption) (first | (go_at_call 71; refine (WB.out _ (by exact B6.out.drew)).mono ?_; rintro e w8 ⟨rfl, hb8⟩; have HB8 := hid' hb8; have Q8 := hid' ((hb8.block w.heap.size (by exact lq)).trans Q6.out); obtain ⟨⟨k0, k1, k2, k3, k4⟩, l0, l1, l2, l3, l4⟩ := zeroC Q8.out; have m0 := hb8.cell (p := ⟨E4, 0, none⟩) le6; have m1 := hb8.cell (p := ⟨E4, 1, none⟩) le6; clear hb8))
            all_goals
              go_wp2
              try simp only [Exit.inBlock, Exit.then]
              refine bodyPost_ret (results_row_tmp (p := 2) (u := 3) rfl _ _ w.heap.size #[.int .i64 na, .int .i64 no, .int .i64 o1, .int .i64 o2, .bool true] rfl (load_pcoming (set5_row Q8.out) rfl)) rfl ?_
              rw [H.out]
              exact ⟨rfl, set5_below (B6.out.drew.trans (HB8.out.mono B6.out.size)) (Nat.le_refl _)⟩
end Go.Proofs.YtmmkhodaljpjgabGreatDoor
