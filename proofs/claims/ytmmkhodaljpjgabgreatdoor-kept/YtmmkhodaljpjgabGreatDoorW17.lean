import Derived.Test.YtmmkhodaljpjgabGreatDoorW16
import Derived.Deep.QuietTactic
import Derived.BigQuiet
namespace Go.Proofs.YtmmkhodaljpjgabGreatDoor
open Go.RowKit
set_option maxRecDepth 100000 in
theorem turn_any (g cap i n : Nat) (ls : List (Int × Int)) (w : World) (hn : ls.length = n) (hi : i < n) (hl : Lies w g ls) (hf : Fine ls) (hb : n ≤ 100000) :
    Calls Tryz.prog 72 #[.slice (some ⟨g, 0, none⟩) n cap, .int .i64 i] w fun e w' => e = .returned (.int .i64 (Tab.when ls i)) ∧ w' = w := by
  have c := hl i (by omega)
  have f := hf _ (List.getElem_mem (show i < ls.length by omega))
  cases i with
  | zero =>
    have H : Hid (Tab.when ls 0 = (ls[0]'(by omega)).1 + (ls[0]'(by omega)).2) := by
      show _ = _; unfold Tab.when; rw [getD_at 0 (by omega)]; simp
    generalize ls[0]'(by omega) = p at *
    obtain ⟨pa, po⟩ := p
    obtain ⟨c1, c2⟩ := c
    simp only [Nat.zero_mul, Nat.zero_add] at c1 c2
    simp only at f
    clear hl hf hn
    go_enter Tryz.func72, Tryz.ntmps72
    go_wp2
    go_ret
    exact ⟨ret_int H.out.symm, rfl⟩
  | succ j =>
    have d := hl j (by omega)
    have e := hf _ (List.getElem_mem (show j < ls.length by omega))
    have H : Hid (Tab.when ls (j + 1) = (ls[j + 1]'(by omega)).1 + (if (ls[j]'(by omega)).2 < (ls[j + 1]'(by omega)).2 then (ls[j]'(by omega)).2 else (ls[j + 1]'(by omega)).2)) := by
      show _ = _; unfold Tab.when; rw [getD_at (j + 1) (by omega), show j + 1 - 1 = j from rfl, getD_at j (by omega)]; simp
    generalize ls[j + 1]'(by omega) = p at *
    generalize ls[j]'(by omega) = q at *
    obtain ⟨pa, po⟩ := p
    obtain ⟨qa, qo⟩ := q
    obtain ⟨c1, c2⟩ := c
    obtain ⟨_, d2⟩ := d
    simp only at f c1 c2 d2 e
    clear hl hf hn
    by_cases hlt : qo < po
    · have H2 : Hid (Tab.when ls (j + 1) = pa + qo) := by show _ = _; rw [H.out]; simp only; rw [if_pos hlt]
      go_enter Tryz.func72, Tryz.ntmps72
      go_wp2
      go_ret
      exact ⟨ret_int H2.out.symm, rfl⟩
    · have H2 : Hid (Tab.when ls (j + 1) = pa + po) := by show _ = _; rw [H.out]; simp only; rw [if_neg hlt]
      go_enter Tryz.func72, Tryz.ntmps72
      go_wp2
      go_ret
      exact ⟨ret_int H2.out.symm, rfl⟩
set_option maxRecDepth 100000 in
theorem holder_any (g cap n : Nat) (ls : List (Int × Int)) (sec : Int) (w : World) (hn : ls.length = n) (hl : Lies w g ls) (hf : Fine ls) (hb : n ≤ 100000) :
    Calls Tryz.prog 52 #[.slice (some ⟨g, 0, none⟩) n cap, .int .i64 sec] w fun e w' => e = .returned (.int .i64 (Tab.lastAt ls sec n)) ∧ w' = w := by
  have HL := hid' hl
  have HF := hid' hf
  have HN := hid' hn
  clear hl hf hn
  go_enter Tryz.func52, Tryz.ntmps52
  go_wp2
  go_loop [5] (fun i => ∃ k : Nat, k ≤ n ∧ i = .int .i64 ((k : Int) - 1) ∧ Tab.lastAt ls sec n = Tab.lastAt ls sec k) (fun i => (intOf i + 1).toNat)
  case atStart => exact ⟨n, by omega, rfl, rfl⟩
  case round =>
    obtain ⟨k, hk, rfl, hrl⟩ := hrel
    have HRL := hid' hrl
    clear hrl
    cases k with
    | zero =>
      have H : Hid (Tab.lastAt ls sec n = -1) := by show _ = _; rw [HRL.out]; rfl
      go_wp2
      go_ret
      exact ⟨ret_int H.out.symm, rfl⟩
    | succ k =>
      have HW := hid' (turn_any g cap k n ls w HN.out (by omega) HL.out HF.out hb)
      have hc : (((k + 1 : Nat) : Int) - 1) = (k : Int) := by omega
      rw [hc]
      clear hc
      by_cases hle : Tab.when ls k ≤ sec
      · have H : Hid (Tab.lastAt ls sec n = (k : Int)) := by show _ = _; rw [HRL.out]; simp only [Tab.lastAt]; rw [if_pos hle]
        generalize Tab.when ls k = v at *
        go_wp2_with (go_at_call 72; refine HW.out.mono ?_; rintro e w' ⟨rfl, rfl⟩)
        go_ret
        exact ⟨ret_int H.out.symm, rfl⟩
      · have H : Hid (Tab.lastAt ls sec n = Tab.lastAt ls sec k) := by show _ = _; rw [HRL.out]; rw [Tab.lastAt]; rw [if_neg hle]
        generalize Tab.when ls k = v at *
        go_wp2_with (go_at_call 72; refine HW.out.mono ?_; rintro e w' ⟨rfl, rfl⟩)
        exact ⟨⟨k, by omega, by go_num, H.out⟩, by simp [intOf]⟩
end Go.Proofs.YtmmkhodaljpjgabGreatDoor
namespace Go.Proofs.YtmmkhodaljpjgabGreatDoor
open Go.RowKit
attribute [local go_sem ↓] Go.wp_at_zero Go.wp_at_succ
theorem in_bd {y m n : Int} (h : Cal.In y m n) : 0 ≤ n ∧ n < 401767 := by
  have a := h.year
  have b := Cal.yb_mono 1900 y h.y1
  have c := Cal.yb_mono (y + 1) 3000 (by have := h.y2; omega)
  rw [Cal.yb_first] at b
  rw [Cal.yb_last] at c
  omega
/-- Where the next month begins: the day, and whether there is one. -/
def nextD (y m : Int) : Int × Int := if nextOf y m = -1 then (0, 1) else (nextOf y m / 86400, 0)
set_option maxRecDepth 100000 in
theorem next_month (n y m : Int) (w : World) (hi : Cal.In y m n) :
    Calls Tryz.prog 113 #[.int .i64 n] w fun e w' => e = .returned (.tuple #[.int .i64 (nextD y m).1, .int .i64 (nextD y m).2]) ∧ w' = w := by
  obtain ⟨h0, h1⟩ := in_bd hi
  have y1 := hi.y1
  have y2 := hi.y2
  have m1 := hi.m1
  have m2 := hi.m2
  have HI := hid' hi
  have HN : Hid (nextD y m = if nextOf y m = -1 then (0, 1) else (nextOf y m / 86400, 0)) := rfl
  generalize nextD y m = nd at *
  clear hi
  go_enter Tryz.func113, Tryz.ntmps113
  go_wp2_with fail
  refine (civil_yes n _ h0 h1).mono ?_
  rintro e w' ⟨⟨y', m', rfl, hi'⟩, rfl⟩
  obtain ⟨ey, em⟩ := hi'.only HI.out
  subst ey em
  clear hi'
  by_cases c : m' = 12
  · have e12 : (m' == 12) = true := beq_iff_eq.2 c
    by_cases d : y' = 2999
    · have H : Hid (nd = (0, 1)) := by
        show _ = _
        rw [HN.out, if_pos]
        unfold nextOf; rw [if_pos c, if_pos d]
      have DN := hid' (fun W => day_no (y' + 1) 1 1 W (.inr (.inl (by omega))))
      clear c d HN
      go_wp2_with fail
      refine (DN.out _).mono ?_
      rintro e w2 ⟨rfl, rfl⟩
      go_wp2
      go_ret2
      exact ⟨by rw [H.out]; rfl, rfl⟩
    · have yb := Cal.yb_bd (y' + 1) (by omega) (by omega)
      have cb := Cal.cum_bd (y' + 1) 1 (by omega) (by omega)
      have H : Hid (nd = (Cal.yb (y' + 1) + Cal.cum (y' + 1) 1 + 1 - 1, 0)) := by
        show _ = _
        have e : nextOf y' m' = (Cal.yb (y' + 1) + Cal.cum (y' + 1) 1) * 86400 := by unfold nextOf; rw [if_pos c, if_neg d]
        rw [HN.out, if_neg (by rw [e]; omega), e]
        exact Prod.ext (by simp only; omega) rfl
      have DY := hid' (fun W => day_yes (y' + 1) 1 1 W (by omega) (by omega) (by omega) (by omega) (by omega) (by have := Cal.dim_bd (y' + 1) 1; omega))
      generalize Cal.yb (y' + 1) + Cal.cum (y' + 1) 1 + 1 - 1 = r at *
      clear c d HN yb cb
      go_wp2_with fail
      refine (DY.out _).mono ?_
      rintro e w2 ⟨rfl, rfl⟩
      go_wp2
      go_ret2
      exact ⟨by rw [H.out]; rfl, rfl⟩
  · have e12 : (m' == 12) = false := by rw [beq_eq_false_iff_ne]; exact c
    have yb := Cal.yb_bd y' (by omega) (by omega)
    have cb := Cal.cum_bd y' (m' + 1) (by omega) (by omega)
    have H : Hid (nd = (Cal.yb y' + Cal.cum y' (m' + 1) + 1 - 1, 0)) := by
      show _ = _
      have e : nextOf y' m' = (Cal.yb y' + Cal.cum y' (m' + 1)) * 86400 := by unfold nextOf; rw [if_neg c]
      rw [HN.out, if_neg (by rw [e]; omega), e]
      exact Prod.ext (by simp only; omega) rfl
    have DY := hid' (fun W => day_yes y' (m' + 1) 1 W (by omega) (by omega) (by omega) (by omega) (by omega) (by have := Cal.dim_bd y' (m' + 1); omega))
    generalize Cal.yb y' + Cal.cum y' (m' + 1) + 1 - 1 = r at *
    clear HN yb cb
    go_wp2_with fail
    refine (DY.out _).mono ?_
    rintro e w2 ⟨rfl, rfl⟩
    go_wp2
    go_ret2
    exact ⟨by rw [H.out]; rfl, rfl⟩
set_option maxRecDepth 100000 in
set_option maxHeartbeats 3200000 in
theorem un_smeared (b : Nat) (s : Sv) (dv cv : Value) (op : Bool) (bs bf : Int) (w : World) (h : PRow b s dv cv op bs bf w) (hM : s.Mid) (hN : s.Num) :
    Calls Tryz.prog 35 #[.pointer (some ⟨b, 0, none⟩)] w fun e w' => e = .returned (.agg #[.int .i64 s.utc, .int .i64 s.nf]) ∧ Below w.heap.size w w' := by
  obtain ⟨t0, t1, t2, t3⟩ := hN.t'
  have HP := hid' h
  have lb := h.lt
  have hpos := hM.pos
  have g := hM.fit.good.len
  rw [s.all_length] at g
  obtain ⟨gg, cap, hdv⟩ := own_some h.dd hpos
  subst hdv
  have LIE := hid' (lies_of h.dd rfl)
  have lg : gg < w.heap.size := (h.dd.lt _ rfl).2
  have l := hM.doneFit.lastAt_le s.ns hM.firstD
  have HF := hid' hM.doneFit.good.fine
  obtain ⟨k, hk⟩ : ∃ k : Nat, Tab.lastAt s.done s.ns s.done.length = (k : Int) := ⟨(Tab.lastAt s.done s.ns s.done.length).toNat, by omega⟩
  have kl : k < s.done.length := by omega
  have hu : s.utc = s.ns - (s.done[k]'kl).2 := by
    unfold Sv.utc; rw [hk, Int.toNat_natCast, getD_at k kl]
  have c4 := h.c4
  have c5 := h.c5
  have c9 := h.c9
  have e1 := (LIE.out k kl).2
  have pb := (HF.out _ (List.getElem_mem kl)).2
  have HU := hid' hu
  generalize s.done[k]'kl = p at *
  obtain ⟨pa, po⟩ := p
  simp only at e1 pb HU
  have HO := hid' (fun (W : World) (hl : Lies W gg s.done) => holder_any gg cap s.done.length s.done s.ns W rfl hl HF.out (by omega))
  rw [hk] at HO
  generalize s.utc = u at *
  have B0 := hid' (((Below.refl w.heap.size w).alloc (Nat.le_refl _) (.cells #[.int .i64 0, .int .i64 0] 33)).alloc (by simp) (.cells #[.int .i64 s.ns, .int .i64 s.nf] 33))
  have R0 := hid' (heap_alloc2_old w (.cells #[.int .i64 0, .int .i64 0] 33) (.cells #[.int .i64 s.ns, .int .i64 s.nf] 33))
  have R1 := hid' (heap_alloc2_new w (.cells #[.int .i64 0, .int .i64 0] 33) (.cells #[.int .i64 s.ns, .int .i64 s.nf] 33))
  have hki : (0 : Int) ≤ (k : Int) := by omega
  have hkn : (k : Int) < (s.done.length : Int) := by omega
  clear h hM hN hu l hk g
  go_enter Tryz.func35, Tryz.ntmps35
  go_upto_region 2 with fail
  generalize hV : (w.alloc (.cells #[.int .i64 0, .int .i64 0] 33)).alloc (.cells #[.int .i64 s.ns, .int .i64 s.nf] 33) = V at *
  generalize hQ : w.heap.size = Q at *
  clear hV
  have PV := hid' (HP.out.below (by rw [hQ]; exact B0.out))
  have v4 := PV.out.c4
  have v9 := PV.out.c9
  have d0 := cell_of_row _ _ 0 _ _ _ R1.out
  have d1 := cell_of_row _ _ 1 _ _ _ R1.out
  have x0 := cell_of_row _ _ 0 _ _ _ R0.out
  have x1 := cell_of_row _ _ 1 _ _ _ R0.out
  have f0 := frozen_of_row _ _ 0 _ _ R0.out
  have f1 := frozen_of_row _ _ 1 _ _ R0.out
  have y0 := frozen_of_row _ _ 0 _ _ R1.out
  have y1 := frozen_of_row _ _ 1 _ _ R1.out
  have g1 := (B0.out.cell (p := ⟨gg, k * 2 + 1, none⟩) (by simp only; omega)).trans e1
  have lv := lt_of_heap R1.out
  simp at d0 d1 x0 x1
  have LV := hid' (LIE.out.below (by omega) (by rw [hQ]; exact B0.out))
  have n1 : b ≠ Q + 1 := by omega
  have n2 : Q + 1 ≠ b := by omega
  have n3 : gg ≠ Q + 1 := by omega
  have n4 : Q + 1 ≠ gg := by omega
  clear c4 c5 c9 e1
  go_quiet (first | (go_at_call 52; refine Calls.quiet_of_same (HO.out _ LV.out)))
  go_wp2_with fail
  have DB := hid' (below_drewN (Below.refl V.heap.size V) nq)
  generalize hW : V.drewN nq = W at *
  clear hW
  have PW := hid' (PV.out.below DB.out)
  have w4 := PW.out.c4
  have w9 := PW.out.c9
  have lbv := PV.out.lt
  have d0 := (DB.out.cell (p := ⟨Q + 1, 0, none⟩) lv).trans d0
  have d1 := (DB.out.cell (p := ⟨Q + 1, 1, none⟩) lv).trans d1
  have S0 := hid' ((DB.out.block _ (lt_of_heap R0.out)).trans R0.out)
  have S1 := hid' ((DB.out.block _ (lt_of_heap R1.out)).trans R1.out)
  have x0 := cell_of_row _ _ 0 _ _ _ S0.out
  have x1 := cell_of_row _ _ 1 _ _ _ S0.out
  have f0 := frozen_of_row _ _ 0 _ _ S0.out
  have f1 := frozen_of_row _ _ 1 _ _ S0.out
  have y0 := frozen_of_row _ _ 0 _ _ S1.out
  have y1 := frozen_of_row _ _ 1 _ _ S1.out
  have g1 := (DB.out.cell (p := ⟨gg, k * 2 + 1, none⟩) (by simp only; omega)).trans g1
  have BW := hid' (B0.out.trans (DB.out.mono (by have := B0.out.size; omega)))
  simp at x0 x1
  go_region_with (fail)
  all_goals
    go_wp2
    try simp only [Exit.inBlock, Exit.then]
    refine bodyPost_ret (results_cell_row rfl _ _ Q 33 #[.int .i64 (s.ns - po), .int .i64 s.nf] (0, 0) _ rfl (two_row ((heap_setCell_other _ _ _ _ (by show Q ≠ Q + 1; omega)).trans S0.out)) Tryz.underlying33 rfl (by kernel_rfl)) rfl ?_
    exact ⟨ret_agg2 HU.out.symm rfl, by rw [hQ]; exact (((BW.out.setCell (p := ⟨Q + 1, 0, none⟩) (by simp only; omega) _).setCell (p := ⟨Q, 0, none⟩) (Nat.le_refl _) _).setCell (p := ⟨Q, 1, none⟩) (Nat.le_refl _) _).drew⟩
end Go.Proofs.YtmmkhodaljpjgabGreatDoor
namespace Go.Proofs.YtmmkhodaljpjgabGreatDoor
open Go.RowKit
attribute [local go_sem ↓] Go.wp_at_zero Go.wp_at_succ
/-- The entry by which the Offset changes at the month's end. -/
def Sv.chg (s : Sv) (c : Int) : (Int × Int) × Bool := if 0 < s.atN ∧ Tab.follows s.done s.atN (s.old + c) = true then ((s.atN, s.old + c), true) else ((0, 0), false)
theorem load_pleap {w : World} {g : Nat} {cs : Array Value} (hg : w.heap[g]? = some (.cells cs 49 (0, 0))) (hs : cs.size = 2) : (loadVar 49 ⟨g, 0, none⟩).run Tryz.prog w = .ok (.agg cs) w :=
  run_loadVar_row (P := Tryz.prog) w g 49 49 cs (0, 0) _ hg Tryz.underlying49 rfl (by rw [hs]; kernel_rfl)
theorem nextOf_day {y m n : Int} (h : Cal.In y m n) : nextOf y m = -1 ∨ (nextOf y m / 86400 * 86400 = nextOf y m ∧ 0 < nextOf y m ∧ nextOf y m ≤ 34712668800) := by
  have := h.y1
  have := h.y2
  have := h.m1
  have := h.m2
  have ys := Cal.yb_succ y
  unfold nextOf
  split
  · split
    · exact .inl rfl
    · right
      have a := Cal.yb_bd (y + 1) (by omega) (by omega)
      have b := Cal.cum_bd (y + 1) 1 (by omega) (by omega)
      have c := Cal.cum_one (y + 1)
      have d := Cal.yb_mono 1901 (y + 1) (by omega)
      have e := Cal.yb_mono (y + 1) 2999 (by omega)
      have f : Cal.yb 1901 = 365 := by decide
      have g : Cal.yb 2999 = 401402 := by decide
      omega
  · right
    have a := Cal.yb_bd y (by omega) (by omega)
    have b := Cal.cum_mono y 2 (m + 1) (by omega)
    have c := Cal.cum_succ y 1 (by omega) (by omega)
    rw [show (1 : Int) + 1 = 2 from rfl] at c
    have d := Cal.cum_one y
    have e := Cal.dim_bd y 1
    have f := Cal.yb_mono y 2999 (by omega)
    have g : Cal.yb 2999 = 401402 := by decide
    have k := Cal.cum_mono y (m + 1) 12 (by omega)
    have l := Cal.cum_succ y 12 (by omega) (by omega)
    rw [show (12 : Int) + 1 = 13 from rfl] at l
    have n := Cal.cum_end y
    have o := Cal.dim_bd y 12
    have p := Cal.lp_01 y
    omega
set_option maxRecDepth 100000 in
set_option maxHeartbeats 3200000 in
theorem change_at (b : Nat) (s : Sv) (dv cv : Value) (op : Bool) (bs bf c : Int) (w : World) (h : PRow b s dv cv op bs bf w) (hM : s.Mid) (hN : s.Num) (hc : c = 1 ∨ c = -1) :
    Calls Tryz.prog 99 #[.pointer (some ⟨b, 0, none⟩), .int .i64 s.utc, .int .i64 c] w fun e w' => e = .returned (.tuple #[.agg #[.int .i64 (s.chg c).1.1, .int .i64 (s.chg c).1.2], .bool (s.chg c).2]) ∧ Below w.heap.size w w' := by
  have can := hM.can hN
  have u0 := can.u0
  have u1 := can.u1
  obtain ⟨y, m, hin⟩ := in_cal u0 u1
  have HCH : Hid (s.chg c = if 0 < s.atN ∧ Tab.follows s.done s.atN (s.old + c) = true then ((s.atN, s.old + c), true) else ((0, 0), false)) := rfl
  have hat : s.atN = nextOf y m := nextS_eq hin
  have NM := hid' (fun W => next_month (s.utc / 86400) y m W hin)
  have hnd : nextD y m = if nextOf y m = -1 then (0, 1) else (nextOf y m / 86400, 0) := rfl
  have nod := nextOf_day hin
  rw [← hat] at hnd nod
  have HP := hid' h
  have lb := h.lt
  have hpos := hM.pos
  have hlen := hM.fit.good.len
  rw [s.all_length] at hlen
  obtain ⟨gg, cap, hdv⟩ := own_some h.dd hpos
  subst hdv
  have LIE := hid' (lies_of h.dd rfl)
  have lg : gg < w.heap.size := (h.dd.lt _ rfl).2
  have HF := hid' hM.doneFit.good.fine
  obtain ⟨k, hk⟩ : ∃ k, s.done.length = k + 1 := ⟨s.done.length - 1, by omega⟩
  have kl : k < s.done.length := by omega
  have hold : s.old = (s.done[k]'kl).2 := by
    unfold Sv.old; rw [hk, Nat.add_sub_cancel, getD_at k kl]
  have ob := (HF.out _ (List.getElem_mem kl)).2
  have e1 := (LIE.out k kl).2
  rw [← hold] at ob e1
  have CF := hid' (fun (W : World) (hl : Lies W gg s.done) (lg : gg < W.heap.size) (a0 : 0 ≤ s.atN) (a1 : s.atN ≤ 34712668800) => can_follow gg cap s.done.length s.done s.atN (s.old + c) W (wf_at (by omega) (by omega)) (wf_at (by omega) (by omega)) (Nat.le_refl _) (by omega) hl lg (fun p hp => (HF.out p (List.mem_of_mem_take hp)).2))
  rw [List.take_length] at CF
  have c9 := h.c9
  generalize s.utc = u at *
  generalize s.atN = at' at *
  generalize s.old = od at *
  generalize s.chg c = r at *
  generalize Tab.follows s.done at' (od + c) = fo at *
  clear hold
  generalize hln : s.done.length = L at *
  have HL := hid' hln
  have c1 : -1 ≤ c := by omega
  have c2 : c ≤ 1 := by omega
  have hki : (0 : Int) ≤ (k : Int) := by omega
  have hkn : (k : Int) < (L : Int) := by omega
  obtain ⟨hw1, hw2⟩ : IntKind.i64.wrap ((L : Int) - 1) = (k : Int) ∧ wrap64 ((L : Int) - 1) = (k : Int) := ⟨by rw [IntKind.wrap_i64]; omega, by unfold wrap64; omega⟩
  have R0 := hid' (heap_alloc_new w (.cells #[.int .i64 0, .int .i64 0] 49))
  have B0 := hid' ((Below.refl w.heap.size w).alloc (Nat.le_refl _) (.cells #[.int .i64 0, .int .i64 0] 49))
  clear h hM hN can hin hc hat hk hln
  generalize nextD y m = nd at *
  obtain ⟨n1, n2⟩ := nd
  simp only at NM
  go_enter Tryz.func99, Tryz.ntmps99
  go_upto_region 1 with fail
  generalize hV : w.alloc (.cells #[.int .i64 0, .int .i64 0] 49) = V at *
  generalize hQ : w.heap.size = Q at *
  clear hV
  have PV := hid' (HP.out.below (by rw [hQ]; exact B0.out))
  have v9 := PV.out.c9
  have x0 := cell_of_row _ _ 0 _ _ _ R0.out
  have x1 := cell_of_row _ _ 1 _ _ _ R0.out
  have f0 := frozen_of_row _ _ 0 _ _ R0.out
  have f1 := frozen_of_row _ _ 1 _ _ R0.out
  have lv := lt_of_heap R0.out
  have sv := B0.out.size
  simp at x0 x1
  have g1 := (B0.out.cell (p := ⟨gg, k * 2 + 1, none⟩) (by simp only; omega)).trans e1
  clear c9 e1
  go_wp2_with fail
  refine (NM.out _).mono ?_
  rintro e w1 ⟨rfl, hw1e⟩
  subst w1
  by_cases hno : at' = -1
  · rw [if_pos hno] at hnd
    obtain ⟨rfl, rfl⟩ := Prod.mk.inj hnd
    have H : Hid (r = ((0, 0), false)) := by show _ = _; rw [HCH.out, if_neg (by omega)]
    clear nod HCH hno hnd
    go_wp2
    try simp only [Exit.inBlock, Exit.then]
    refine bodyPost_ret (results_row_tmp (p := 6) (u := 7) rfl _ _ Q #[.int .i64 0, .int .i64 0] rfl (load_pleap (two_row R0.out) rfl)) rfl ?_
    rw [H.out]
    exact ⟨rfl, by rw [hQ]; exact (B0.out.setCell (p := ⟨Q, 0, none⟩) (Nat.le_refl _) _).setCell (p := ⟨Q, 1, none⟩) (Nat.le_refl _) _⟩
  · rw [if_neg hno] at hnd
    obtain ⟨rfl, rfl⟩ := Prod.mk.inj hnd
    obtain ⟨a1, a2, a3⟩ : at' / 86400 * 86400 = at' ∧ 0 < at' ∧ at' ≤ 34712668800 := by
      rcases nod with q | q
      · exact absurd q hno
      · exact q
    have HA := hid' a1
    obtain ⟨hw3, hw4⟩ : IntKind.i64.wrap (at' / 86400 * 86400) = at' ∧ wrap64 (at' / 86400 * 86400) = at' := ⟨by rw [IntKind.wrap_i64]; omega, by unfold wrap64; omega⟩
    clear nod hno hnd a1
    have BN := hid' ((Below.refl V.heap.size V).alloc (Nat.le_refl _) (.cells #[.int .i64 at', .int .i64 (od + c)] 49))
    have RN := hid' (heap_alloc_new V (.cells #[.int .i64 at', .int .i64 (od + c)] 49))
    go_upto_region 6 with fail
    generalize hW : V.alloc (.cells #[.int .i64 at', .int .i64 (od + c)] 49) = W at *
    generalize hE : V.heap.size = E at *
    clear hW
    have PW := hid' (PV.out.below (by rw [hE]; exact BN.out))
    have w9 := PW.out.c9
    have z0 := cell_of_row _ _ 0 _ _ _ RN.out
    have z1 := cell_of_row _ _ 1 _ _ _ RN.out
    simp at z0 z1
    have LW := hid' ((LIE.out.below (by omega) (by rw [hQ]; exact B0.out)).below (by omega) (by rw [hE]; exact BN.out))
    have lgw : gg < W.heap.size := by have := BN.out.size; omega
    have SX := hid' ((BN.out.block _ (by omega)).trans R0.out)
    clear v9 g1 x0 x1 f0 f1
    go_cut [53] from 12 (fun s53 wx => s53 = .bool (!fo) ∧ Below W.heap.size W wx)
    case first =>
      go_region_with (go_at_call 82; refine (CF.out _ (LW.out.below (by omega) (Below.refl _ _).drew) (by exact lgw) (by omega) (by omega)).mono ?_; rintro e w2 ⟨rfl, hb2⟩; have HB2 := hid' hb2; clear hb2)
      all_goals
        go_wp2_with fail
        go_meet
        case rel => exact ⟨rfl, (Below.refl _ _).drew.trans HB2.out⟩
    case rest =>
      obtain ⟨rfl, bel⟩ := hcut
      rename World => W1
      have lw := BN.out.size
      have B1 := hid' ((B0.out.trans (BN.out.mono (by omega))).trans (bel.mono (by omega)))
      have SX1 := hid' ((bel.block _ (lt_of_heap SX.out)).trans SX.out)
      have SN1 := hid' ((bel.block _ (lt_of_heap RN.out)).trans RN.out)
      have x0 := cell_of_row _ _ 0 _ _ _ SX1.out
      have x1 := cell_of_row _ _ 1 _ _ _ SX1.out
      have f0 := frozen_of_row _ _ 0 _ _ SX1.out
      have f1 := frozen_of_row _ _ 1 _ _ SX1.out
      have z0 := cell_of_row _ _ 0 _ _ _ SN1.out
      have z1 := cell_of_row _ _ 1 _ _ _ SN1.out
      simp at x0 x1 z0 z1
      clear bel w9
      cases fo with
      | false =>
        have H : Hid (r = ((0, 0), false)) := by show _ = _; rw [HCH.out, if_neg (by simp)]
        clear HCH
        go_wp2
        try simp only [Exit.inBlock, Exit.then]
        refine bodyPost_ret (results_row_tmp (p := 6) (u := 7) rfl _ _ Q #[.int .i64 0, .int .i64 0] rfl (load_pleap (two_row SX1.out) rfl)) rfl ?_
        rw [H.out]
        exact ⟨rfl, by rw [hQ]; exact (B1.out.setCell (p := ⟨Q, 0, none⟩) (Nat.le_refl _) _).setCell (p := ⟨Q, 1, none⟩) (Nat.le_refl _) _⟩
      | true =>
        have H : Hid (r = ((at', od + c), true)) := by show _ = _; rw [HCH.out, if_pos ⟨a2, rfl⟩]
        clear HCH
        go_wp2
        try simp only [Exit.inBlock, Exit.then]
        refine bodyPost_ret (results_row_tmp (p := 6) (u := 7) rfl _ _ Q #[.int .i64 at', .int .i64 (od + c)] rfl (load_pleap (two_row SX1.out) rfl)) rfl ?_
        rw [H.out]
        exact ⟨rfl, by rw [hQ]; exact (B1.out.setCell (p := ⟨Q, 0, none⟩) (Nat.le_refl _) _).setCell (p := ⟨Q, 1, none⟩) (Nat.le_refl _) _⟩
end Go.Proofs.YtmmkhodaljpjgabGreatDoor
