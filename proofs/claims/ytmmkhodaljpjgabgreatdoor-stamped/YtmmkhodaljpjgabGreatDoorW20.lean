import Derived.Test.YtmmkhodaljpjgabGreatDoorW19
import Derived.Deep.RegionLaw
namespace Go.Proofs.YtmmkhodaljpjgabGreatDoor
open Go.RowKit
attribute [local go_sem ↓] Go.wp_at_zero Go.wp_at_succ
/-- The server at a block, whose blocks are its own or new ones. -/
def DueP (b : Nat) (F : Nat → Prop) (w : World) (s : Sv) (w' : World) : Prop := ∃ dv cv op bs bf, PRow b s dv cv op bs bf w' ∧ Opn s op bs bf ∧ Off F w w' ∧ ∀ j, pFoot b dv cv j → F j ∨ w.heap.size ≤ j
theorem DueP.post {b : Nat} {F : Nat → Prop} {w : World} {s : Sv} {w' : World} (h : DueP b F w s w') : PPost b F w s w' := by
  obtain ⟨dv, cv, op, bs, bf, r, o, f, g⟩ := h
  exact ⟨pFoot b dv cv, ⟨dv, cv, op, bs, bf, r, o, fun k => Iff.rfl⟩, f, g⟩
theorem due_all (b : Nat) (s : Sv) (dv cv : Value) (op : Bool) (bs bf : Int) (w : World) (h : PRow b s dv cv op bs bf w) (ho : Opn s op bs bf) (hM : s.Mid) (hN : s.Num) :
    Calls Tryz.prog 73 #[.pointer (some ⟨b, 0, none⟩)] w fun e w' => e = .returned (.tuple #[]) ∧ DueP b (pFoot b dv cv) w s.begun w' := by
  have win := hN.win
  obtain ⟨m, hc⟩ := hM.cut win.1 win.2
  have g := hM.fit.good.len
  rw [s.all_length] at g
  refine (let_due b s dv cv op bs bf m w h hc (by omega)).mono ?_
  rintro e w' ⟨rfl, dv', cv', r, o, f⟩
  exact ⟨rfl, dv', cv', _, _, _, r, ho.begun hc (fun _ => by rw [hM.bl]; exact hM.pos), o, f⟩
theorem DueP.then {b : Nat} {F G : Nat → Prop} {w w1 : World} {s' : Sv} {w' : World} (h : DueP b G w1 s' w') (of : Off F w w1) (hg : ∀ j, G j → F j ∨ w.heap.size ≤ j) : DueP b F w s' w' := by
  obtain ⟨dv, cv, op, bs, bf, r, o, f, g⟩ := h
  have sz := of.size
  refine ⟨dv, cv, op, bs, bf, r, o, of.trans f (fun k hk q => ?_), fun j q => ?_⟩
  · rcases hg k q with z | z
    · exact z
    · omega
  · rcases g j q with z | z
    · exact hg j z
    · exact .inr (by omega)
theorem Sv.filed_nil {x : Sv} (h : x.com = []) : x.filed = false := by unfold Sv.filed; rw [h]
theorem Sv.filed_cons {x : Sv} {c : Cm} {r : List Cm} (h : x.com = c :: r) : x.filed = !c.v := by unfold Sv.filed; rw [h]
theorem Sv.weigh_filed {x : Sv} (hl : x.ld = true) (hf : x.begun.filed = true) : x.weigh = x.begun := by
  unfold Sv.weigh; rw [if_neg (by rw [hl]; simp), if_pos hf]
theorem Sv.weigh_voted {x : Sv} (hl : x.ld = true) (hf : x.begun.filed = false) : x.weigh = x.begun.voted := by
  unfold Sv.weigh; rw [if_neg (by rw [hl]; simp), if_neg (by rw [hf]; simp)]
theorem Sv.tally_com (y : Sv) (L : List Cm) (n : Nat) : ({ y with com := L } : Sv).tally n = y.tally n := by
  induction n with
  | zero => rfl
  | succ n ih =>
    have e : ∀ h, ({ y with com := L } : Sv).counts h = y.counts h := fun _ => rfl
    unfold Sv.tally
    rw [ih, e]
theorem Sv.most_com (y : Sv) (L : List Cm) : ({ y with com := L } : Sv).most = y.most := by
  unfold Sv.most
  rw [Sv.tally_com]
theorem Sv.sign_com (y : Sv) (L : List Cm) : ({ y with com := L } : Sv).sign = y.sign := by
  unfold Sv.sign
  rw [Sv.most_com]
  rfl
theorem Sv.utc_com (y : Sv) (L : List Cm) : ({ y with com := L } : Sv).utc = y.utc := rfl
theorem Sv.old_com (y : Sv) (L : List Cm) : ({ y with com := L } : Sv).old = y.old := rfl
theorem Sv.atN_com (y : Sv) (L : List Cm) : ({ y with com := L } : Sv).atN = y.atN := by
  unfold Sv.atN; rw [Sv.utc_com]
theorem Sv.whenN_com (y : Sv) (L : List Cm) : ({ y with com := L } : Sv).whenN = y.whenN := by
  unfold Sv.whenN; rw [Sv.sign_com, Sv.atN_com, Sv.old_com]
theorem Sv.okN_com (y : Sv) (L : List Cm) : ({ y with com := L } : Sv).okN = y.okN := by
  unfold Sv.okN; rw [Sv.sign_com, Sv.atN_com, Sv.old_com]
theorem Sv.opens_com (y : Sv) (L : List Cm) (t : Int) : ({ y with com := L } : Sv).opens t = y.opens t := rfl
/-- What the program says of votes, and what the document makes of it. -/
theorem Sv.vt_voted (y : Sv) : (({ y with com := [] } : Sv).vt.2 = false → y.voted = { y with com := [] }) ∧ (({ y with com := [] } : Sv).vt.2 = true → y.okN = true ∧ y.ns < y.whenN ∧ ({ y with com := [] } : Sv).vt.1 = ⟨y.atN, y.old + y.sign, (y.opens y.whenN).1, (y.opens y.whenN).2, true⟩ ∧ y.voted = ({ y with com := [({ y with com := [] } : Sv).vt.1] } : Sv).begun) := by
  have e : ({ y with com := [] } : Sv).vt = if y.okN = false ∨ y.whenN ≤ y.ns then (⟨0, 0, 0, 0, false⟩, false) else (⟨y.atN, y.old + y.sign, (y.opens y.whenN).1, (y.opens y.whenN).2, true⟩, true) := by
    unfold Sv.vt
    rw [Sv.okN_com, Sv.whenN_com, Sv.atN_com, Sv.old_com, Sv.sign_com, Sv.opens_com]
  have v : y.voted = if y.okN = false ∨ y.whenN ≤ y.ns then { y with com := [] } else ({ y with com := [⟨y.atN, y.old + y.sign, (y.opens y.whenN).1, (y.opens y.whenN).2, true⟩] } : Sv).begun := by unfold Sv.voted; rfl
  rw [e, v]
  by_cases c : y.okN = false ∨ y.whenN ≤ y.ns
  · rw [if_pos c, if_pos c]
    exact ⟨fun _ => rfl, fun q => by cases q⟩
  · rw [if_neg c, if_neg c]
    refine ⟨fun q => (by cases q), fun _ => ⟨?_, ?_, rfl, rfl⟩⟩
    · cases q : y.okN with
      | true => rfl
      | false => exact absurd (.inl q) c
    · by_cases q : y.ns < y.whenN
      · exact q
      · exact absurd (.inr (by omega)) c
set_option maxRecDepth 100000 in
set_option maxHeartbeats 6400000 in
theorem look_around (b : Nat) (s : Sv) (dv cv : Value) (op : Bool) (bs bf : Int) (w : World) (h : PRow b s dv cv op bs bf w) (ho : Opn s op bs bf) (hN : s.Num) (hM : s.ld = true → s.Mid) (hx : s.ld = true → 0 ≤ s.ex ∧ s.ex ≤ 34000000000) :
    Calls Tryz.prog 46 #[.pointer (some ⟨b, 0, none⟩)] w fun e w' => e = .returned (.tuple #[]) ∧ PPost b (pFoot b dv cv) w s.weigh w' := by
  obtain ⟨k0, hk0, hx0, hx1, hx2⟩ := info_parts infoAComing
  have HP := hid' h
  have HO := hid' ho
  have c6 := h.c6
  cases hld : s.ld with
  | false =>
    have hw : s.weigh = s := by unfold Sv.weigh; rw [if_pos hld]
    rw [hld] at c6
    rw [hw]
    clear h ho hN hM hx hw
    go_enter Tryz.func46, Tryz.ntmps46
    go_wp2
    refine bodyPost_ret (results_none rfl _ _ _) rfl ?_
    exact ⟨rfl, pFoot b dv cv, ⟨dv, cv, op, bs, bf, HP.out, HO.out, fun k => Iff.rfl⟩, Off.refl _ _, fun k e => .inl e⟩
  | true =>
    rw [hld] at c6
    have hm := hM hld
    have hex := hx hld
    have win := hN.win
    have bg := hm.begun win.1 win.2
    have hyn := hN.of bg.same
    have HY := hid' bg.mid
    have HYN := hid' hyn
    have DU := hid' (due_all b s dv cv op bs bf w h ho hm hN)
    have eyx : s.begun.ex = s.ex := rfl
    have HEX : Hid (0 ≤ s.begun.ex ∧ s.begun.ex ≤ 34000000000) := hex
    have HWF := hid' (fun q => Sv.weigh_filed (x := s) hld q)
    have HWV := hid' (fun q => Sv.weigh_voted (x := s) hld q)
    have HVV := hid' s.begun.vt_voted
    have HFN := hid' (fun q => Sv.filed_nil (x := s.begun) q)
    have HFC := hid' (fun c r q => Sv.filed_cons (x := s.begun) (c := c) (r := r) q)
    generalize s.weigh = sw at *
    generalize hy : s.begun = y at *
    clear h ho hN hM hx hm hex bg hyn eyx hy
    go_enter Tryz.func46, Tryz.ntmps46
    go_wp2_with fail
    refine DU.out.mono ?_
    rintro e w1 ⟨rfl, dv1, cv1, op1, bs1, bf1, pr1, o1, of1, ff1⟩
    have P1 := hid' pr1
    have O1 := hid' o1
    have OF1 := hid' of1
    have FF1 := hid' ff1
    have hlen := HY.out.fit.good.len
    rw [y.all_length] at hlen
    obtain ⟨ca, ccp, hcv⟩ := own_slice pr1.cc
    subst hcv
    have c10 := pr1.c10
    clear pr1 o1 of1 ff1 DU c6
    go_upto_region 2 with fail
    go_cut [29] from 4 (fun s29 wx => s29 = .bool y.filed ∧ wx = w1)
    case first =>
      cases hcom : y.com with
      | nil =>
        have e0 : y.com.length = 0 := by rw [hcom]; rfl
        rw [e0] at c10
        have HC0 := hid' hcom
        clear hcom e0
        go_wp2_with fail
        go_meet
        case rel => exact ⟨by rw [HFN.out HC0.out], rfl⟩
      | cons c r =>
        have e0 : y.com.length = r.length + 1 := by rw [hcom]; rfl
        have hp : 0 < y.com.length := by omega
        obtain ⟨g, cg, hg⟩ := own_some P1.out.cc hp
        obtain ⟨rfl, _, rfl⟩ := Value.slice.inj hg
        have e4 := (P1.out.cc.cellAt (0 * 5 + 4) (by omega)).trans (flatC_at y.com 0 hp 4 (by omega))
        rw [show y.com[0]'hp = c from by simp [hcom]] at e4
        simp [Cm.cells] at e4
        have hpi : (0 : Int) < (y.com.length : Int) := by omega
        have HC0 := hid' hcom
        clear hcom e0 hg hp
        go_wp2_with fail
        go_meet
        case rel => exact ⟨by rw [HFC.out c r HC0.out], rfl⟩
    case rest =>
      rename World => WC
      obtain ⟨rfl, hw1⟩ := hcut
      subst WC
      cases hfl : y.filed with
      | true =>
        have HSW := hid' (HWF.out hfl)
        clear hfl
        go_wp2
        refine bodyPost_ret (results_none rfl _ _ _) rfl ?_
        rw [HSW.out]
        exact ⟨rfl, DueP.post ⟨dv1, _, op1, bs1, bf1, P1.out, O1.out, OF1.out, FF1.out⟩⟩
      | false =>
        have HSW := hid' (HWV.out hfl)
        have f10 := P1.out.fr 10
        have lb1 := P1.out.lt
        have PZ := hid' (P1.out.putC (L := []) (cv' := .slice none 0 0) (World.ownsRow_nil _ _ _ _))
        have hz := HY.out.none
        have hzn : ({ y with com := [] } : Sv).Num := by have q := HYN.out; exact ⟨q.mode, q.f0, q.f1, q.t, q.sl, q.sok, q.r0⟩
        have VO := hid' (srv_voted b { y with com := [] } dv1 (.slice none 0 0) op1 bs1 bf1 _ PZ.out hz hzn HEX.out)
        have hv0 := HVV.out
        have HV := hid' hv0
        generalize hvt : ({ y with com := [] } : Sv).vt = vt at *
        obtain ⟨⟨va, vo, vs, vf, vv⟩, ok⟩ := vt
        simp only at VO HV
        have OZ := hid' (OF1.out.setCell (p := ⟨b, 10, none⟩) (fun _ => .inl rfl) (.slice none 0 0))
        clear hfl hvt hz hzn hv0 HVV
        go_wp2_with fail
        generalize hWZ : w1.setCell ⟨b, 10, none⟩ (.slice none 0 0) = WZ at *
        clear hWZ
        refine VO.out.mono ?_
        rintro e w2 ⟨rfl, hb2⟩
        have P2 := hid' (PZ.out.below hb2)
        have O2 := hid' (OZ.out.then hb2)
        clear hb2 VO c10 f10
        cases ok with
        | false =>
          have HVD := hid' (HV.out.1 rfl)
          have BA := hid' ((Below.refl w2.heap.size w2).alloc (Nat.le_refl _) (.cells #[.int .i64 va, .int .i64 vo, .int .i64 vs, .int .i64 vf, .bool vv] 84))
          go_wp2
          first | (refine bodyPost_ret (results_none rfl _ _ _) rfl ?_) | go_end0
          rw [HSW.out, HVD.out]
          refine ⟨rfl, DueP.post ⟨dv1, .slice none 0 0, op1, bs1, bf1, P2.out.below BA.out, O1.out.com [], O2.out.then BA.out, fun j q => ?_⟩⟩
          rcases q with q | q | q
          · exact FF1.out j (.inl q)
          · exact FF1.out j (.inr (.inl q))
          · simp [Value.ownBlock] at q
        | true =>
          obtain ⟨v1, v2, v3, v4⟩ := HV.out.2 rfl
          have HVD := hid' v4
          have hmz : ({ y with com := [⟨va, vo, vs, vf, vv⟩] } : Sv).Mid := by rw [v3]; exact HY.out.vote HYN.out v1 v2
          have hzn : ({ y with com := [⟨va, vo, vs, vf, vv⟩] } : Sv).Num := by have q := HYN.out; exact ⟨q.mode, q.f0, q.f1, q.t, q.sl, q.sok, q.r0⟩
          have HMZ := hid' hmz
          have HZN := hid' hzn
          clear v1 v2 v3 v4 hmz hzn HV
          go_upto_region 6 with fail
          have BA := hid' ((Below.refl w2.heap.size w2).alloc (Nat.le_refl _) (.cells #[.int .i64 va, .int .i64 vo, .int .i64 vs, .int .i64 vf, .bool vv] 84))
          have RA := hid' (heap_alloc_new w2 (.cells #[.int .i64 va, .int .i64 vo, .int .i64 vs, .int .i64 vf, .bool vv] 84))
          generalize hWA : w2.alloc (.cells #[.int .i64 va, .int .i64 vo, .int .i64 vs, .int .i64 vf, .bool vv] 84) = WA at *
          generalize hEA : w2.heap.size = EA at *
          clear hWA
          have P3 := hid' (P2.out.below (by rw [hEA]; exact BA.out))
          have O3 := hid' (O2.out.then (by rw [hEA]; exact BA.out))
          have c10 := P3.out.c10
          have f10 := P3.out.fr 10
          have lb3 := P3.out.lt
          have a0 := cell_of_row _ _ 0 _ _ _ RA.out
          have a1 := cell_of_row _ _ 1 _ _ _ RA.out
          have a2 := cell_of_row _ _ 2 _ _ _ RA.out
          have a3 := cell_of_row _ _ 3 _ _ _ RA.out
          have a4 := cell_of_row _ _ 4 _ _ _ RA.out
          simp at a0 a1 a2 a3 a4
          have nil0 : WA.ownsRow 0 84 5 (.slice none 0 0) 0 (flatC []) := World.ownsRow_nil _ _ _ _
          have NI := hid' nil0
          have fz : ∀ o, (WA.alloc o).frozen? ⟨b, 10, none⟩ = false := fun o => frozen_of_row _ _ 10 _ _ ((Keep.refl _ WA).alloc o _ _ _ P3.out.row)
          clear nil0
          go_cut [2] from 4 (fun s2 wx => ∃ cv3, PRow b { y with com := [⟨va, vo, vs, vf, vv⟩] } dv1 cv3 op1 bs1 bf1 wx ∧ Off (pFoot b dv cv) w wx ∧ ∀ k, cv3.ownBlock = some k → w.heap.size ≤ k)
          case first =>
            go_region_law ((refine step_append_lies _ ?_ (.tmp 45) (.tmp 47) 34 ?_ 0 84 k0 (.agg #[.int .i64 0, .int .i64 0, .int .i64 0, .int .i64 0, .bool false]) 5 40 Tryz.underlying34 hk0 hx0 hx1 hx2 rfl (by decide) (.slice none 0 0) 0 (flatC []) ?_ ?_ ⟨WA.heap.size, 0, none⟩ 1 1 [.int .i64 va, .int .i64 vo, .int .i64 vs, .int .i64 vf, .bool vv] ?_ ?_ ?_ ?_ ?_ ?_ ?_ ?_ (WA.heap.size + 1) ?_ ?_; exact rfl; exact rfl; exact rfl; exact (NI.out.alloc _).drew; exact rfl; exact rfl; exact (World.news_of_block (cs := #[.int .i64 va, .int .i64 vo, .int .i64 vs, .int .i64 vf, .bool vv]) (t := 84) (fr := (0, 0)) (heap_alloc_new WA _)); (simp [Value.oneCell']); decide; (unfold maxLen; omega); omega; omega; (simp); intro gg cap6 w6 own6 hg6 hat6 hlt6; have S6 := hid' (grown_heap (w := (WA.alloc (.cells #[.int .i64 va, .int .i64 vo, .int .i64 vs, .int .i64 vf, .bool vv] 84)).drew) (t := 72) hg6 (NI.out.alloc _).drew ((Keep.refl _ WA).alloc _ _ _ _ P3.out.row) (by decide)); have c67 : w6.cell? ⟨b, 10, none⟩ = some (.slice none 0 0) := cell_of_row _ _ 10 _ _ _ S6.out; have f67 := frozen_of_row _ _ 10 _ _ S6.out; have OWN6 := hid' own6; have HG6 := hid' hg6; have HAT6 := hid' hat6; clear own6 hg6 hat6))
            all_goals
              go_wp2_with fail
              go_meet
              case rel =>
                have ba6 := ((Below.refl WA.heap.size WA).alloc (Nat.le_refl _) (.cells #[.int .i64 va, .int .i64 vo, .int .i64 vs, .int .i64 vf, .bool vv] 84)).drew
                have of6 := (O3.out.then ba6).grown (by exact HG6.out) (fun k e _ => by simp [Value.ownBlock] at e)
                have p6 := (P3.out.below ba6).keep (w' := w6) (fun k q => (by exact HG6.out : World.grownBy _ _ _).block k (by
                  obtain ⟨_, _, _, hh, _⟩ := (P3.out.below ba6).typ q
                  exact lt_of_heap hh) (fun e => by simp [Value.ownBlock] at e))
                refine ⟨_, p6.putC (L := [⟨va, vo, vs, vf, vv⟩]) (by exact OWN6.out), of6.setCell (p := ⟨b, 10, none⟩) (fun _ => .inl rfl) _, fun k e => ?_⟩
                obtain rfl : gg = k := by simpa [Value.ownBlock] using e
                rcases HAT6.out with q | q
                · simp [Value.ownBlock] at q
                · have := O3.out.size; omega
          case rest =>
            obtain ⟨cv3, pr3, of3, ff3⟩ := hcut
            rename World => W3
            have DU := hid' (due_all b { y with com := [⟨va, vo, vs, vf, vv⟩] } dv1 cv3 op1 bs1 bf1 W3 pr3 (O1.out.com _) HMZ.out HZN.out)
            have OF3 := hid' of3
            have FF3 := hid' ff3
            clear pr3 of3 ff3 c10 f10 a0 a1 a2 a3 a4 fz
            go_wp2_with fail
            refine DU.out.mono ?_
            rintro e w7 ⟨rfl, dp⟩
            have DP := hid' dp
            clear dp DU
            go_wp2
            go_end0
            rw [HSW.out, HVD.out]
            refine ⟨rfl, (DP.out.then OF3.out (fun j q => ?_)).post⟩
            rcases q with q | q | q
            · exact FF1.out j (.inl q)
            · exact FF1.out j (.inr (.inl q))
            · exact .inr (FF3.out j q)
end Go.Proofs.YtmmkhodaljpjgabGreatDoor
namespace Go.Proofs.YtmmkhodaljpjgabGreatDoor
open Go.RowKit
attribute [local go_sem ↓] Go.wp_at_zero Go.wp_at_succ
theorem quo_up {a b : Int} (hb : 0 < b) : quo a b true = if a % b = 0 then a / b else a / b + 1 := by
  unfold quo
  rw [if_pos rfl]
  have h := Int.mul_ediv_add_emod a b
  have m0 := Int.emod_nonneg a (show b ≠ 0 by omega)
  have m1 := Int.emod_lt_of_pos a hb
  split
  · rename_i c
    have e : a + b - 1 = (b - 1) + (a / b) * b := by rw [Int.mul_comm (a / b) b]; omega
    rw [e, Int.add_mul_ediv_right _ _ (by omega), Int.ediv_eq_zero_of_lt (by omega) (by omega)]; omega
  · rename_i c
    have e : a + b - 1 = (a % b - 1) + (a / b + 1) * b := by rw [Int.add_mul, Int.mul_comm (a / b) b]; omega
    rw [e, Int.add_mul_ediv_right _ _ (by omega), Int.ediv_eq_zero_of_lt (by omega) (by omega)]; omega
theorem tdiv_pos {a b : Int} (ha : 0 ≤ a) : a.tdiv b = a / b := Int.tdiv_eq_ediv_of_nonneg ha
theorem tmod_pos {a b : Int} (ha : 0 ≤ a) : a.tmod b = a % b := Int.tmod_eq_emod_of_nonneg ha
theorem p_quot (a b : Int) (up : Bool) (w : World) (a0 : 0 ≤ a) (b0 : 1 ≤ b) (a1 : a ≤ 4000000000000000000) (b1 : b ≤ 4000000000000000000) :
    Calls Tryz.prog 101 #[.int .i64 a, .int .i64 b, .bool up] w fun e w' => e = .returned (.int .i64 (quo a b up)) ∧ w' = w := by
  have hd := tdiv_pos (b := b) a0
  have hm := tmod_pos (b := b) a0
  have hq0 : 0 ≤ a / b := Int.ediv_nonneg a0 (by omega)
  have hq1 : a / b ≤ a := Int.ediv_le_self _ a0
  cases up with
  | false =>
    have H : Hid (quo a b false = a / b) := by show _ = _; unfold quo; rw [if_neg (by simp)]
    generalize quo a b false = r at *
    go_enter Tryz.func101, Tryz.ntmps101
    go_wp2
    go_ret
    exact ⟨by rw [H.out]; first | rfl | (rw [← hd]; rfl), rfl⟩
  | true =>
    have H : Hid (quo a b true = if a % b = 0 then a / b else a / b + 1) := quo_up (by omega)
    generalize quo a b true = r at *
    by_cases c : a % b = 0
    · have c1 : (a.tmod b != 0) = false := by rw [hm, c]; rfl
      have c2 : (a % b != 0) = false := by rw [c]; rfl
      have H2 : Hid (r = a / b) := by show _ = _; rw [H.out, if_pos c]
      clear c H
      go_enter Tryz.func101, Tryz.ntmps101
      go_wp2
      go_ret
      exact ⟨by rw [H2.out]; first | rfl | (rw [← hd]; rfl), rfl⟩
    · have c1 : (a.tmod b != 0) = true := bne_iff_ne.2 (by rw [hm]; exact c)
      have c2 : (a % b != 0) = true := bne_iff_ne.2 c
      have H2 : Hid (r = a / b + 1) := by show _ = _; rw [H.out, if_neg c]
      clear c H
      go_enter Tryz.func101, Tryz.ntmps101
      go_wp2
      go_ret
      exact ⟨by rw [H2.out]; first | rfl | (rw [← hd]; rfl), rfl⟩
theorem p_curve (i : Int) (w : World) (h0 : 0 ≤ i) (h1 : i ≤ 1024) :
    Calls Tryz.prog 102 #[.int .i64 i] w fun e w' => e = .returned (.int .i64 (gZ i)) ∧ w' = w := by
  have a0 : 0 ≤ 4 * i * i := Int.mul_nonneg (by omega) h0
  have a1 : 4 * i * i ≤ 4 * i * 1024 := Int.mul_le_mul_of_nonneg_left h1 (by omega)
  have HG : Hid (gZ i = 4 * i * i * (3072 - 2 * i)) := rfl
  have gb := gZ_bd h0 h1
  rw [HG.out] at gb
  obtain ⟨a, ha⟩ : ∃ a, 4 * i * i = a := ⟨_, rfl⟩
  rw [ha] at a0 a1 HG gb
  obtain ⟨c, hc⟩ : ∃ c, a * (3072 - 2 * i) = c := ⟨_, rfl⟩
  rw [hc] at HG gb
  rw [HG.out]
  have a2 : a ≤ 4194304 := by omega
  clear HG
  go_enter Tryz.func102, Tryz.ntmps102
  go_wp2
  go_ret
  exact ⟨rfl, rfl⟩
theorem p_open (n W : Int) (w : World) (ok : PullOk W n) :
    Calls Tryz.prog 100 #[.int .i64 n, .int .i64 W] w fun e w' => e = .returned (.bool true) ∧ w' = w := by
  have ⟨w0, w1, n0, n1⟩ := ok
  have n2 : n < W * 4294967296 := n1
  have hx := ok.x
  clear ok n1
  go_enter Tryz.func100, Tryz.ntmps100
  go_wp2
  go_ret
  exact ⟨ret_bool (by simp <;> omega), rfl⟩
theorem p_linear (n W : Int) (up : Bool) (w : World) (ok : PullOk W n) :
    Calls Tryz.prog 78 #[.int .i64 n, .int .i64 W, .bool up] w fun e w' => e = .returned (.int .i64 (quo (pullU 1 W n) (pullD 1 W) up)) ∧ w' = w := by
  have e1 : pullU 1 W n = n := rfl
  have e2 : pullD 1 W = W := rfl
  rw [e1, e2]
  have hx := ok.x
  have ⟨w0, w1, n0, n1⟩ := ok
  have QU := hid' (fun V => p_quot n W up V n0 (by omega) (by omega) (by omega))
  have OP := hid' (fun V => p_open n W V ok)
  generalize quo n W up = r at *
  clear ok hx n1
  go_enter Tryz.func78, Tryz.ntmps78
  go_wp2_with fail
  refine (OP.out _).mono ?_
  rintro e w1 ⟨rfl, hw⟩
  subst w1
  go_wp2_with fail
  refine (QU.out _).mono ?_
  rintro e w1 ⟨rfl, hw⟩
  subst w1
  go_wp2
  go_ret
  exact ⟨rfl, rfl⟩
theorem rise_bd {i : Int} (h0 : 0 ≤ i) (h1 : i ≤ 1023) : 0 ≤ gZ (i + 1) - gZ i ∧ gZ (i + 1) - gZ i ≤ 25129000 := by
  have a := gZ_step i
  have b : i * (1023 - i) ≤ i * 1023 := Int.mul_le_mul_of_nonneg_left (by omega) h0
  have c : 0 ≤ i * (1023 - i) := Int.mul_nonneg h0 (by omega)
  omega
theorem mul_bd {a b A B : Int} (a0 : 0 ≤ a) (b0 : 0 ≤ b) (h1 : a ≤ A) (h2 : b ≤ B) : 0 ≤ a * b ∧ a * b ≤ A * B :=
  ⟨Int.mul_nonneg a0 b0, Int.mul_le_mul h1 h2 b0 (by omega)⟩
set_option maxRecDepth 100000 in
set_option maxHeartbeats 3200000 in
theorem p_smooth (n W : Int) (up : Bool) (w : World) (ok : PullOk W n) :
    Calls Tryz.prog 77 #[.int .i64 n, .int .i64 W, .bool up] w fun e w' => e = .returned (.int .i64 (quo (pullU 2 W n) (pullD 2 W) up)) ∧ w' = w := by
  rw [← pull_smooth ok up]
  have hx := ok.x
  have hi := ok.i
  have hr := ok.r
  have hix := ok.ix
  have ⟨w0, w1, n0, n1⟩ := ok
  have n2 : n < 2597596220620800 := by omega
  have eX : W * 4294967296 = pX W := rfl
  have eI : quo (1024 * n) (pX W) false = pI W n := rfl
  have eR : 1024 * n - pI W n * pX W = pR W n := rfl
  have gi := gZ_bd (i := pI W n) hi.1 (by omega)
  have rb := rise_bd hi.1 hi.2
  have OP := hid' (fun V => p_open n W V ok)
  have Q1 := hid' (fun V => p_quot (1024 * n) (pX W) false V (by omega) (by omega) (by omega) (by omega))
  rw [eI] at Q1
  have C0 := hid' (fun V => p_curve (pI W n) V hi.1 (by omega))
  have C1 := hid' (fun V => p_curve (pI W n + 1) V (by omega) (by omega))
  have g1 := gZ_bd (i := pI W n + 1) (by omega) (by omega)
  have hmod0 : 0 ≤ pR W n % 4294967296 := Int.emod_nonneg _ (by decide)
  have hmod1 : pR W n % 4294967296 < 4294967296 := Int.emod_lt_of_pos _ (by decide)
  have hdiv0 : 0 ≤ pR W n / 4294967296 := Int.ediv_nonneg hr.1 (by decide)
  have hdiv1 : pR W n / 4294967296 ≤ 604800 := by omega
  have m1 := mul_bd rb.1 hmod0 rb.2 (show _ ≤ 4294967295 by omega)
  have m2 := mul_bd rb.1 hdiv0 rb.2 hdiv1
  generalize hri : gZ (pI W n + 1) - gZ (pI W n) = ri at *
  generalize gZ (pI W n) = h0 at *
  generalize gZ (pI W n + 1) = h1 at *
  generalize pI W n = i at *
  generalize pX W = X at *
  generalize pR W n = r at *
  generalize hp : ri * (r % 4294967296) = p at *
  generalize hq : ri * (r / 4294967296) = q at *
  have qb := quo_bd p 4294967296 25129000 up (by decide) m1.1 (by omega)
  have Q2 := hid' (fun V => p_quot p 4294967296 up V m1.1 (by decide) (by omega) (by decide))
  generalize hpp : quo p 4294967296 up = pp at *
  have qb2 := quo_bd (q + pp) W 15199000000000 up (by omega) (by omega) (Int.le_trans (show q + pp ≤ 15199000000000 by omega) (by omega))
  have Q3 := hid' (fun V => p_quot (q + pp) W up V (by omega) (by omega) (by omega) (by omega))
  generalize quo (q + pp) W up = z at *
  generalize hix2 : i * X = ix at *
  clear ok n1 hpp
  go_enter Tryz.func77, Tryz.ntmps77
  go_wp2_with fail
  refine (OP.out _).mono ?_
  rintro e w1 ⟨rfl, hw⟩
  subst w1
  go_wp2_with fail
  refine (Q1.out _).mono ?_
  rintro e w1 ⟨rfl, hw⟩
  subst w1
  go_wp2_with fail
  refine (C1.out _).mono ?_
  rintro e w1 ⟨rfl, hw⟩
  subst w1
  go_wp2_with fail
  refine (C0.out _).mono ?_
  rintro e w1 ⟨rfl, hw⟩
  subst w1
  go_wp2_with fail
  refine (Q2.out _).mono ?_
  rintro e w1 ⟨rfl, hw⟩
  subst w1
  go_wp2_with fail
  refine (C0.out _).mono ?_
  rintro e w1 ⟨rfl, hw⟩
  subst w1
  go_wp2_with fail
  refine (Q3.out _).mono ?_
  rintro e w1 ⟨rfl, hw⟩
  subst w1
  go_wp2
  go_ret
  exact ⟨rfl, rfl⟩
set_option maxRecDepth 100000 in
theorem p_pull (b : Nat) (s : Sv) (dv cv : Value) (op : Bool) (bs bf n : Int) (up : Bool) (w : World) (h : PRow b s dv cv op bs bf w) (ok : PullOk s.win n) (hm : s.mode = 1 ∨ s.mode = 2) :
    Calls Tryz.prog 51 #[.pointer (some ⟨b, 0, none⟩), .int .i64 n, .bool up] w fun e w' => e = .returned (.int .i64 (quo (pullU s.mode s.win n) (pullD s.mode s.win) up)) ∧ w' = w := by
  have c0 := h.c0
  have c1 := h.c1
  have SM := hid' (fun V => p_smooth n s.win up V ok)
  have LI := hid' (fun V => p_linear n s.win up V ok)
  clear h ok
  rcases hm with e | e
  · rw [e] at c0 ⊢
    generalize quo (pullU 1 s.win n) (pullD 1 s.win) up = r at *
    clear SM e
    go_enter Tryz.func51, Tryz.ntmps51
    go_wp2_with fail
    refine (LI.out _).mono ?_
    rintro e w1 ⟨rfl, hw⟩
    subst w1
    go_wp2
    go_ret
    exact ⟨rfl, rfl⟩
  · rw [e] at c0 ⊢
    generalize quo (pullU 2 s.win n) (pullD 2 s.win) up = r at *
    clear LI e
    go_enter Tryz.func51, Tryz.ntmps51
    go_wp2_with fail
    refine (SM.out _).mono ?_
    rintro e w1 ⟨rfl, hw⟩
    subst w1
    go_wp2
    go_ret
    exact ⟨rfl, rfl⟩
end Go.Proofs.YtmmkhodaljpjgabGreatDoor
namespace Go.Proofs.YtmmkhodaljpjgabGreatDoor
open Go.RowKit
namespace Tab
theorem lastAt_is (ls : List (Int × Int)) (sec : Int) (n : Nat) (k : Nat) (h : lastAt ls sec n = (k : Int)) : k < n ∧ when ls k ≤ sec ∧ ∀ i, k < i → i < n → sec < when ls i := by
  induction n with
  | zero => simp [lastAt] at h
  | succ n ih =>
    rw [lastAt] at h
    by_cases c : when ls n ≤ sec
    · rw [if_pos c] at h
      have : k = n := by omega
      subst this
      exact ⟨by omega, c, fun i a b => by omega⟩
    · rw [if_neg c] at h
      obtain ⟨a, b, e⟩ := ih h
      refine ⟨by omega, b, fun i x y => ?_⟩
      by_cases q : i = n
      · subst q; omega
      · exact e i x (by omega)
/-- The day of a second, from the entry that holds. -/
theorem Good.day_of {ls : List (Int × Int)} (h : Good ls) (sec : Int) (k : Nat) (hk : lastAt ls sec ls.length = (k : Int)) : Day ls sec ((sec - (ls.getD k (0, 0)).2) / 86400) := by
  obtain ⟨hkl, hw, hr⟩ := lastAt_is ls sec ls.length k hk
  have dk := h.day k hkl
  have fk := (h.fine _ (List.getElem_mem hkl)).2
  rw [← getD_at k hkl] at fk
  have fka := (h.fine _ (List.getElem_mem hkl)).1
  rw [← getD_at k hkl] at fka
  -- the entry behind
  have hnext : ∀ (hl : k + 1 < ls.length), sec < (ls.getD (k + 1) (0, 0)).1 + (ls.getD k (0, 0)).2 ∧ sec < (ls.getD (k + 1) (0, 0)).1 + (ls.getD (k + 1) (0, 0)).2 := fun hl => by
    have := hr (k + 1) (by omega) hl
    unfold when at this
    rw [show k + 1 - 1 = k from rfl] at this
    split at this <;> omega
  have hlater : ∀ i, k < i → i < ls.length → k + 1 < ls.length ∧ (ls.getD (k + 1) (0, 0)).1 ≤ (ls.getD i (0, 0)).1 := fun i a b => by
    by_cases e : i = k + 1
    · subst e; exact ⟨b, Int.le_refl _⟩
    · have := h.lt (k + 1) i (by omega) b; exact ⟨by omega, by omega⟩
  by_cases hA : (ls.getD k (0, 0)).1 ≤ sec - (ls.getD k (0, 0)).2
  · generalize hd : (sec - (ls.getD k (0, 0)).2) / 86400 = d
    have hd1 : (ls.getD k (0, 0)).1 ≤ d * 86400 := by omega
    have hd2 : d * 86400 ≤ sec - (ls.getD k (0, 0)).2 := by omega
    have hd3 : sec - (ls.getD k (0, 0)).2 < (d + 1) * 86400 := by omega
    have h0 : (ls.getD 0 (0, 0)).1 ≤ d * 86400 := by
      by_cases e : k = 0
      · subst e; exact hd1
      · have := h.lt 0 k (by omega) hkl; omega
    have hoff : offAt ls (d * 86400) (ls.length - 1) = (ls.getD k (0, 0)).2 := offAt_eq ls _ k (ls.length - 1) (by omega) hd1 (fun i a b => by
      have x := hlater i a (by omega)
      have y := hnext x.1
      omega)
    have hb : begins ls d = d * 86400 + (ls.getD k (0, 0)).2 := by unfold begins; rw [if_neg (by omega), hoff]
    refine ⟨h0, by omega, ?_⟩
    rw [hb]
    by_cases hl : k + 1 < ls.length
    · have y := hnext hl
      have dn := h.day (k + 1) hl
      by_cases e : (ls.getD (k + 1) (0, 0)).1 = (d + 1) * 86400
      · have hlen : length ls d = 86400 + (ls.getD (k + 1) (0, 0)).2 - (ls.getD k (0, 0)).2 := by
          unfold length
          rw [lenFrom_yes ls _ (ls.length - 1) 1 (k + 1) (by omega) (by omega) e (fun q a b => by
            have := h.lt q (k + 1) b hl; omega)]
          rfl
        rw [hlen]
        rcases h.off k hl with o | o <;> omega
      · have hlen : length ls d = 86400 := by
          unfold length
          apply lenFrom_no
          intro t a b q
          by_cases c : t ≤ k
          · have : (ls.getD t (0, 0)).1 ≤ (ls.getD k (0, 0)).1 := by
              by_cases e' : t = k
              · subst e'; exact Int.le_refl _
              · have := h.lt t k (by omega) hkl; omega
            omega
          · have := hlater t (by omega) (by omega)
            omega
        rw [hlen]; omega
    · have hlen : length ls d = 86400 := by
        unfold length
        apply lenFrom_no
        intro t a b q
        have : (ls.getD t (0, 0)).1 ≤ (ls.getD k (0, 0)).1 := by
          by_cases e' : t = k
          · subst e'; exact Int.le_refl _
          · have := h.lt t k (by omega) hkl; omega
        omega
      rw [hlen]; omega
  · -- the second that is put in
    have hk0 : 0 < k := by
      by_cases e : k = 0
      · subst e; unfold when at hw; simp at hw; simp at hA; omega
      · omega
    obtain ⟨j, rfl⟩ : ∃ j, k = j + 1 := ⟨k - 1, by omega⟩
    have dj := h.day j (by omega)
    have uj := h.up j hkl
    have oj := h.off j hkl
    have hs : sec = (ls.getD (j + 1) (0, 0)).1 + (ls.getD j (0, 0)).2 ∧ (ls.getD (j + 1) (0, 0)).2 = (ls.getD j (0, 0)).2 + 1 := by
      unfold when at hw
      rw [show j + 1 - 1 = j from rfl] at hw
      split at hw <;> rcases oj with o | o <;> omega
    have hd : (sec - (ls.getD (j + 1) (0, 0)).2) / 86400 = (ls.getD (j + 1) (0, 0)).1 / 86400 - 1 := by omega
    rw [hd]
    generalize hdd : (ls.getD (j + 1) (0, 0)).1 / 86400 - 1 = d
    have e1 : (d + 1) * 86400 = (ls.getD (j + 1) (0, 0)).1 := by omega
    have hd1 : (ls.getD j (0, 0)).1 ≤ d * 86400 := by omega
    have h0 : (ls.getD 0 (0, 0)).1 ≤ d * 86400 := by
      by_cases e : j = 0
      · subst e; exact hd1
      · have := h.lt 0 j (by omega) (by omega); omega
    have hoff : offAt ls (d * 86400) (ls.length - 1) = (ls.getD j (0, 0)).2 := offAt_eq ls _ j (ls.length - 1) (by omega) hd1 (fun i a b => by
      by_cases e : i = j + 1
      · subst e; omega
      · have := h.lt (j + 1) i (by omega) (by omega); omega)
    have hb : begins ls d = d * 86400 + (ls.getD j (0, 0)).2 := by unfold begins; rw [if_neg (by omega), hoff]
    have hlen : length ls d = 86400 + (ls.getD (j + 1) (0, 0)).2 - (ls.getD j (0, 0)).2 := by
      unfold length
      rw [lenFrom_yes ls _ (ls.length - 1) 1 (j + 1) (by omega) (by omega) e1.symm (fun q a b => by
        have := h.lt q (j + 1) b hkl; omega)]
      rfl
    exact ⟨h0, by omega, by omega⟩
end Tab
theorem Tab.lastAt_left (a b : List (Int × Int)) (sec : Int) (k : Nat) (hk : k ≤ a.length) : Tab.lastAt (a ++ b) sec k = Tab.lastAt a sec k := by
  induction k with
  | zero => rfl
  | succ k ih =>
    unfold Tab.lastAt
    rw [Tab.when_append a b k (by omega), ih (by omega)]
theorem Tab.lastAt_more (ls : List (Int × Int)) (sec : Int) (n k : Nat) (h : ∀ i, n ≤ i → i < n + k → sec < Tab.when ls i) : Tab.lastAt ls sec (n + k) = Tab.lastAt ls sec n := by
  induction k with
  | zero => rfl
  | succ k ih =>
    have st : Tab.lastAt ls sec (n + k + 1) = if Tab.when ls (n + k) ≤ sec then ((n + k : Nat) : Int) else Tab.lastAt ls sec (n + k) := rfl
    rw [← Nat.add_assoc, st]
    rw [if_neg (by have := h (n + k) (by omega) (by omega); omega)]
    exact ih (fun i a b => h i a (by omega))
/-- Entries that do not begin at that day's end turn nothing. -/
theorem Tab.length_left (a b : List (Int × Int)) (d : Int) (hp : 0 < a.length) (h : ∀ i, a.length ≤ i → i < (a ++ b).length → ((a ++ b).getD i (0, 0)).1 ≠ (d + 1) * 86400) : Tab.length (a ++ b) d = Tab.length a d := by
  unfold Tab.length
  have eq : ∀ i, i < a.length → (a ++ b).getD i (0, 0) = a.getD i (0, 0) := fun i hi => getD_leftI a b i hi
  by_cases c : ∃ t, 1 ≤ t ∧ t < a.length ∧ (a.getD t (0, 0)).1 = (d + 1) * 86400 ∧ ∀ q, 1 ≤ q → q < t → (a.getD q (0, 0)).1 ≠ (d + 1) * 86400
  · obtain ⟨t, t1, t2, t3, t4⟩ := c
    rw [Tab.lenFrom_yes a _ _ 1 t t1 (by omega) t3 t4]
    rw [Tab.lenFrom_yes (a ++ b) _ _ 1 t t1 (by simp; omega) (by rw [eq t t2]; exact t3) (fun q q1 q2 => by rw [eq q (by omega)]; exact t4 q q1 q2)]
    rw [eq t t2, eq (t - 1) (by omega)]
  · have no : ∀ n t, t ≤ n → 1 ≤ t → t < a.length → (a.getD t (0, 0)).1 ≠ (d + 1) * 86400 := fun n => by
      induction n with
      | zero => intro t h0 h1; omega
      | succ n ih =>
        intro t h0 h1 h2 h3
        exact c ⟨t, h1, h2, h3, fun q q1 q2 => ih q (by omega) q1 (by omega)⟩
    rw [Tab.lenFrom_no a _ _ 1 (fun t t1 t2 => no t t (Nat.le_refl _) t1 (by omega))]
    rw [Tab.lenFrom_no (a ++ b) _ _ 1 (fun t t1 t2 => by
      by_cases e : t < a.length
      · rw [eq t e]; exact no t t (Nat.le_refl _) t1 e
      · exact h t (by omega) (by have : (a ++ b).length = a.length + b.length := by simp
                                 omega))]
theorem Sv.Inv.step_com {x : Sv} (h : x.Inv) (hl : x.ld = true) (hm : x.mode = 0) (i : Nat) (hi : i < x.com.length) : x.ns < Tab.when x.all (x.done.length + i) := by
  have m := h.mid hl
  have hw : x.win = 0 := by
    rcases h.num.mode with ⟨_, a⟩ | ⟨a, _⟩
    · exact a
    · omega
  have c := m.cg i x.com[i] (List.getElem?_eq_getElem hi)
  have l := is_later (h.lat hl _ (List.getElem_mem hi))
  obtain ⟨t0, t1, t2, t3⟩ := h.num.t'
  have := c.hi
  have := c.lo
  omega
theorem Sv.known_all (x : Sv) : ∃ r, x.all = x.known ++ r := by
  unfold Sv.all Sv.known
  cases x.com with
  | nil => exact ⟨[], by simp⟩
  | cons c r => exact ⟨r.map cmP, by simp [cmP]⟩
theorem Sv.known_len (x : Sv) : x.known.length = min (x.done.length + 1) (x.done.length + x.com.length) := by
  unfold Sv.known
  cases x.com with
  | nil => simp
  | cons c r => simp
/-- What the indicator is taken from. -/
structure Sv.IndOk (x : Sv) (k : Nat) : Prop where
  good : Tab.Good x.known
  gall : Tab.Good x.all
  k1 : k < x.done.length
  utc : x.utc = x.ns - (x.done.getD k (0, 0)).2
  all : Tab.lastAt x.all x.ns x.all.length = k
  atk : (x.all.getD k (0, 0)).2 = (x.done.getD k (0, 0)).2
  day : Tab.Day x.known x.ns (x.utc / 86400)
  len : Tab.length x.all (x.utc / 86400) = Tab.length x.known (x.utc / 86400)
  u0 : 0 ≤ x.utc
  u1 : x.utc ≤ 34000000000
theorem Sv.Inv.indOk {x : Sv} (h : x.Inv) (hl : x.ld = true) (hm : x.mode = 0) : ∃ k, x.IndOk k := by
  have m := h.mid hl
  obtain ⟨t0, t1, t2, t3⟩ := h.num.t'
  have sc := h.step_com hl hm
  have l := m.doneFit.lastAt_le x.ns m.firstD
  have ub := m.doneFit.utc_bd x.ns m.firstD
  obtain ⟨k, hk⟩ : ∃ k : Nat, Tab.lastAt x.done x.ns x.done.length = (k : Int) := ⟨(Tab.lastAt x.done x.ns x.done.length).toNat, by omega⟩
  have ek : (Tab.lastAt x.done x.ns x.done.length).toNat = k := by omega
  have k1 : k < x.done.length := by omega
  obtain ⟨r, hr⟩ := x.known_all
  have kl := x.known_len
  have al := x.all_length
  have ut : x.utc = x.ns - (x.done.getD k (0, 0)).2 := by unfold Sv.utc; rw [ek]
  rw [ek] at ub
  have fk : Tab.Fit x.known := by
    have := m.fit
    rw [hr] at this
    exact this.left (by have := m.pos; omega)
  have la : Tab.lastAt x.all x.ns x.all.length = k := by
    rw [al, Tab.lastAt_more x.all x.ns _ _ (fun i a b => by
      have := sc (i - x.done.length) (by omega)
      rw [show x.done.length + (i - x.done.length) = i from by omega] at this
      exact this)]
    unfold Sv.all
    rw [Tab.lastAt_left _ _ _ _ (Nat.le_refl _), hk]
  have lk : Tab.lastAt x.known x.ns x.known.length = k := by
    have e1 := Tab.lastAt_left x.known r x.ns x.known.length (Nat.le_refl _)
    rw [← hr] at e1
    rw [← e1]
    have e2 : x.known.length = x.done.length + (x.known.length - x.done.length) := by omega
    rw [e2, Tab.lastAt_more x.all x.ns _ _ (fun i a b => by
      have := sc (i - x.done.length) (by omega)
      rw [show x.done.length + (i - x.done.length) = i from by omega] at this
      exact this)]
    unfold Sv.all
    rw [Tab.lastAt_left _ _ _ _ (Nat.le_refl _), hk]
  have gk : x.known.getD k (0, 0) = x.done.getD k (0, 0) := by
    unfold Sv.known; exact getD_leftI _ _ _ k1
  have ga : x.all.getD k (0, 0) = x.done.getD k (0, 0) := by
    unfold Sv.all; exact getD_leftI _ _ _ k1
  have dy := fk.good.day_of x.ns k lk
  rw [gk, ← ut] at dy
  refine ⟨k, fk.good, m.fit.good, k1, ut, la, by rw [ga], dy, ?_, by rw [ut]; exact ub.1, by rw [ut]; omega⟩
  have ha : x.all.length = (x.known ++ r).length := by rw [hr]
  rw [hr]
  refine Tab.length_left x.known r _ (by have := m.pos; omega) (fun i i1 i2 e => ?_)
  rw [← hr] at e i2
  have hc : 1 < x.com.length := by omega
  have s0 := sc 0 (by omega)
  have wb := m.fit.when_bd x.done.length (by omega)
  have gp := m.fit.good.lt x.done.length i (by omega) i2
  have f1 := m.fit.isFirst x.done.length (by omega)
  have f2 := m.fit.isFirst i i2
  have fg := Tab.first_gap f1 f2 gp
  have bd := m.fit.bd x.done.length (by omega)
  have dd := Int.emod_add_mul_ediv x.utc 86400
  simp only [Nat.add_zero] at s0
  omega
namespace Tab
theorem Good.lenFrom_three {ls : List (Int × Int)} (h : Good ls) (D : Int) (m i : Nat) (hi : 1 ≤ i) (hm : i + m ≤ ls.length) : 86399 ≤ lenFrom ls D i m ∧ lenFrom ls D i m ≤ 86401 := by
  induction m generalizing i with
  | zero => simp [lenFrom]
  | succ m ih =>
    simp only [lenFrom]
    split
    · have := h.off (i - 1) (by omega)
      rw [show i - 1 + 1 = i from by omega] at this
      omega
    · exact ih (i + 1) (by omega) (by omega)
theorem Good.three {ls : List (Int × Int)} (h : Good ls) (d : Int) : 86399 ≤ length ls d ∧ length ls d ≤ 86401 :=
  h.lenFrom_three _ _ _ (Nat.le_refl _) (by have := h.pos; omega)
end Tab
set_option maxRecDepth 100000 in
theorem day_length (g cap n : Nat) (ls : List (Int × Int)) (d : Int) (w : World) (hn : ls.length = n) (hp : 0 < n) (hl : Lies w g ls) (hf : Fine ls) (hb : n ≤ 100000) (d0 : -10 ≤ d) (d1 : d ≤ 500000) :
    Calls Tryz.prog 76 #[.slice (some ⟨g, 0, none⟩) n cap, .int .i64 d] w fun e w' => e = .returned (.int .i64 (Tab.length ls d)) ∧ ∃ m, w' = w.drewN m := by
  have HL := hid' hl
  have HF := hid' hf
  have HN := hid' hn
  have H : Hid (Tab.length ls d = Tab.lenFrom ls ((d + 1) * 86400) 1 (n - 1)) := by show _ = _; unfold Tab.length; rw [hn]
  clear hl hf hn
  go_enter Tryz.func76, Tryz.ntmps76
  go_wp2
  go_loop [6] (fun i => ∃ k : Nat, k + 1 ≤ n ∧ i = .int .i64 ((k : Int) + 1) ∧ Tab.length ls d = Tab.lenFrom ls ((d + 1) * 86400) (k + 1) (n - (k + 1))) (fun i => n - (intOf i).toNat)
  case atStart => exact ⟨0, by omega, rfl, H.out⟩
  case round =>
    obtain ⟨k, hk, rfl, hrl⟩ := hrel
    have HRL := hid' hrl
    clear hrl H
    by_cases hlt : k + 1 < n
    · have hkl : k + 1 < ls.length := by rw [HN.out]; exact hlt
      obtain ⟨e1, e2⟩ := HL.out (k + 1) hkl
      obtain ⟨_, b2⟩ := HL.out k (by omega)
      have hfq := HF.out _ (List.getElem_mem hkl)
      have hfp := HF.out _ (List.getElem_mem (show k < ls.length by omega))
      have hS : Hid (Tab.length ls d = if ls[k + 1].1 = (d + 1) * 86400 then 86400 + ls[k + 1].2 - (ls[k]'(by omega)).2 else Tab.lenFrom ls ((d + 1) * 86400) (k + 1 + 1) (n - (k + 1 + 1))) := by
        show _ = _
        rw [HRL.out, show n - (k + 1) = n - (k + 1 + 1) + 1 from by omega, Tab.lenFrom, getD_at (k + 1) hkl, show k + 1 - 1 = k from rfl, getD_at k (by omega)]
      generalize ls[k + 1] = q at *
      generalize ls[k]'(by omega) = p at *
      clear hkl
      obtain ⟨qa, qo⟩ := q
      obtain ⟨pa, po⟩ := p
      simp only at e1 e2 hfq b2 hfp
      by_cases hle : qa = (d + 1) * 86400
      · have H2 : Hid (Tab.length ls d = 86400 + qo - po) := by show _ = _; rw [hS.out]; simp only; rw [if_pos hle]
        have hbq : (qa == (d + 1) * 86400) = true := by rw [beq_iff_eq]; exact hle
        clear hle hS HRL
        have r0 : IntKind.i64.wrap ((k : Int) + 1 - 1) = (k : Int) := by rw [IntKind.wrap_i64]; omega
        have r1 : IntKind.i64.wrap (86400 + qo) = 86400 + qo := by rw [IntKind.wrap_i64]; omega
        have r2 : IntKind.i64.wrap (86400 + qo - po) = 86400 + qo - po := by rw [IntKind.wrap_i64]; omega
        have z0 : (0 : Int) ≤ (k : Int) := by omega
        have z1 : (k : Int) < (n : Int) := by omega
        have z2 : (0 : Int) ≤ (k : Int) + 1 := by omega
        have z3 : (k : Int) + 1 < (n : Int) := by omega
        have z4 : ((k : Int) + 1).toNat = k + 1 := by omega
        go_wp2_with fail
        go_quiet (fail)
        go_wp2
        go_ret
        exact ⟨ret_int H2.out.symm, nq, rfl⟩
      · have H2 : Hid (Tab.length ls d = Tab.lenFrom ls ((d + 1) * 86400) (k + 1 + 1) (n - (k + 1 + 1))) := by show _ = _; rw [hS.out]; simp only; rw [if_neg hle]
        have hbq : (qa == (d + 1) * 86400) = false := by rw [beq_eq_false_iff_ne]; exact hle
        clear hle hS HRL
        go_wp2
        exact ⟨⟨k + 1, by omega, by go_num, H2.out⟩, by simp [intOf]; omega⟩
    · have H2 : Hid (Tab.length ls d = 86400) := by show _ = _; rw [HRL.out, show n - (k + 1) = 0 from by omega]; rfl
      go_wp2
      go_ret
      exact ⟨ret_int H2.out.symm, 0, rfl⟩
theorem Held.below {w w' : World} {lv : Value} {ls : List (Int × Int)} (h : Held w lv ls) (hb : Below w.heap.size w w') : Held w' lv ls := by
  rcases h with h | ⟨h3, g, cap, rfl, hcap, hgl, hlies⟩
  · exact .inl h
  · exact .inr ⟨h3, g, cap, rfl, hcap, by have := hb.size; omega, hlies.below hgl hb⟩
theorem day_of (sec off : Int) (w : World) (h0 : 0 ≤ sec - off) (h1 : 0 ≤ off) (h2 : off ≤ 1000) (h3 : sec ≤ 1000000000000) :
    Calls Tryz.prog 75 #[.int .i64 sec, .int .i64 off] w fun e w' => e = .returned (.int .i64 ((sec - off) / 86400)) ∧ w' = w := by
  go_enter Tryz.func75, Tryz.ntmps75
  go_wp2
  go_ret
  exact ⟨rfl, rfl⟩
end Go.Proofs.YtmmkhodaljpjgabGreatDoor
