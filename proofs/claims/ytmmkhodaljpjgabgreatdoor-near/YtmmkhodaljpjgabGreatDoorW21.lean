import Derived.Test.YtmmkhodaljpjgabGreatDoorW20
import Derived.Deep.RegionHeld3
namespace Go.Proofs.YtmmkhodaljpjgabGreatDoor
open Go.RowKit
attribute [local go_sem ↓] Go.wp_at_zero Go.wp_at_succ
set_option maxRecDepth 100000 in
theorem label_extra (g cap n k : Nat) (ls : List (Int × Int)) (sec : Int) (w : World) (hn : ls.length = n) (hl : Lies w g ls) (hG : Tab.Good ls) (hb : n ≤ 900) (hk : Tab.lastAt ls sec n = (k : Int)) (u0 : 0 ≤ sec - (ls.getD k (0, 0)).2) (s1 : sec ≤ 34000000000) :
    Calls Tryz.prog 48 #[.slice (some ⟨g, 0, none⟩) n cap, .int .i64 sec] w fun e w' => e = .returned (.int .i64 (Tab.length ls ((sec - (ls.getD k (0, 0)).2) / 86400) - 86400)) ∧ ∃ m, w' = w.drewN m := by
  have lb := Tab.lastAt_bd ls sec n
  have kl : k < ls.length := by omega
  have fb := (hG.fine _ (List.getElem_mem kl)).2
  have e1 := (hl k kl).2
  have eg := getD_at (ls := ls) k kl
  rw [eg] at u0 ⊢
  have three := hG.three ((sec - (ls[k]'kl).2) / 86400)
  have HO := hid' (holder_any g cap n ls sec w hn hl hG.fine (by omega))
  rw [hk] at HO
  have DO := hid' (fun W => day_of sec (ls[k]'kl).2 W u0 (by omega) (by omega) (by omega))
  have DL := hid' (day_length g cap n ls ((sec - (ls[k]'kl).2) / 86400) w hn (by omega) hl hG.fine (by omega) (by omega) (by omega))
  generalize Tab.length ls ((sec - (ls[k]'kl).2) / 86400) = L at *
  generalize (ls[k]'kl).2 = po at *
  generalize (sec - po) / 86400 = d at *
  have hki : (0 : Int) ≤ (k : Int) := by omega
  have hkn : (k : Int) < (n : Int) := by omega
  clear hl hG eg lb hk kl hn
  go_enter Tryz.func48, Tryz.ntmps48
  go_wp2_with fail
  refine HO.out.mono ?_
  rintro e w1 ⟨rfl, hw⟩
  subst w1
  go_wp2_with fail
  refine (DO.out _).mono ?_
  rintro e w1 ⟨rfl, hw⟩
  subst w1
  go_wp2_with fail
  refine DL.out.mono ?_
  rintro e w1 ⟨rfl, m, hw⟩
  have HW := hid' hw
  clear hw
  go_wp2
  go_ret
  exact ⟨rfl, m, HW.out⟩
set_option maxRecDepth 100000 in
set_option maxHeartbeats 6400000 in
theorem srv_entries (b : Nat) (s : Sv) (dv cv : Value) (op : Bool) (bs bf : Int) (w : World) (h : PRow b s dv cv op bs bf w) (hl : s.done.length + s.com.length ≤ 800) :
    Calls Tryz.prog 47 #[.pointer (some ⟨b, 0, none⟩)] w fun e w' => ∃ v, e = .returned v ∧ w'.ownsRow w.heap.size 49 2 v s.all.length (flat s.all) ∧ Below w.heap.size w w' := by
  obtain ⟨i0, hi0, hz0, hz1, hz2⟩ := info_parts infoALeap
  obtain ⟨da, dcp, hdv⟩ := own_slice h.dd
  subst hdv
  obtain ⟨ca, ccp, hcv⟩ := own_slice h.cc
  subst hcv
  have HP := hid' h
  have lb := h.lt
  have c9 := h.c9
  have CO := hid' (copy_of da s.done.length dcp s.done w (read_of h.dd rfl) rfl (by omega))
  clear h
  go_enter Tryz.func47, Tryz.ntmps47
  go_wp2_with fail
  refine CO.out.mono ?_
  rintro e w1 ⟨v1, rfl, own1, hb1⟩
  have OWN1 := hid' own1
  have HB1 := hid' hb1
  clear own1 hb1 CO c9
  go_wp2_with fail
  go_loopw [3, 4] (fun v i wr => ∃ k : Nat, k ≤ s.com.length ∧ i = .int .i64 k ∧ wr.ownsRow w.heap.size 49 2 v (s.done.length + k) (flat (s.done ++ (s.com.take k).map cmP)) ∧ Below w.heap.size w wr) (fun _ i _ => s.com.length - (intOf i).toNat)
  case atStart => exact ⟨0, by omega, rfl, by simpa using OWN1.out, HB1.out⟩
  case round =>
    obtain ⟨k, hk, rfl, own, hb⟩ := hrel
    have OWN := hid' own
    have HB := hid' hb
    have hsz := hb.size
    have P1 := hid' (HP.out.below hb)
    have q10 := P1.out.c10
    have lbr := P1.out.lt
    obtain ⟨va, vcp, hv⟩ := own_slice own
    subst hv
    by_cases hlt : k < s.com.length
    · have hli : (k : Int) < (s.com.length : Int) := by omega
      have hk0i : (0 : Int) ≤ (k : Int) := by omega
      obtain ⟨gc, cg, hg⟩ := own_some P1.out.cc (show 0 < s.com.length by omega)
      obtain ⟨rfl, _, rfl⟩ := Value.slice.inj hg
      have lgc : gc < w.heap.size := (HP.out.cc.lt _ rfl).2
      have a0 := (P1.out.cc.cellAt (k * 5) (by omega)).trans (flatC_at s.com k hlt 0 (by omega))
      have a1 := (P1.out.cc.cellAt (k * 5 + 1) (by omega)).trans (flatC_at s.com k hlt 1 (by omega))
      have htk : (s.com.take (k + 1)).map cmP = (s.com.take k).map cmP ++ [cmP s.com[k]] := by
        rw [List.take_succ_eq_append_getElem hlt, List.map_append]; rfl
      have HTK := hid' htk
      generalize s.com[k] = c at *
      obtain ⟨cA, cO, cS, cF, cV⟩ := c
      simp [Cm.cells] at a0 a1
      have NB : Hid (some b ≠ (Value.slice va (s.done.length + k) vcp).ownBlock) := fun e => by have := own_ge OWN.out b e.symm; omega
      have NG : Hid (some gc ≠ (Value.slice va (s.done.length + k) vcp).ownBlock) := fun e => by have := own_ge OWN.out gc e.symm; omega
      have lgr : gc < wr.heap.size := by omega
      have BAL := (Below.refl wr.heap.size wr).alloc (Nat.le_refl _) (.cells #[.int .i64 cA, .int .i64 cO] 49)
      have m10 := (BAL.cell (p := ⟨b, 10, none⟩) lbr).trans q10
      have m0 := (BAL.cell (p := ⟨gc, k * 5, none⟩) lgr).trans a0
      have m1 := (BAL.cell (p := ⟨gc, k * 5 + 1, none⟩) lgr).trans a1
      have nb1 : ¬ b = wr.heap.size := by omega
      have nb2 : ¬ wr.heap.size = b := by omega
      have ng1 : ¬ gc = wr.heap.size := by omega
      have ng2 : ¬ wr.heap.size = gc := by omega
      clear own hb hg htk BAL
      go_upto_region 5 with fail
      go_region_held3 (fun w' => w'.cell? ⟨b, 10, none⟩ = some (.slice (some ⟨gc, 0, none⟩) s.com.length ccp) ∧ w'.cell? ⟨gc, k * 5, none⟩ = some (.int .i64 cA) ∧ w'.cell? ⟨gc, k * 5 + 1, none⟩ = some (.int .i64 cO)) (go_keep)
        (first
          | (refine step_append_lies _ ?_ (.tmp 21) (.tmp 41) 27 ?_ w.heap.size 49 i0 (.agg #[.int .i64 0, .int .i64 0]) 2 16 Tryz.underlying27 hi0 hz0 hz1 hz2 rfl (by decide) (.slice va (s.done.length + k) vcp) (s.done.length + k) (flat (s.done ++ (s.com.take k).map cmP)) ?_ ?_ ⟨wr.heap.size, 0, none⟩ 1 1 [.int .i64 cA, .int .i64 cO] ?_ ?_ ?_ ?_ ?_ ?_ ?_ ?_ (wr.heap.size + 1) ?_ ?_; exact rfl; exact rfl; exact rfl; exact (OWN.out.alloc _).drew; exact rfl; exact rfl; exact (World.news_of_block (cs := #[.int .i64 cA, .int .i64 cO]) (t := 49) (fr := (0, 0)) (heap_alloc_new wr _)); (simp [Value.oneCell']); decide; (unfold maxLen; omega); omega; (simp; omega); (simp); intro gg cap6 w6 own6 hg6 hat6 hlt6; have k10 := (hg6.cell (a := ⟨b, 10, none⟩) (v := .slice (some ⟨gc, 0, none⟩) s.com.length ccp) (by exact m10) NB.out); have k0 := (hg6.cell (a := ⟨gc, k * 5, none⟩) (v := .int .i64 cA) (by exact m0) NG.out); have k1 := (hg6.cell (a := ⟨gc, k * 5 + 1, none⟩) (v := .int .i64 cO) (by exact m1) NG.out); have OWN6 := hid' own6; have HG6 := hid' hg6; clear own6 hg6 hat6))
      all_goals
        go_wp2
        go_roundw
        case rel =>
          refine ⟨k + 1, by omega, by go_num, ?_, ((HB.out.alloc hsz _).drew).grown HG6.out (by simp; omega) (own_ge OWN.out)⟩
          rw [HTK.out, ← List.append_assoc, flat_append]; exact OWN6.out
        case measure => simp [intOf]; omega
    · have hnl : ¬ (k : Int) < (s.com.length : Int) := by omega
      obtain rfl : k = s.com.length := by omega
      clear own hb
      go_wp2
      go_ret
      refine ⟨_, rfl, ?_, HB.out⟩
      have q := OWN.out
      rw [List.take_length] at q
      rw [s.all_length]
      exact q
set_option maxRecDepth 100000 in
theorem srv_indicator_no (b : Nat) (s : Sv) (dv cv : Value) (op : Bool) (bs bf : Int) (w : World) (h : PRow b s dv cv op bs bf w) (hm : s.mode ≠ 0) :
    Calls Tryz.prog 32 #[.pointer (some ⟨b, 0, none⟩)] w fun e w' => e = .returned (.int .i64 0) ∧ Below w.heap.size w w' := by
  have c0 := h.c0
  have e0 : (s.mode != 0) = true := bne_iff_ne.2 hm
  clear h hm
  go_enter Tryz.func32, Tryz.ntmps32
  go_wp2
  go_ret
  exact ⟨rfl, Below.refl _ _⟩
set_option maxRecDepth 100000 in
set_option maxHeartbeats 1600000 in
theorem srv_indicator (b : Nat) (s : Sv) (dv cv : Value) (op : Bool) (bs bf : Int) (k : Nat) (w : World) (h : PRow b s dv cv op bs bf w) (hI : s.Inv) (hm : s.mode = 0) (hk : s.IndOk k) :
    Calls Tryz.prog 32 #[.pointer (some ⟨b, 0, none⟩)] w fun e w' => e = .returned (.int .i64 (s.ind (s.utc / 86400))) ∧ Below w.heap.size w w' := by
  have c0 := h.c0
  rw [hm] at c0
  have hlen := hI.lens
  obtain ⟨t0, t1, t2, t3⟩ := hI.num.t'
  have EN := hid' (srv_entries b s dv cv op bs bf w h (by omega))
  have HP := hid' h
  have al := s.all_length
  have hall : 0 < s.all.length := by have := hk.k1; omega
  have hu : s.ns - (s.all.getD k (0, 0)).2 = s.utc := by rw [hk.atk, hk.utc]
  have EX := hid' (fun (g cap : Nat) (W : World) (hl : Lies W g s.all) => label_extra g cap s.all.length k s.all s.ns W rfl hl hk.gall (by omega) hk.all (by rw [hu]; exact hk.u0) t1)
  rw [hu, hk.len] at EX
  have three := hk.good.three (s.utc / 86400)
  have HIN : Hid (s.ind (s.utc / 86400) = if 86400 < Tab.length s.known (s.utc / 86400) then 1 else if Tab.length s.known (s.utc / 86400) < 86400 then 2 else 0) := rfl
  generalize s.ind (s.utc / 86400) = r at *
  generalize Tab.length s.known (s.utc / 86400) = L at *
  generalize hal : s.all.length = n at *
  have b0 : ((0 : Int) != 0) = false := rfl
  clear h hI hk hu al
  go_enter Tryz.func32, Tryz.ntmps32
  go_wp2_with fail
  refine EN.out.mono ?_
  rintro e w1 ⟨v1, rfl, own1, hb1⟩
  obtain ⟨g, cg, hg⟩ := own_some own1 hall
  subst hg
  have LI := hid' (lies_of own1 hal)
  have B1 := hid' hb1
  have P1 := hid' (HP.out.below hb1)
  have c4 := P1.out.c4
  clear own1 hb1 EN c0
  go_wp2_with fail
  refine (EX.out g cg _ LI.out).mono ?_
  rintro e w2 ⟨rfl, m, hw⟩
  have B2 := hid' (show Below w.heap.size w w2 by rw [hw]; exact below_drewN B1.out m)
  clear hw EX c4
  by_cases z1 : L = 86401
  · have H : Hid (r = 1) := by show _ = _; rw [HIN.out, if_pos (by omega)]
    subst z1
    go_wp2
    go_ret
    exact ⟨congrArg (fun v => Ending.returned (.int .i64 v)) H.out.symm, B2.out⟩
  · by_cases z2 : L = 86399
    · have H : Hid (r = 2) := by show _ = _; rw [HIN.out, if_neg (by omega), if_pos (by omega)]
      subst z2
      go_wp2
      go_ret
      exact ⟨congrArg (fun v => Ending.returned (.int .i64 v)) H.out.symm, B2.out⟩
    · obtain rfl : L = 86400 := by omega
      have H : Hid (r = 0) := by show _ = _; rw [HIN.out, if_neg (by omega), if_neg (by omega)]
      clear z1 z2
      go_wp2
      go_ret
      exact ⟨congrArg (fun v => Ending.returned (.int .i64 v)) H.out.symm, B2.out⟩
end Go.Proofs.YtmmkhodaljpjgabGreatDoor
