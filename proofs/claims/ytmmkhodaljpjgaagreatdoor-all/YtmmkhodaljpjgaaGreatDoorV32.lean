import Derived.Test.YtmmkhodaljpjgaaGreatDoorV29
import Derived.Deep.RegionHeld3
import Derived.Deep.Cut
import Derived.Deep.CutBlock
import Derived.Deep.CutRange
import Derived.Test.YtmmkhodaljpjgaaGreatDoorV31
import Derived.Test.YtmmkhodaljpjgaaGreatDoorV30
import Derived.Deep.QuietTactic
import Derived.BigQuiet
set_option maxRecDepth 100000
set_option maxHeartbeats 6400000
namespace Go.Proofs.YtmmkhodaljpjgaaGreatDoor
open Go.RowKit
attribute [local go_sem ↓] Go.wp_at_zero Go.wp_at_succ
theorem v_fresh (sd:Bool) (lp ws wf s f fr:Int) (w:World) (t0:0 ≤ s) (t1:s ≤ 34000000000) (f0:0 ≤ f) (f1:f < 4294967296) (hk:(⟨sd,lp,ws,wf⟩:Hd).Ok) :
  Calls Tryz.prog 216 #[.agg #[.bool sd,.int .i64 lp,.int .i64 ws,.int .i64 wf],.agg #[.int .i64 s,.int .i64 f],.int .i64 fr] w fun e w' => e = .returned (.bool (sd && !tLater (gone s f ws wf).1 (gone s f ws wf).2 fr 0)) ∧ Below w.heap.size w w':=by
 obtain ⟨k0,k1,k2,k3⟩:=hk
 simp only at k0 k1 k2 k3
 have GO:=hid' (fun W => clk_gone s f ws wf W (by omega) (by omega) (by omega) (by omega) f0 f1 k2 k3)
 generalize gone s f ws wf = gg at *
 obtain ⟨ga,gb⟩:=gg
 simp only at GO
 have EA:=hid' (fun W => clk_earlier fr 0 ga gb W)
 generalize tLater ga gb fr 0 = lt at *
 have B0:=hid' (((Below.refl w.heap.size w).alloc (Nat.le_refl _) (.cells #[.bool sd,.int .i64 lp,.int .i64 ws,.int .i64 wf] 148)).alloc (by simp) (.cells #[.int .i64 s,.int .i64 f] 98))
 have R0:=hid' (heap_alloc2_old w (.cells #[.bool sd,.int .i64 lp,.int .i64 ws,.int .i64 wf] 148) (.cells #[.int .i64 s,.int .i64 f] 98))
 have R1:=hid' (heap_alloc2_new w (.cells #[.bool sd,.int .i64 lp,.int .i64 ws,.int .i64 wf] 148) (.cells #[.int .i64 s,.int .i64 f] 98))
 go_enter Tryz.func216,Tryz.ntmps216
 go_upto_region 1 with fail
 generalize hV:(w.alloc (.cells #[.bool sd,.int .i64 lp,.int .i64 ws,.int .i64 wf] 148)).alloc (.cells #[.int .i64 s,.int .i64 f] 98) = V at *
 clear hV
 have a2:=cell_of_row _ _ 2 _ _ _ R0.out
 have a3:=cell_of_row _ _ 3 _ _ _ R0.out
 have b0:=cell_of_row _ _ 0 _ _ _ R1.out
 have b1:=cell_of_row _ _ 1 _ _ _ R1.out
 simp at a2 a3 b0 b1
 go_wp2_with fail
 refine (GO.out _).mono ?_
 rintro e w1 ⟨rfl,hb1⟩
 have a0:=(hb1.cell (p:=⟨w.heap.size,0,none⟩) (lt_of_heap R0.out)).trans (cell_of_row _ _ 0 _ _ _ R0.out)
 have lq:w.heap.size < w1.heap.size:=Nat.lt_of_lt_of_le (lt_of_heap R0.out) hb1.size
 have B1:=hid' (B0.out.trans (hb1.mono B0.out.size))
 simp at a0
 clear hb1 GO a2 a3 b0 b1
 have sz1:=B1.out.size
 cases sd with
 | false =>
  go_wp2
  go_ret
  exact ⟨by simp,B1.out.alloc sz1 _⟩
 | true =>
  go_wp2_with fail
  refine (EA.out _).mono ?_
  rintro e w2 ⟨rfl,hb2⟩
  have B2:=hid' ((B1.out.alloc sz1 (.cells #[.int .i64 ga,.int .i64 gb] 98)).trans (hb2.mono (by simp;omega)))
  clear hb2
  go_wp2
  go_ret
  exact ⟨by simp,B2.out⟩
theorem v_count (b:Nat) (s:Sv) (dv cv:Value) (op:Bool) (bs bf l:Int) (w:World) (h:PRow b s dv cv op bs bf w) (hN:s.Num) :
  Calls Tryz.prog 209 #[.pointer (some ⟨b,12,none⟩),.int .i64 l,.agg #[.int .i64 s.ns,.int .i64 s.nf],.int .i64 s.fresh] w fun e w' => e = .returned (.int .i64 (s.cnt l 8)) ∧ Below w.heap.size w w':=by
 obtain ⟨t0,t1,t2,t3⟩:=hN.t'
 have HP:=hid' h
 have HN:=hid' hN
 have HC:=hid' (fun k => s.cnt_bd l k)
 have B0:=hid' ((Below.refl w.heap.size w).alloc (Nat.le_refl _) (.cells #[.int .i64 s.ns,.int .i64 s.nf] 98))
 have R0:=hid' (heap_alloc_new w (.cells #[.int .i64 s.ns,.int .i64 s.nf] 98))
 have P0:=hid' (h.below B0.out)
 have lb:=h.lt
 clear h hN
 go_enter Tryz.func209,Tryz.ntmps209
 go_upto_region 1 with fail
 generalize hV:w.alloc (.cells #[.int .i64 s.ns,.int .i64 s.nf] 98) = V at *
 generalize hQ:w.heap.size = Q at *
 clear hV
 have ls:=B0.out.size
 go_wp2_with fail
 go_loopw [9,10] (fun n i wr => ∃ k:Nat,k ≤ 8 ∧ i = .int .i64 k ∧ n = .int .i64 (s.cnt l k) ∧ Below V.heap.size V wr) (fun _ i _ => 8 - (intOf i).toNat)
 case atStart => exact ⟨0,by omega,rfl,rfl,Below.refl _ _⟩
 case round =>
  obtain ⟨k,hk,rfl,rfl,hb⟩:=hrel
  have HB:=hid' hb
  by_cases hlt:k < 8
  ·have hli:(k:Int) < 8:=by omega
   have hk0:(0:Int) ≤ (k:Int):=by omega
   obtain ⟨c0,c1,c2,c3⟩:=(P0.out.below hb).hdAt k hlt
   have hok:=HN.out.hd_ok k
   have cb:=HC.out k
   have d0:=(hb.cell (p:=⟨Q,0,none⟩) (lt_of_heap R0.out)).trans (cell_of_row _ _ 0 _ _ _ R0.out)
   have d1:=(hb.cell (p:=⟨Q,1,none⟩) (lt_of_heap R0.out)).trans (cell_of_row _ _ 1 _ _ _ R0.out)
   simp at d0 d1
   have st:s.cnt l (k + 1) = if (s.hd k).leap = l ∧ s.freshB (s.hd k) = true then s.cnt l k + 1 else s.cnt l k:=rfl
   have HST:=hid' st
   have FE:=hid' (s.fresh_eq (s.hd k) t2 t3 hok.1.2.2.1 hok.1.2.2.2)
   generalize s.hd k = hd at *
   obtain ⟨sd,lp,ws,wf⟩:=hd
   simp only at c0 c1 c2 c3 hok FE
   have FR:=hid' (fun W => v_fresh sd lp ws wf s.ns s.nf s.fresh W t0 t1 t2 t3 hok.1)
   generalize hcn:s.cnt l k = cn at *
   have lbr:b < wr.heap.size:=Nat.lt_of_lt_of_le (lt_of_heap P0.out.row) hb.size
   have lqr:Q < wr.heap.size:=Nat.lt_of_lt_of_le (lt_of_heap R0.out) hb.size
   rw [← FE.out] at FR
   generalize s.freshB ⟨sd,lp,ws,wf⟩ = fb at *
   clear hb st hok FE hcn
   go_upto_region 5 with fail
   by_cases e:lp = l
   ·have e1:(lp == l) = true:=beq_iff_eq.2 e
    go_cut [9,10,34] from 11 to 36 (fun s9 s10 s34 wx => s9 = .int .i64 cn ∧ s10 = .int .i64 k ∧ s34 = .bool fb ∧ Below wr.heap.size wr wx)
    case first =>
     have E:=hid' e
     clear e
     go_region_held3 (fun w' => w'.cell? ⟨b,12 + k * 4,none⟩ = some (.bool sd) ∧ w'.cell? ⟨b,12 + k * 4 + 1,none⟩ = some (.int .i64 lp) ∧ w'.cell? ⟨b,12 + k * 4 + 2,none⟩ = some (.int .i64 ws) ∧ w'.cell? ⟨b,12 + k * 4 + 3,none⟩ = some (.int .i64 wf) ∧ w'.cell? ⟨Q,0,none⟩ = some (.int .i64 s.ns) ∧ w'.cell? ⟨Q,1,none⟩ = some (.int .i64 s.nf)) (first | go_keep | assumption) (first | (go_at_call 216;refine (FR.out _).mono ?_;rintro e w1 ⟨rfl,hb1⟩;have HB1:=hid' hb1;have m0:=hb1.cell (p:=⟨b,12 + k * 4,none⟩) lbr;have m1:=hb1.cell (p:=⟨b,12 + k * 4 + 1,none⟩) lbr;have m2:=hb1.cell (p:=⟨b,12 + k * 4 + 2,none⟩) lbr;have m3:=hb1.cell (p:=⟨b,12 + k * 4 + 3,none⟩) lbr;have m4:=hb1.cell (p:=⟨Q,0,none⟩) lqr;have m5:=hb1.cell (p:=⟨Q,1,none⟩) lqr;clear hb1))
     all_goals
      go_wp2_with fail
      go_meet
      case rel => exact ⟨rfl,rfl,rfl,(Below.refl _ _).drew.trans HB1.out⟩
    case rest =>
     obtain ⟨rfl,rfl,rfl,bel⟩:=hcut
     rename World => W1
     have BL:=hid' bel
     clear bel
     cases fb with
     | true =>
      go_wp2
      go_roundw
      case rel => exact ⟨k + 1,by omega,by go_num,by rw [HST.out,if_pos ⟨e,rfl⟩],HB.out.trans (BL.out.mono HB.out.size)⟩
      case measure => simp [intOf];omega
     | false =>
      go_wp2
      go_roundw
      case rel => exact ⟨k + 1,by omega,by go_num,by rw [HST.out,if_neg (by simp)],HB.out.trans (BL.out.mono HB.out.size)⟩
      case measure => simp [intOf];omega
   ·have e1:(lp == l) = false:=by rw [beq_eq_false_iff_ne];exact e
    have E:=hid' e
    clear e
    go_quiet (fail)
    go_wp2
    go_roundw
    case rel => exact ⟨k + 1,by omega,by go_num,by rw [HST.out,if_neg (fun q => E.out q.1)],below_drewN HB.out _⟩
    case measure => simp [intOf];omega
  ·have hnl:¬ (k:Int) < 8:=by omega
   obtain rfl:k = 8:=by omega
   clear hb
   go_wp2
   go_ret
   exact ⟨rfl,B0.out.trans (HB.out.mono (by omega))⟩
theorem v_change (b:Nat) (s:Sv) (dv cv:Value) (op:Bool) (bs bf:Int) (w:World) (h:PRow b s dv cv op bs bf w) (hN:s.Num) :
  Calls Tryz.prog 198 #[.pointer (some ⟨b,12,none⟩),.agg #[.int .i64 s.ns,.int .i64 s.nf],.int .i64 s.fresh] w fun e w' => e = .returned (.int .i64 s.most) ∧ Below w.heap.size w w':=by
 have HM:=hid' hN.most_eq
 have C1:=hid' (fun (W:World) (hb:Below w.heap.size w W) => v_count b s dv cv op bs bf 1 W (h.below hb) hN)
 have C2:=hid' (fun (W:World) (hb:Below w.heap.size w W) => v_count b s dv cv op bs bf 2 W (h.below hb) hN)
 have C0:=hid' (fun (W:World) (hb:Below w.heap.size w W) => v_count b s dv cv op bs bf 0 W (h.below hb) hN)
 have p0:0 ≤ s.cnt 0 8:=(s.cnt_bd 0 8).1
 have q0:s.cnt 0 8 ≤ 8:=(s.cnt_bd 0 8).2
 have p1:0 ≤ s.cnt 1 8:=(s.cnt_bd 1 8).1
 have q1:s.cnt 1 8 ≤ 8:=(s.cnt_bd 1 8).2
 have p2:0 ≤ s.cnt 2 8:=(s.cnt_bd 2 8).1
 have q2:s.cnt 2 8 ≤ 8:=(s.cnt_bd 2 8).2
 generalize s.cnt 0 8 = n0 at *
 generalize s.cnt 1 8 = n1 at *
 generalize s.cnt 2 8 = n2 at *
 generalize s.most = mo at *
 have B0:=hid' ((Below.refl w.heap.size w).alloc (Nat.le_refl _) (.cells #[.int .i64 s.ns,.int .i64 s.nf] 98))
 have R0:=hid' (heap_alloc_new w (.cells #[.int .i64 s.ns,.int .i64 s.nf] 98))
 clear h hN
 go_enter Tryz.func198,Tryz.ntmps198
 go_upto_region 1 with fail
 generalize hV:w.alloc (.cells #[.int .i64 s.ns,.int .i64 s.nf] 98) = V at *
 clear hV
 have d0:=cell_of_row _ _ 0 _ _ _ R0.out
 have d1:=cell_of_row _ _ 1 _ _ _ R0.out
 simp at d0 d1
 have lq:=lt_of_heap R0.out
 have sv:=B0.out.size
 go_wp2_with fail
 refine (C1.out _ B0.out).mono ?_
 rintro e w1 ⟨rfl,hb1⟩
 have e0:=(hb1.cell (p:=⟨w.heap.size,0,none⟩) lq).trans d0
 have e1:=(hb1.cell (p:=⟨w.heap.size,1,none⟩) lq).trans d1
 have B1:=hid' (B0.out.trans (hb1.mono sv))
 have lq1:w.heap.size < w1.heap.size:=Nat.lt_of_lt_of_le lq hb1.size
 clear hb1 d0 d1 C1
 go_wp2_with fail
 refine (C2.out _ B1.out).mono ?_
 rintro e w2 ⟨rfl,hb2⟩
 have g0:=(hb2.cell (p:=⟨w.heap.size,0,none⟩) lq1).trans e0
 have g1:=(hb2.cell (p:=⟨w.heap.size,1,none⟩) lq1).trans e1
 have B2:=hid' (B1.out.trans (hb2.mono B1.out.size))
 clear hb2 e0 e1 C2
 go_wp2_with fail
 refine (C0.out _ B2.out).mono ?_
 rintro e w3 ⟨rfl,hb3⟩
 have B3:=hid' (B2.out.trans (hb3.mono B2.out.size))
 clear hb3 g0 g1 C0
 by_cases c1:2 * n1 > n1 + n2 + n0
 ·have H:Hid (mo = 1):=by show _ = _;rw [HM.out,if_pos c1]
  go_wp2
  go_ret
  exact ⟨congrArg (fun v => Ending.returned (.int .i64 v)) H.out.symm,B3.out⟩
 ·by_cases c2:2 * n2 > n1 + n2 + n0
  ·have H:Hid (mo = -1):=by show _ = _;rw [HM.out,if_neg c1,if_pos c2]
   go_wp2
   go_ret
   exact ⟨congrArg (fun v => Ending.returned (.int .i64 v)) H.out.symm,B3.out⟩
  ·have H:Hid (mo = 0):=by show _ = _;rw [HM.out,if_neg c1,if_neg c2]
   go_wp2
   go_ret
   exact ⟨congrArg (fun v => Ending.returned (.int .i64 v)) H.out.symm,B3.out⟩
theorem v_is (l:Int) (w:World) :
  Calls Tryz.prog 154 #[.int .i64 l] w fun e w' => e = .returned (.bool (decide (0 ≤ l) && decide (l ≤ 3))) ∧ w' = w:=by
 by_cases c1:0 ≤ l
 ·have H:Hid (decide (0 ≤ l) = true):=decide_eq_true c1
  go_enter Tryz.func154,Tryz.ntmps154
  go_wp2
  go_ret
  exact ⟨ret_bool (by rw [H.out];rfl),rfl⟩
 ·have H:Hid (decide (0 ≤ l) = false):=decide_eq_false c1
  go_enter Tryz.func154,Tryz.ntmps154
  go_wp2
  go_ret
  exact ⟨ret_bool (by rw [H.out];rfl),rfl⟩
theorem v_hear (b:Nat) (s:Sv) (dv cv:Value) (op:Bool) (bs bf leap:Int) (k:Nat) (w:World) (h:PRow b s dv cv op bs bf w) (hk:k < s.said.length) :
  Calls Tryz.prog 155 #[.pointer (some ⟨b,12,none⟩),.int .i64 k,.int .i64 leap,.agg #[.int .i64 s.ns,.int .i64 s.nf]] w fun e w' => e = .returned (.tuple #[]) ∧ PRow b (s.says k leap) dv cv op bs bf w' ∧ Off (pFoot b dv cv) w w':=by
 have sl:=h.sl
 have hl:(k:Int) < 8:=by omega
 have hk0:(0:Int) ≤ (k:Int):=by omega
 have B0:=hid' ((Below.refl w.heap.size w).alloc (Nat.le_refl _) (.cells #[.int .i64 s.ns,.int .i64 s.nf] 98))
 have R0:=hid' (heap_alloc_new w (.cells #[.int .i64 s.ns,.int .i64 s.nf] 98))
 have P0:=hid' (h.below B0.out)
 have lb:=h.lt
 have HK:=hid' hk
 clear h sl hk
 go_enter Tryz.func155,Tryz.ntmps155
 go_upto_region 1 with fail
 generalize hV:w.alloc (.cells #[.int .i64 s.ns,.int .i64 s.nf] 98) = V at *
 generalize hQ:w.heap.size = Q at *
 clear hV
 have d0:=cell_of_row _ _ 0 _ _ _ R0.out
 have d1:=cell_of_row _ _ 1 _ _ _ R0.out
 simp at d0 d1
 obtain ⟨c0,c1,c2,c3⟩:=P0.out.hdAt k (by omega)
 have f0:=P0.out.fr (12 + k * 4)
 have f1:=P0.out.fr (12 + k * 4 + 1)
 have f2:=P0.out.fr (12 + k * 4 + 2)
 have f3:=P0.out.fr (12 + k * 4 + 3)
 have hbQ:b ≠ Q:=by omega
 have hQb:Q ≠ b:=by omega
 go_wp2_with fail
 go_region_with (fail)
 all_goals
  go_wp2
  go_end0
  refine ⟨rfl,?_,?_⟩
  ·exact (P0.out.below (Below.refl _ _).drew).putH k leap HK.out
  ·exact ((((Off.of_below (F:=pFoot b dv cv) (by rw [hQ];exact B0.out.drew)).setCell (p:=⟨b,12 + k * 4,none⟩) (fun _ => .inl rfl) _).setCell (p:=⟨b,12 + k * 4 + 1,none⟩) (fun _ => .inl rfl) _).setCell (p:=⟨b,12 + k * 4 + 2,none⟩) (fun _ => .inl rfl) _).setCell (p:=⟨b,12 + k * 4 + 3,none⟩) (fun _ => .inl rfl) _
end Go.Proofs.YtmmkhodaljpjgaaGreatDoor
namespace Go.Proofs.YtmmkhodaljpjgaaGreatDoor
open Go.RowKit
theorem cs_new {P:Nat → Sv → (Nat → Prop) → World → Prop} (hP:PLaw P) {W:World} {bx by' br a b c:Nat} {s:Sv} {Fx Fy:Nat → Prop} {dv bv cv rh:Value} (x:P bx s Fx W) (fx:∀ k,Fx k → a ≤ k ∧ k < b) (y:P by' s Fy W) (fy:∀ k,Fy k → b ≤ k ∧ k < c) (r:RSrv br s dv bv cv rh W) (fr:∀ k,rFoot br dv bv cv rh k → c ≤ k) (hbc:b ≤ c) (hc:c ≤ W.heap.size) :
  CS P W.heap.size bx by' br (.slice none 0 0) 0 [] s s s Fx Fy (rFoot br dv bv cv rh) (fun k => k = W.heap.size) (W.alloc (.cells #[.pointer (some ⟨bx,0,none⟩),.pointer (some ⟨by',0,none⟩),.pointer (some ⟨br,0,none⟩),.slice none 0 0,.int .i64 0] 60)):=by
 have ba:=(Below.refl W.heap.size W).alloc (Nat.le_refl _) (.cells #[.pointer (some ⟨bx,0,none⟩),.pointer (some ⟨by',0,none⟩),.pointer (some ⟨br,0,none⟩),.slice none 0 0,.int .i64 0] 60)
 have rl:∀ k,rFoot br dv bv cv rh k → k < W.heap.size:=fun k e => by obtain ⟨_,_,_,hh,_⟩:=r.typ e;exact lt_of_heap hh
 refine ⟨heap_alloc_new _ _,World.ownsRow_nil _ _ _ _,fun v h => (by cases h),hP.keep x (fun k e => ba.block k (by have:=fx k e;omega)),hP.keep y (fun k e => ba.block k (by have:=fy k e;omega)),⟨dv,bv,cv,rh,r.below ba,fun k => Iff.rfl⟩,fun k => ⟨fun e => .inl e,fun e => ?_⟩,fun k e q => ?_,fun k e q => ?_,fun k e q => ?_,fun k e q => ?_,fun k e q => ?_,fun k e q => ?_⟩
 ·rcases e with e | e | ⟨v,h,_⟩
  ·exact e
  ·simp [Value.ownBlock] at e
  ·cases h
 ·have:=fx k e;have:=fy k q;omega
 ·have:=fx k e;have:=fr k q;omega
 ·have:=fx k e;have q':k = W.heap.size:=q;omega
 ·have:=fy k e;have:=fr k q;omega
 ·have:=fy k e;have q':k = W.heap.size:=q;omega
 ·have:=rl k e;have q':k = W.heap.size:=q;omega
def MadeP (P:Nat → Sv → (Nat → Prop) → World → Prop) (w:World) (e:Ending) (w':World):Prop :=
 ∃ pv,e = .returned (.tuple #[pv,.bool true]) ∧ Below w.heap.size w w' ∧ (pv = .pointer none ∨ ∃ r:Rc,r.Ok P 0 w' ∧ (∀ k,r.F k → w.heap.size ≤ k) ∧ pv = .pointer (some ⟨r.bc,0,none⟩))
theorem made_any {P:Nat → Sv → (Nat → Prop) → World → Prop} (hP:PLaw P) (mode win src fresh s f:Int) (w:World) (ww:(Lit.int .i64 win).wf = true) (hN:PNews P mode win src fresh s f) (hsee:∀ b s F W,P b s F W → s.Inv → Shows b s W) :
  Calls Tryz.prog 27 #[.int .i64 mode,.int .i64 win,.int .i64 src,.int .i64 fresh,.agg #[.int .i64 s,.int .i64 f]] w fun e w' => MadeP P w e w':=by
 have HN:=hid' hN
 have HR:=hid' (fun W => ref_new mode win src fresh s f W ww)
 have HII:=hid' (fun h => init_inv (mode:=mode) (win:=win) (src:=src) (fresh:=fresh) (s:=s) (f:=f) h)
 have HS:=hid' hsee
 clear hN hsee ww
 go_enter Tryz.func27,Tryz.ntmps27
 go_upto_region 2 with fail
 have B0:=hid' (((Below.refl w.heap.size w).alloc (Nat.le_refl _) (.cells #[.int .i64 s,.int .i64 f] 35)).alloc (by simp) (.cells #[.int .i64 mode,.int .i64 win,.int .i64 src,.int .i64 fresh,.int .i64 s,.int .i64 f] 100))
 have T0:=hid' (heap_alloc2_old w (.cells #[.int .i64 s,.int .i64 f] 35) (.cells #[.int .i64 mode,.int .i64 win,.int .i64 src,.int .i64 fresh,.int .i64 s,.int .i64 f] 100))
 have C0:=hid' (heap_alloc2_new w (.cells #[.int .i64 s,.int .i64 f] 35) (.cells #[.int .i64 mode,.int .i64 win,.int .i64 src,.int .i64 fresh,.int .i64 s,.int .i64 f] 100))
 generalize hV:((w.alloc (.cells #[.int .i64 s,.int .i64 f] 35)).alloc (.cells #[.int .i64 mode,.int .i64 win,.int .i64 src,.int .i64 fresh,.int .i64 s,.int .i64 f] 100)) = V at *
 clear hV
 have c0:=cell_of_row _ _ 0 _ _ _ C0.out
 have c1:=cell_of_row _ _ 1 _ _ _ C0.out
 have c2:=cell_of_row _ _ 2 _ _ _ C0.out
 have c3:=cell_of_row _ _ 3 _ _ _ C0.out
 have c4:=cell_of_row _ _ 4 _ _ _ C0.out
 have c5:=cell_of_row _ _ 5 _ _ _ C0.out
 simp at c0 c1 c2 c3 c4 c5
 have s0:=B0.out.size
 go_wp2_with fail
 refine (HN.out _).mono ?_
 rintro e w1 ⟨no1,yes1⟩
 cases hcf:cfgB mode win src fresh s f with
 | false =>
  obtain ⟨rfl,hb1⟩:=no1 hcf
  have HN2:=hid' (fun W => (HN.out W).mono (fun e w' h => h.1 hcf))
  have HR2:=hid' (fun W => (HR.out W).mono (fun e w' h => h.1 hcf))
  have B1:=hid' (B0.out.trans (hb1.mono s0))
  have C1:=hid' ((hb1.block _ (lt_of_heap C0.out)).trans C0.out)
  have T1:=hid' ((hb1.block _ (lt_of_heap T0.out)).trans T0.out)
  have s1:=B1.out.size
  clear no1 yes1 hb1 c0 c1 c2 c3 c4 c5
  have c0:=cell_of_row _ _ 0 _ _ _ C1.out
  have c1:=cell_of_row _ _ 1 _ _ _ C1.out
  have c2:=cell_of_row _ _ 2 _ _ _ C1.out
  have c3:=cell_of_row _ _ 3 _ _ _ C1.out
  have c4:=cell_of_row _ _ 4 _ _ _ C1.out
  have c5:=cell_of_row _ _ 5 _ _ _ C1.out
  simp at c0 c1 c2 c3 c4 c5
  go_wp2_with fail
  refine (HN2.out _).mono ?_
  rintro e w2 ⟨rfl,hb2⟩
  have B2:=hid' (B1.out.trans (hb2.mono s1))
  have T2:=hid' ((hb2.block _ (lt_of_heap T1.out)).trans T1.out)
  have s2:=B2.out.size
  clear hb2 c0 c1 c2 c3 c4 c5
  have t0:=cell_of_row _ _ 0 _ _ _ T2.out
  have t1:=cell_of_row _ _ 1 _ _ _ T2.out
  simp at t0 t1
  go_wp2_with fail
  refine (HR2.out _).mono ?_
  rintro e w3 ⟨rfl,hb3⟩
  have B3:=hid' (B2.out.trans (hb3.mono s2))
  clear hb3 t0 t1
  go_wp2_with (go_at_call 34;refine (num_any _ _).mono ?_;rintro e w6 ⟨rfl,rfl⟩)
  go_ret2
  exact ⟨_,rfl,B3.out,.inl rfl⟩
 | true =>
  obtain ⟨bx,Fx,rfl,px,fx,hb1⟩:=yes1 hcf
  have HN2:=hid' (fun W => (HN.out W).mono (fun e w' h => h.2 hcf))
  have HR2:=hid' (fun W => (HR.out W).mono (fun e w' h => h.2 hcf))
  have INV:=hid' (HII.out hcf)
  have B1:=hid' (B0.out.trans (hb1.mono s0))
  have C1:=hid' ((hb1.block _ (lt_of_heap C0.out)).trans C0.out)
  have T1:=hid' ((hb1.block _ (lt_of_heap T0.out)).trans T0.out)
  have s1:=B1.out.size
  have PX:=hid' px
  have FX:=hid' fx
  clear no1 yes1 hb1 c0 c1 c2 c3 c4 c5 px fx
  have c0:=cell_of_row _ _ 0 _ _ _ C1.out
  have c1:=cell_of_row _ _ 1 _ _ _ C1.out
  have c2:=cell_of_row _ _ 2 _ _ _ C1.out
  have c3:=cell_of_row _ _ 3 _ _ _ C1.out
  have c4:=cell_of_row _ _ 4 _ _ _ C1.out
  have c5:=cell_of_row _ _ 5 _ _ _ C1.out
  simp at c0 c1 c2 c3 c4 c5
  go_wp2_with fail
  refine (HN2.out _).mono ?_
  rintro e w2 ⟨by',Fy,rfl,py,fy,hb2⟩
  have B2:=hid' (B1.out.trans (hb2.mono s1))
  have T2:=hid' ((hb2.block _ (lt_of_heap T1.out)).trans T1.out)
  have s2:=B2.out.size
  have LX:∀ k,Fx k → k < w1.heap.size:=fun k e => by obtain ⟨_,_,_,hh,_⟩:=hP.low PX.out k e;exact lt_of_heap hh
  have PX2:=hid' (hP.keep PX.out (fun k e => hb2.block k (LX k e)))
  have HLX:=hid' LX
  have PY:=hid' py
  have FY:=hid' fy
  have s12:=hb2.size
  clear hb2 c0 c1 c2 c3 c4 c5 py fy LX PX
  have t0:=cell_of_row _ _ 0 _ _ _ T2.out
  have t1:=cell_of_row _ _ 1 _ _ _ T2.out
  simp at t0 t1
  go_wp2_with fail
  refine (HR2.out _).mono ?_
  rintro e w3 ⟨br,rfl,rh,rr,rb,rs,hb3⟩
  have B3:=hid' (B2.out.trans (hb3.mono s2))
  have LY:∀ k,Fy k → k < w2.heap.size:=fun k e => by obtain ⟨_,_,_,hh,_⟩:=hP.low PY.out k e;exact lt_of_heap hh
  have PX3:=hid' (hP.keep PX2.out (fun k e => hb3.block k (by have:=HLX.out k e;omega)))
  have PY3:=hid' (hP.keep PY.out (fun k e => hb3.block k (LY k e)))
  have FR:∀ k,rFoot br (.slice none 0 0) (.slice none 0 0) (.slice none 0 0) rh k → w2.heap.size ≤ k:=fun k e => by
   rcases e with e | e | e | e | e
   ·omega
   ·simp [Value.ownBlock] at e
   ·simp [Value.ownBlock] at e
   ·simp [Value.ownBlock] at e
   ·exact rs k e
  have s23:=hb3.size
  have CSN:=hid' (cs_new (a:=V.heap.size) (b:=w1.heap.size) (c:=w2.heap.size) hP PX3.out (fun k e => ⟨FX.out k e,HLX.out k e⟩) PY3.out (fun k e => ⟨FY.out k e,LY k e⟩) rr FR (by omega) (by omega))
  have ba:=(Below.refl w3.heap.size w3).alloc (Nat.le_refl _) (.cells #[.pointer (some ⟨bx,0,none⟩),.pointer (some ⟨by',0,none⟩),.pointer (some ⟨br,0,none⟩),.slice none 0 0,.int .i64 0] 60)
  have B4:=hid' (B3.out.trans (ba.mono B3.out.size))
  have HFR:=hid' FR
  have HLY:=hid' LY
  have RD:=hid' (reads_any w3.heap.size bx by' br bx (.slice none 0 0) _ _ _ _ 0 [] _ _ CSN.out.c CSN.out.hh CSN.out.ok (rr.below ba) (HS.out _ _ _ _ CSN.out.x INV.out) (by show ([]:List (Int × Int)).length ≤ 900;simp) (by show ([]:List Cm).length ≤ 900;simp) (by simp) (by omega) (by omega))
  clear hb3 t0 t1 LY rr rb rs FR ba
  go_wp2_with (first | (go_at_call 34;refine (num_any _ _).mono ?_;rintro e w6 ⟨rfl,hw6⟩;have hw7:=hw6.symm;subst hw7) | fail)
  refine RD.out.mono ?_
  rintro e w5 ⟨rfl,rp⟩
  have RP:=hid' rp
  clear rp RD
  go_wp2
  go_ret2
  obtain ⟨hv',v1,v2,F',cs5,of5,ff5⟩:=CSN.out.read hP RP.out
  have bl5:Below w.heap.size w w5:=B4.out.trans (of5.below (fun k e => by have e':k = w3.heap.size:=e;have:=B3.out.size;omega) B4.out.size)
  refine ⟨_,rfl,bl5,.inr ⟨⟨w3.heap.size,bx,by',br,hv',[v1,v2],_,Fx,Fy,_,F'⟩,⟨cs5,by simp,INV.out,by show (0:Int) ≤ ((0:Nat):Int);simp⟩,fun k e => ?_,rfl⟩⟩
  rcases e with e | e | e | e
  ·have:=FX.out k e;omega
  ·have:=FY.out k e;omega
  ·have:=HFR.out k e;omega
  ·have s3:=B3.out.size
   rcases ff5 k e with q | q
   ·have q':k = w3.heap.size:=q;omega
   ·simp at q;omega
theorem held_ref {w:World} {B:Nat} {lv:Value} {ls:List (Int × Int)} (h:w.ownsRow B 46 2 lv ls.length (flat ls)):Held w lv ls:=by
 by_cases h0:0 < ls.length
 ·obtain ⟨g,cap,rfl⟩:=own_some h h0
  refine .inr ⟨h0,g,cap,rfl,?_,(h.lt _ rfl).2,fun i hi => ⟨by rw [h.cellAt (i * 2) (by omega)];exact flat_at0 ls i hi,by rw [h.cellAt (i * 2 + 1) (by omega)];exact flat_at1 ls i hi⟩⟩
  rcases h.2 with ⟨h,_⟩ | ⟨g',cap',cur,h,_,_,h2,_⟩
  ·cases h
  ·cases h;exact h2
 ·have e:ls = []:=List.eq_nil_of_length_eq_zero (by omega)
  subst e
  rcases h.2 with ⟨rfl,_⟩ | ⟨g,cap,cur,rfl,_⟩
  ·exact .inl ⟨rfl,_,_,rfl⟩
  ·exact .inl ⟨rfl,_,_,rfl⟩
theorem same_yes (up ex:Int) (av tv:Value) (ls:List (Int × Int)) (w:World) (hA:Held w av ls) (hT:Held w tv ls) (hn:ls.length ≤ 100000) :
  Calls Tryz.prog 42 #[.agg #[.int .i64 up,.int .i64 ex,av],.agg #[.int .i64 up,.int .i64 ex,tv]] w fun e w' => e = .returned (.bool true) ∧ Below w.heap.size w w':=by
 have n0:(up != up) = false:=by simp
 have n1:(ex != ex) = false:=by simp
 have n2:((ls.length:Int) != (ls.length:Int)) = false:=by simp
 have B1:=hid' (((Below.refl w.heap.size w).alloc (Nat.le_refl _) (.cells #[.int .i64 up,.int .i64 ex,av] 78)).alloc (by simp) (.cells #[.int .i64 up,.int .i64 ex,tv] 33))
 by_cases h0:ls.length = 0
 ·obtain ⟨aa,ac,rfl⟩:∃ ao c,av = .slice ao 0 c:=by
   rcases hA with ⟨_,ao,c,rfl⟩ | ⟨h,_⟩
   ·exact ⟨_,_,rfl⟩
   ·omega
  obtain ⟨ta,tc,rfl⟩:∃ ao c,tv = .slice ao 0 c:=by
   rcases hT with ⟨_,ao,c,rfl⟩ | ⟨h,_⟩
   ·exact ⟨_,_,rfl⟩
   ·omega
  clear hA hT n2
  go_enter Tryz.func42,Tryz.ntmps42
  go_wp2_with fail
  go_loop [5] (fun i => i = .int .i64 0) (fun _ => 0)
  case atStart => rfl
  case round =>
   subst hrel
   go_wp2
   go_ret
   exact ⟨rfl,B1.out⟩
 ·obtain ⟨ga,ca,rfl,ha1,ha2,ha3⟩:∃ g cap,av = .slice (some ⟨g,0,none⟩) ls.length cap ∧ ls.length ≤ cap ∧ g < w.heap.size ∧ Lies w g ls:=by
   rcases hA with ⟨rfl,_⟩ | ⟨_,g,cap,e,a,b,c⟩
   ·simp at h0
   ·exact ⟨g,cap,e,a,b,c⟩
  obtain ⟨gt,ct,rfl,ht1,ht2,ht3⟩:∃ g cap,tv = .slice (some ⟨g,0,none⟩) ls.length cap ∧ ls.length ≤ cap ∧ g < w.heap.size ∧ Lies w g ls:=by
   rcases hT with ⟨rfl,_⟩ | ⟨_,g,cap,e,a,b,c⟩
   ·simp at h0
   ·exact ⟨g,cap,e,a,b,c⟩
  have LA:=hid' (ha3.below ha2 B1.out)
  have LT:=hid' (ht3.below ht2 B1.out)
  have R1:=heap_alloc2_old w (.cells #[.int .i64 up,.int .i64 ex,.slice (some ⟨ga,0,none⟩) ls.length ca] 78) (.cells #[.int .i64 up,.int .i64 ex,.slice (some ⟨gt,0,none⟩) ls.length ct] 33)
  have R2:=heap_alloc2_new w (.cells #[.int .i64 up,.int .i64 ex,.slice (some ⟨ga,0,none⟩) ls.length ca] 78) (.cells #[.int .i64 up,.int .i64 ex,.slice (some ⟨gt,0,none⟩) ls.length ct] 33)
  clear ha3 ht3
  generalize hk:ls.length = k at *
  go_enter Tryz.func42,Tryz.ntmps42
  go_wp2_with fail
  generalize hV:(w.alloc (.cells #[.int .i64 up,.int .i64 ex,.slice (some ⟨ga,0,none⟩) k ca] 78)).alloc (.cells #[.int .i64 up,.int .i64 ex,.slice (some ⟨gt,0,none⟩) k ct] 33) = V at *
  have c1:=cell_of_row _ _ 2 _ _ _ R1
  have c2:=cell_of_row _ _ 2 _ _ _ R2
  simp at c1 c2
  clear hV R1 R2
  go_loopw [5] (fun i wr => ∃ (j m:Nat),j ≤ k ∧ i = .int .i64 j ∧ wr = V.drewN m) (fun i _ => k - (intOf i).toNat)
  case atStart => exact ⟨0,0,by omega,rfl,rfl⟩
  case round =>
   obtain ⟨j,m,hj,rfl,hwr⟩:=hrel
   have d1:wr.cell? ⟨w.heap.size,2,none⟩ = some (.slice (some ⟨ga,0,none⟩) k ca):=by rw [hwr];exact c1
   have d2:wr.cell? ⟨w.heap.size + 1,2,none⟩ = some (.slice (some ⟨gt,0,none⟩) k ct):=by rw [hwr];exact c2
   by_cases hlt:j < k
   ·have hjl:j < ls.length:=by omega
    have a0:wr.cell? ⟨ga,j * 2,none⟩ = some (.int .i64 ls[j].1):=by rw [hwr];exact (LA.out j hjl).1
    have a1:wr.cell? ⟨ga,j * 2 + 1,none⟩ = some (.int .i64 ls[j].2):=by rw [hwr];exact (LA.out j hjl).2
    have t0:wr.cell? ⟨gt,j * 2,none⟩ = some (.int .i64 ls[j].1):=by rw [hwr];exact (LT.out j hjl).1
    have t1:wr.cell? ⟨gt,j * 2 + 1,none⟩ = some (.int .i64 ls[j].2):=by rw [hwr];exact (LT.out j hjl).2
    have HWR:=hid' hwr
    generalize ls[j] = p at *
    obtain ⟨pa,po⟩:=p
    simp only at a0 a1 t0 t1
    have z0:(0:Int) ≤ (j:Int):=by omega
    have z1:(j:Int) < (k:Int):=by omega
    have g0:(pa != pa) = false:=by simp
    have g1:(po != po) = false:=by simp
    clear hwr hjl c1 c2
    go_wp2_with fail
    go_quiet (fail)
    go_wp2
    go_roundw
    case rel => exact ⟨j + 1,m + nq,by omega,by go_num,by rw [HWR.out,World.drewN_drewN]⟩
    case measure => simp [intOf];omega
   ·have hnl:¬ (j:Int) < (k:Int):=by omega
    have BW:Hid (Below w.heap.size w wr):=by rw [hwr];exact below_drewN B1.out m
    clear hwr c1 c2
    go_wp2
    go_ret
    exact ⟨rfl,BW.out⟩
end Go.Proofs.YtmmkhodaljpjgaaGreatDoor
namespace Go.Proofs.YtmmkhodaljpjgaaGreatDoor
open Go.RowKit
attribute [local go_sem ↓] Go.wp_at_zero Go.wp_at_succ
theorem window_begin (b:Nat) (s:Sv) (dv cv:Value) (op:Bool) (bs bf t:Int) (w:World) (h:PRow b s dv cv op bs bf w) (h0:0 ≤ s.win) (h1:s.win ≤ 1000000) (t0:0 ≤ t) (t1:t ≤ 1000000000000) :
  Calls Tryz.prog 185 #[.pointer (some ⟨b,0,none⟩),.int .i64 t] w fun e w' => e = .returned (.agg #[.int .i64 (s.opens t).1,.int .i64 (s.opens t).2]) ∧ Below w.heap.size w w':=by
 have HP:=hid' h
 have q1:=h.c1
 have lb:=lt_of_heap h.row
 have HOP:Hid (s.opens t = if tLater s.ns s.nf (t - s.win / 2) 0 = true then (s.ns,s.nf) else (t - s.win / 2,0)):=rfl
 have EA:=hid' (fun W => clk_earlier (t - s.win / 2) 0 s.ns s.nf W)
 generalize s.opens t = r at *
 generalize tLater s.ns s.nf (t - s.win / 2) 0 = lt at *
 have B0:=hid' (((Below.refl w.heap.size w).alloc (Nat.le_refl _) (.cells #[.int .i64 0,.int .i64 0] 98)).alloc (by simp) (.cells #[.int .i64 (t - s.win / 2),.int .i64 0] 98))
 have R0:=hid' (heap_alloc2_old w (.cells #[.int .i64 0,.int .i64 0] 98) (.cells #[.int .i64 (t - s.win / 2),.int .i64 0] 98))
 have R1:=hid' (heap_alloc2_new w (.cells #[.int .i64 0,.int .i64 0] 98) (.cells #[.int .i64 (t - s.win / 2),.int .i64 0] 98))
 clear h
 go_enter Tryz.func185,Tryz.ntmps185
 go_upto_region 2 with fail
 generalize hV:(w.alloc (.cells #[.int .i64 0,.int .i64 0] 98)).alloc (.cells #[.int .i64 (t - s.win / 2),.int .i64 0] 98) = V at *
 clear hV
 have PV:=hid' (HP.out.below B0.out)
 have q2:=PV.out.c4
 have q3:=PV.out.c5
 have d0:=cell_of_row _ _ 0 _ _ _ R1.out
 have d1:=cell_of_row _ _ 1 _ _ _ R1.out
 simp at d0 d1
 go_cut [5,20] from 6 (fun s5 s20 wx => s5 = .pointer (some ⟨w.heap.size + 1,0,none⟩) ∧ s20 = .bool lt ∧ Below V.heap.size V wx)
 case first =>
  go_region_with (go_at_call 196;refine (EA.out _).mono ?_;rintro e w1 ⟨rfl,hb1⟩;have HB1:=hid' hb1;clear hb1)
  all_goals
   go_wp2_with fail
   go_meet
   case rel => exact ⟨rfl,rfl,(Below.refl _ _).drew.trans HB1.out⟩
 case rest =>
  obtain ⟨rfl,rfl,bel⟩:=hcut
  rename World => W1
  have B1:=hid' (B0.out.trans (bel.mono B0.out.size))
  have P1:=hid' (PV.out.below bel)
  have A0:=hid' ((bel.block _ (lt_of_heap R0.out)).trans R0.out)
  have A1:=hid' ((bel.block _ (lt_of_heap R1.out)).trans R1.out)
  have x0:=cell_of_row _ _ 0 _ _ _ A0.out
  have x1:=cell_of_row _ _ 1 _ _ _ A0.out
  have f0:=frozen_of_row _ _ 0 _ _ A0.out
  have f1:=frozen_of_row _ _ 1 _ _ A0.out
  have y0:=cell_of_row _ _ 0 _ _ _ A1.out
  have y1:=cell_of_row _ _ 1 _ _ _ A1.out
  have p2:=P1.out.c4
  have p3:=P1.out.c5
  simp at x0 x1 y0 y1
  clear bel q2 q3 d0 d1
  cases lt with
  | true =>
   have H:Hid (r = (s.ns,s.nf)):=HOP.out
   go_wp2
   try simp only [Exit.inBlock,Exit.then]
   refine bodyPost_ret (results_cell_row rfl _ _ w.heap.size 98 #[.int .i64 s.ns,.int .i64 s.nf] (0,0) _ rfl (two_row A0.out) Tryz.underlying98 rfl (by kernel_rfl)) rfl ?_
   exact ⟨ret_agg2 (by rw [H.out]) (by rw [H.out]),(B1.out.setCell (p:=⟨w.heap.size,0,none⟩) (Nat.le_refl _) _).setCell (p:=⟨w.heap.size,1,none⟩) (Nat.le_refl _) _⟩
  | false =>
   have H:Hid (r = (t - s.win / 2,0)):=HOP.out
   go_wp2
   try simp only [Exit.inBlock,Exit.then]
   refine bodyPost_ret (results_cell_row rfl _ _ w.heap.size 98 #[.int .i64 (t - s.win / 2),.int .i64 0] (0,0) _ rfl (two_row A0.out) Tryz.underlying98 rfl (by kernel_rfl)) rfl ?_
   exact ⟨ret_agg2 (by rw [H.out]) (by rw [H.out]),(B1.out.setCell (p:=⟨w.heap.size,0,none⟩) (Nat.le_refl _) _).setCell (p:=⟨w.heap.size,1,none⟩) (Nat.le_refl _) _⟩
end Go.Proofs.YtmmkhodaljpjgaaGreatDoor
