import Derived.Test.YtmmkhodaljpjgaaGreatDoorV11
import Derived.Deep.RegionHeld3
import Derived.Deep.Cut
import Derived.Deep.CutBlock
import Derived.Deep.CutRange
import Derived.Deep.QuietTactic
import Derived.BigQuiet
namespace Go.Proofs.YtmmkhodaljpjgaaGreatDoor
open Go.RowKit
theorem three_at (w:World) (a b c:Array Value) (t:TypeId):(((w.alloc (.cells a t)).alloc (.cells b t)).alloc (.cells c t)).heap[w.heap.size]? = some (.cells a t (0,0)) ∧ (((w.alloc (.cells a t)).alloc (.cells b t)).alloc (.cells c t)).heap[w.heap.size + 1]? = some (.cells b t (0,0)) ∧ (((w.alloc (.cells a t)).alloc (.cells b t)).alloc (.cells c t)).heap[w.heap.size + 1 + 1]? = some (.cells c t (0,0)):=by
 refine ⟨?_,?_,?_⟩
 ·rw [Below.heap_alloc _ _ _ (by simp;omega)]
  exact heap_alloc2_old w _ _
 ·rw [Below.heap_alloc _ _ _ (by simp)]
  exact heap_alloc2_new w _ _
 ·have:=heap_alloc_new ((w.alloc (.cells a t)).alloc (.cells b t)) (.cells c t)
  rw [show ((w.alloc (.cells a t)).alloc (.cells b t)).heap.size = w.heap.size + 1 + 1 from by simp] at this
  exact this
set_option maxRecDepth 100000 in
set_option maxHeartbeats 1600000 in
theorem clk_gone (s f z g:Int) (w:World) (s0:-1000000000000 ≤ s) (s1:s ≤ 1000000000000) (z0:-1000000000000 ≤ z) (z1:z ≤ 1000000000000) (f0:0 ≤ f) (f1:f < 4294967296) (g0:0 ≤ g) (g1:g < 4294967296) :
  Calls Tryz.prog 176 #[.agg #[.int .i64 s,.int .i64 f],.agg #[.int .i64 z,.int .i64 g]] w fun e w' => e = .returned (.agg #[.int .i64 (gone s f z g).1,.int .i64 (gone s f z g).2]) ∧ Below w.heap.size w w':=by
 have HG:Hid (gone s f z g = if f - g < 0 then (s - z - 1,f - g + 4294967296) else (s - z,f - g)):=rfl
 generalize gone s f z g = gg at *
 have B0:=hid' (three_rows w (.cells #[.int .i64 s,.int .i64 f] 98) (.cells #[.int .i64 z,.int .i64 g] 98) (.cells #[.int .i64 0,.int .i64 0] 98))
 have RR:=hid' (three_at w #[.int .i64 s,.int .i64 f] #[.int .i64 z,.int .i64 g] #[.int .i64 0,.int .i64 0] 98)
 go_enter Tryz.func176,Tryz.ntmps176
 go_upto_region 1 with fail
 generalize hV:((w.alloc (.cells #[.int .i64 s,.int .i64 f] 98)).alloc (.cells #[.int .i64 z,.int .i64 g] 98)).alloc (.cells #[.int .i64 0,.int .i64 0] 98) = V at *
 clear hV
 have a0:=cell_of_row _ _ 0 _ _ _ RR.out.1
 have a1:=cell_of_row _ _ 1 _ _ _ RR.out.1
 have b0:=cell_of_row _ _ 0 _ _ _ RR.out.2.1
 have b1:=cell_of_row _ _ 1 _ _ _ RR.out.2.1
 have c0:=cell_of_row _ _ 0 _ _ _ RR.out.2.2
 have c1:=cell_of_row _ _ 1 _ _ _ RR.out.2.2
 have fc0:=frozen_of_row _ _ 0 _ _ RR.out.2.2
 have fc1:=frozen_of_row _ _ 1 _ _ RR.out.2.2
 have lc:=lt_of_heap RR.out.2.2
 have sv:=B0.out.2
 simp at a0 a1 b0 b1 c0 c1
 by_cases c:f - g < 0
 ·have H:Hid (gg = (s - z - 1,f - g + 4294967296)):=by show _ = _;rw [HG.out,if_pos c]
  clear HG
  go_wp2
  try simp only [Exit.inBlock,Exit.then]
  refine bodyPost_ret (results_cell_row rfl _ _ (w.heap.size + 1 + 1) 98 #[.int .i64 (s - z - 1),.int .i64 (f - g + 4294967296)] (0,0) _ rfl ((Below.heap_alloc _ _ _ (by simp <;> omega)).trans (two_row RR.out.2.2)) Tryz.underlying98 rfl (by kernel_rfl)) rfl ?_
  exact ⟨ret_agg2 (by rw [H.out]) (by rw [H.out]),((B0.out.1.setCell (p:=⟨w.heap.size + 1 + 1,0,none⟩) (by simp only;omega) _).setCell (p:=⟨w.heap.size + 1 + 1,1,none⟩) (by simp only;omega) _).alloc (by simp;omega) _⟩
 ·have H:Hid (gg = (s - z,f - g)):=by show _ = _;rw [HG.out,if_neg c]
  clear HG
  go_wp2
  try simp only [Exit.inBlock,Exit.then]
  refine bodyPost_ret (results_cell_row rfl _ _ (w.heap.size + 1 + 1) 98 #[.int .i64 (s - z),.int .i64 (f - g)] (0,0) _ rfl ((Below.heap_alloc _ _ _ (by simp <;> omega)).trans (two_row RR.out.2.2)) Tryz.underlying98 rfl (by kernel_rfl)) rfl ?_
  exact ⟨ret_agg2 (by rw [H.out]) (by rw [H.out]),((B0.out.1.setCell (p:=⟨w.heap.size + 1 + 1,0,none⟩) (by simp only;omega) _).setCell (p:=⟨w.heap.size + 1 + 1,1,none⟩) (by simp only;omega) _).alloc (by simp;omega) _⟩
set_option maxRecDepth 100000 in
set_option maxHeartbeats 1600000 in
theorem clk_moved (s f p:Int) (w:World) (s0:-1000000000000 ≤ s) (s1:s ≤ 1000000000000) (f0:0 ≤ f) (f1:f < 4294967296) (p0:-4294967296 ≤ p) (p1:p ≤ 4294967296) :
  Calls Tryz.prog 177 #[.agg #[.int .i64 s,.int .i64 f],.int .i64 p] w fun e w' => e = .returned (.agg #[.int .i64 (moved s f p).1,.int .i64 (moved s f p).2]) ∧ Below w.heap.size w w':=by
 have HG:Hid (moved s f p = if f + p < 0 then (s - 1,f + p + 4294967296) else if 4294967296 ≤ f + p then (s + 1,f + p - 4294967296) else (s,f + p)):=rfl
 generalize moved s f p = gg at *
 have B0:=hid' (((Below.refl w.heap.size w).alloc (Nat.le_refl _) (.cells #[.int .i64 s,.int .i64 f] 98)).alloc (by simp) (.cells #[.int .i64 0,.int .i64 0] 98))
 have R0:=hid' (heap_alloc2_old w (.cells #[.int .i64 s,.int .i64 f] 98) (.cells #[.int .i64 0,.int .i64 0] 98))
 have R1:=hid' (heap_alloc2_new w (.cells #[.int .i64 s,.int .i64 f] 98) (.cells #[.int .i64 0,.int .i64 0] 98))
 go_enter Tryz.func177,Tryz.ntmps177
 go_upto_region 1 with fail
 generalize hV:(w.alloc (.cells #[.int .i64 s,.int .i64 f] 98)).alloc (.cells #[.int .i64 0,.int .i64 0] 98) = V at *
 clear hV
 have a0:=cell_of_row _ _ 0 _ _ _ R0.out
 have a1:=cell_of_row _ _ 1 _ _ _ R0.out
 have c0:=cell_of_row _ _ 0 _ _ _ R1.out
 have c1:=cell_of_row _ _ 1 _ _ _ R1.out
 have fc0:=frozen_of_row _ _ 0 _ _ R1.out
 have fc1:=frozen_of_row _ _ 1 _ _ R1.out
 have lc:=lt_of_heap R1.out
 simp at a0 a1 c0 c1
 by_cases c:f + p < 0
 ·have H:Hid (gg = (s - 1,f + p + 4294967296)):=by show _ = _;rw [HG.out,if_pos c]
  clear HG
  go_wp2
  try simp only [Exit.inBlock,Exit.then]
  refine bodyPost_ret (results_cell_row rfl _ _ (w.heap.size + 1) 98 #[.int .i64 (s - 1),.int .i64 (f + p + 4294967296)] (0,0) _ rfl ((Below.heap_alloc _ _ _ (by simp <;> omega)).trans (two_row R1.out)) Tryz.underlying98 rfl (by kernel_rfl)) rfl ?_
  exact ⟨ret_agg2 (by rw [H.out]) (by rw [H.out]),((B0.out.setCell (p:=⟨w.heap.size + 1,0,none⟩) (by simp only;omega) _).setCell (p:=⟨w.heap.size + 1,1,none⟩) (by simp only;omega) _).alloc (by simp;omega) _⟩
 ·by_cases d:4294967296 ≤ f + p
  ·have H:Hid (gg = (s + 1,f + p - 4294967296)):=by show _ = _;rw [HG.out,if_neg c,if_pos d]
   clear HG
   go_wp2
   try simp only [Exit.inBlock,Exit.then]
   refine bodyPost_ret (results_cell_row rfl _ _ (w.heap.size + 1) 98 #[.int .i64 (s + 1),.int .i64 (f + p - 4294967296)] (0,0) _ rfl ((Below.heap_alloc _ _ _ (by simp <;> omega)).trans (two_row R1.out)) Tryz.underlying98 rfl (by kernel_rfl)) rfl ?_
   exact ⟨ret_agg2 (by rw [H.out]) (by rw [H.out]),((B0.out.setCell (p:=⟨w.heap.size + 1,0,none⟩) (by simp only;omega) _).setCell (p:=⟨w.heap.size + 1,1,none⟩) (by simp only;omega) _).alloc (by simp;omega) _⟩
  ·have H:Hid (gg = (s,f + p)):=by show _ = _;rw [HG.out,if_neg c,if_neg d]
   clear HG
   go_wp2
   try simp only [Exit.inBlock,Exit.then]
   refine bodyPost_ret (results_cell_row rfl _ _ (w.heap.size + 1) 98 #[.int .i64 s,.int .i64 (f + p)] (0,0) _ rfl ((Below.heap_alloc _ _ _ (by simp <;> omega)).trans (two_row R1.out)) Tryz.underlying98 rfl (by kernel_rfl)) rfl ?_
   exact ⟨ret_agg2 (by rw [H.out]) (by rw [H.out]),((B0.out.setCell (p:=⟨w.heap.size + 1,0,none⟩) (by simp only;omega) _).setCell (p:=⟨w.heap.size + 1,1,none⟩) (by simp only;omega) _).alloc (by simp;omega) _⟩
end Go.Proofs.YtmmkhodaljpjgaaGreatDoor
namespace Go.Proofs.YtmmkhodaljpjgaaGreatDoor
open Go.RowKit
attribute [local go_sem ↓] Go.wp_at_zero Go.wp_at_succ
set_option maxRecDepth 100000 in
set_option maxHeartbeats 1600000 in
theorem v_fresh (sd:Bool) (lp ws wf s f fr:Int) (w:World) (t0:0 ≤ s) (t1:s ≤ 34000000000) (f0:0 ≤ f) (f1:f < 4294967296) (hk:(⟨sd,lp,ws,wf⟩:Hd).Ok) :
  Calls Tryz.prog 216 #[.agg #[.bool sd,.int .i64 lp,.int .i64 ws,.int .i64 wf],.agg #[.int .i64 s,.int .i64 f],.int .i64 fr] w fun e w' => e = .returned (.bool (sd && !tLater (gone s f ws wf).1 (gone s f ws wf).2 fr 0)) ∧ Below w.heap.size w w':=by
 obtain ⟨k0,k1,k2,k3⟩:=hk
 simp only at k0 k1 k2 k3
 have GO:=hid' (fun W => clk_gone s f ws wf W (by omega) (by omega) (by omega) (by omega) f0 f1 k2 k3)
 generalize gone s f ws wf = gg at *
 obtain ⟨ga,gb⟩:=gg
 simp only at GO
 have EA:=hid' (fun W => clk_earlier fr 0 ga gb W)
 generalize tLater ga gb fr 0 = lt at *
 have B0:=hid' (((Below.refl w.heap.size w).alloc (Nat.le_refl _) (.cells #[.bool sd,.int .i64 lp,.int .i64 ws,.int .i64 wf] 148)).alloc (by simp) (.cells #[.int .i64 s,.int .i64 f] 98))
 have R0:=hid' (heap_alloc2_old w (.cells #[.bool sd,.int .i64 lp,.int .i64 ws,.int .i64 wf] 148) (.cells #[.int .i64 s,.int .i64 f] 98))
 have R1:=hid' (heap_alloc2_new w (.cells #[.bool sd,.int .i64 lp,.int .i64 ws,.int .i64 wf] 148) (.cells #[.int .i64 s,.int .i64 f] 98))
 go_enter Tryz.func216,Tryz.ntmps216
 go_upto_region 1 with fail
 generalize hV:(w.alloc (.cells #[.bool sd,.int .i64 lp,.int .i64 ws,.int .i64 wf] 148)).alloc (.cells #[.int .i64 s,.int .i64 f] 98) = V at *
 clear hV
 have a2:=cell_of_row _ _ 2 _ _ _ R0.out
 have a3:=cell_of_row _ _ 3 _ _ _ R0.out
 have b0:=cell_of_row _ _ 0 _ _ _ R1.out
 have b1:=cell_of_row _ _ 1 _ _ _ R1.out
 simp at a2 a3 b0 b1
 go_wp2_with fail
 refine (GO.out _).mono ?_
 rintro e w1 ⟨rfl,hb1⟩
 have a0:=(hb1.cell (p:=⟨w.heap.size,0,none⟩) (lt_of_heap R0.out)).trans (cell_of_row _ _ 0 _ _ _ R0.out)
 have lq:w.heap.size < w1.heap.size:=Nat.lt_of_lt_of_le (lt_of_heap R0.out) hb1.size
 have B1:=hid' (B0.out.trans (hb1.mono B0.out.size))
 simp at a0
 clear hb1 GO a2 a3 b0 b1
 have sz1:=B1.out.size
 cases sd with
 | false =>
  go_wp2
  go_ret
  exact ⟨by simp,B1.out.alloc sz1 _⟩
 | true =>
  go_wp2_with fail
  refine (EA.out _).mono ?_
  rintro e w2 ⟨rfl,hb2⟩
  have B2:=hid' ((B1.out.alloc sz1 (.cells #[.int .i64 ga,.int .i64 gb] 98)).trans (hb2.mono (by simp;omega)))
  clear hb2
  go_wp2
  go_ret
  exact ⟨by simp,B2.out⟩
set_option maxRecDepth 100000 in
set_option maxHeartbeats 6400000 in
theorem v_count (b:Nat) (s:Sv) (dv cv:Value) (op:Bool) (bs bf l:Int) (w:World) (h:PRow b s dv cv op bs bf w) (hN:s.Num) :
  Calls Tryz.prog 209 #[.pointer (some ⟨b,12,none⟩),.int .i64 l,.agg #[.int .i64 s.ns,.int .i64 s.nf],.int .i64 s.fresh] w fun e w' => e = .returned (.int .i64 (s.cnt l 8)) ∧ Below w.heap.size w w':=by
 obtain ⟨t0,t1,t2,t3⟩:=hN.t'
 have HP:=hid' h
 have HN:=hid' hN
 have HC:=hid' (fun k => s.cnt_bd l k)
 have B0:=hid' ((Below.refl w.heap.size w).alloc (Nat.le_refl _) (.cells #[.int .i64 s.ns,.int .i64 s.nf] 98))
 have R0:=hid' (heap_alloc_new w (.cells #[.int .i64 s.ns,.int .i64 s.nf] 98))
 have P0:=hid' (h.below B0.out)
 have lb:=h.lt
 clear h hN
 go_enter Tryz.func209,Tryz.ntmps209
 go_upto_region 1 with fail
 generalize hV:w.alloc (.cells #[.int .i64 s.ns,.int .i64 s.nf] 98) = V at *
 generalize hQ:w.heap.size = Q at *
 clear hV
 have ls:=B0.out.size
 go_wp2_with fail
 go_loopw [9,10] (fun n i wr => ∃ k:Nat,k ≤ 8 ∧ i = .int .i64 k ∧ n = .int .i64 (s.cnt l k) ∧ Below V.heap.size V wr) (fun _ i _ => 8 - (intOf i).toNat)
 case atStart => exact ⟨0,by omega,rfl,rfl,Below.refl _ _⟩
 case round =>
  obtain ⟨k,hk,rfl,rfl,hb⟩:=hrel
  have HB:=hid' hb
  by_cases hlt:k < 8
  ·have hli:(k:Int) < 8:=by omega
   have hk0:(0:Int) ≤ (k:Int):=by omega
   obtain ⟨c0,c1,c2,c3⟩:=(P0.out.below hb).hdAt k hlt
   have hok:=HN.out.hd_ok k
   have cb:=HC.out k
   have d0:=(hb.cell (p:=⟨Q,0,none⟩) (lt_of_heap R0.out)).trans (cell_of_row _ _ 0 _ _ _ R0.out)
   have d1:=(hb.cell (p:=⟨Q,1,none⟩) (lt_of_heap R0.out)).trans (cell_of_row _ _ 1 _ _ _ R0.out)
   simp at d0 d1
   have st:s.cnt l (k + 1) = if (s.hd k).leap = l ∧ s.freshB (s.hd k) = true then s.cnt l k + 1 else s.cnt l k:=rfl
   have HST:=hid' st
   have FE:=hid' (s.fresh_eq (s.hd k) t2 t3 hok.1.2.2.1 hok.1.2.2.2)
   generalize s.hd k = hd at *
   obtain ⟨sd,lp,ws,wf⟩:=hd
   simp only at c0 c1 c2 c3 hok FE
   have FR:=hid' (fun W => v_fresh sd lp ws wf s.ns s.nf s.fresh W t0 t1 t2 t3 hok.1)
   generalize hcn:s.cnt l k = cn at *
   have lbr:b < wr.heap.size:=Nat.lt_of_lt_of_le (lt_of_heap P0.out.row) hb.size
   have lqr:Q < wr.heap.size:=Nat.lt_of_lt_of_le (lt_of_heap R0.out) hb.size
   rw [← FE.out] at FR
   generalize s.freshB ⟨sd,lp,ws,wf⟩ = fb at *
   clear hb st hok FE hcn
   go_upto_region 5 with fail
   by_cases e:lp = l
   ·have e1:(lp == l) = true:=beq_iff_eq.2 e
    go_cut [9,10,34] from 11 to 36 (fun s9 s10 s34 wx => s9 = .int .i64 cn ∧ s10 = .int .i64 k ∧ s34 = .bool fb ∧ Below wr.heap.size wr wx)
    case first =>
     have E:=hid' e
     clear e
     go_region_held3 (fun w' => w'.cell? ⟨b,12 + k * 4,none⟩ = some (.bool sd) ∧ w'.cell? ⟨b,12 + k * 4 + 1,none⟩ = some (.int .i64 lp) ∧ w'.cell? ⟨b,12 + k * 4 + 2,none⟩ = some (.int .i64 ws) ∧ w'.cell? ⟨b,12 + k * 4 + 3,none⟩ = some (.int .i64 wf) ∧ w'.cell? ⟨Q,0,none⟩ = some (.int .i64 s.ns) ∧ w'.cell? ⟨Q,1,none⟩ = some (.int .i64 s.nf)) (first | go_keep | assumption) (first | (go_at_call 216;refine (FR.out _).mono ?_;rintro e w1 ⟨rfl,hb1⟩;have HB1:=hid' hb1;have m0:=hb1.cell (p:=⟨b,12 + k * 4,none⟩) lbr;have m1:=hb1.cell (p:=⟨b,12 + k * 4 + 1,none⟩) lbr;have m2:=hb1.cell (p:=⟨b,12 + k * 4 + 2,none⟩) lbr;have m3:=hb1.cell (p:=⟨b,12 + k * 4 + 3,none⟩) lbr;have m4:=hb1.cell (p:=⟨Q,0,none⟩) lqr;have m5:=hb1.cell (p:=⟨Q,1,none⟩) lqr;clear hb1))
     all_goals
      go_wp2_with fail
      go_meet
      case rel => exact ⟨rfl,rfl,rfl,(Below.refl _ _).drew.trans HB1.out⟩
    case rest =>
     obtain ⟨rfl,rfl,rfl,bel⟩:=hcut
     rename World => W1
     have BL:=hid' bel
     clear bel
     cases fb with
     | true =>
      go_wp2
      go_roundw
      case rel => exact ⟨k + 1,by omega,by go_num,by rw [HST.out,if_pos ⟨e,rfl⟩],HB.out.trans (BL.out.mono HB.out.size)⟩
      case measure => simp [intOf];omega
     | false =>
      go_wp2
      go_roundw
      case rel => exact ⟨k + 1,by omega,by go_num,by rw [HST.out,if_neg (by simp)],HB.out.trans (BL.out.mono HB.out.size)⟩
      case measure => simp [intOf];omega
   ·have e1:(lp == l) = false:=by rw [beq_eq_false_iff_ne];exact e
    have E:=hid' e
    clear e
    go_quiet (fail)
    go_wp2
    go_roundw
    case rel => exact ⟨k + 1,by omega,by go_num,by rw [HST.out,if_neg (fun q => E.out q.1)],below_drewN HB.out _⟩
    case measure => simp [intOf];omega
  ·have hnl:¬ (k:Int) < 8:=by omega
   obtain rfl:k = 8:=by omega
   clear hb
   go_wp2
   go_ret
   exact ⟨rfl,B0.out.trans (HB.out.mono (by omega))⟩
set_option maxRecDepth 100000 in
set_option maxHeartbeats 1600000 in
theorem v_change (b:Nat) (s:Sv) (dv cv:Value) (op:Bool) (bs bf:Int) (w:World) (h:PRow b s dv cv op bs bf w) (hN:s.Num) :
  Calls Tryz.prog 198 #[.pointer (some ⟨b,12,none⟩),.agg #[.int .i64 s.ns,.int .i64 s.nf],.int .i64 s.fresh] w fun e w' => e = .returned (.int .i64 s.most) ∧ Below w.heap.size w w':=by
 have HM:=hid' hN.most_eq
 have C1:=hid' (fun (W:World) (hb:Below w.heap.size w W) => v_count b s dv cv op bs bf 1 W (h.below hb) hN)
 have C2:=hid' (fun (W:World) (hb:Below w.heap.size w W) => v_count b s dv cv op bs bf 2 W (h.below hb) hN)
 have C0:=hid' (fun (W:World) (hb:Below w.heap.size w W) => v_count b s dv cv op bs bf 0 W (h.below hb) hN)
 have p0:0 ≤ s.cnt 0 8:=(s.cnt_bd 0 8).1
 have q0:s.cnt 0 8 ≤ 8:=(s.cnt_bd 0 8).2
 have p1:0 ≤ s.cnt 1 8:=(s.cnt_bd 1 8).1
 have q1:s.cnt 1 8 ≤ 8:=(s.cnt_bd 1 8).2
 have p2:0 ≤ s.cnt 2 8:=(s.cnt_bd 2 8).1
 have q2:s.cnt 2 8 ≤ 8:=(s.cnt_bd 2 8).2
 generalize s.cnt 0 8 = n0 at *
 generalize s.cnt 1 8 = n1 at *
 generalize s.cnt 2 8 = n2 at *
 generalize s.most = mo at *
 have B0:=hid' ((Below.refl w.heap.size w).alloc (Nat.le_refl _) (.cells #[.int .i64 s.ns,.int .i64 s.nf] 98))
 have R0:=hid' (heap_alloc_new w (.cells #[.int .i64 s.ns,.int .i64 s.nf] 98))
 clear h hN
 go_enter Tryz.func198,Tryz.ntmps198
 go_upto_region 1 with fail
 generalize hV:w.alloc (.cells #[.int .i64 s.ns,.int .i64 s.nf] 98) = V at *
 clear hV
 have d0:=cell_of_row _ _ 0 _ _ _ R0.out
 have d1:=cell_of_row _ _ 1 _ _ _ R0.out
 simp at d0 d1
 have lq:=lt_of_heap R0.out
 have sv:=B0.out.size
 go_wp2_with fail
 refine (C1.out _ B0.out).mono ?_
 rintro e w1 ⟨rfl,hb1⟩
 have e0:=(hb1.cell (p:=⟨w.heap.size,0,none⟩) lq).trans d0
 have e1:=(hb1.cell (p:=⟨w.heap.size,1,none⟩) lq).trans d1
 have B1:=hid' (B0.out.trans (hb1.mono sv))
 have lq1:w.heap.size < w1.heap.size:=Nat.lt_of_lt_of_le lq hb1.size
 clear hb1 d0 d1 C1
 go_wp2_with fail
 refine (C2.out _ B1.out).mono ?_
 rintro e w2 ⟨rfl,hb2⟩
 have g0:=(hb2.cell (p:=⟨w.heap.size,0,none⟩) lq1).trans e0
 have g1:=(hb2.cell (p:=⟨w.heap.size,1,none⟩) lq1).trans e1
 have B2:=hid' (B1.out.trans (hb2.mono B1.out.size))
 clear hb2 e0 e1 C2
 go_wp2_with fail
 refine (C0.out _ B2.out).mono ?_
 rintro e w3 ⟨rfl,hb3⟩
 have B3:=hid' (B2.out.trans (hb3.mono B2.out.size))
 clear hb3 g0 g1 C0
 by_cases c1:2 * n1 > n1 + n2 + n0
 ·have H:Hid (mo = 1):=by show _ = _;rw [HM.out,if_pos c1]
  go_wp2
  go_ret
  exact ⟨congrArg (fun v => Ending.returned (.int .i64 v)) H.out.symm,B3.out⟩
 ·by_cases c2:2 * n2 > n1 + n2 + n0
  ·have H:Hid (mo = -1):=by show _ = _;rw [HM.out,if_neg c1,if_pos c2]
   go_wp2
   go_ret
   exact ⟨congrArg (fun v => Ending.returned (.int .i64 v)) H.out.symm,B3.out⟩
  ·have H:Hid (mo = 0):=by show _ = _;rw [HM.out,if_neg c1,if_neg c2]
   go_wp2
   go_ret
   exact ⟨congrArg (fun v => Ending.returned (.int .i64 v)) H.out.symm,B3.out⟩
theorem v_is (l:Int) (w:World) :
  Calls Tryz.prog 154 #[.int .i64 l] w fun e w' => e = .returned (.bool (decide (0 ≤ l) && decide (l ≤ 3))) ∧ w' = w:=by
 by_cases c1:0 ≤ l
 ·have H:Hid (decide (0 ≤ l) = true):=decide_eq_true c1
  go_enter Tryz.func154,Tryz.ntmps154
  go_wp2
  go_ret
  exact ⟨ret_bool (by rw [H.out];rfl),rfl⟩
 ·have H:Hid (decide (0 ≤ l) = false):=decide_eq_false c1
  go_enter Tryz.func154,Tryz.ntmps154
  go_wp2
  go_ret
  exact ⟨ret_bool (by rw [H.out];rfl),rfl⟩
set_option maxRecDepth 100000 in
set_option maxHeartbeats 1600000 in
theorem v_hear (b:Nat) (s:Sv) (dv cv:Value) (op:Bool) (bs bf leap:Int) (k:Nat) (w:World) (h:PRow b s dv cv op bs bf w) (hk:k < s.said.length) :
  Calls Tryz.prog 155 #[.pointer (some ⟨b,12,none⟩),.int .i64 k,.int .i64 leap,.agg #[.int .i64 s.ns,.int .i64 s.nf]] w fun e w' => e = .returned (.tuple #[]) ∧ PRow b (s.says k leap) dv cv op bs bf w' ∧ Off (pFoot b dv cv) w w':=by
 have sl:=h.sl
 have hl:(k:Int) < 8:=by omega
 have hk0:(0:Int) ≤ (k:Int):=by omega
 have B0:=hid' ((Below.refl w.heap.size w).alloc (Nat.le_refl _) (.cells #[.int .i64 s.ns,.int .i64 s.nf] 98))
 have R0:=hid' (heap_alloc_new w (.cells #[.int .i64 s.ns,.int .i64 s.nf] 98))
 have P0:=hid' (h.below B0.out)
 have lb:=h.lt
 have HK:=hid' hk
 clear h sl hk
 go_enter Tryz.func155,Tryz.ntmps155
 go_upto_region 1 with fail
 generalize hV:w.alloc (.cells #[.int .i64 s.ns,.int .i64 s.nf] 98) = V at *
 generalize hQ:w.heap.size = Q at *
 clear hV
 have d0:=cell_of_row _ _ 0 _ _ _ R0.out
 have d1:=cell_of_row _ _ 1 _ _ _ R0.out
 simp at d0 d1
 obtain ⟨c0,c1,c2,c3⟩:=P0.out.hdAt k (by omega)
 have f0:=P0.out.fr (12 + k * 4)
 have f1:=P0.out.fr (12 + k * 4 + 1)
 have f2:=P0.out.fr (12 + k * 4 + 2)
 have f3:=P0.out.fr (12 + k * 4 + 3)
 have hbQ:b ≠ Q:=by omega
 have hQb:Q ≠ b:=by omega
 go_wp2_with fail
 go_region_with (fail)
 all_goals
  go_wp2
  go_end0
  refine ⟨rfl,?_,?_⟩
  ·exact (P0.out.below (Below.refl _ _).drew).putH k leap HK.out
  ·exact ((((Off.of_below (F:=pFoot b dv cv) (by rw [hQ];exact B0.out.drew)).setCell (p:=⟨b,12 + k * 4,none⟩) (fun _ => .inl rfl) _).setCell (p:=⟨b,12 + k * 4 + 1,none⟩) (fun _ => .inl rfl) _).setCell (p:=⟨b,12 + k * 4 + 2,none⟩) (fun _ => .inl rfl) _).setCell (p:=⟨b,12 + k * 4 + 3,none⟩) (fun _ => .inl rfl) _
end Go.Proofs.YtmmkhodaljpjgaaGreatDoor
namespace Go.Proofs.YtmmkhodaljpjgaaGreatDoor
open Go.RowKit
set_option maxRecDepth 100000 in
theorem turn_any (g cap i n:Nat) (ls:List (Int × Int)) (w:World) (hn:ls.length = n) (hi:i < n) (hl:Lies w g ls) (hf:Fine ls) (hb:n ≤ 100000) :
  Calls Tryz.prog 171 #[.slice (some ⟨g,0,none⟩) n cap,.int .i64 i] w fun e w' => e = .returned (.int .i64 (Tab.when ls i)) ∧ w' = w:=by
 have c:=hl i (by omega)
 have f:=hf _ (List.getElem_mem (show i < ls.length by omega))
 cases i with
 | zero =>
  have H:Hid (Tab.when ls 0 = (ls[0]'(by omega)).1 + (ls[0]'(by omega)).2):=by
   show _ = _;unfold Tab.when;rw [getD_at 0 (by omega)];simp
  generalize ls[0]'(by omega) = p at *
  obtain ⟨pa,po⟩:=p
  obtain ⟨c1,c2⟩:=c
  simp only [Nat.zero_mul,Nat.zero_add] at c1 c2
  simp only at f
  clear hl hf hn
  go_enter Tryz.func171,Tryz.ntmps171
  go_wp2
  go_ret
  exact ⟨ret_int H.out.symm,rfl⟩
 | succ j =>
  have d:=hl j (by omega)
  have e:=hf _ (List.getElem_mem (show j < ls.length by omega))
  have H:Hid (Tab.when ls (j + 1) = (ls[j + 1]'(by omega)).1 + (if (ls[j]'(by omega)).2 < (ls[j + 1]'(by omega)).2 then (ls[j]'(by omega)).2 else (ls[j + 1]'(by omega)).2)):=by
   show _ = _;unfold Tab.when;rw [getD_at (j + 1) (by omega),show j + 1 - 1 = j from rfl,getD_at j (by omega)];simp
  generalize ls[j + 1]'(by omega) = p at *
  generalize ls[j]'(by omega) = q at *
  obtain ⟨pa,po⟩:=p
  obtain ⟨qa,qo⟩:=q
  obtain ⟨c1,c2⟩:=c
  obtain ⟨_,d2⟩:=d
  simp only at f c1 c2 d2 e
  clear hl hf hn
  by_cases hlt:qo < po
  ·have H2:Hid (Tab.when ls (j + 1) = pa + qo):=by show _ = _;rw [H.out];simp only;rw [if_pos hlt]
   go_enter Tryz.func171,Tryz.ntmps171
   go_wp2
   go_ret
   exact ⟨ret_int H2.out.symm,rfl⟩
  ·have H2:Hid (Tab.when ls (j + 1) = pa + po):=by show _ = _;rw [H.out];simp only;rw [if_neg hlt]
   go_enter Tryz.func171,Tryz.ntmps171
   go_wp2
   go_ret
   exact ⟨ret_int H2.out.symm,rfl⟩
set_option maxRecDepth 100000 in
theorem holder_any (g cap n:Nat) (ls:List (Int × Int)) (sec:Int) (w:World) (hn:ls.length = n) (hl:Lies w g ls) (hf:Fine ls) (hb:n ≤ 100000) :
  Calls Tryz.prog 130 #[.slice (some ⟨g,0,none⟩) n cap,.int .i64 sec] w fun e w' => e = .returned (.int .i64 (Tab.lastAt ls sec n)) ∧ w' = w:=by
 have HL:=hid' hl
 have HF:=hid' hf
 have HN:=hid' hn
 clear hl hf hn
 go_enter Tryz.func130,Tryz.ntmps130
 go_wp2
 go_loop [5] (fun i => ∃ k:Nat,k ≤ n ∧ i = .int .i64 ((k:Int) - 1) ∧ Tab.lastAt ls sec n = Tab.lastAt ls sec k) (fun i => (intOf i + 1).toNat)
 case atStart => exact ⟨n,by omega,rfl,rfl⟩
 case round =>
  obtain ⟨k,hk,rfl,hrl⟩:=hrel
  have HRL:=hid' hrl
  clear hrl
  cases k with
  | zero =>
   have H:Hid (Tab.lastAt ls sec n = -1):=by show _ = _;rw [HRL.out];rfl
   go_wp2
   go_ret
   exact ⟨ret_int H.out.symm,rfl⟩
  | succ k =>
   have HW:=hid' (turn_any g cap k n ls w HN.out (by omega) HL.out HF.out hb)
   have hc:(((k + 1:Nat):Int) - 1) = (k:Int):=by omega
   rw [hc]
   clear hc
   by_cases hle:Tab.when ls k ≤ sec
   ·have H:Hid (Tab.lastAt ls sec n = (k:Int)):=by show _ = _;rw [HRL.out];simp only [Tab.lastAt];rw [if_pos hle]
    generalize Tab.when ls k = v at *
    go_wp2_with (go_at_call 171;refine HW.out.mono ?_;rintro e w' ⟨rfl,rfl⟩)
    go_ret
    exact ⟨ret_int H.out.symm,rfl⟩
   ·have H:Hid (Tab.lastAt ls sec n = Tab.lastAt ls sec k):=by show _ = _;rw [HRL.out];rw [Tab.lastAt];rw [if_neg hle]
    generalize Tab.when ls k = v at *
    go_wp2_with (go_at_call 171;refine HW.out.mono ?_;rintro e w' ⟨rfl,rfl⟩)
    exact ⟨⟨k,by omega,by go_num,H.out⟩,by simp [intOf]⟩
end Go.Proofs.YtmmkhodaljpjgaaGreatDoor
namespace Go.Proofs.YtmmkhodaljpjgaaGreatDoor
open Go.RowKit
attribute [local go_sem ↓] Go.wp_at_zero Go.wp_at_succ
theorem in_bd {y m n:Int} (h:Cal.In y m n):0 ≤ n ∧ n < 401767:=by
 have a:=h.year
 have b:=Cal.yb_mono 1900 y h.y1
 have c:=Cal.yb_mono (y + 1) 3000 (by have:=h.y2;omega)
 rw [Cal.yb_first] at b
 rw [Cal.yb_last] at c
 omega
def nextD (y m:Int):Int × Int:=if nextOf y m = -1 then (0,1) else (nextOf y m / 86400,0)
set_option maxRecDepth 100000 in
theorem next_month (n y m:Int) (w:World) (hi:Cal.In y m n) :
  Calls Tryz.prog 210 #[.int .i64 n] w fun e w' => e = .returned (.tuple #[.int .i64 (nextD y m).1,.int .i64 (nextD y m).2]) ∧ w' = w:=by
 obtain ⟨h0,h1⟩:=in_bd hi
 have y1:=hi.y1
 have y2:=hi.y2
 have m1:=hi.m1
 have m2:=hi.m2
 have HI:=hid' hi
 have HN:Hid (nextD y m = if nextOf y m = -1 then (0,1) else (nextOf y m / 86400,0)):=rfl
 generalize nextD y m = nd at *
 clear hi
 go_enter Tryz.func210,Tryz.ntmps210
 go_wp2_with fail
 refine (civil_yes n _ h0 h1).mono ?_
 rintro e w' ⟨⟨y',m',rfl,hi'⟩,rfl⟩
 obtain ⟨ey,em⟩:=hi'.only HI.out
 subst ey em
 clear hi'
 by_cases c:m' = 12
 ·have e12:(m' == 12) = true:=beq_iff_eq.2 c
  by_cases d:y' = 2999
  ·have H:Hid (nd = (0,1)):=by
    show _ = _
    rw [HN.out,if_pos]
    unfold nextOf;rw [if_pos c,if_pos d]
   have DN:=hid' (fun W => day_no (y' + 1) 1 1 W (.inr (.inl (by omega))))
   clear c d HN
   go_wp2_with fail
   refine (DN.out _).mono ?_
   rintro e w2 ⟨rfl,rfl⟩
   go_wp2
   go_ret2
   exact ⟨by rw [H.out];rfl,rfl⟩
  ·have yb:=Cal.yb_bd (y' + 1) (by omega) (by omega)
   have cb:=Cal.cum_bd (y' + 1) 1 (by omega) (by omega)
   have H:Hid (nd = (Cal.yb (y' + 1) + Cal.cum (y' + 1) 1 + 1 - 1,0)):=by
    show _ = _
    have e:nextOf y' m' = (Cal.yb (y' + 1) + Cal.cum (y' + 1) 1) * 86400:=by unfold nextOf;rw [if_pos c,if_neg d]
    rw [HN.out,if_neg (by rw [e];omega),e]
    exact Prod.ext (by simp only;omega) rfl
   have DY:=hid' (fun W => day_yes (y' + 1) 1 1 W (by omega) (by omega) (by omega) (by omega) (by omega) (by have:=Cal.dim_bd (y' + 1) 1;omega))
   generalize Cal.yb (y' + 1) + Cal.cum (y' + 1) 1 + 1 - 1 = r at *
   clear c d HN yb cb
   go_wp2_with fail
   refine (DY.out _).mono ?_
   rintro e w2 ⟨rfl,rfl⟩
   go_wp2
   go_ret2
   exact ⟨by rw [H.out];rfl,rfl⟩
 ·have e12:(m' == 12) = false:=by rw [beq_eq_false_iff_ne];exact c
  have yb:=Cal.yb_bd y' (by omega) (by omega)
  have cb:=Cal.cum_bd y' (m' + 1) (by omega) (by omega)
  have H:Hid (nd = (Cal.yb y' + Cal.cum y' (m' + 1) + 1 - 1,0)):=by
   show _ = _
   have e:nextOf y' m' = (Cal.yb y' + Cal.cum y' (m' + 1)) * 86400:=by unfold nextOf;rw [if_neg c]
   rw [HN.out,if_neg (by rw [e];omega),e]
   exact Prod.ext (by simp only;omega) rfl
  have DY:=hid' (fun W => day_yes y' (m' + 1) 1 W (by omega) (by omega) (by omega) (by omega) (by omega) (by have:=Cal.dim_bd y' (m' + 1);omega))
  generalize Cal.yb y' + Cal.cum y' (m' + 1) + 1 - 1 = r at *
  clear HN yb cb
  go_wp2_with fail
  refine (DY.out _).mono ?_
  rintro e w2 ⟨rfl,rfl⟩
  go_wp2
  go_ret2
  exact ⟨by rw [H.out];rfl,rfl⟩
set_option maxRecDepth 100000 in
set_option maxHeartbeats 3200000 in
theorem un_smeared (b:Nat) (s:Sv) (dv cv:Value) (op:Bool) (bs bf:Int) (w:World) (h:PRow b s dv cv op bs bf w) (hM:s.Mid) (hN:s.Num) :
  Calls Tryz.prog 139 #[.pointer (some ⟨b,0,none⟩)] w fun e w' => e = .returned (.agg #[.int .i64 s.utc,.int .i64 s.nf]) ∧ Below w.heap.size w w':=by
 obtain ⟨t0,t1,t2,t3⟩:=hN.t'
 have HP:=hid' h
 have lb:=h.lt
 have hpos:=hM.pos
 have g:=hM.fit.good.len
 rw [s.all_length] at g
 obtain ⟨gg,cap,hdv⟩:=own_some h.dd hpos
 subst hdv
 have LIE:=hid' (lies_of h.dd rfl)
 have lg:gg < w.heap.size:=(h.dd.lt _ rfl).2
 have l:=hM.doneFit.lastAt_le s.ns hM.firstD
 have HF:=hid' hM.doneFit.good.fine
 obtain ⟨k,hk⟩:∃ k:Nat,Tab.lastAt s.done s.ns s.done.length = (k:Int):=⟨(Tab.lastAt s.done s.ns s.done.length).toNat,by omega⟩
 have kl:k < s.done.length:=by omega
 have hu:s.utc = s.ns - (s.done[k]'kl).2:=by
  unfold Sv.utc;rw [hk,Int.toNat_natCast,getD_at k kl]
 have c4:=h.c4
 have c5:=h.c5
 have c9:=h.c9
 have e1:=(LIE.out k kl).2
 have pb:=(HF.out _ (List.getElem_mem kl)).2
 have HU:=hid' hu
 generalize s.done[k]'kl = p at *
 obtain ⟨pa,po⟩:=p
 simp only at e1 pb HU
 have HO:=hid' (fun (W:World) (hl:Lies W gg s.done) => holder_any gg cap s.done.length s.done s.ns W rfl hl HF.out (by omega))
 rw [hk] at HO
 generalize s.utc = u at *
 have B0:=hid' (((Below.refl w.heap.size w).alloc (Nat.le_refl _) (.cells #[.int .i64 0,.int .i64 0] 98)).alloc (by simp) (.cells #[.int .i64 s.ns,.int .i64 s.nf] 98))
 have R0:=hid' (heap_alloc2_old w (.cells #[.int .i64 0,.int .i64 0] 98) (.cells #[.int .i64 s.ns,.int .i64 s.nf] 98))
 have R1:=hid' (heap_alloc2_new w (.cells #[.int .i64 0,.int .i64 0] 98) (.cells #[.int .i64 s.ns,.int .i64 s.nf] 98))
 have hki:(0:Int) ≤ (k:Int):=by omega
 have hkn:(k:Int) < (s.done.length:Int):=by omega
 clear h hM hN hu l hk g
 go_enter Tryz.func139,Tryz.ntmps139
 go_upto_region 2 with fail
 generalize hV:(w.alloc (.cells #[.int .i64 0,.int .i64 0] 98)).alloc (.cells #[.int .i64 s.ns,.int .i64 s.nf] 98) = V at *
 generalize hQ:w.heap.size = Q at *
 clear hV
 have PV:=hid' (HP.out.below (by rw [hQ];exact B0.out))
 have v4:=PV.out.c4
 have v9:=PV.out.c9
 have d0:=cell_of_row _ _ 0 _ _ _ R1.out
 have d1:=cell_of_row _ _ 1 _ _ _ R1.out
 have x0:=cell_of_row _ _ 0 _ _ _ R0.out
 have x1:=cell_of_row _ _ 1 _ _ _ R0.out
 have f0:=frozen_of_row _ _ 0 _ _ R0.out
 have f1:=frozen_of_row _ _ 1 _ _ R0.out
 have y0:=frozen_of_row _ _ 0 _ _ R1.out
 have y1:=frozen_of_row _ _ 1 _ _ R1.out
 have g1:=(B0.out.cell (p:=⟨gg,k * 2 + 1,none⟩) (by simp only;omega)).trans e1
 have lv:=lt_of_heap R1.out
 simp at d0 d1 x0 x1
 have LV:=hid' (LIE.out.below (by omega) (by rw [hQ];exact B0.out))
 have n1:b ≠ Q + 1:=by omega
 have n2:Q + 1 ≠ b:=by omega
 have n3:gg ≠ Q + 1:=by omega
 have n4:Q + 1 ≠ gg:=by omega
 clear c4 c5 c9 e1
 go_quiet (first | (go_at_call 130;refine Calls.quiet_of_same (HO.out _ LV.out)))
 go_wp2_with fail
 have DB:=hid' (below_drewN (Below.refl V.heap.size V) nq)
 generalize hW:V.drewN nq = W at *
 clear hW
 have PW:=hid' (PV.out.below DB.out)
 have w4:=PW.out.c4
 have w9:=PW.out.c9
 have lbv:=PV.out.lt
 have d0:=(DB.out.cell (p:=⟨Q + 1,0,none⟩) lv).trans d0
 have d1:=(DB.out.cell (p:=⟨Q + 1,1,none⟩) lv).trans d1
 have S0:=hid' ((DB.out.block _ (lt_of_heap R0.out)).trans R0.out)
 have S1:=hid' ((DB.out.block _ (lt_of_heap R1.out)).trans R1.out)
 have x0:=cell_of_row _ _ 0 _ _ _ S0.out
 have x1:=cell_of_row _ _ 1 _ _ _ S0.out
 have f0:=frozen_of_row _ _ 0 _ _ S0.out
 have f1:=frozen_of_row _ _ 1 _ _ S0.out
 have y0:=frozen_of_row _ _ 0 _ _ S1.out
 have y1:=frozen_of_row _ _ 1 _ _ S1.out
 have g1:=(DB.out.cell (p:=⟨gg,k * 2 + 1,none⟩) (by simp only;omega)).trans g1
 have BW:=hid' (B0.out.trans (DB.out.mono (by have:=B0.out.size;omega)))
 simp at x0 x1
 go_region_with (fail)
 all_goals
  go_wp2
  try simp only [Exit.inBlock,Exit.then]
  refine bodyPost_ret (results_cell_row rfl _ _ Q 98 #[.int .i64 (s.ns - po),.int .i64 s.nf] (0,0) _ rfl (two_row ((heap_setCell_other _ _ _ _ (by show Q ≠ Q + 1;omega)).trans S0.out)) Tryz.underlying98 rfl (by kernel_rfl)) rfl ?_
  exact ⟨ret_agg2 HU.out.symm rfl,by rw [hQ];exact (((BW.out.setCell (p:=⟨Q + 1,0,none⟩) (by simp only;omega) _).setCell (p:=⟨Q,0,none⟩) (Nat.le_refl _) _).setCell (p:=⟨Q,1,none⟩) (Nat.le_refl _) _).drew⟩
end Go.Proofs.YtmmkhodaljpjgaaGreatDoor
namespace Go.Proofs.YtmmkhodaljpjgaaGreatDoor
open Go.RowKit
attribute [local go_sem ↓] Go.wp_at_zero Go.wp_at_succ
def Sv.chg (s:Sv) (c:Int):(Int × Int) × Bool:=if 0 < s.atN ∧ Tab.follows s.done s.atN (s.old + c) = true then ((s.atN,s.old + c),true) else ((0,0),false)
theorem load_pleap {w:World} {g:Nat} {cs:Array Value} (hg:w.heap[g]? = some (.cells cs 84 (0,0))) (hs:cs.size = 2):(loadVar 84 ⟨g,0,none⟩).run Tryz.prog w = .ok (.agg cs) w :=
 run_loadVar_row (P:=Tryz.prog) w g 84 84 cs (0,0) _ hg Tryz.underlying84 rfl (by rw [hs];kernel_rfl)
theorem nextOf_day {y m n:Int} (h:Cal.In y m n):nextOf y m = -1 ∨ (nextOf y m / 86400 * 86400 = nextOf y m ∧ 0 < nextOf y m ∧ nextOf y m ≤ 34712668800):=by
 have:=h.y1
 have:=h.y2
 have:=h.m1
 have:=h.m2
 have ys:=Cal.yb_succ y
 unfold nextOf
 split
 ·split
  ·exact .inl rfl
  ·right
   have a:=Cal.yb_bd (y + 1) (by omega) (by omega)
   have b:=Cal.cum_bd (y + 1) 1 (by omega) (by omega)
   have c:=Cal.cum_one (y + 1)
   have d:=Cal.yb_mono 1901 (y + 1) (by omega)
   have e:=Cal.yb_mono (y + 1) 2999 (by omega)
   have f:Cal.yb 1901 = 365:=by decide
   have g:Cal.yb 2999 = 401402:=by decide
   omega
 ·right
  have a:=Cal.yb_bd y (by omega) (by omega)
  have b:=Cal.cum_mono y 2 (m + 1) (by omega)
  have c:=Cal.cum_succ y 1 (by omega) (by omega)
  rw [show (1:Int) + 1 = 2 from rfl] at c
  have d:=Cal.cum_one y
  have e:=Cal.dim_bd y 1
  have f:=Cal.yb_mono y 2999 (by omega)
  have g:Cal.yb 2999 = 401402:=by decide
  have k:=Cal.cum_mono y (m + 1) 12 (by omega)
  have l:=Cal.cum_succ y 12 (by omega) (by omega)
  rw [show (12:Int) + 1 = 13 from rfl] at l
  have n:=Cal.cum_end y
  have o:=Cal.dim_bd y 12
  have p:=Cal.lp_01 y
  omega
set_option maxRecDepth 100000 in
set_option maxHeartbeats 3200000 in
theorem change_at (b:Nat) (s:Sv) (dv cv:Value) (op:Bool) (bs bf c:Int) (w:World) (h:PRow b s dv cv op bs bf w) (hM:s.Mid) (hN:s.Num) (hc:c = 1 ∨ c = -1) :
  Calls Tryz.prog 199 #[.pointer (some ⟨b,0,none⟩),.int .i64 s.utc,.int .i64 c] w fun e w' => e = .returned (.tuple #[.agg #[.int .i64 (s.chg c).1.1,.int .i64 (s.chg c).1.2],.bool (s.chg c).2]) ∧ Below w.heap.size w w':=by
 have can:=hM.can hN
 have u0:=can.u0
 have u1:=can.u1
 obtain ⟨y,m,hin⟩:=in_cal u0 u1
 have HCH:Hid (s.chg c = if 0 < s.atN ∧ Tab.follows s.done s.atN (s.old + c) = true then ((s.atN,s.old + c),true) else ((0,0),false)):=rfl
 have hat:s.atN = nextOf y m:=nextS_eq hin
 have NM:=hid' (fun W => next_month (s.utc / 86400) y m W hin)
 have hnd:nextD y m = if nextOf y m = -1 then (0,1) else (nextOf y m / 86400,0):=rfl
 have nod:=nextOf_day hin
 rw [← hat] at hnd nod
 have HP:=hid' h
 have lb:=h.lt
 have hpos:=hM.pos
 have hlen:=hM.fit.good.len
 rw [s.all_length] at hlen
 obtain ⟨gg,cap,hdv⟩:=own_some h.dd hpos
 subst hdv
 have LIE:=hid' (lies_of h.dd rfl)
 have lg:gg < w.heap.size:=(h.dd.lt _ rfl).2
 have HF:=hid' hM.doneFit.good.fine
 obtain ⟨k,hk⟩:∃ k,s.done.length = k + 1:=⟨s.done.length - 1,by omega⟩
 have kl:k < s.done.length:=by omega
 have hold:s.old = (s.done[k]'kl).2:=by
  unfold Sv.old;rw [hk,Nat.add_sub_cancel,getD_at k kl]
 have ob:=(HF.out _ (List.getElem_mem kl)).2
 have e1:=(LIE.out k kl).2
 rw [← hold] at ob e1
 have CF:=hid' (fun (W:World) (hl:Lies W gg s.done) (lg:gg < W.heap.size) (a0:0 ≤ s.atN) (a1:s.atN ≤ 34712668800) => can_follow gg cap s.done.length s.done s.atN (s.old + c) W (wf_at (by omega) (by omega)) (wf_at (by omega) (by omega)) (Nat.le_refl _) (by omega) hl lg (fun p hp => (HF.out p (List.mem_of_mem_take hp)).2))
 rw [List.take_length] at CF
 have c9:=h.c9
 generalize s.utc = u at *
 generalize s.atN = at' at *
 generalize s.old = od at *
 generalize s.chg c = r at *
 generalize Tab.follows s.done at' (od + c) = fo at *
 clear hold
 generalize hln:s.done.length = L at *
 have HL:=hid' hln
 have c1:-1 ≤ c:=by omega
 have c2:c ≤ 1:=by omega
 have hki:(0:Int) ≤ (k:Int):=by omega
 have hkn:(k:Int) < (L:Int):=by omega
 obtain ⟨hw1,hw2⟩:IntKind.i64.wrap ((L:Int) - 1) = (k:Int) ∧ wrap64 ((L:Int) - 1) = (k:Int):=⟨by rw [IntKind.wrap_i64];omega,by unfold wrap64;omega⟩
 have R0:=hid' (heap_alloc_new w (.cells #[.int .i64 0,.int .i64 0] 84))
 have B0:=hid' ((Below.refl w.heap.size w).alloc (Nat.le_refl _) (.cells #[.int .i64 0,.int .i64 0] 84))
 clear h hM hN can hin hc hat hk hln
 generalize nextD y m = nd at *
 obtain ⟨n1,n2⟩:=nd
 simp only at NM
 go_enter Tryz.func199,Tryz.ntmps199
 go_upto_region 1 with fail
 generalize hV:w.alloc (.cells #[.int .i64 0,.int .i64 0] 84) = V at *
 generalize hQ:w.heap.size = Q at *
 clear hV
 have PV:=hid' (HP.out.below (by rw [hQ];exact B0.out))
 have v9:=PV.out.c9
 have x0:=cell_of_row _ _ 0 _ _ _ R0.out
 have x1:=cell_of_row _ _ 1 _ _ _ R0.out
 have f0:=frozen_of_row _ _ 0 _ _ R0.out
 have f1:=frozen_of_row _ _ 1 _ _ R0.out
 have lv:=lt_of_heap R0.out
 have sv:=B0.out.size
 simp at x0 x1
 have g1:=(B0.out.cell (p:=⟨gg,k * 2 + 1,none⟩) (by simp only;omega)).trans e1
 clear c9 e1
 go_wp2_with fail
 refine (NM.out _).mono ?_
 rintro e w1 ⟨rfl,hw1e⟩
 subst w1
 by_cases hno:at' = -1
 ·rw [if_pos hno] at hnd
  obtain ⟨rfl,rfl⟩:=Prod.mk.inj hnd
  have H:Hid (r = ((0,0),false)):=by show _ = _;rw [HCH.out,if_neg (by omega)]
  clear nod HCH hno hnd
  go_wp2
  try simp only [Exit.inBlock,Exit.then]
  refine bodyPost_ret (results_row_tmp (p:=6) (u:=7) rfl _ _ Q #[.int .i64 0,.int .i64 0] rfl (load_pleap (two_row R0.out) rfl)) rfl ?_
  rw [H.out]
  exact ⟨rfl,by rw [hQ];exact (B0.out.setCell (p:=⟨Q,0,none⟩) (Nat.le_refl _) _).setCell (p:=⟨Q,1,none⟩) (Nat.le_refl _) _⟩
 ·rw [if_neg hno] at hnd
  obtain ⟨rfl,rfl⟩:=Prod.mk.inj hnd
  obtain ⟨a1,a2,a3⟩:at' / 86400 * 86400 = at' ∧ 0 < at' ∧ at' ≤ 34712668800:=by
   rcases nod with q | q
   ·exact absurd q hno
   ·exact q
  have HA:=hid' a1
  obtain ⟨hw3,hw4⟩:IntKind.i64.wrap (at' / 86400 * 86400) = at' ∧ wrap64 (at' / 86400 * 86400) = at':=⟨by rw [IntKind.wrap_i64];omega,by unfold wrap64;omega⟩
  clear nod hno hnd a1
  have BN:=hid' ((Below.refl V.heap.size V).alloc (Nat.le_refl _) (.cells #[.int .i64 at',.int .i64 (od + c)] 84))
  have RN:=hid' (heap_alloc_new V (.cells #[.int .i64 at',.int .i64 (od + c)] 84))
  go_upto_region 6 with fail
  generalize hW:V.alloc (.cells #[.int .i64 at',.int .i64 (od + c)] 84) = W at *
  generalize hE:V.heap.size = E at *
  clear hW
  have PW:=hid' (PV.out.below (by rw [hE];exact BN.out))
  have w9:=PW.out.c9
  have z0:=cell_of_row _ _ 0 _ _ _ RN.out
  have z1:=cell_of_row _ _ 1 _ _ _ RN.out
  simp at z0 z1
  have LW:=hid' ((LIE.out.below (by omega) (by rw [hQ];exact B0.out)).below (by omega) (by rw [hE];exact BN.out))
  have lgw:gg < W.heap.size:=by have:=BN.out.size;omega
  have SX:=hid' ((BN.out.block _ (by omega)).trans R0.out)
  clear v9 g1 x0 x1 f0 f1
  go_cut [53] from 12 (fun s53 wx => s53 = .bool (!fo) ∧ Below W.heap.size W wx)
  case first =>
   go_region_with (go_at_call 169;refine (CF.out _ (LW.out.below (by omega) (Below.refl _ _).drew) (by exact lgw) (by omega) (by omega)).mono ?_;rintro e w2 ⟨rfl,hb2⟩;have HB2:=hid' hb2;clear hb2)
   all_goals
    go_wp2_with fail
    go_meet
    case rel => exact ⟨rfl,(Below.refl _ _).drew.trans HB2.out⟩
  case rest =>
   obtain ⟨rfl,bel⟩:=hcut
   rename World => W1
   have lw:=BN.out.size
   have B1:=hid' ((B0.out.trans (BN.out.mono (by omega))).trans (bel.mono (by omega)))
   have SX1:=hid' ((bel.block _ (lt_of_heap SX.out)).trans SX.out)
   have SN1:=hid' ((bel.block _ (lt_of_heap RN.out)).trans RN.out)
   have x0:=cell_of_row _ _ 0 _ _ _ SX1.out
   have x1:=cell_of_row _ _ 1 _ _ _ SX1.out
   have f0:=frozen_of_row _ _ 0 _ _ SX1.out
   have f1:=frozen_of_row _ _ 1 _ _ SX1.out
   have z0:=cell_of_row _ _ 0 _ _ _ SN1.out
   have z1:=cell_of_row _ _ 1 _ _ _ SN1.out
   simp at x0 x1 z0 z1
   clear bel w9
   cases fo with
   | false =>
    have H:Hid (r = ((0,0),false)):=by show _ = _;rw [HCH.out,if_neg (by simp)]
    clear HCH
    go_wp2
    try simp only [Exit.inBlock,Exit.then]
    refine bodyPost_ret (results_row_tmp (p:=6) (u:=7) rfl _ _ Q #[.int .i64 0,.int .i64 0] rfl (load_pleap (two_row SX1.out) rfl)) rfl ?_
    rw [H.out]
    exact ⟨rfl,by rw [hQ];exact (B1.out.setCell (p:=⟨Q,0,none⟩) (Nat.le_refl _) _).setCell (p:=⟨Q,1,none⟩) (Nat.le_refl _) _⟩
   | true =>
    have H:Hid (r = ((at',od + c),true)):=by show _ = _;rw [HCH.out,if_pos ⟨a2,rfl⟩]
    clear HCH
    go_wp2
    try simp only [Exit.inBlock,Exit.then]
    refine bodyPost_ret (results_row_tmp (p:=6) (u:=7) rfl _ _ Q #[.int .i64 at',.int .i64 (od + c)] rfl (load_pleap (two_row SX1.out) rfl)) rfl ?_
    rw [H.out]
    exact ⟨rfl,by rw [hQ];exact (B1.out.setCell (p:=⟨Q,0,none⟩) (Nat.le_refl _) _).setCell (p:=⟨Q,1,none⟩) (Nat.le_refl _) _⟩
end Go.Proofs.YtmmkhodaljpjgaaGreatDoor
