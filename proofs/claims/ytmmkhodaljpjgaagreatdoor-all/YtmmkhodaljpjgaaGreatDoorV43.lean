import Derived.Test.YtmmkhodaljpjgaaGreatDoorV42
import Derived.Deep.RegionHeld3
set_option maxRecDepth 100000
set_option maxHeartbeats 6400000
namespace Go.Proofs.YtmmkhodaljpjgaaGreatDoor
open Go.RowKit
attribute [local go_sem ↓] Go.wp_at_zero Go.wp_at_succ
theorem srv_advance (b:Nat) (s:Sv) (dv cv:Value) (op:Bool) (bs bf x y:Int) (w:World) (h:PRow b s dv cv op bs bf w) (ho:Opn s op bs bf) (hI:s.Inv) :
  Calls Tryz.prog 107 #[.pointer (some ⟨b,0,none⟩),.agg #[.int .i64 x,.int .i64 y]] w fun e w' => e = .returned (.int .i64 (s.adv x y).1) ∧ PPost b (pFoot b dv cv) w (s.adv x y).2 w':=by
 have B0:=hid' ((Below.refl w.heap.size w).alloc (Nat.le_refl _) (.cells #[.int .i64 x,.int .i64 y] 98))
 have R0:=hid' (heap_alloc_new w (.cells #[.int .i64 x,.int .i64 y] 98))
 have P0:=hid' (h.below B0.out)
 have SU:=hid' (fun W => clk_sum s.ns s.nf x y W hI.num.t)
 have HCS:Hid (clkSum s.ns s.nf x y = if isT x y = false then ((0,0),false) else if isT (tSum s.ns s.nf x y).1 (tSum s.ns s.nf x y).2 = false then ((0,0),false) else (tSum s.ns s.nf x y,true)):=rfl
 have HAD:Hid (s.adv x y = if isT x y = false then (9,s) else if isT (tSum s.ns s.nf x y).1 (tSum s.ns s.nf x y).2 = false then (9,s) else (0,(s.at' (tSum s.ns s.nf x y).1 (tSum s.ns s.nf x y).2).weigh)):=rfl
 have HLT:=hid' (fun h => tSum_later (a:=s.ns) (b:=s.nf) (s:=x) (f:=y) h hI.num.t)
 have HI:=hid' hI
 have HO:=hid' ho
 have HP:=hid' h
 generalize s.adv x y = ad at *
 generalize clkSum s.ns s.nf x y = cs at *
 obtain ⟨⟨c1,c2⟩,ok⟩:=cs
 simp only at SU
 clear h ho hI
 go_enter Tryz.func107,Tryz.ntmps107
 go_upto_region 1 with fail
 generalize hV:w.alloc (.cells #[.int .i64 x,.int .i64 y] 98) = V at *
 generalize hQ:w.heap.size = Q at *
 clear hV
 have q2:=P0.out.c4
 have q3:=P0.out.c5
 have d0:=cell_of_row _ _ 0 _ _ _ R0.out
 have d1:=cell_of_row _ _ 1 _ _ _ R0.out
 have lb:=lt_of_heap P0.out.row
 have lq:=lt_of_heap R0.out
 simp at d0 d1
 go_cut [5,6] from 7 (fun s5 s6 wx => s6 = .bool ok ∧ ∃ q,s5 = .pointer (some ⟨q,0,none⟩) ∧ Below V.heap.size V wx ∧ wx.heap[q]? = some (.cells #[.int .i64 c1,.int .i64 c2] 98 (0,0)))
 case first =>
  go_region_with (go_at_call 147;refine (SU.out _).mono ?_;rintro e w1 ⟨rfl,hb1⟩;(try (have hrow:=(hb1.block V.heap.size (by exact Nat.lt_of_lt_of_eq (Nat.lt_succ_self _) (alloc_sz V (.cells #[.int .i64 0,.int .i64 0] 98)).symm)).trans (heap_alloc_new V.drew (.cells #[.int .i64 0,.int .i64 0] 98));have z0:=cell_of_row _ _ 0 _ _ _ hrow;have z1:=cell_of_row _ _ 1 _ _ _ hrow;have zf0:=frozen_of_row _ _ 0 _ _ hrow;have zf1:=frozen_of_row _ _ 1 _ _ hrow;simp at z0 z1;have HROW:=hid' hrow;clear hrow));have HB1:=hid' hb1;clear hb1)
  all_goals
   go_wp2_with fail
   go_meet
   case rel =>
    first
     | exact ⟨rfl,_,rfl,((Below.refl _ _).drew.trans HB1.out).alloc (by exact HB1.out.size) _,by exact heap_alloc_new _ _⟩
     | exact ⟨rfl,_,rfl,((((Below.refl V.heap.size V).drew.alloc (Nat.le_refl _) (.cells #[.int .i64 0,.int .i64 0] 98)).trans (HB1.out.mono (by exact Nat.le_of_lt (Nat.lt_of_lt_of_eq (Nat.lt_succ_self _) (alloc_sz V (.cells #[.int .i64 0,.int .i64 0] 98)).symm)))).setCell (p:=⟨V.heap.size,0,none⟩) (Nat.le_refl _) _).setCell (p:=⟨V.heap.size,1,none⟩) (Nat.le_refl _) _,by exact two_row HROW.out⟩
 case rest =>
  obtain ⟨rfl,q,rfl,bel,qrow⟩:=hcut
  rename World => W1
  have BW:=hid' (B0.out.trans (bel.mono (by have:=B0.out.size;omega)))
  have P1:=hid' (P0.out.below bel)
  have QR:=hid' qrow
  clear bel q2 q3 d0 d1
  cases ok with
  | false =>
   have hne:Hid (ad = (9,s)):=by
    show _ = _
    rw [HAD.out]
    by_cases z1:isT x y = false
    ·rw [if_pos z1]
    ·rw [if_neg z1]
     by_cases z2:isT (tSum s.ns s.nf x y).1 (tSum s.ns s.nf x y).2 = false
     ·rw [if_pos z2]
     ·have:=HCS.out
      rw [if_neg z1,if_neg z2] at this
      cases this
   clear qrow
   go_wp2
   go_ret
   rw [hne.out]
   exact ⟨rfl,pFoot b dv cv,⟨dv,cv,op,bs,bf,P1.out,HO.out,fun k => Iff.rfl⟩,Off.of_below (by rw [hQ];exact BW.out),fun k e => .inl e⟩
  | true =>
   have hyes:Hid (tLater s.ns s.nf c1 c2 = false ∧ isT c1 c2 = true ∧ ad = (0,(s.at' c1 c2).weigh)):=by
    show _ ∧ _
    by_cases z1:isT x y = false
    ·have:=HCS.out
     rw [if_pos z1] at this
     cases this
    ·by_cases z2:isT (tSum s.ns s.nf x y).1 (tSum s.ns s.nf x y).2 = false
     ·have:=HCS.out
      rw [if_neg z1,if_pos z2] at this
      cases this
     ·have e:=HCS.out
      rw [if_neg z1,if_neg z2] at e
      have ea:=HAD.out
      rw [if_neg z1,if_neg z2] at ea
      have l:=HLT.out (by simpa using z1)
      have t:=z2
      have e':tSum s.ns s.nf x y = (c1,c2):=(Prod.mk.inj e).1.symm
      rw [e'] at ea l t
      exact ⟨l,by simpa using t,ea⟩
   have o0:=cell_of_row _ _ 0 _ _ _ qrow
   have o1:=cell_of_row _ _ 1 _ _ _ qrow
   have g2:=P1.out.c4
   have g3:=P1.out.c5
   have f2:=frozen_of_row _ _ 4 _ _ P1.out.row
   have f3:=frozen_of_row _ _ 5 _ _ P1.out.row
   simp at o0 o1
   have ne1:q ≠ b:=fun e => by
    have h1:=QR.out
    rw [e,P1.out.row] at h1
    simp at h1
   have ne2:b ≠ q:=fun e => ne1 e.symm
   have P2:=hid' (P1.out.putN c1 c2)
   have LA:=hid' (look_around b (s.at' c1 c2) dv cv op bs bf _ P2.out (HO.out.at' hyes.out.1) (HI.out.num.at' hyes.out.2.1) (fun e => (HI.out.mid e).at' c1 c2 hyes.out.1) (fun e => by have:=HI.out.ex e;exact ⟨by show 0 ≤ s.ex;omega,by show s.ex ≤ _;omega⟩))
   clear qrow
   go_wp2_with fail
   refine LA.out.mono ?_
   rintro e w5 ⟨rfl,F5,pr,of,ff⟩
   have PR:=hid' pr
   have OF:=hid' of
   have FF:=hid' ff
   clear pr of ff LA
   go_wp2
   go_ret
   rw [hyes.out.2.2]
   have O1:Off (pFoot b dv cv) w ((W1.setCell ⟨b,4,none⟩ (.int .i64 c1)).setCell ⟨b,5,none⟩ (.int .i64 c2)):=((Off.of_below (by rw [hQ];exact BW.out)).setCell (p:=⟨b,4,none⟩) (fun _ => .inl rfl) _).setCell (p:=⟨b,5,none⟩) (fun _ => .inl rfl) _
   have sz1:=O1.size
   refine ⟨rfl,F5,PR.out,O1.trans OF.out (fun k _ e => e),fun k e => ?_⟩
   rcases FF.out k e with z | z
   ·exact .inl z
   ·exact .inr (by omega)
theorem p_advance (s:Sv) (x y:Int) (hI:s.Inv):PDoes PS 62 (fun q => #[.pointer (some ⟨q,0,none⟩),.agg #[.int .i64 x,.int .i64 y]]) s (s.adv x y).2 (s.adv x y).1 (fun _ => True):=by
 intro b F w hp _
 obtain ⟨dv,cv,op,bs,bf,r,o,f⟩:=hp
 have B0:=hid' ((Below.refl w.heap.size w).alloc (Nat.le_refl _) (.cells #[.int .i64 x,.int .i64 y] 98))
 have SA:=hid' (fun (W:World) (hb:Below (w.alloc (.cells #[.int .i64 x,.int .i64 y] 98)).heap.size (w.alloc (.cells #[.int .i64 x,.int .i64 y] 98)) W) => srv_advance b s dv cv op bs bf x y W ((r.below B0.out).below hb) o hI)
 have HF:=hid' f
 clear r o f hI
 go_enter Tryz.func62,Tryz.ntmps62
 go_wp2_with fail
 go_region_with (go_at_call 107;refine (SA.out _ (by exact (Below.refl _ _).drew)).mono ?_;rintro e w1 ⟨rfl,F',ps,of,ff⟩;have PSH:=hid' ps;have OF:=hid' of;have FF:=hid' ff;clear ps of ff)
 all_goals
  go_wp2
  go_ret
  have sz:=B0.out.size
  refine ⟨rfl,F',PSH.out,(Off.of_below B0.out.drew).trans OF.out (fun k _ e => (HF.out k).2 e),fun k e => ?_⟩
  rcases FF.out k e with z | z
  ·exact .inl ((HF.out k).2 z)
  ·exact .inr (Nat.le_trans sz z)
end Go.Proofs.YtmmkhodaljpjgaaGreatDoor
namespace Go.Proofs.YtmmkhodaljpjgaaGreatDoor
open Go.RowKit
attribute [local go_sem ↓] Go.wp_at_zero Go.wp_at_succ
theorem label_extra (g cap n k:Nat) (ls:List (Int × Int)) (sec:Int) (w:World) (hn:ls.length = n) (hl:Lies w g ls) (hG:Tab.Good ls) (hb:n ≤ 900) (hk:Tab.lastAt ls sec n = (k:Int)) (u0:0 ≤ sec - (ls.getD k (0,0)).2) (s1:sec ≤ 34000000000) :
  Calls Tryz.prog 175 #[.slice (some ⟨g,0,none⟩) n cap,.int .i64 sec] w fun e w' => e = .returned (.int .i64 (Tab.length ls ((sec - (ls.getD k (0,0)).2) / 86400) - 86400)) ∧ ∃ m,w' = w.drewN m:=by
 have lb:=Tab.lastAt_bd ls sec n
 have kl:k < ls.length:=by omega
 have fb:=(hG.fine _ (List.getElem_mem kl)).2
 have e1:=(hl k kl).2
 have eg:=getD_at (ls:=ls) k kl
 rw [eg] at u0 ⊢
 have three:=hG.three ((sec - (ls[k]'kl).2) / 86400)
 have HO:=hid' (holder_any g cap n ls sec w hn hl hG.fine (by omega))
 rw [hk] at HO
 have DO:=hid' (fun W => day_of sec (ls[k]'kl).2 W u0 (by omega) (by omega) (by omega))
 have DL:=hid' (day_length g cap n ls ((sec - (ls[k]'kl).2) / 86400) w hn (by omega) hl hG.fine (by omega) (by omega) (by omega))
 generalize Tab.length ls ((sec - (ls[k]'kl).2) / 86400) = L at *
 generalize (ls[k]'kl).2 = po at *
 generalize (sec - po) / 86400 = d at *
 have hki:(0:Int) ≤ (k:Int):=by omega
 have hkn:(k:Int) < (n:Int):=by omega
 clear hl hG eg lb hk kl hn
 go_enter Tryz.func175,Tryz.ntmps175
 go_wp2_with fail
 refine HO.out.mono ?_
 rintro e w1 ⟨rfl,hw⟩
 subst w1
 go_wp2_with fail
 refine (DO.out _).mono ?_
 rintro e w1 ⟨rfl,hw⟩
 subst w1
 go_wp2_with fail
 refine DL.out.mono ?_
 rintro e w1 ⟨rfl,m,hw⟩
 have HW:=hid' hw
 clear hw
 go_wp2
 go_ret
 exact ⟨rfl,m,HW.out⟩
theorem srv_entries (b:Nat) (s:Sv) (dv cv:Value) (op:Bool) (bs bf:Int) (w:World) (h:PRow b s dv cv op bs bf w) (hl:s.done.length + s.com.length ≤ 800) :
  Calls Tryz.prog 174 #[.pointer (some ⟨b,0,none⟩)] w fun e w' => ∃ v,e = .returned v ∧ w'.ownsRow w.heap.size 84 2 v s.all.length (flat s.all) ∧ Below w.heap.size w w':=by
 obtain ⟨i0,hi0,hz0,hz1,hz2⟩:=info_parts infoALeap
 obtain ⟨da,dcp,hdv⟩:=own_slice h.dd
 subst hdv
 obtain ⟨ca,ccp,hcv⟩:=own_slice h.cc
 subst hcv
 have HP:=hid' h
 have lb:=h.lt
 have c9:=h.c9
 have CO:=hid' (copy_of da s.done.length dcp s.done w (read_of h.dd rfl) rfl (by omega))
 clear h
 go_enter Tryz.func174,Tryz.ntmps174
 go_wp2_with fail
 refine CO.out.mono ?_
 rintro e w1 ⟨v1,rfl,own1,hb1⟩
 have OWN1:=hid' own1
 have HB1:=hid' hb1
 clear own1 hb1 CO c9
 go_wp2_with fail
 go_loopw [3,4] (fun v i wr => ∃ k:Nat,k ≤ s.com.length ∧ i = .int .i64 k ∧ wr.ownsRow w.heap.size 84 2 v (s.done.length + k) (flat (s.done ++ (s.com.take k).map cmP)) ∧ Below w.heap.size w wr) (fun _ i _ => s.com.length - (intOf i).toNat)
 case atStart => exact ⟨0,by omega,rfl,by simpa using OWN1.out,HB1.out⟩
 case round =>
  obtain ⟨k,hk,rfl,own,hb⟩:=hrel
  have OWN:=hid' own
  have HB:=hid' hb
  have hsz:=hb.size
  have P1:=hid' (HP.out.below hb)
  have q10:=P1.out.c10
  have lbr:=P1.out.lt
  obtain ⟨va,vcp,hv⟩:=own_slice own
  subst hv
  by_cases hlt:k < s.com.length
  ·have hli:(k:Int) < (s.com.length:Int):=by omega
   have hk0i:(0:Int) ≤ (k:Int):=by omega
   obtain ⟨gc,cg,hg⟩:=own_some P1.out.cc (show 0 < s.com.length by omega)
   obtain ⟨rfl,_,rfl⟩:=Value.slice.inj hg
   have lgc:gc < w.heap.size:=(HP.out.cc.lt _ rfl).2
   have a0:=(P1.out.cc.cellAt (k * 5) (by omega)).trans (flatC_at s.com k hlt 0 (by omega))
   have a1:=(P1.out.cc.cellAt (k * 5 + 1) (by omega)).trans (flatC_at s.com k hlt 1 (by omega))
   have htk:(s.com.take (k + 1)).map cmP = (s.com.take k).map cmP ++ [cmP s.com[k]]:=by
    rw [List.take_succ_eq_append_getElem hlt,List.map_append];rfl
   have HTK:=hid' htk
   generalize s.com[k] = c at *
   obtain ⟨cA,cO,cS,cF,cV⟩:=c
   simp [Cm.cells] at a0 a1
   have NB:Hid (some b ≠ (Value.slice va (s.done.length + k) vcp).ownBlock):=fun e => by have:=own_ge OWN.out b e.symm;omega
   have NG:Hid (some gc ≠ (Value.slice va (s.done.length + k) vcp).ownBlock):=fun e => by have:=own_ge OWN.out gc e.symm;omega
   have lgr:gc < wr.heap.size:=by omega
   have BAL:=(Below.refl wr.heap.size wr).alloc (Nat.le_refl _) (.cells #[.int .i64 cA,.int .i64 cO] 84)
   have m10:=(BAL.cell (p:=⟨b,10,none⟩) lbr).trans q10
   have m0:=(BAL.cell (p:=⟨gc,k * 5,none⟩) lgr).trans a0
   have m1:=(BAL.cell (p:=⟨gc,k * 5 + 1,none⟩) lgr).trans a1
   have nb1:¬ b = wr.heap.size:=by omega
   have nb2:¬ wr.heap.size = b:=by omega
   have ng1:¬ gc = wr.heap.size:=by omega
   have ng2:¬ wr.heap.size = gc:=by omega
   clear own hb hg htk BAL
   go_upto_region 5 with fail
   go_region_held3 (fun w' => w'.cell? ⟨b,10,none⟩ = some (.slice (some ⟨gc,0,none⟩) s.com.length ccp) ∧ w'.cell? ⟨gc,k * 5,none⟩ = some (.int .i64 cA) ∧ w'.cell? ⟨gc,k * 5 + 1,none⟩ = some (.int .i64 cO)) (go_keep)
    (first
     | (refine step_append_lies _ ?_ (.tmp 21) (.tmp 41) 76 ?_ w.heap.size 84 i0 (.agg #[.int .i64 0,.int .i64 0]) 2 16 Tryz.underlying76 hi0 hz0 hz1 hz2 rfl (by decide) (.slice va (s.done.length + k) vcp) (s.done.length + k) (flat (s.done ++ (s.com.take k).map cmP)) ?_ ?_ ⟨wr.heap.size,0,none⟩ 1 1 [.int .i64 cA,.int .i64 cO] ?_ ?_ ?_ ?_ ?_ ?_ ?_ ?_ (wr.heap.size + 1) ?_ ?_;exact rfl;exact rfl;exact rfl;exact (OWN.out.alloc _).drew;exact rfl;exact rfl;exact (World.news_of_block (cs:=#[.int .i64 cA,.int .i64 cO]) (t:=84) (fr:=(0,0)) (heap_alloc_new wr _));(simp [Value.oneCell']);decide;(unfold maxLen;omega);omega;(simp;omega);(simp);intro gg cap6 w6 own6 hg6 hat6 hlt6;have k10:=(hg6.cell (a:=⟨b,10,none⟩) (v:=.slice (some ⟨gc,0,none⟩) s.com.length ccp) (by exact m10) NB.out);have k0:=(hg6.cell (a:=⟨gc,k * 5,none⟩) (v:=.int .i64 cA) (by exact m0) NG.out);have k1:=(hg6.cell (a:=⟨gc,k * 5 + 1,none⟩) (v:=.int .i64 cO) (by exact m1) NG.out);have OWN6:=hid' own6;have HG6:=hid' hg6;clear own6 hg6 hat6))
   all_goals
    go_wp2
    go_roundw
    case rel =>
     refine ⟨k + 1,by omega,by go_num,?_,((HB.out.alloc hsz _).drew).grown HG6.out (by simp;omega) (own_ge OWN.out)⟩
     rw [HTK.out,← List.append_assoc,flat_append];exact OWN6.out
    case measure => simp [intOf];omega
  ·have hnl:¬ (k:Int) < (s.com.length:Int):=by omega
   obtain rfl:k = s.com.length:=by omega
   clear own hb
   go_wp2
   go_ret
   refine ⟨_,rfl,?_,HB.out⟩
   have q:=OWN.out
   rw [List.take_length] at q
   rw [s.all_length]
   exact q
theorem srv_indicator_no (b:Nat) (s:Sv) (dv cv:Value) (op:Bool) (bs bf:Int) (w:World) (h:PRow b s dv cv op bs bf w) (hm:s.mode ≠ 0) :
  Calls Tryz.prog 136 #[.pointer (some ⟨b,0,none⟩)] w fun e w' => e = .returned (.int .i64 0) ∧ Below w.heap.size w w':=by
 have c0:=h.c0
 have e0:(s.mode != 0) = true:=bne_iff_ne.2 hm
 clear h hm
 go_enter Tryz.func136,Tryz.ntmps136
 go_wp2
 go_ret
 exact ⟨rfl,Below.refl _ _⟩
theorem srv_indicator (b:Nat) (s:Sv) (dv cv:Value) (op:Bool) (bs bf:Int) (k:Nat) (w:World) (h:PRow b s dv cv op bs bf w) (hI:s.Inv) (hm:s.mode = 0) (hk:s.IndOk k) :
  Calls Tryz.prog 136 #[.pointer (some ⟨b,0,none⟩)] w fun e w' => e = .returned (.int .i64 (s.ind (s.utc / 86400))) ∧ Below w.heap.size w w':=by
 have c0:=h.c0
 rw [hm] at c0
 have hlen:=hI.lens
 obtain ⟨t0,t1,t2,t3⟩:=hI.num.t'
 have EN:=hid' (srv_entries b s dv cv op bs bf w h (by omega))
 have HP:=hid' h
 have al:=s.all_length
 have hall:0 < s.all.length:=by have:=hk.k1;omega
 have hu:s.ns - (s.all.getD k (0,0)).2 = s.utc:=by rw [hk.atk,hk.utc]
 have EX:=hid' (fun (g cap:Nat) (W:World) (hl:Lies W g s.all) => label_extra g cap s.all.length k s.all s.ns W rfl hl hk.gall (by omega) hk.all (by rw [hu];exact hk.u0) t1)
 rw [hu,hk.len] at EX
 have three:=hk.good.three (s.utc / 86400)
 have HIN:Hid (s.ind (s.utc / 86400) = if 86400 < Tab.length s.known (s.utc / 86400) then 1 else if Tab.length s.known (s.utc / 86400) < 86400 then 2 else 0):=rfl
 generalize s.ind (s.utc / 86400) = r at *
 generalize Tab.length s.known (s.utc / 86400) = L at *
 generalize hal:s.all.length = n at *
 have b0:((0:Int) != 0) = false:=rfl
 clear h hI hk hu al
 go_enter Tryz.func136,Tryz.ntmps136
 go_wp2_with fail
 refine EN.out.mono ?_
 rintro e w1 ⟨v1,rfl,own1,hb1⟩
 obtain ⟨g,cg,hg⟩:=own_some own1 hall
 subst hg
 have LI:=hid' (lies_of own1 hal)
 have B1:=hid' hb1
 have P1:=hid' (HP.out.below hb1)
 have c4:=P1.out.c4
 clear own1 hb1 EN c0
 go_wp2_with fail
 refine (EX.out g cg _ LI.out).mono ?_
 rintro e w2 ⟨rfl,m,hw⟩
 have B2:=hid' (show Below w.heap.size w w2 by rw [hw];exact below_drewN B1.out m)
 clear hw EX c4
 by_cases z1:L = 86401
 ·have H:Hid (r = 1):=by show _ = _;rw [HIN.out,if_pos (by omega)]
  subst z1
  go_wp2
  go_ret
  exact ⟨congrArg (fun v => Ending.returned (.int .i64 v)) H.out.symm,B2.out⟩
 ·by_cases z2:L = 86399
  ·have H:Hid (r = 2):=by show _ = _;rw [HIN.out,if_neg (by omega),if_pos (by omega)]
   subst z2
   go_wp2
   go_ret
   exact ⟨congrArg (fun v => Ending.returned (.int .i64 v)) H.out.symm,B2.out⟩
  ·obtain rfl:L = 86400:=by omega
   have H:Hid (r = 0):=by show _ = _;rw [HIN.out,if_neg (by omega),if_neg (by omega)]
   clear z1 z2
   go_wp2
   go_ret
   exact ⟨congrArg (fun v => Ending.returned (.int .i64 v)) H.out.symm,B2.out⟩
end Go.Proofs.YtmmkhodaljpjgaaGreatDoor
