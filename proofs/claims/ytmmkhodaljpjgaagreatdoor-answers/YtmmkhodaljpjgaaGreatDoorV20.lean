import Derived.Test.YtmmkhodaljpjgaaGreatDoorV16
import Derived.Test.YtmmkhodaljpjgaaGreatDoorV19
import Derived.Deep.RegionLaw
import Derived.Deep.QuietTactic
import Derived.BigQuiet
import Derived.Deep.RegionHeld3
namespace Go.Proofs.YtmmkhodaljpjgaaGreatDoor
open Go.RowKit
attribute [local go_sem ↓] Go.wp_at_zero Go.wp_at_succ
def DueP (b:Nat) (F:Nat → Prop) (w:World) (s:Sv) (w':World):Prop:=∃ dv cv op bs bf,PRow b s dv cv op bs bf w' ∧ Opn s op bs bf ∧ Off F w w' ∧ ∀ j,pFoot b dv cv j → F j ∨ w.heap.size ≤ j
theorem DueP.post {b:Nat} {F:Nat → Prop} {w:World} {s:Sv} {w':World} (h:DueP b F w s w'):PPost b F w s w':=by
 obtain ⟨dv,cv,op,bs,bf,r,o,f,g⟩:=h
 exact ⟨pFoot b dv cv,⟨dv,cv,op,bs,bf,r,o,fun k => Iff.rfl⟩,f,g⟩
theorem due_all (b:Nat) (s:Sv) (dv cv:Value) (op:Bool) (bs bf:Int) (w:World) (h:PRow b s dv cv op bs bf w) (ho:Opn s op bs bf) (hM:s.Mid) (hN:s.Num) :
  Calls Tryz.prog 182 #[.pointer (some ⟨b,0,none⟩)] w fun e w' => e = .returned (.tuple #[]) ∧ DueP b (pFoot b dv cv) w s.begun w':=by
 have win:=hN.win
 obtain ⟨m,hc⟩:=hM.cut win.1 win.2
 have g:=hM.fit.good.len
 rw [s.all_length] at g
 refine (let_due b s dv cv op bs bf m w h hc (by omega)).mono ?_
 rintro e w' ⟨rfl,dv',cv',r,o,f⟩
 exact ⟨rfl,dv',cv',_,_,_,r,ho.begun hc (fun _ => by rw [hM.bl];exact hM.pos),o,f⟩
theorem DueP.then {b:Nat} {F G:Nat → Prop} {w w1:World} {s':Sv} {w':World} (h:DueP b G w1 s' w') (of:Off F w w1) (hg:∀ j,G j → F j ∨ w.heap.size ≤ j):DueP b F w s' w':=by
 obtain ⟨dv,cv,op,bs,bf,r,o,f,g⟩:=h
 have sz:=of.size
 refine ⟨dv,cv,op,bs,bf,r,o,of.trans f (fun k hk q => ?_),fun j q => ?_⟩
 ·rcases hg k q with z | z
  ·exact z
  ·omega
 ·rcases g j q with z | z
  ·exact hg j z
  ·exact .inr (by omega)
theorem Sv.filed_nil {x:Sv} (h:x.com = []):x.filed = false:=by unfold Sv.filed;rw [h]
theorem Sv.filed_cons {x:Sv} {c:Cm} {r:List Cm} (h:x.com = c :: r):x.filed = !c.v:=by unfold Sv.filed;rw [h]
theorem Sv.weigh_filed {x:Sv} (hl:x.ld = true) (hf:x.begun.filed = true):x.weigh = x.begun:=by
 unfold Sv.weigh;rw [if_neg (by rw [hl];simp),if_pos hf]
theorem Sv.weigh_voted {x:Sv} (hl:x.ld = true) (hf:x.begun.filed = false):x.weigh = x.begun.voted:=by
 unfold Sv.weigh;rw [if_neg (by rw [hl];simp),if_neg (by rw [hf];simp)]
theorem Sv.tally_com (y:Sv) (L:List Cm) (n:Nat):({ y with com:=L }:Sv).tally n = y.tally n:=by
 induction n with
 | zero => rfl
 | succ n ih =>
  have e:∀ h,({ y with com:=L }:Sv).counts h = y.counts h:=fun _ => rfl
  unfold Sv.tally
  rw [ih,e]
theorem Sv.most_com (y:Sv) (L:List Cm):({ y with com:=L }:Sv).most = y.most:=by
 unfold Sv.most
 rw [Sv.tally_com]
theorem Sv.sign_com (y:Sv) (L:List Cm):({ y with com:=L }:Sv).sign = y.sign:=by
 unfold Sv.sign
 rw [Sv.most_com]
 rfl
theorem Sv.utc_com (y:Sv) (L:List Cm):({ y with com:=L }:Sv).utc = y.utc:=rfl
theorem Sv.old_com (y:Sv) (L:List Cm):({ y with com:=L }:Sv).old = y.old:=rfl
theorem Sv.atN_com (y:Sv) (L:List Cm):({ y with com:=L }:Sv).atN = y.atN:=by
 unfold Sv.atN;rw [Sv.utc_com]
theorem Sv.whenN_com (y:Sv) (L:List Cm):({ y with com:=L }:Sv).whenN = y.whenN:=by
 unfold Sv.whenN;rw [Sv.sign_com,Sv.atN_com,Sv.old_com]
theorem Sv.okN_com (y:Sv) (L:List Cm):({ y with com:=L }:Sv).okN = y.okN:=by
 unfold Sv.okN;rw [Sv.sign_com,Sv.atN_com,Sv.old_com]
theorem Sv.opens_com (y:Sv) (L:List Cm) (t:Int):({ y with com:=L }:Sv).opens t = y.opens t:=rfl
theorem Sv.vt_voted (y:Sv):(({ y with com:=[] }:Sv).vt.2 = false → y.voted = { y with com:=[] }) ∧ (({ y with com:=[] }:Sv).vt.2 = true → y.okN = true ∧ y.ns < y.whenN ∧ ({ y with com:=[] }:Sv).vt.1 = ⟨y.atN,y.old + y.sign,(y.opens y.whenN).1,(y.opens y.whenN).2,true⟩ ∧ y.voted = ({ y with com:=[({ y with com:=[] }:Sv).vt.1] }:Sv).begun):=by
 have e:({ y with com:=[] }:Sv).vt = if y.okN = false ∨ y.whenN ≤ y.ns then (⟨0,0,0,0,false⟩,false) else (⟨y.atN,y.old + y.sign,(y.opens y.whenN).1,(y.opens y.whenN).2,true⟩,true):=by
  unfold Sv.vt
  rw [Sv.okN_com,Sv.whenN_com,Sv.atN_com,Sv.old_com,Sv.sign_com,Sv.opens_com]
 have v:y.voted = if y.okN = false ∨ y.whenN ≤ y.ns then { y with com:=[] } else ({ y with com:=[⟨y.atN,y.old + y.sign,(y.opens y.whenN).1,(y.opens y.whenN).2,true⟩] }:Sv).begun:=by unfold Sv.voted;rfl
 rw [e,v]
 by_cases c:y.okN = false ∨ y.whenN ≤ y.ns
 ·rw [if_pos c,if_pos c]
  exact ⟨fun _ => rfl,fun q => by cases q⟩
 ·rw [if_neg c,if_neg c]
  refine ⟨fun q => (by cases q),fun _ => ⟨?_,?_,rfl,rfl⟩⟩
  ·cases q:y.okN with
   | true => rfl
   | false => exact absurd (.inl q) c
  ·by_cases q:y.ns < y.whenN
   ·exact q
   ·exact absurd (.inr (by omega)) c
set_option maxRecDepth 100000 in
set_option maxHeartbeats 6400000 in
theorem look_around (b:Nat) (s:Sv) (dv cv:Value) (op:Bool) (bs bf:Int) (w:World) (h:PRow b s dv cv op bs bf w) (ho:Opn s op bs bf) (hN:s.Num) (hM:s.ld = true → s.Mid) (hx:s.ld = true → 0 ≤ s.ex ∧ s.ex ≤ 34000000000) :
  Calls Tryz.prog 148 #[.pointer (some ⟨b,0,none⟩)] w fun e w' => e = .returned (.tuple #[]) ∧ PPost b (pFoot b dv cv) w s.weigh w':=by
 obtain ⟨k0,hk0,hx0,hx1,hx2⟩:=info_parts infoAComing
 have HP:=hid' h
 have HO:=hid' ho
 have c6:=h.c6
 cases hld:s.ld with
 | false =>
  have hw:s.weigh = s:=by unfold Sv.weigh;rw [if_pos hld]
  rw [hld] at c6
  rw [hw]
  clear h ho hN hM hx hw
  go_enter Tryz.func148,Tryz.ntmps148
  go_wp2
  refine bodyPost_ret (results_none rfl _ _ _) rfl ?_
  exact ⟨rfl,pFoot b dv cv,⟨dv,cv,op,bs,bf,HP.out,HO.out,fun k => Iff.rfl⟩,Off.refl _ _,fun k e => .inl e⟩
 | true =>
  rw [hld] at c6
  have hm:=hM hld
  have hex:=hx hld
  have win:=hN.win
  have bg:=hm.begun win.1 win.2
  have hyn:=hN.of bg.same
  have HY:=hid' bg.mid
  have HYN:=hid' hyn
  have DU:=hid' (due_all b s dv cv op bs bf w h ho hm hN)
  have eyx:s.begun.ex = s.ex:=rfl
  have HEX:Hid (0 ≤ s.begun.ex ∧ s.begun.ex ≤ 34000000000):=hex
  have HWF:=hid' (fun q => Sv.weigh_filed (x:=s) hld q)
  have HWV:=hid' (fun q => Sv.weigh_voted (x:=s) hld q)
  have HVV:=hid' s.begun.vt_voted
  have HFN:=hid' (fun q => Sv.filed_nil (x:=s.begun) q)
  have HFC:=hid' (fun c r q => Sv.filed_cons (x:=s.begun) (c:=c) (r:=r) q)
  generalize s.weigh = sw at *
  generalize hy:s.begun = y at *
  clear h ho hN hM hx hm hex bg hyn eyx hy
  go_enter Tryz.func148,Tryz.ntmps148
  go_wp2_with fail
  refine DU.out.mono ?_
  rintro e w1 ⟨rfl,dv1,cv1,op1,bs1,bf1,pr1,o1,of1,ff1⟩
  have P1:=hid' pr1
  have O1:=hid' o1
  have OF1:=hid' of1
  have FF1:=hid' ff1
  have hlen:=HY.out.fit.good.len
  rw [y.all_length] at hlen
  obtain ⟨ca,ccp,hcv⟩:=own_slice pr1.cc
  subst hcv
  have c10:=pr1.c10
  clear pr1 o1 of1 ff1 DU c6
  go_upto_region 2 with fail
  go_cut [29] from 4 (fun s29 wx => s29 = .bool y.filed ∧ wx = w1)
  case first =>
   cases hcom:y.com with
   | nil =>
    have e0:y.com.length = 0:=by rw [hcom];rfl
    rw [e0] at c10
    have HC0:=hid' hcom
    clear hcom e0
    go_wp2_with fail
    go_meet
    case rel => exact ⟨by rw [HFN.out HC0.out],rfl⟩
   | cons c r =>
    have e0:y.com.length = r.length + 1:=by rw [hcom];rfl
    have hp:0 < y.com.length:=by omega
    obtain ⟨g,cg,hg⟩:=own_some P1.out.cc hp
    obtain ⟨rfl,_,rfl⟩:=Value.slice.inj hg
    have e4:=(P1.out.cc.cellAt (0 * 5 + 4) (by omega)).trans (flatC_at y.com 0 hp 4 (by omega))
    rw [show y.com[0]'hp = c from by simp [hcom]] at e4
    simp [Cm.cells] at e4
    have hpi:(0:Int) < (y.com.length:Int):=by omega
    have HC0:=hid' hcom
    clear hcom e0 hg hp
    go_wp2_with fail
    go_meet
    case rel => exact ⟨by rw [HFC.out c r HC0.out],rfl⟩
  case rest =>
   rename World => WC
   obtain ⟨rfl,hw1⟩:=hcut
   subst WC
   cases hfl:y.filed with
   | true =>
    have HSW:=hid' (HWF.out hfl)
    clear hfl
    go_wp2
    refine bodyPost_ret (results_none rfl _ _ _) rfl ?_
    rw [HSW.out]
    exact ⟨rfl,DueP.post ⟨dv1,_,op1,bs1,bf1,P1.out,O1.out,OF1.out,FF1.out⟩⟩
   | false =>
    have HSW:=hid' (HWV.out hfl)
    have f10:=P1.out.fr 10
    have lb1:=P1.out.lt
    have PZ:=hid' (P1.out.putC (L:=[]) (cv':=.slice none 0 0) (World.ownsRow_nil _ _ _ _))
    have hz:=HY.out.none
    have hzn:({ y with com:=[] }:Sv).Num:=by have q:=HYN.out;exact ⟨q.mode,q.f0,q.f1,q.t,q.sl,q.sok,q.r0⟩
    have VO:=hid' (srv_voted b { y with com:=[] } dv1 (.slice none 0 0) op1 bs1 bf1 _ PZ.out hz hzn HEX.out)
    have hv0:=HVV.out
    have HV:=hid' hv0
    generalize hvt:({ y with com:=[] }:Sv).vt = vt at *
    obtain ⟨⟨va,vo,vs,vf,vv⟩,ok⟩:=vt
    simp only at VO HV
    have OZ:=hid' (OF1.out.setCell (p:=⟨b,10,none⟩) (fun _ => .inl rfl) (.slice none 0 0))
    clear hfl hvt hz hzn hv0 HVV
    go_wp2_with fail
    generalize hWZ:w1.setCell ⟨b,10,none⟩ (.slice none 0 0) = WZ at *
    clear hWZ
    refine VO.out.mono ?_
    rintro e w2 ⟨rfl,hb2⟩
    have P2:=hid' (PZ.out.below hb2)
    have O2:=hid' (OZ.out.then hb2)
    clear hb2 VO c10 f10
    cases ok with
    | false =>
     have HVD:=hid' (HV.out.1 rfl)
     have BA:=hid' ((Below.refl w2.heap.size w2).alloc (Nat.le_refl _) (.cells #[.int .i64 va,.int .i64 vo,.int .i64 vs,.int .i64 vf,.bool vv] 121))
     go_wp2
     first | (refine bodyPost_ret (results_none rfl _ _ _) rfl ?_) | go_end0
     rw [HSW.out,HVD.out]
     refine ⟨rfl,DueP.post ⟨dv1,.slice none 0 0,op1,bs1,bf1,P2.out.below BA.out,O1.out.com [],O2.out.then BA.out,fun j q => ?_⟩⟩
     rcases q with q | q | q
     ·exact FF1.out j (.inl q)
     ·exact FF1.out j (.inr (.inl q))
     ·simp [Value.ownBlock] at q
    | true =>
     obtain ⟨v1,v2,v3,v4⟩:=HV.out.2 rfl
     have HVD:=hid' v4
     have hmz:({ y with com:=[⟨va,vo,vs,vf,vv⟩] }:Sv).Mid:=by rw [v3];exact HY.out.vote HYN.out v1 v2
     have hzn:({ y with com:=[⟨va,vo,vs,vf,vv⟩] }:Sv).Num:=by have q:=HYN.out;exact ⟨q.mode,q.f0,q.f1,q.t,q.sl,q.sok,q.r0⟩
     have HMZ:=hid' hmz
     have HZN:=hid' hzn
     clear v1 v2 v3 v4 hmz hzn HV
     go_upto_region 6 with fail
     have BA:=hid' ((Below.refl w2.heap.size w2).alloc (Nat.le_refl _) (.cells #[.int .i64 va,.int .i64 vo,.int .i64 vs,.int .i64 vf,.bool vv] 121))
     have RA:=hid' (heap_alloc_new w2 (.cells #[.int .i64 va,.int .i64 vo,.int .i64 vs,.int .i64 vf,.bool vv] 121))
     generalize hWA:w2.alloc (.cells #[.int .i64 va,.int .i64 vo,.int .i64 vs,.int .i64 vf,.bool vv] 121) = WA at *
     generalize hEA:w2.heap.size = EA at *
     clear hWA
     have P3:=hid' (P2.out.below (by rw [hEA];exact BA.out))
     have O3:=hid' (O2.out.then (by rw [hEA];exact BA.out))
     have c10:=P3.out.c10
     have f10:=P3.out.fr 10
     have lb3:=P3.out.lt
     have a0:=cell_of_row _ _ 0 _ _ _ RA.out
     have a1:=cell_of_row _ _ 1 _ _ _ RA.out
     have a2:=cell_of_row _ _ 2 _ _ _ RA.out
     have a3:=cell_of_row _ _ 3 _ _ _ RA.out
     have a4:=cell_of_row _ _ 4 _ _ _ RA.out
     simp at a0 a1 a2 a3 a4
     have nil0:WA.ownsRow 0 121 5 (.slice none 0 0) 0 (flatC []):=World.ownsRow_nil _ _ _ _
     have NI:=hid' nil0
     have fz:∀ o,(WA.alloc o).frozen? ⟨b,10,none⟩ = false:=fun o => frozen_of_row _ _ 10 _ _ ((Keep.refl _ WA).alloc o _ _ _ P3.out.row)
     clear nil0
     go_cut [2] from 4 (fun s2 wx => ∃ cv3,PRow b { y with com:=[⟨va,vo,vs,vf,vv⟩] } dv1 cv3 op1 bs1 bf1 wx ∧ Off (pFoot b dv cv) w wx ∧ ∀ k,cv3.ownBlock = some k → w.heap.size ≤ k)
     case first =>
      go_region_law ((refine step_append_lies _ ?_ (.tmp 45) (.tmp 47) 111 ?_ 0 121 k0 (.agg #[.int .i64 0,.int .i64 0,.int .i64 0,.int .i64 0,.bool false]) 5 40 Tryz.underlying111 hk0 hx0 hx1 hx2 rfl (by decide) (.slice none 0 0) 0 (flatC []) ?_ ?_ ⟨WA.heap.size,0,none⟩ 1 1 [.int .i64 va,.int .i64 vo,.int .i64 vs,.int .i64 vf,.bool vv] ?_ ?_ ?_ ?_ ?_ ?_ ?_ ?_ (WA.heap.size + 1) ?_ ?_;exact rfl;exact rfl;exact rfl;exact (NI.out.alloc _).drew;exact rfl;exact rfl;exact (World.news_of_block (cs:=#[.int .i64 va,.int .i64 vo,.int .i64 vs,.int .i64 vf,.bool vv]) (t:=121) (fr:=(0,0)) (heap_alloc_new WA _));(simp [Value.oneCell']);decide;(unfold maxLen;omega);omega;omega;(simp);intro gg cap6 w6 own6 hg6 hat6 hlt6;have S6:=hid' (grown_heap (w:=(WA.alloc (.cells #[.int .i64 va,.int .i64 vo,.int .i64 vs,.int .i64 vf,.bool vv] 121)).drew) (t:=157) hg6 (NI.out.alloc _).drew ((Keep.refl _ WA).alloc _ _ _ _ P3.out.row) (by decide));have c67:w6.cell? ⟨b,10,none⟩ = some (.slice none 0 0):=cell_of_row _ _ 10 _ _ _ S6.out;have f67:=frozen_of_row _ _ 10 _ _ S6.out;have OWN6:=hid' own6;have HG6:=hid' hg6;have HAT6:=hid' hat6;clear own6 hg6 hat6))
      all_goals
       go_wp2_with fail
       go_meet
       case rel =>
        have ba6:=((Below.refl WA.heap.size WA).alloc (Nat.le_refl _) (.cells #[.int .i64 va,.int .i64 vo,.int .i64 vs,.int .i64 vf,.bool vv] 121)).drew
        have of6:=(O3.out.then ba6).grown (by exact HG6.out) (fun k e _ => by simp [Value.ownBlock] at e)
        have p6:=(P3.out.below ba6).keep (w':=w6) (fun k q => (by exact HG6.out:World.grownBy _ _ _).block k (by
         obtain ⟨_,_,_,hh,_⟩:=(P3.out.below ba6).typ q
         exact lt_of_heap hh) (fun e => by simp [Value.ownBlock] at e))
        refine ⟨_,p6.putC (L:=[⟨va,vo,vs,vf,vv⟩]) (by exact OWN6.out),of6.setCell (p:=⟨b,10,none⟩) (fun _ => .inl rfl) _,fun k e => ?_⟩
        obtain rfl:gg = k:=by simpa [Value.ownBlock] using e
        rcases HAT6.out with q | q
        ·simp [Value.ownBlock] at q
        ·have:=O3.out.size;omega
     case rest =>
      obtain ⟨cv3,pr3,of3,ff3⟩:=hcut
      rename World => W3
      have DU:=hid' (due_all b { y with com:=[⟨va,vo,vs,vf,vv⟩] } dv1 cv3 op1 bs1 bf1 W3 pr3 (O1.out.com _) HMZ.out HZN.out)
      have OF3:=hid' of3
      have FF3:=hid' ff3
      clear pr3 of3 ff3 c10 f10 a0 a1 a2 a3 a4 fz
      go_wp2_with fail
      refine DU.out.mono ?_
      rintro e w7 ⟨rfl,dp⟩
      have DP:=hid' dp
      clear dp DU
      go_wp2
      go_end0
      rw [HSW.out,HVD.out]
      refine ⟨rfl,(DP.out.then OF3.out (fun j q => ?_)).post⟩
      rcases q with q | q | q
      ·exact FF1.out j (.inl q)
      ·exact FF1.out j (.inr (.inl q))
      ·exact .inr (FF3.out j q)
end Go.Proofs.YtmmkhodaljpjgaaGreatDoor
namespace Go.Proofs.YtmmkhodaljpjgaaGreatDoor
open Go.RowKit
def begB (ls ds:List (Int × Int)):Bool:=decide (ds.length ≤ ls.length) && decide (ls.take ds.length = ds)
set_option maxRecDepth 100000 in
set_option maxHeartbeats 3200000 in
theorem begins_with (ao bo:Option Addr) (n m cap cbp:Nat) (ls ds:List (Int × Int)) (w:World) (hr:Read w ao ls) (hd:Read w bo ds) (hn:ls.length = n) (hm:ds.length = m) (n1:n ≤ 1000) (m1:m ≤ 1000) :
  Calls Tryz.prog 200 #[.slice ao n cap,.slice bo m cbp] w fun e w' => e = .returned (.bool (begB ls ds)) ∧ ∃ k,w' = w.drewN k:=by
 have HR:=hid' hr
 have HD:=hid' hd
 by_cases hlt:n < m
 ·have H:Hid (begB ls ds = false):=by show _ = _;unfold begB;rw [decide_eq_false (by omega)];rfl
  have hi:(n:Int) < (m:Int):=by omega
  clear hr hd
  go_enter Tryz.func200,Tryz.ntmps200
  go_wp2
  go_ret
  exact ⟨ret_bool H.out.symm,0,rfl⟩
 ·have H:Hid (begB ls ds = decide (ls.take ds.length = ds)):=by show _ = _;unfold begB;rw [decide_eq_true (show ds.length ≤ ls.length by omega)];rfl
  have hi:¬ (n:Int) < (m:Int):=by omega
  generalize begB ls ds = res at *
  clear hr hd
  go_enter Tryz.func200,Tryz.ntmps200
  go_wp2_with fail
  go_loopw [5] (fun i wr => ∃ k q:Nat,k ≤ m ∧ i = .int .i64 k ∧ ls.take k = ds.take k ∧ wr = w.drewN q) (fun i _ => m - (intOf i).toNat)
  case atStart => exact ⟨0,0,by omega,rfl,rfl,rfl⟩
  case round =>
   obtain ⟨k,q,hk,rfl,htk,hwr⟩:=hrel
   have HTK:=hid' htk
   have HWR:=hid' hwr
   by_cases hkl:k < m
   ·obtain ⟨g,rfl,lg,hlies⟩:=HR.out (by omega)
    obtain ⟨g',rfl,lg',hlies'⟩:=HD.out (by omega)
    have a0:wr.cell? ⟨g,k * 2,none⟩ = some (.int .i64 (ls.getD k (0,0)).1):=by rw [hwr,getD_at k (by omega)];exact (hlies k (by omega)).1
    have a1:wr.cell? ⟨g,k * 2 + 1,none⟩ = some (.int .i64 (ls.getD k (0,0)).2):=by rw [hwr,getD_at k (by omega)];exact (hlies k (by omega)).2
    have b0:wr.cell? ⟨g',k * 2,none⟩ = some (.int .i64 (ds.getD k (0,0)).1):=by rw [hwr,getD_at k (by omega)];exact (hlies' k (by omega)).1
    have b1:wr.cell? ⟨g',k * 2 + 1,none⟩ = some (.int .i64 (ds.getD k (0,0)).2):=by rw [hwr,getD_at k (by omega)];exact (hlies' k (by omega)).2
    have HS:=hid' (take_same (a:=ls) (c:=ds) k (by omega) (by omega) HTK.out)
    have HN:=hid' (take_not (a:=ls) (c:=ds) k (by omega) (by omega))
    generalize ls.getD k (0,0) = pl at *
    generalize ds.getD k (0,0) = pd at *
    obtain ⟨la,lo⟩:=pl
    obtain ⟨ea,eo⟩:=pd
    simp only at a0 a1 b0 b1
    have z0:(0:Int) ≤ (k:Int):=by omega
    have z1:(k:Int) < (m:Int):=by omega
    have z2:(k:Int) < (n:Int):=by omega
    clear hwr htk hlies hlies'
    by_cases e1:la = ea ∧ lo = eo
    ·obtain ⟨rfl,rfl⟩:=e1
     have HS2:=hid' (HS.out rfl)
     clear HS HN
     go_wp2_with fail
     go_quiet (fail)
     go_wp2
     go_roundw
     case rel => exact ⟨k + 1,q + nq,by omega,by go_num,HS2.out,by rw [HWR.out,World.drewN_drewN]⟩
     case measure => simp [intOf];omega
    ·have H3:Hid (res = false):=by show _ = _;rw [H.out];exact decide_eq_false (HN.out (fun q => e1 ⟨congrArg Prod.fst q,congrArg Prod.snd q⟩))
     by_cases e2:la = ea
     ·have e3:lo ≠ eo:=fun q => e1 ⟨e2,q⟩
      subst e2
      have n1':(lo == eo) = false:=by rw [beq_eq_false_iff_ne];exact e3
      clear HS HN e1 e3
      go_wp2_with fail
      go_quiet (fail)
      go_wp2
      go_ret
      exact ⟨ret_bool H3.out.symm,q + nq,by rw [HWR.out,World.drewN_drewN]⟩
     ·have n0':(la == ea) = false:=by rw [beq_eq_false_iff_ne];exact e2
      clear HS HN e1 e2
      go_wp2_with fail
      go_quiet (fail)
      go_wp2
      go_ret
      exact ⟨ret_bool H3.out.symm,q + nq,by rw [HWR.out,World.drewN_drewN]⟩
   ·have znl:¬ (k:Int) < (m:Int):=by omega
    have ek:k = m:=by omega
    have H3:Hid (res = true):=by
     show _ = _
     rw [H.out]
     have:=HTK.out
     rw [ek,← hm,List.take_length] at this
     exact decide_eq_true this
    clear hwr htk ek
    go_wp2
    go_ret
    exact ⟨ret_bool H3.out.symm,q,HWR.out⟩
theorem Sv.agrees_eq {x:Sv} {ls:List (Int × Int)} (hf:Tab.Fit ls):x.agrees ls = if x.ld = false then decide (0 ≤ Tab.lastAt ls x.ns ls.length) else (decide (Tab.lastAt ls x.ns ls.length < (x.done.length:Int)) && begB ls x.done):=by
 unfold Sv.agrees
 by_cases c:x.ld = false
 ·rw [if_pos c,if_pos c]
  have q:=hf.lastAt_iff x.ns ls.length 0 (Nat.le_refl _) hf.1
  by_cases z:Tab.when ls 0 ≤ x.ns
  ·rw [decide_eq_true z,decide_eq_true (by have:=q.1 z;omega)]
  ·rw [decide_eq_false z,decide_eq_false (fun e => z (q.2 (by omega)))]
 ·rw [if_neg c,if_neg c]
  have lb:=Tab.lastAt_bd ls x.ns ls.length
  unfold begB
  by_cases c1:ls.length < x.done.length
  ·rw [if_pos c1,decide_eq_false (show ¬ x.done.length ≤ ls.length by omega)];simp
  ·rw [if_neg c1,decide_eq_true (show x.done.length ≤ ls.length by omega)]
   by_cases c2:ls.take x.done.length = x.done
   ·rw [if_pos c2,decide_eq_true c2]
    by_cases c3:ls.length = x.done.length
    ·rw [decide_eq_true c3,decide_eq_true (show Tab.lastAt ls x.ns ls.length < (x.done.length:Int) by omega)];rfl
    ·have q:=hf.lastAt_iff x.ns ls.length x.done.length (Nat.le_refl _) (by omega)
     rw [decide_eq_false c3,Bool.false_or]
     by_cases c4:x.ns < Tab.when ls x.done.length
     ·rw [decide_eq_true c4,decide_eq_true (by
       by_cases z:Tab.lastAt ls x.ns ls.length < (x.done.length:Int)
       ·exact z
       ·have:=q.2 (by omega);omega)];rfl
     ·rw [decide_eq_false c4,decide_eq_false (fun z => by have:=q.1 (by omega);omega)];rfl
   ·rw [if_neg c2,decide_eq_false c2];simp
set_option maxRecDepth 100000 in
set_option maxHeartbeats 3200000 in
theorem p_agrees (b:Nat) (s:Sv) (dv cv:Value) (op:Bool) (bs bf:Int) (g n cap:Nat) (ls:List (Int × Int)) (w:World) (h:PRow b s dv cv op bs bf w) (hl:Lies w g ls) (lg:g < w.heap.size) (hn:ls.length = n) (hf:Tab.Fit ls) (hd:s.done.length ≤ 900) :
  Calls Tryz.prog 184 #[.pointer (some ⟨b,0,none⟩),.slice (some ⟨g,0,none⟩) n cap] w fun e w' => e = .returned (.bool (s.agrees ls)) ∧ ∃ k,w' = w.drewN k:=by
 have hG:=hf.good
 have hlen:=hG.len
 have HO:=hid' (fun (W:World) (h:Lies W g ls) => holder_any g cap n ls s.ns W hn h hG.fine (by omega))
 have HA:=hid' (s.agrees_eq hf)
 have q2:=h.c4
 have q4:=h.c6
 have q7:=h.c9
 obtain ⟨da,dcp,hdv⟩:=own_slice h.dd
 subst hdv
 have BW:=hid' (fun W hr hd => begins_with (some ⟨g,0,none⟩) da n s.done.length cap dcp ls s.done W hr hd hn rfl (by omega) (by omega))
 have RD:=hid' (read_of h.dd rfl)
 have RL:Hid (Read w (some ⟨g,0,none⟩) ls):=fun _ => ⟨g,rfl,lg,hl⟩
 have HL:=hid' hl
 have lb:=Tab.lastAt_bd ls s.ns ls.length
 rw [hn] at HA lb
 generalize s.agrees ls = res at *
 generalize Tab.lastAt ls s.ns n = la at *
 generalize begB ls s.done = bg at *
 clear h hl hf hG
 cases hld:s.ld with
 | false =>
  rw [hld] at q4
  have H:Hid (res = decide (0 ≤ la)):=by show _ = _;rw [HA.out,if_pos hld]
  clear HA hld
  by_cases c:0 ≤ la
  ·rw [decide_eq_true c] at H
   go_enter Tryz.func184,Tryz.ntmps184
   go_wp2_with fail
   refine (HO.out _ HL.out).mono ?_
   rintro e w1 ⟨rfl,rfl⟩
   go_wp2
   go_ret
   exact ⟨ret_bool H.out.symm,0,rfl⟩
  ·go_enter Tryz.func184,Tryz.ntmps184
   go_wp2_with fail
   refine (HO.out _ HL.out).mono ?_
   rintro e w1 ⟨rfl,rfl⟩
   go_wp2
   go_ret
   exact ⟨ret_bool H.out.symm,0,rfl⟩
 | true =>
  rw [hld] at q4
  have H:Hid (res = (decide (la < (s.done.length:Int)) && bg)):=by show _ = _;rw [HA.out,if_neg (by rw [hld];simp)]
  clear HA hld
  by_cases c:la < (s.done.length:Int)
  ·rw [decide_eq_true c,Bool.true_and] at H
   go_enter Tryz.func184,Tryz.ntmps184
   go_wp2_with fail
   refine (HO.out _ HL.out).mono ?_
   rintro e w1 ⟨rfl,rfl⟩
   go_wp2_with fail
   refine (BW.out _ RL.out RD.out).mono ?_
   rintro e w2 ⟨rfl,k,hw2⟩
   have HW:=hid' hw2
   clear hw2
   go_wp2
   go_ret
   exact ⟨ret_bool H.out.symm,k,HW.out⟩
  ·rw [decide_eq_false c,Bool.false_and] at H
   go_enter Tryz.func184,Tryz.ntmps184
   go_wp2_with fail
   refine (HO.out _ HL.out).mono ?_
   rintro e w1 ⟨rfl,rfl⟩
   go_wp2
   go_ret
   exact ⟨ret_bool H.out.symm,0,rfl⟩
set_option maxRecDepth 100000 in
set_option maxHeartbeats 3200000 in
theorem p_objection (b:Nat) (s:Sv) (dv cv:Value) (op:Bool) (bs bf:Int) (g n cap:Nat) (up ex:Int) (ls:List (Int × Int)) (w:World) (h:PRow b s dv cv op bs bf w) (hl:Lies w g ls) (lg:g < w.heap.size) (hn:ls.length = n) (hf:Tab.Fit ls) (hd:s.done.length ≤ 900) :
  Calls Tryz.prog 152 #[.pointer (some ⟨b,0,none⟩),.agg #[.int .i64 up,.int .i64 ex,.slice (some ⟨g,0,none⟩) n cap]] w fun e w' => e = .returned (.int .i64 (if s.ld = true ∧ up < s.up then 11 else if s.agrees ls = false then 12 else 0)) ∧ Below w.heap.size w w':=by
 have B0:=hid' ((Below.refl w.heap.size w).alloc (Nat.le_refl _) (.cells #[.int .i64 up,.int .i64 ex,.slice (some ⟨g,0,none⟩) n cap] 78))
 have R0:=hid' (heap_alloc_new w (.cells #[.int .i64 up,.int .i64 ex,.slice (some ⟨g,0,none⟩) n cap] 78))
 have P0:=hid' (h.below B0.out)
 have AG:=hid' (fun (W:World) (hb:Below (w.alloc (.cells #[.int .i64 up,.int .i64 ex,.slice (some ⟨g,0,none⟩) n cap] 78)).heap.size (w.alloc (.cells #[.int .i64 up,.int .i64 ex,.slice (some ⟨g,0,none⟩) n cap] 78)) W) => p_agrees b s dv cv op bs bf g n cap ls W ((h.below B0.out).below hb) ((hl.below lg B0.out).below (by have:=B0.out.size;omega) hb) (by have:=B0.out.size;have:=hb.size;omega) hn hf hd)
 generalize s.agrees ls = ag at *
 obtain ⟨rv,hrv⟩:∃ rv,(if s.ld = true ∧ up < s.up then (11:Int) else if ag = false then 12 else 0) = rv:=⟨_,rfl⟩
 rw [hrv]
 have HRV:=hid' hrv
 clear h hl hf hrv
 go_enter Tryz.func152,Tryz.ntmps152
 go_upto_region 1 with fail
 generalize hV:w.alloc (.cells #[.int .i64 up,.int .i64 ex,.slice (some ⟨g,0,none⟩) n cap] 78) = V at *
 have hsz:V.heap.size = w.heap.size + 1:=by rw [← hV];simp
 clear hV
 have q4:=P0.out.c6
 have q5:=P0.out.c7
 have t0:=cell_of_row _ _ 0 _ _ _ R0.out
 have t2:=cell_of_row _ _ 2 _ _ _ R0.out
 simp at t0 t2
 cases hld:s.ld with
 | true =>
  rw [hld] at q4
  by_cases c:up < s.up
  ·have HV:Hid (rv = 11):=by show _ = _;rw [← HRV.out,if_pos ⟨hld,c⟩]
   clear hld HRV
   go_quiet (fail)
   go_wp2
   go_ret
   rw [HV.out]
   exact ⟨rfl,below_drewN B0.out nq⟩
  ·have HV:Hid (rv = if ag = false then 12 else 0):=by show _ = _;rw [← HRV.out,if_neg (fun z => c z.2)]
   clear hld HRV
   go_quiet (fail)
   go_wp2_with fail
   refine (AG.out _ (below_drewN (Below.refl _ _) _)).mono ?_
   rintro e w2 ⟨rfl,k,hw2⟩
   have B2:=hid' (show Below w.heap.size w w2 by rw [hw2,World.drewN_drewN];exact below_drewN B0.out _)
   clear hw2
   cases ag with
   | true =>
    go_wp2
    go_ret
    rw [HV.out,if_neg (by simp)]
    exact ⟨rfl,B2.out⟩
   | false =>
    go_wp2
    go_ret
    rw [HV.out];first | rw [if_pos rfl] | rw [if_pos trivial]
    exact ⟨rfl,B2.out⟩
 | false =>
  rw [hld] at q4
  have HV:Hid (rv = if ag = false then 12 else 0):=by show _ = _;rw [← HRV.out,if_neg (fun z => by rw [hld] at z;cases z.1)]
  clear hld HRV
  go_quiet (fail)
  go_wp2_with fail
  refine (AG.out _ (below_drewN (Below.refl _ _) _)).mono ?_
  rintro e w2 ⟨rfl,k,hw2⟩
  have B2:=hid' (show Below w.heap.size w w2 by rw [hw2,World.drewN_drewN];exact below_drewN B0.out _)
  clear hw2
  cases ag with
  | true =>
   go_wp2
   go_ret
   rw [HV.out,if_neg (by simp)]
   exact ⟨rfl,B2.out⟩
  | false =>
   go_wp2
   go_ret
   rw [HV.out];first | rw [if_pos rfl] | rw [if_pos trivial]
   exact ⟨rfl,B2.out⟩
end Go.Proofs.YtmmkhodaljpjgaaGreatDoor
namespace Go.Proofs.YtmmkhodaljpjgaaGreatDoor
open Go.RowKit
attribute [local go_sem ↓] Go.wp_at_zero Go.wp_at_succ
structure TkV (b:Nat) (F:Nat → Prop) (w:World) (T:Nat) (up ex:Int) (g n cap:Nat) (ls:List (Int × Int)) (s:Sv) (op:Bool) (bs bf:Int) (dv cv:Value) (wr:World):Prop where
 r:PRow b s dv cv op bs bf wr
 off:Off F w wr
 foot:∀ k,pFoot b dv cv k → F k ∨ w.heap.size ≤ k
 row:wr.heap[T]? = some (.cells #[.int .i64 up,.int .i64 ex,.slice (some ⟨g,0,none⟩) n cap] 78 (0,0))
 own:wr.ownsRow 0 84 2 (.slice (some ⟨g,0,none⟩) n cap) n (flat ls)
 ne:dv.ownBlock ≠ some g
def TkAt (b:Nat) (F:Nat → Prop) (w:World) (T:Nat) (up ex:Int) (g n cap:Nat) (ls:List (Int × Int)) (s:Sv) (op:Bool) (bs bf:Int) (wr:World):Prop:=∃ dv cv,TkV b F w T up ex g n cap ls s op bs bf dv cv wr
theorem TkV.below {b:Nat} {F:Nat → Prop} {w:World} {T:Nat} {up ex:Int} {g n cap:Nat} {ls:List (Int × Int)} {s:Sv} {op:Bool} {bs bf:Int} {dv cv:Value} {W W':World} (h:TkV b F w T up ex g n cap ls s op bs bf dv cv W) (hb:Below W.heap.size W W'):TkV b F w T up ex g n cap ls s op bs bf dv cv W' :=
 ⟨h.r.below hb,h.off.then hb,h.foot,(hb.block _ (lt_of_heap h.row)).trans h.row,own_down h.own hb,h.ne⟩
theorem TkV.putC {b:Nat} {F:Nat → Prop} {w:World} {T:Nat} {up ex:Int} {g n cap:Nat} {ls:List (Int × Int)} {s:Sv} {op:Bool} {bs bf:Int} {dv cv cv':Value} {W w2:World} {L:List Cm} (h:TkV b F w T up ex g n cap ls s op bs bf dv cv W)
  (hg:W.grownBy w2 cv.ownBlock) (own:w2.ownsRow 0 121 5 cv' L.length (flatC L)) (hat:∀ k,cv'.ownBlock = some k → cv.ownBlock = some k ∨ W.heap.size ≤ k):TkAt b F w T up ex g n cap ls { s with com:=L } op bs bf (w2.setCell ⟨b,10,none⟩ cv'):=by
 have sz:=h.off.size
 have row2:=grown_heap (t:=157) hg h.r.cc h.r.row (by decide)
 have trow2:=grown_heap (t:=78) hg h.r.cc h.row (by decide)
 have hl2:=own_grown h.own hg h.r.cc (by decide)
 have d2:=own_grown h.r.dd hg h.r.cc (by decide)
 refine ⟨dv,cv',⟨?_,own_set (p:=⟨b,10,none⟩) d2 row2 (by decide) _,own_set (p:=⟨b,10,none⟩) own row2 (by decide) _,h.r.sl⟩,(h.off.grown hg (fun k e hk => ?_)).setCell (fun hk => ?_) _,fun k e => ?_,?_,own_set (p:=⟨b,10,none⟩) hl2 row2 (by decide) _,h.ne⟩
 ·rw [heap_setCell_same _ _ _ _ _ _ row2];rfl
 ·rcases h.foot k (.inr (.inr e)) with q | q
  ·exact q
  ·omega
 ·rcases h.foot b (.inl rfl) with q | q
  ·exact q
  ·simp only at hk;omega
 ·rcases e with e | e | e
  ·exact h.foot k (.inl e)
  ·exact h.foot k (.inr (.inl e))
  ·rcases hat k e with q | q
   ·exact h.foot k (.inr (.inr q))
   ·exact .inr (by omega)
 ·exact ((Keep.refl 78 w2).setCell (p:=⟨b,10,none⟩) row2 (by decide) cv') _ _ _ trow2
theorem TkV.putT {b:Nat} {F:Nat → Prop} {w:World} {T:Nat} {up ex:Int} {g n cap:Nat} {ls:List (Int × Int)} {s:Sv} {op:Bool} {bs bf:Int} {dv cv:Value} {W:World} (h:TkV b F w T up ex g n cap ls s op bs bf dv cv W) :
  TkAt b F w T up ex g n cap ls (s.stamp up ex) op bs bf ((((W.setCell ⟨b,6,none⟩ (.bool true)).setCell ⟨b,7,none⟩ (.int .i64 up)).setCell ⟨b,8,none⟩ (.int .i64 ex)).setCell ⟨b,10,none⟩ (.slice none 0 0)):=by
 have r0:=h.r.row
 have r1:=heap_setCell_same _ _ 6 _ _ (.bool true) r0
 have r2:=heap_setCell_same _ _ 7 _ _ (.int .i64 up) r1
 have r3:=heap_setCell_same _ _ 8 _ _ (.int .i64 ex) r2
 have ow:∀ {B e size n:Nat} {v:Value} {xs:List Value},W.ownsRow B e size v n xs → 157 ≠ e → ((((W.setCell ⟨b,6,none⟩ (.bool true)).setCell ⟨b,7,none⟩ (.int .i64 up)).setCell ⟨b,8,none⟩ (.int .i64 ex)).setCell ⟨b,10,none⟩ (.slice none 0 0)).ownsRow B e size v n xs:=fun o he =>
  own_set (p:=⟨b,10,none⟩) (own_set (p:=⟨b,8,none⟩) (own_set (p:=⟨b,7,none⟩) (own_set (p:=⟨b,6,none⟩) o r0 he _) r1 he _) r2 he _) r3 he _
 have bF:b < w.heap.size → F b:=fun hk => by
  rcases h.foot b (.inl rfl) with q | q
  ·exact q
  ·omega
 refine ⟨dv,.slice none 0 0,⟨?_,ow h.r.dd (by decide),World.ownsRow_nil _ _ _ _,h.r.sl⟩,(((h.off.setCell (p:=⟨b,6,none⟩) bF _).setCell (p:=⟨b,7,none⟩) bF _).setCell (p:=⟨b,8,none⟩) bF _).setCell (p:=⟨b,10,none⟩) bF _,fun k e => ?_,?_,ow h.own (by decide),h.ne⟩
 ·rw [heap_setCell_same _ _ _ _ _ _ r3];rfl
 ·rcases e with e | e | e
  ·exact h.foot k (.inl e)
  ·exact h.foot k (.inr (.inl e))
  ·simp [Value.ownBlock] at e
 ·exact ((((Keep.refl 78 W).setCell (p:=⟨b,6,none⟩) r0 (by decide) _).setCell (p:=⟨b,7,none⟩) r1 (by decide) _).setCell (p:=⟨b,8,none⟩) r2 (by decide) _).setCell (p:=⟨b,10,none⟩) r3 (by decide) _ _ _ _ h.row
theorem TkV.putD {b:Nat} {F:Nat → Prop} {w:World} {T:Nat} {up ex:Int} {g n cap:Nat} {ls:List (Int × Int)} {s S:Sv} {op:Bool} {bs bf:Int} {dv cv dv':Value} {W:World} (h:TkV b F w T up ex g n cap ls s op bs bf dv cv W) (hS:S = { s with done:=S.done,began:=S.began })
  (own:W.ownsRow 0 84 2 dv' S.done.length (flat S.done)) (hat:∀ k,dv'.ownBlock = some k → w.heap.size ≤ k) (hne:dv'.ownBlock ≠ some g):TkAt b F w T up ex g n cap ls S op bs bf (W.setCell ⟨b,9,none⟩ dv'):=by
 have row:=h.r.row
 have ec:S.com = s.com:=by rw [hS]
 have es:S.said = s.said:=by rw [hS]
 refine ⟨dv',cv,⟨?_,own_set (p:=⟨b,9,none⟩) own row (by decide) _,by rw [ec];exact own_set (p:=⟨b,9,none⟩) h.r.cc row (by decide) _,by rw [es];exact h.r.sl⟩,h.off.setCell (fun hk => ?_) _,fun k e => ?_,?_,own_set (p:=⟨b,9,none⟩) h.own row (by decide) _,hne⟩
 ·rw [heap_setCell_same _ _ _ _ _ _ row,hS];rfl
 ·rcases h.foot b (.inl rfl) with q | q
  ·exact q
  ·simp only at hk;omega
 ·rcases e with e | e | e
  ·exact h.foot k (.inl e)
  ·exact .inr (hat k e)
  ·exact h.foot k (.inr (.inr e))
 ·exact ((Keep.refl 78 W).setCell (p:=⟨b,9,none⟩) row (by decide) dv') _ _ _ h.row
theorem Sv.begun1_first {x:Sv} (h:x.Inv) {ls:List (Int × Int)} (hf:Tab.Fit ls) (hd:x.ld = false) (la:Nat) (hl:Tab.lastAt ls x.ns ls.length = (la:Int)):(x.begun1 ls).done = ls.take (la + 1) ∧ (x.begun1 ls).began.length = la + 1 ∧ ∀ i,i < la + 1 → (x.begun1 ls).began.getD i (0,0) = (Tab.when ls i - x.win,0):=by
 obtain ⟨n1,n2,_⟩:=h.no hd
 obtain ⟨a,b,c⟩:=Sv.tk_eq (x:=x) n1 n2 hf ls.length (Nat.le_refl _)
 have lb:=Tab.lastAt_bd ls x.ns ls.length
 have m1:min ls.length (Tab.lastAt ls x.ns ls.length + 1).toNat = la + 1:=by omega
 rw [m1] at a b c
 have e:x.begun1 ls = { x with done:=(x.tk ls ls.length).1,began:=(x.tk ls ls.length).2 }:=by unfold Sv.begun1;rw [if_pos hd]
 rw [e]
 exact ⟨a,b,c⟩
def TakeP (b:Nat) (s:Sv) (dv cv:Value) (op:Bool) (bs bf:Int) (w w':World):Prop:=∃ dv' cv',PRow b s dv' cv' op bs bf w' ∧ Off (pFoot b dv cv) w w' ∧ ∀ k,pFoot b dv' cv' k → pFoot b dv cv k ∨ w.heap.size ≤ k
set_option maxRecDepth 100000 in
set_option maxHeartbeats 12800000 in
theorem take_any (b:Nat) (s:Sv) (dv cv:Value) (op:Bool) (bs bf up ex:Int) (g n cap:Nat) (ls:List (Int × Int)) (w:World) (h:PRow b s dv cv op bs bf w) (ho:w.ownsRow 0 84 2 (.slice (some ⟨g,0,none⟩) n cap) n (flat ls)) (hne:dv.ownBlock ≠ some g) (hn:ls.length = n) (hI:s.Inv) (hf:Tab.Fit ls) (ha:s.agrees ls = true) :
  Calls Tryz.prog 153 #[.pointer (some ⟨b,0,none⟩),.agg #[.int .i64 up,.int .i64 ex,.slice (some ⟨g,0,none⟩) n cap]] w fun e w' => e = .returned (.tuple #[]) ∧ TakeP b (s.taken up ex ls) dv cv op bs bf w w':=by
 have hG:=hf.good
 have hlen:=hG.len
 have hpos:=hG.pos
 have hwin:=hI.num.win
 have HFI:=hid' hG.fine
 have HWB:=hid' (fun i hi => hf.when_bd i hi)
 have HBD:=hid' (fun i hi => hf.bd i hi)
 obtain ⟨mm,hm1,hm2,hm3,hm4,hm5,hm6,hm7,hm8⟩:=hI.mid1 hf ha
 obtain ⟨S,hS⟩:∃ S,S = s.begun1 ls:=⟨_,rfl⟩
 have HSW:Hid (S.win = s.win):=by show _ = _;rw [hS,hm8]
 have HSE:Hid (s.begun1 ls = S):=hS.symm
 have lae:=hf.lastAt_le s.ns hm5
 obtain ⟨la,hla⟩:∃ la:Nat,Tab.lastAt ls s.ns ls.length = (la:Int):=⟨(Tab.lastAt ls s.ns ls.length).toNat,by omega⟩
 have HB1:Hid (s.ld = true → S = s):=fun e => by rw [hS];unfold Sv.begun1;rw [if_neg (by rw [e];simp)]
 have HBF:Hid (s.ld = false → S.done = ls.take (la + 1)):=fun e => by rw [hS];exact (Sv.begun1_first hI hf e la hla).1
 rw [← hS] at hm3 hm8
 have HS3:=hid' hm3
 have HS8:=hid' hm8
 have lal:la < n:=by omega
 obtain ⟨F,hFF⟩:∃ F,F = pFoot b dv cv:=⟨_,rfl⟩
 have HFF:=hid' hFF
 have hcap:n ≤ cap:=by
  rcases ho.2 with ⟨q,_⟩ | ⟨g',cap',cur,q,_,_,c1,_⟩
  ·cases q
  ·cases q;exact c1
 have HOL:=hid' (fun (W:World) (hl:Lies W g ls) => holder_any g cap n ls s.ns W hn hl HFI.out (by omega))
 rw [hn] at hla
 rw [hla] at HOL
 have B0:=hid' ((Below.refl w.heap.size w).alloc (Nat.le_refl _) (.cells #[.int .i64 up,.int .i64 ex,.slice (some ⟨g,0,none⟩) n cap] 78))
 have T0:Hid (TkV b F w w.heap.size up ex g n cap ls s op bs bf dv cv (w.alloc (.cells #[.int .i64 up,.int .i64 ex,.slice (some ⟨g,0,none⟩) n cap] 78))) :=
  ⟨h.below B0.out,Off.of_below B0.out,fun k e => .inl (by rw [hFF];exact e),heap_alloc_new _ _,own_down ho B0.out,hne⟩
 clear h ho hne hf hG hm3 hm4 hm5 hm6 hm7 hm8 ha hI hS hFF hla lae
 go_enter Tryz.func153,Tryz.ntmps153
 go_upto_region 1 with fail
 generalize hV:w.alloc (.cells #[.int .i64 up,.int .i64 ex,.slice (some ⟨g,0,none⟩) n cap] 78) = V at *
 generalize hT:w.heap.size = T at *
 clear hV
 have s6':=T0.out.r.c6
 have hneT:T ≠ b:=fun q => by
  have h1:=T0.out.row
  rw [q,T0.out.r.row] at h1
  simp at h1
 have hneT2:b ≠ T:=fun q => hneT q.symm
 go_upto_if 13 with fail
 go_cut [3] from 8 (fun s3 wx => s3 = .pointer (some ⟨T,0,none⟩) ∧ TkAt b F w T up ex g n cap ls S op bs bf wx)
 case first =>
  cases hld:s.ld with
  | true =>
   have TKS:Hid (TkAt b F w T up ex g n cap ls S op bs bf V):=by
    show TkAt b F w T up ex g n cap ls S op bs bf V
    rw [HB1.out hld];exact ⟨_,_,T0.out⟩
   clear hld
   go_wp2_with fail
   go_meet
   case rel => exact ⟨rfl,TKS.out⟩
  | false =>
   have hsd:=HBF.out hld
   have HSD:=hid' hsd
   have t2:=cell_of_row _ _ 2 _ _ _ T0.out.row
   simp at t2
   have c4:=T0.out.r.c4
   have c9:=T0.out.r.c9
   have LV:=hid' (lies_of T0.out.own hn)
   have w1:IntKind.i64.wrap ((la:Int) + 1) = ((la + 1:Nat):Int):=by rw [IntKind.wrap_i64];omega
   have w2:wrap64 ((la:Int) + 1) = ((la + 1:Nat):Int):=by unfold wrap64;omega
   have hrun:∀ W:World,(Instr.slice 76 (.slice (some ⟨g,0,none⟩) n cap) none (some (.int .i64 ((la + 1:Nat):Int))) none).run Tryz.prog W = .ok (.slice (some ⟨g,0,none⟩) (la + 1) cap) W:=fun W => head_run g n cap (la + 1) (by omega) W
   clear hld hsd s6'
   go_upto_region 2 with fail
   go_quiet (first | (go_at_call 130;refine Calls.quiet_of_same (HOL.out _ LV.out)))
   have TQ:=hid' (T0.out.below (below_drewN (Below.refl V.heap.size V) nq))
   generalize hWQ:V.drewN nq = WQ at *
   clear hWQ
   have t2:=cell_of_row _ _ 2 _ _ _ TQ.out.row
   simp at t2
   have c9:=TQ.out.r.c9
   have f9:=TQ.out.r.fr 9
   have lbq:=TQ.out.r.lt
   have CO:=hid' (fun (n':Nat) (hn':(ls.take (la + 1)).length = n') => copy_of (some ⟨g,0,none⟩) n' cap (ls.take (la + 1)) WQ (fun _ => ⟨g,rfl,(TQ.out.own.lt _ rfl).2,fun i hi => by
    have q:=lies_of TQ.out.own hn i (by simp at hi;omega)
    rw [List.getElem_take];exact q⟩) hn' (by simp at hn';omega))
   go_wp2_with fail
   refine (CO.out (la + 1) (by simp;omega)).mono ?_
   rintro e w5 ⟨v5,rfl,own5,hb5⟩
   obtain ⟨va5,vcp5,hv5⟩:=own_slice own5
   subst hv5
   have T5:=hid' (TQ.out.below hb5)
   have OWN5:=hid' own5
   have x9:=T5.out.r.c9
   have g9:=T5.out.r.fr 9
   have lq:=TQ.out.off.size
   have lgq:g < WQ.heap.size:=(TQ.out.own.lt _ rfl).2
   clear own5 hb5 CO c9 f9 t2 hrun
   go_wp2_with fail
   go_meet
   case rel =>
    refine ⟨rfl,T5.out.putD HS8.out ?_ (fun k e => ?_) (fun e => ?_)⟩
    ·rw [HSD.out]
     have q:=own_lo OWN5.out (Nat.zero_le _)
     rw [show (ls.take (la + 1)).length = la + 1 from by simp;omega]
     exact q
    ·have:=own_ge OWN5.out k e;omega
    ·have:=own_ge OWN5.out g e;omega
 case rest =>
  rename World => WS
  obtain ⟨rfl,dvS,cvS,tks⟩:=hcut
  have TKS:=hid' tks
  clear tks s6' T0 HOL
  have s4:=TKS.out.r.c6
  have s5:=TKS.out.r.c7
  have s6:=TKS.out.r.c8
  have s8:=TKS.out.r.c10
  have f4:=frozen_of_row _ _ 6 _ _ TKS.out.r.row
  have f5:=frozen_of_row _ _ 7 _ _ TKS.out.r.row
  have f6:=frozen_of_row _ _ 8 _ _ TKS.out.r.row
  have f8:=frozen_of_row _ _ 10 _ _ TKS.out.r.row
  have u0:=cell_of_row _ _ 0 _ _ _ TKS.out.row
  have u1:=cell_of_row _ _ 1 _ _ _ TKS.out.row
  simp at u0 u1
  have LT:=hid' TKS.out.putT
  go_upto_region 8 with fail
  generalize hWT:((((WS.setCell ⟨b,6,none⟩ (.bool true)).setCell ⟨b,7,none⟩ (.int .i64 up)).setCell ⟨b,8,none⟩ (.int .i64 ex)).setCell ⟨b,10,none⟩ (.slice none 0 0)) = WT at *
  clear hWT s4 s5 s6 s8 f4 f5 f6 f8 u0 u1 TKS
  obtain ⟨dv2,cv2,tk2⟩:=LT.out
  have p7:=tk2.r.c9
  have tk2d:=tk2.r.dd
  obtain ⟨da2,dcp2,hdv2⟩:=own_slice tk2d
  subst hdv2
  have hsd:(S.stamp up ex).done = S.done:=rfl
  rw [hsd] at p7
  obtain ⟨dl,hdl2⟩:∃ dl,S.done.length = dl:=⟨_,rfl⟩
  rw [hdl2] at p7
  have hdlm:dl ≤ n:=by rw [← hdl2,HS3.out];simp;omega
  have TK2:Hid (TkAt b F w T up ex g n cap ls ((S.stamp up ex).comes ls 0) op bs bf WT):=⟨_,_,tk2⟩
  clear tk2 tk2d LT
  go_wp2_with fail
  go_loopw [5,6,7] (fun i _ _ wr => ∃ k j:Nat,j = dl + k ∧ k ≤ n - dl ∧ i = .int .i64 (j:Int) ∧ TkAt b F w T up ex g n cap ls ((S.stamp up ex).comes ls k) op bs bf wr) (fun i _ _ _ => n - (intOf i).toNat)
  case atStart => exact ⟨0,dl,by omega,by omega,rfl,TK2.out⟩
  case round =>
   obtain ⟨k,j,hj,hk,rfl,dv3,cv3,tk3⟩:=hrel
   have HJ:=hid' hj
   have hjl:j ≤ n:=by omega
   clear hj
   have TK3:=hid' tk3
   have v2:=cell_of_row _ _ 2 _ _ _ tk3.row
   have ltb:=lt_of_heap tk3.row
   have lb3:=lt_of_heap tk3.r.row
   simp at v2
   by_cases hlt:j < n
   ·have hlti:(j:Int) < (n:Int):=by omega
    have zj0:(0:Int) ≤ (j:Int):=by omega
    have WH:=hid' (turn_any g cap j n ls wr hn hlt (lies_of tk3.own hn) HFI.out (by omega))
    have wb:=HWB.out j (by omega)
    have bd:=HBD.out j (by omega)
    have OP:=hid' (fun (W:World) (h:PRow b ((S.stamp up ex).comes ls k) dv3 cv3 op bs bf W) => window_begin b _ dv3 cv3 op bs bf (Tab.when ls j) W h (by show 0 ≤ S.win;rw [HSW.out];omega) (by show S.win ≤ 1000000;rw [HSW.out];omega) (by omega) (by omega))
    have HCM:Hid ((S.stamp up ex).cms ls dl (k + 1) = (S.stamp up ex).cms ls dl k ++ [⟨(ls.getD j (0,0)).1,(ls.getD j (0,0)).2,(((S.stamp up ex).comes ls k).opens (Tab.when ls j)).1,(((S.stamp up ex).comes ls k).opens (Tab.when ls j)).2,false⟩]):=by rw [HJ.out];exact rfl
    generalize ((S.stamp up ex).comes ls k).opens (Tab.when ls j) = ot at *
    generalize Tab.when ls j = tw at *
    obtain ⟨os,of⟩:=ot
    simp only at OP HCM
    clear tk3 wb bd
    go_wp2_with fail
    refine WH.out.mono ?_
    rintro e w4 ⟨rfl,rfl⟩
    clear WH
    go_wp2_with fail
    refine (OP.out _ TK3.out.r).mono ?_
    rintro e w5 ⟨rfl,hb5⟩
    clear OP v2
    go_upto_region 12 with fail
    have ba:=(Below.refl w5.heap.size w5).alloc (Nat.le_refl _) (.cells #[.int .i64 os,.int .i64 of] 98)
    have TK5:=hid' ((TK3.out.below hb5).below ba)
    have R5:=hid' (heap_alloc_new w5 (.cells #[.int .i64 os,.int .i64 of] 98))
    generalize hV5:w5.alloc (.cells #[.int .i64 os,.int .i64 of] 98) = V5 at *
    generalize hq5:w5.heap.size = q5 at *
    clear hV5 hq5 hb5 ba
    have v2:=cell_of_row _ _ 2 _ _ _ TK5.out.row
    have o0:=cell_of_row _ _ 0 _ _ _ R5.out
    have o1:=cell_of_row _ _ 1 _ _ _ R5.out
    have e0':=(lies_of TK5.out.own hn j (by omega)).1
    have e1':=(lies_of TK5.out.own hn j (by omega)).2
    rw [← getD_at j (by omega)] at e0' e1'
    generalize ls.getD j (0,0) = pe at *
    obtain ⟨pa,po⟩:=pe
    simp at v2 o0 o1
    simp only at e0' e1' HCM
    have lT5:=lt_of_heap TK5.out.row
    have lq5:=lt_of_heap R5.out
    have lg5:g < V5.heap.size:=(TK5.out.own.lt _ rfl).2
    go_cut [5,7] from 59 to 97 (fun s5 s7 wx => s5 = .int .i64 (j:Int) ∧ ∃ q,s7 = .pointer (some ⟨q,0,none⟩) ∧ Below V5.heap.size V5 wx ∧ wx.heap[q]? = some (.cells #[.int .i64 pa,.int .i64 po,.int .i64 os,.int .i64 of,.bool false] 121 (0,0)))
    case first =>
     go_region_held3 (fun w' => w'.cell? ⟨T,2,none⟩ = some (.slice (some ⟨g,0,none⟩) n cap) ∧ w'.cell? ⟨g,j * 2,none⟩ = some (.int .i64 pa) ∧ w'.cell? ⟨g,j * 2 + 1,none⟩ = some (.int .i64 po) ∧ w'.cell? ⟨q5,0,none⟩ = some (.int .i64 os) ∧ w'.cell? ⟨q5,1,none⟩ = some (.int .i64 of)) (go_keep) (fail)
     all_goals
      go_wp2_with fail
      go_meet
      case rel => exact ⟨rfl,_,rfl,((Below.refl _ _).drew).alloc (by exact Nat.le_refl _) _,by exact heap_alloc_new _ _⟩
    case rest =>
     obtain ⟨rfl,q,rfl,bel,crow⟩:=hcut
     rename World => W6
     have TK6:=hid' (TK5.out.below bel)
     have CR:=hid' crow
     have lc:=lt_of_heap crow
     clear bel v2 o0 o1 e0' e1' R5 TK5
     obtain ⟨k0,hk0,hx0,hx1,hx2⟩:=info_parts infoAComing
     have p8:=TK6.out.r.c10
     have f8:=frozen_of_row _ _ 10 _ _ TK6.out.r.row
     have lb6:=lt_of_heap TK6.out.r.row
     have d0:=cell_of_row _ _ 0 _ _ _ crow
     have d1:=cell_of_row _ _ 1 _ _ _ crow
     have d2:=cell_of_row _ _ 2 _ _ _ crow
     have d3:=cell_of_row _ _ 3 _ _ _ crow
     have d4:=cell_of_row _ _ 4 _ _ _ crow
     have hcc:=TK6.out.r.cc
     obtain ⟨ca,ccp,hcv⟩:=own_slice hcc
     subst hcv
     have hcl:((S.stamp up ex).comes ls k).com.length = k:=by
      show ((S.stamp up ex).cms ls (S.stamp up ex).done.length k).length = k
      exact Sv.cms_length _ _ _ _
     have hcm:((S.stamp up ex).comes ls k).com = (S.stamp up ex).cms ls dl k:=by
      show (S.stamp up ex).cms ls S.done.length k = _
      rw [hdl2]
     rw [hcl] at hcc p8
     simp at d0 d1 d2 d3 d4
     have HCC:=hid' hcc
     have HCL:=hid' hcl
     have HCMM:=hid' hcm
     have fz:∀ o,(W6.alloc o).frozen? ⟨b,10,none⟩ = false:=fun o => frozen_of_row _ _ 10 _ _ ((Keep.refl _ W6).alloc o _ _ _ TK6.out.r.row)
     clear hcc crow hcl hcm
     go_upto_region 13 with fail
     go_region_law ((refine step_append_lies _ ?_ (.tmp 91) (.tmp 93) 111 ?_ 0 121 k0 (.agg #[.int .i64 0,.int .i64 0,.int .i64 0,.int .i64 0,.bool false]) 5 40 Tryz.underlying111 hk0 hx0 hx1 hx2 rfl (by decide) (.slice ca k ccp) k (flatC ((S.stamp up ex).comes ls k).com) ?_ ?_ ⟨W6.heap.size,0,none⟩ 1 1 [.int .i64 pa,.int .i64 po,.int .i64 os,.int .i64 of,.bool false] ?_ ?_ ?_ ?_ ?_ ?_ ?_ ?_ (W6.heap.size + 1) ?_ ?_;exact rfl;exact rfl;exact rfl;exact (HCC.out.alloc _).drew;exact rfl;exact rfl;exact (World.news_of_block (cs:=#[.int .i64 pa,.int .i64 po,.int .i64 os,.int .i64 of,.bool false]) (t:=121) (fr:=(0,0)) (heap_alloc_new W6 _));(simp [Value.oneCell']);decide;(unfold maxLen;omega);omega;omega;(simp);intro gg cap6 w6 own6 hg6 hat6 hlt6;have S6:=hid' (grown_heap (w:=(W6.alloc (.cells #[.int .i64 pa,.int .i64 po,.int .i64 os,.int .i64 of,.bool false] 121)).drew) (t:=157) hg6 (HCC.out.alloc _).drew ((Keep.refl _ W6).alloc _ _ _ _ TK6.out.r.row) (by decide));have c68:w6.cell? ⟨b,10,none⟩ = some (.slice ca ((S.stamp up ex).comes ls k).com.length ccp):=cell_of_row _ _ 10 _ _ _ S6.out;have f68:=frozen_of_row _ _ 10 _ _ S6.out;have OWN6:=hid' own6;have HG6:=hid' hg6;have HAT6:=hid' hat6;clear own6 hg6 hat6))
     all_goals
      have ba6:=((Below.refl W6.heap.size W6).alloc (Nat.le_refl _) (.cells #[.int .i64 pa,.int .i64 po,.int .i64 os,.int .i64 of,.bool false] 121)).drew
      have pc:=(TK6.out.below ba6).putC (L:=(S.stamp up ex).cms ls dl (k + 1)) (by have q:=HG6.out;rw [← HCL.out] at q;exact q) (by rw [HCM.out,flatC_append,List.length_append,Sv.cms_length,← HCMM.out];exact OWN6.out) (fun k' e => by
       obtain rfl:gg = k':=by simpa [Value.ownBlock] using e
       have q:=HAT6.out
       rw [← HCL.out] at q
       rcases q with h | h
       ·exact .inl h
       ·exact .inr (Nat.le_of_eq ((alloc_sz _ _).trans h.symm)))
      have e9:(S.stamp up ex).comes ls (k + 1) = { (S.stamp up ex).comes ls k with com:=(S.stamp up ex).cms ls dl (k + 1) }:=by
       rw [← hdl2];rfl
      rw [← e9] at pc
      have PC:=hid' pc
      clear pc e9 ba6
      go_wp2
      go_roundw
      case rel => exact ⟨k + 1,j + 1,by have:=HJ.out;omega,by have:=HJ.out;omega,by go_num,PC.out⟩
      case measure => simp [intOf];omega
   ·have hnlti:¬ (j:Int) < (n:Int):=by omega
    have hkk:k = n - dl:=by have:=HJ.out;omega
    have HTK:Hid ((S.stamp up ex).comes ls k = s.taken up ex ls):=by
     show _ = _
     unfold Sv.taken
     rw [HSE.out,hkk,hdl2,hn]
    clear tk3
    go_wp2
    go_end0
    have t3:=TK3.out
    rw [HTK.out] at t3
    exact ⟨rfl,dv3,cv3,t3.r,HFF.out ▸ t3.off,HFF.out ▸ t3.foot⟩
end Go.Proofs.YtmmkhodaljpjgaaGreatDoor
