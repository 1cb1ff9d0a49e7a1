import Derived.Test.YtmmkhodaljpjgaaGreatDoorV41
import Derived.Deep.RegionLaw
import Derived.Deep.QuietTactic
import Derived.BigQuiet
set_option maxRecDepth 100000
set_option maxHeartbeats 6400000
namespace Go.Proofs.YtmmkhodaljpjgaaGreatDoor
open Go.RowKit
attribute [local go_sem ↓] Go.wp_at_zero Go.wp_at_succ
def DueP (b:Nat) (F:Nat → Prop) (w:World) (s:Sv) (w':World):Prop:=∃ dv cv op bs bf,PRow b s dv cv op bs bf w' ∧ Opn s op bs bf ∧ Off F w w' ∧ ∀ j,pFoot b dv cv j → F j ∨ w.heap.size ≤ j
theorem DueP.post {b:Nat} {F:Nat → Prop} {w:World} {s:Sv} {w':World} (h:DueP b F w s w'):PPost b F w s w':=by
 obtain ⟨dv,cv,op,bs,bf,r,o,f,g⟩:=h
 exact ⟨pFoot b dv cv,⟨dv,cv,op,bs,bf,r,o,fun k => Iff.rfl⟩,f,g⟩
theorem due_all (b:Nat) (s:Sv) (dv cv:Value) (op:Bool) (bs bf:Int) (w:World) (h:PRow b s dv cv op bs bf w) (ho:Opn s op bs bf) (hM:s.Mid) (hN:s.Num) :
  Calls Tryz.prog 182 #[.pointer (some ⟨b,0,none⟩)] w fun e w' => e = .returned (.tuple #[]) ∧ DueP b (pFoot b dv cv) w s.begun w':=by
 have win:=hN.win
 obtain ⟨m,hc⟩:=hM.cut win.1 win.2
 have g:=hM.fit.good.len
 rw [s.all_length] at g
 refine (let_due b s dv cv op bs bf m w h hc (by omega)).mono ?_
 rintro e w' ⟨rfl,dv',cv',r,o,f⟩
 exact ⟨rfl,dv',cv',_,_,_,r,ho.begun hc (fun _ => by rw [hM.bl];exact hM.pos),o,f⟩
theorem DueP.then {b:Nat} {F G:Nat → Prop} {w w1:World} {s':Sv} {w':World} (h:DueP b G w1 s' w') (of:Off F w w1) (hg:∀ j,G j → F j ∨ w.heap.size ≤ j):DueP b F w s' w':=by
 obtain ⟨dv,cv,op,bs,bf,r,o,f,g⟩:=h
 have sz:=of.size
 refine ⟨dv,cv,op,bs,bf,r,o,of.trans f (fun k hk q => ?_),fun j q => ?_⟩
 ·rcases hg k q with z | z
  ·exact z
  ·omega
 ·rcases g j q with z | z
  ·exact hg j z
  ·exact .inr (by omega)
theorem Sv.filed_nil {x:Sv} (h:x.com = []):x.filed = false:=by unfold Sv.filed;rw [h]
theorem Sv.filed_cons {x:Sv} {c:Cm} {r:List Cm} (h:x.com = c :: r):x.filed = !c.v:=by unfold Sv.filed;rw [h]
theorem Sv.weigh_filed {x:Sv} (hl:x.ld = true) (hf:x.begun.filed = true):x.weigh = x.begun:=by
 unfold Sv.weigh;rw [if_neg (by rw [hl];simp),if_pos hf]
theorem Sv.weigh_voted {x:Sv} (hl:x.ld = true) (hf:x.begun.filed = false):x.weigh = x.begun.voted:=by
 unfold Sv.weigh;rw [if_neg (by rw [hl];simp),if_neg (by rw [hf];simp)]
theorem Sv.tally_com (y:Sv) (L:List Cm) (n:Nat):({ y with com:=L }:Sv).tally n = y.tally n:=by
 induction n with
 | zero => rfl
 | succ n ih =>
  have e:∀ h,({ y with com:=L }:Sv).counts h = y.counts h:=fun _ => rfl
  unfold Sv.tally
  rw [ih,e]
theorem Sv.most_com (y:Sv) (L:List Cm):({ y with com:=L }:Sv).most = y.most:=by
 unfold Sv.most
 rw [Sv.tally_com]
theorem Sv.sign_com (y:Sv) (L:List Cm):({ y with com:=L }:Sv).sign = y.sign:=by
 unfold Sv.sign
 rw [Sv.most_com]
 rfl
theorem Sv.utc_com (y:Sv) (L:List Cm):({ y with com:=L }:Sv).utc = y.utc:=rfl
theorem Sv.old_com (y:Sv) (L:List Cm):({ y with com:=L }:Sv).old = y.old:=rfl
theorem Sv.atN_com (y:Sv) (L:List Cm):({ y with com:=L }:Sv).atN = y.atN:=by
 unfold Sv.atN;rw [Sv.utc_com]
theorem Sv.whenN_com (y:Sv) (L:List Cm):({ y with com:=L }:Sv).whenN = y.whenN:=by
 unfold Sv.whenN;rw [Sv.sign_com,Sv.atN_com,Sv.old_com]
theorem Sv.okN_com (y:Sv) (L:List Cm):({ y with com:=L }:Sv).okN = y.okN:=by
 unfold Sv.okN;rw [Sv.sign_com,Sv.atN_com,Sv.old_com]
theorem Sv.opens_com (y:Sv) (L:List Cm) (t:Int):({ y with com:=L }:Sv).opens t = y.opens t:=rfl
theorem Sv.vt_voted (y:Sv):(({ y with com:=[] }:Sv).vt.2 = false → y.voted = { y with com:=[] }) ∧ (({ y with com:=[] }:Sv).vt.2 = true → y.okN = true ∧ y.ns < y.whenN ∧ ({ y with com:=[] }:Sv).vt.1 = ⟨y.atN,y.old + y.sign,(y.opens y.whenN).1,(y.opens y.whenN).2,true⟩ ∧ y.voted = ({ y with com:=[({ y with com:=[] }:Sv).vt.1] }:Sv).begun):=by
 have e:({ y with com:=[] }:Sv).vt = if y.okN = false ∨ y.whenN ≤ y.ns then (⟨0,0,0,0,false⟩,false) else (⟨y.atN,y.old + y.sign,(y.opens y.whenN).1,(y.opens y.whenN).2,true⟩,true):=by
  unfold Sv.vt
  rw [Sv.okN_com,Sv.whenN_com,Sv.atN_com,Sv.old_com,Sv.sign_com,Sv.opens_com]
 have v:y.voted = if y.okN = false ∨ y.whenN ≤ y.ns then { y with com:=[] } else ({ y with com:=[⟨y.atN,y.old + y.sign,(y.opens y.whenN).1,(y.opens y.whenN).2,true⟩] }:Sv).begun:=by unfold Sv.voted;rfl
 rw [e,v]
 by_cases c:y.okN = false ∨ y.whenN ≤ y.ns
 ·rw [if_pos c,if_pos c]
  exact ⟨fun _ => rfl,fun q => by cases q⟩
 ·rw [if_neg c,if_neg c]
  refine ⟨fun q => (by cases q),fun _ => ⟨?_,?_,rfl,rfl⟩⟩
  ·cases q:y.okN with
   | true => rfl
   | false => exact absurd (.inl q) c
  ·by_cases q:y.ns < y.whenN
   ·exact q
   ·exact absurd (.inr (by omega)) c
theorem look_around (b:Nat) (s:Sv) (dv cv:Value) (op:Bool) (bs bf:Int) (w:World) (h:PRow b s dv cv op bs bf w) (ho:Opn s op bs bf) (hN:s.Num) (hM:s.ld = true → s.Mid) (hx:s.ld = true → 0 ≤ s.ex ∧ s.ex ≤ 34000000000) :
  Calls Tryz.prog 148 #[.pointer (some ⟨b,0,none⟩)] w fun e w' => e = .returned (.tuple #[]) ∧ PPost b (pFoot b dv cv) w s.weigh w':=by
 obtain ⟨k0,hk0,hx0,hx1,hx2⟩:=info_parts infoAComing
 have HP:=hid' h
 have HO:=hid' ho
 have c6:=h.c6
 cases hld:s.ld with
 | false =>
  have hw:s.weigh = s:=by unfold Sv.weigh;rw [if_pos hld]
  rw [hld] at c6
  rw [hw]
  clear h ho hN hM hx hw
  go_enter Tryz.func148,Tryz.ntmps148
  go_wp2
  refine bodyPost_ret (results_none rfl _ _ _) rfl ?_
  exact ⟨rfl,pFoot b dv cv,⟨dv,cv,op,bs,bf,HP.out,HO.out,fun k => Iff.rfl⟩,Off.refl _ _,fun k e => .inl e⟩
 | true =>
  rw [hld] at c6
  have hm:=hM hld
  have hex:=hx hld
  have win:=hN.win
  have bg:=hm.begun win.1 win.2
  have hyn:=hN.of bg.same
  have HY:=hid' bg.mid
  have HYN:=hid' hyn
  have DU:=hid' (due_all b s dv cv op bs bf w h ho hm hN)
  have eyx:s.begun.ex = s.ex:=rfl
  have HEX:Hid (0 ≤ s.begun.ex ∧ s.begun.ex ≤ 34000000000):=hex
  have HWF:=hid' (fun q => Sv.weigh_filed (x:=s) hld q)
  have HWV:=hid' (fun q => Sv.weigh_voted (x:=s) hld q)
  have HVV:=hid' s.begun.vt_voted
  have HFN:=hid' (fun q => Sv.filed_nil (x:=s.begun) q)
  have HFC:=hid' (fun c r q => Sv.filed_cons (x:=s.begun) (c:=c) (r:=r) q)
  generalize s.weigh = sw at *
  generalize hy:s.begun = y at *
  clear h ho hN hM hx hm hex bg hyn eyx hy
  go_enter Tryz.func148,Tryz.ntmps148
  go_wp2_with fail
  refine DU.out.mono ?_
  rintro e w1 ⟨rfl,dv1,cv1,op1,bs1,bf1,pr1,o1,of1,ff1⟩
  have P1:=hid' pr1
  have O1:=hid' o1
  have OF1:=hid' of1
  have FF1:=hid' ff1
  have hlen:=HY.out.fit.good.len
  rw [y.all_length] at hlen
  obtain ⟨ca,ccp,hcv⟩:=own_slice pr1.cc
  subst hcv
  have c10:=pr1.c10
  clear pr1 o1 of1 ff1 DU c6
  go_upto_region 2 with fail
  go_cut [29] from 4 (fun s29 wx => s29 = .bool y.filed ∧ wx = w1)
  case first =>
   cases hcom:y.com with
   | nil =>
    have e0:y.com.length = 0:=by rw [hcom];rfl
    rw [e0] at c10
    have HC0:=hid' hcom
    clear hcom e0
    go_wp2_with fail
    go_meet
    case rel => exact ⟨by rw [HFN.out HC0.out],rfl⟩
   | cons c r =>
    have e0:y.com.length = r.length + 1:=by rw [hcom];rfl
    have hp:0 < y.com.length:=by omega
    obtain ⟨g,cg,hg⟩:=own_some P1.out.cc hp
    obtain ⟨rfl,_,rfl⟩:=Value.slice.inj hg
    have e4:=(P1.out.cc.cellAt (0 * 5 + 4) (by omega)).trans (flatC_at y.com 0 hp 4 (by omega))
    rw [show y.com[0]'hp = c from by simp [hcom]] at e4
    simp [Cm.cells] at e4
    have hpi:(0:Int) < (y.com.length:Int):=by omega
    have HC0:=hid' hcom
    clear hcom e0 hg hp
    go_wp2_with fail
    go_meet
    case rel => exact ⟨by rw [HFC.out c r HC0.out],rfl⟩
  case rest =>
   rename World => WC
   obtain ⟨rfl,hw1⟩:=hcut
   subst WC
   cases hfl:y.filed with
   | true =>
    have HSW:=hid' (HWF.out hfl)
    clear hfl
    go_wp2
    refine bodyPost_ret (results_none rfl _ _ _) rfl ?_
    rw [HSW.out]
    exact ⟨rfl,DueP.post ⟨dv1,_,op1,bs1,bf1,P1.out,O1.out,OF1.out,FF1.out⟩⟩
   | false =>
    have HSW:=hid' (HWV.out hfl)
    have f10:=P1.out.fr 10
    have lb1:=P1.out.lt
    have PZ:=hid' (P1.out.putC (L:=[]) (cv':=.slice none 0 0) (World.ownsRow_nil _ _ _ _))
    have hz:=HY.out.none
    have hzn:({ y with com:=[] }:Sv).Num:=by have q:=HYN.out;exact ⟨q.mode,q.f0,q.f1,q.t,q.sl,q.sok,q.r0⟩
    have VO:=hid' (srv_voted b { y with com:=[] } dv1 (.slice none 0 0) op1 bs1 bf1 _ PZ.out hz hzn HEX.out)
    have hv0:=HVV.out
    have HV:=hid' hv0
    generalize hvt:({ y with com:=[] }:Sv).vt = vt at *
    obtain ⟨⟨va,vo,vs,vf,vv⟩,ok⟩:=vt
    simp only at VO HV
    have OZ:=hid' (OF1.out.setCell (p:=⟨b,10,none⟩) (fun _ => .inl rfl) (.slice none 0 0))
    clear hfl hvt hz hzn hv0 HVV
    go_wp2_with fail
    generalize hWZ:w1.setCell ⟨b,10,none⟩ (.slice none 0 0) = WZ at *
    clear hWZ
    refine VO.out.mono ?_
    rintro e w2 ⟨rfl,hb2⟩
    have P2:=hid' (PZ.out.below hb2)
    have O2:=hid' (OZ.out.then hb2)
    clear hb2 VO c10 f10
    cases ok with
    | false =>
     have HVD:=hid' (HV.out.1 rfl)
     have BA:=hid' ((Below.refl w2.heap.size w2).alloc (Nat.le_refl _) (.cells #[.int .i64 va,.int .i64 vo,.int .i64 vs,.int .i64 vf,.bool vv] 121))
     go_wp2
     first | (refine bodyPost_ret (results_none rfl _ _ _) rfl ?_) | go_end0
     rw [HSW.out,HVD.out]
     refine ⟨rfl,DueP.post ⟨dv1,.slice none 0 0,op1,bs1,bf1,P2.out.below BA.out,O1.out.com [],O2.out.then BA.out,fun j q => ?_⟩⟩
     rcases q with q | q | q
     ·exact FF1.out j (.inl q)
     ·exact FF1.out j (.inr (.inl q))
     ·simp [Value.ownBlock] at q
    | true =>
     obtain ⟨v1,v2,v3,v4⟩:=HV.out.2 rfl
     have HVD:=hid' v4
     have hmz:({ y with com:=[⟨va,vo,vs,vf,vv⟩] }:Sv).Mid:=by rw [v3];exact HY.out.vote HYN.out v1 v2
     have hzn:({ y with com:=[⟨va,vo,vs,vf,vv⟩] }:Sv).Num:=by have q:=HYN.out;exact ⟨q.mode,q.f0,q.f1,q.t,q.sl,q.sok,q.r0⟩
     have HMZ:=hid' hmz
     have HZN:=hid' hzn
     clear v1 v2 v3 v4 hmz hzn HV
     go_upto_region 6 with fail
     have BA:=hid' ((Below.refl w2.heap.size w2).alloc (Nat.le_refl _) (.cells #[.int .i64 va,.int .i64 vo,.int .i64 vs,.int .i64 vf,.bool vv] 121))
     have RA:=hid' (heap_alloc_new w2 (.cells #[.int .i64 va,.int .i64 vo,.int .i64 vs,.int .i64 vf,.bool vv] 121))
     generalize hWA:w2.alloc (.cells #[.int .i64 va,.int .i64 vo,.int .i64 vs,.int .i64 vf,.bool vv] 121) = WA at *
     generalize hEA:w2.heap.size = EA at *
     clear hWA
     have P3:=hid' (P2.out.below (by rw [hEA];exact BA.out))
     have O3:=hid' (O2.out.then (by rw [hEA];exact BA.out))
     have c10:=P3.out.c10
     have f10:=P3.out.fr 10
     have lb3:=P3.out.lt
     have a0:=cell_of_row _ _ 0 _ _ _ RA.out
     have a1:=cell_of_row _ _ 1 _ _ _ RA.out
     have a2:=cell_of_row _ _ 2 _ _ _ RA.out
     have a3:=cell_of_row _ _ 3 _ _ _ RA.out
     have a4:=cell_of_row _ _ 4 _ _ _ RA.out
     simp at a0 a1 a2 a3 a4
     have nil0:WA.ownsRow 0 121 5 (.slice none 0 0) 0 (flatC []):=World.ownsRow_nil _ _ _ _
     have NI:=hid' nil0
     have fz:∀ o,(WA.alloc o).frozen? ⟨b,10,none⟩ = false:=fun o => frozen_of_row _ _ 10 _ _ ((Keep.refl _ WA).alloc o _ _ _ P3.out.row)
     clear nil0
     go_cut [2] from 4 (fun s2 wx => ∃ cv3,PRow b { y with com:=[⟨va,vo,vs,vf,vv⟩] } dv1 cv3 op1 bs1 bf1 wx ∧ Off (pFoot b dv cv) w wx ∧ ∀ k,cv3.ownBlock = some k → w.heap.size ≤ k)
     case first =>
      go_region_law ((refine step_append_lies _ ?_ (.tmp 45) (.tmp 47) 111 ?_ 0 121 k0 (.agg #[.int .i64 0,.int .i64 0,.int .i64 0,.int .i64 0,.bool false]) 5 40 Tryz.underlying111 hk0 hx0 hx1 hx2 rfl (by decide) (.slice none 0 0) 0 (flatC []) ?_ ?_ ⟨WA.heap.size,0,none⟩ 1 1 [.int .i64 va,.int .i64 vo,.int .i64 vs,.int .i64 vf,.bool vv] ?_ ?_ ?_ ?_ ?_ ?_ ?_ ?_ (WA.heap.size + 1) ?_ ?_;exact rfl;exact rfl;exact rfl;exact (NI.out.alloc _).drew;exact rfl;exact rfl;exact (World.news_of_block (cs:=#[.int .i64 va,.int .i64 vo,.int .i64 vs,.int .i64 vf,.bool vv]) (t:=121) (fr:=(0,0)) (heap_alloc_new WA _));(simp [Value.oneCell']);decide;(unfold maxLen;omega);omega;omega;(simp);intro gg cap6 w6 own6 hg6 hat6 hlt6;have S6:=hid' (grown_heap (w:=(WA.alloc (.cells #[.int .i64 va,.int .i64 vo,.int .i64 vs,.int .i64 vf,.bool vv] 121)).drew) (t:=157) hg6 (NI.out.alloc _).drew ((Keep.refl _ WA).alloc _ _ _ _ P3.out.row) (by decide));have c67:w6.cell? ⟨b,10,none⟩ = some (.slice none 0 0):=cell_of_row _ _ 10 _ _ _ S6.out;have f67:=frozen_of_row _ _ 10 _ _ S6.out;have OWN6:=hid' own6;have HG6:=hid' hg6;have HAT6:=hid' hat6;clear own6 hg6 hat6))
      all_goals
       go_wp2_with fail
       go_meet
       case rel =>
        have ba6:=((Below.refl WA.heap.size WA).alloc (Nat.le_refl _) (.cells #[.int .i64 va,.int .i64 vo,.int .i64 vs,.int .i64 vf,.bool vv] 121)).drew
        have of6:=(O3.out.then ba6).grown (by exact HG6.out) (fun k e _ => by simp [Value.ownBlock] at e)
        have p6:=(P3.out.below ba6).keep (w':=w6) (fun k q => (by exact HG6.out:World.grownBy _ _ _).block k (by
         obtain ⟨_,_,_,hh,_⟩:=(P3.out.below ba6).typ q
         exact lt_of_heap hh) (fun e => by simp [Value.ownBlock] at e))
        refine ⟨_,p6.putC (L:=[⟨va,vo,vs,vf,vv⟩]) (by exact OWN6.out),of6.setCell (p:=⟨b,10,none⟩) (fun _ => .inl rfl) _,fun k e => ?_⟩
        obtain rfl:gg = k:=by simpa [Value.ownBlock] using e
        rcases HAT6.out with q | q
        ·simp [Value.ownBlock] at q
        ·have:=O3.out.size;omega
     case rest =>
      obtain ⟨cv3,pr3,of3,ff3⟩:=hcut
      rename World => W3
      have DU:=hid' (due_all b { y with com:=[⟨va,vo,vs,vf,vv⟩] } dv1 cv3 op1 bs1 bf1 W3 pr3 (O1.out.com _) HMZ.out HZN.out)
      have OF3:=hid' of3
      have FF3:=hid' ff3
      clear pr3 of3 ff3 c10 f10 a0 a1 a2 a3 a4 fz
      go_wp2_with fail
      refine DU.out.mono ?_
      rintro e w7 ⟨rfl,dp⟩
      have DP:=hid' dp
      clear dp DU
      go_wp2
      go_end0
      rw [HSW.out,HVD.out]
      refine ⟨rfl,(DP.out.then OF3.out (fun j q => ?_)).post⟩
      rcases q with q | q | q
      ·exact FF1.out j (.inl q)
      ·exact FF1.out j (.inr (.inl q))
      ·exact .inr (FF3.out j q)
end Go.Proofs.YtmmkhodaljpjgaaGreatDoor
namespace Go.Proofs.YtmmkhodaljpjgaaGreatDoor
open Go.RowKit
def begB (ls ds:List (Int × Int)):Bool:=decide (ds.length ≤ ls.length) && decide (ls.take ds.length = ds)
theorem begins_with (ao bo:Option Addr) (n m cap cbp:Nat) (ls ds:List (Int × Int)) (w:World) (hr:Read w ao ls) (hd:Read w bo ds) (hn:ls.length = n) (hm:ds.length = m) (n1:n ≤ 1000) (m1:m ≤ 1000) :
  Calls Tryz.prog 200 #[.slice ao n cap,.slice bo m cbp] w fun e w' => e = .returned (.bool (begB ls ds)) ∧ ∃ k,w' = w.drewN k:=by
 have HR:=hid' hr
 have HD:=hid' hd
 by_cases hlt:n < m
 ·have H:Hid (begB ls ds = false):=by show _ = _;unfold begB;rw [decide_eq_false (by omega)];rfl
  have hi:(n:Int) < (m:Int):=by omega
  clear hr hd
  go_enter Tryz.func200,Tryz.ntmps200
  go_wp2
  go_ret
  exact ⟨ret_bool H.out.symm,0,rfl⟩
 ·have H:Hid (begB ls ds = decide (ls.take ds.length = ds)):=by show _ = _;unfold begB;rw [decide_eq_true (show ds.length ≤ ls.length by omega)];rfl
  have hi:¬ (n:Int) < (m:Int):=by omega
  generalize begB ls ds = res at *
  clear hr hd
  go_enter Tryz.func200,Tryz.ntmps200
  go_wp2_with fail
  go_loopw [5] (fun i wr => ∃ k q:Nat,k ≤ m ∧ i = .int .i64 k ∧ ls.take k = ds.take k ∧ wr = w.drewN q) (fun i _ => m - (intOf i).toNat)
  case atStart => exact ⟨0,0,by omega,rfl,rfl,rfl⟩
  case round =>
   obtain ⟨k,q,hk,rfl,htk,hwr⟩:=hrel
   have HTK:=hid' htk
   have HWR:=hid' hwr
   by_cases hkl:k < m
   ·obtain ⟨g,rfl,lg,hlies⟩:=HR.out (by omega)
    obtain ⟨g',rfl,lg',hlies'⟩:=HD.out (by omega)
    have a0:wr.cell? ⟨g,k * 2,none⟩ = some (.int .i64 (ls.getD k (0,0)).1):=by rw [hwr,getD_at k (by omega)];exact (hlies k (by omega)).1
    have a1:wr.cell? ⟨g,k * 2 + 1,none⟩ = some (.int .i64 (ls.getD k (0,0)).2):=by rw [hwr,getD_at k (by omega)];exact (hlies k (by omega)).2
    have b0:wr.cell? ⟨g',k * 2,none⟩ = some (.int .i64 (ds.getD k (0,0)).1):=by rw [hwr,getD_at k (by omega)];exact (hlies' k (by omega)).1
    have b1:wr.cell? ⟨g',k * 2 + 1,none⟩ = some (.int .i64 (ds.getD k (0,0)).2):=by rw [hwr,getD_at k (by omega)];exact (hlies' k (by omega)).2
    have HS:=hid' (take_same (a:=ls) (c:=ds) k (by omega) (by omega) HTK.out)
    have HN:=hid' (take_not (a:=ls) (c:=ds) k (by omega) (by omega))
    generalize ls.getD k (0,0) = pl at *
    generalize ds.getD k (0,0) = pd at *
    obtain ⟨la,lo⟩:=pl
    obtain ⟨ea,eo⟩:=pd
    simp only at a0 a1 b0 b1
    have z0:(0:Int) ≤ (k:Int):=by omega
    have z1:(k:Int) < (m:Int):=by omega
    have z2:(k:Int) < (n:Int):=by omega
    clear hwr htk hlies hlies'
    by_cases e1:la = ea ∧ lo = eo
    ·obtain ⟨rfl,rfl⟩:=e1
     have HS2:=hid' (HS.out rfl)
     clear HS HN
     go_wp2_with fail
     go_quiet (fail)
     go_wp2
     go_roundw
     case rel => exact ⟨k + 1,q + nq,by omega,by go_num,HS2.out,by rw [HWR.out,World.drewN_drewN]⟩
     case measure => simp [intOf];omega
    ·have H3:Hid (res = false):=by show _ = _;rw [H.out];exact decide_eq_false (HN.out (fun q => e1 ⟨congrArg Prod.fst q,congrArg Prod.snd q⟩))
     by_cases e2:la = ea
     ·have e3:lo ≠ eo:=fun q => e1 ⟨e2,q⟩
      subst e2
      have n1':(lo == eo) = false:=by rw [beq_eq_false_iff_ne];exact e3
      clear HS HN e1 e3
      go_wp2_with fail
      go_quiet (fail)
      go_wp2
      go_ret
      exact ⟨ret_bool H3.out.symm,q + nq,by rw [HWR.out,World.drewN_drewN]⟩
     ·have n0':(la == ea) = false:=by rw [beq_eq_false_iff_ne];exact e2
      clear HS HN e1 e2
      go_wp2_with fail
      go_quiet (fail)
      go_wp2
      go_ret
      exact ⟨ret_bool H3.out.symm,q + nq,by rw [HWR.out,World.drewN_drewN]⟩
   ·have znl:¬ (k:Int) < (m:Int):=by omega
    have ek:k = m:=by omega
    have H3:Hid (res = true):=by
     show _ = _
     rw [H.out]
     have:=HTK.out
     rw [ek,← hm,List.take_length] at this
     exact decide_eq_true this
    clear hwr htk ek
    go_wp2
    go_ret
    exact ⟨ret_bool H3.out.symm,q,HWR.out⟩
end Go.Proofs.YtmmkhodaljpjgaaGreatDoor
namespace Go.Proofs.YtmmkhodaljpjgaaGreatDoor
open Go.RowKit
attribute [local go_sem ↓] Go.wp_at_zero Go.wp_at_succ
theorem srv_hear (b:Nat) (s:Sv) (dv cv:Value) (op:Bool) (bs bf src leap:Int) (w:World) (h:PRow b s dv cv op bs bf w) (ho:Opn s op bs bf) (hI:s.Inv) :
  Calls Tryz.prog 113 #[.pointer (some ⟨b,0,none⟩),.int .i64 src,.int .i64 leap] w fun e w' => e = .returned (.int .i64 (s.hear src leap).1) ∧ PPost b (pFoot b dv cv) w (s.hear src leap).2 w':=by
 have HP:=hid' h
 have HO:=hid' ho
 have HI:=hid' hI
 have HH:Hid (s.hear src leap = if src < 0 ∨ (s.said.length:Int) ≤ src then (13,s) else if leap < 0 ∨ 3 < leap then (14,s) else (0,(s.says src.toNat leap).weigh)):=rfl
 have c2:=h.c2
 have sl:=h.sl
 have VI:=hid' (fun W => v_is leap W)
 generalize s.hear src leap = ad at *
 clear h ho hI
 by_cases a1:src < 0
 ·have H:Hid (ad = (13,s)):=by show _ = _;rw [HH.out,if_pos (.inl a1)]
  go_enter Tryz.func113,Tryz.ntmps113
  go_wp2
  go_ret
  rw [H.out]
  exact ⟨rfl,DueP.post ⟨dv,cv,op,bs,bf,HP.out,HO.out,Off.refl _ _,fun j q => .inl q⟩⟩
 ·by_cases a2:(s.said.length:Int) ≤ src
  ·have H:Hid (ad = (13,s)):=by show _ = _;rw [HH.out,if_pos (.inr a2)]
   go_enter Tryz.func113,Tryz.ntmps113
   go_wp2
   go_ret
   rw [H.out]
   exact ⟨rfl,DueP.post ⟨dv,cv,op,bs,bf,HP.out,HO.out,Off.refl _ _,fun j q => .inl q⟩⟩
  ·by_cases a3:0 ≤ leap ∧ leap ≤ 3
   ·obtain ⟨k,rfl⟩:∃ k:Nat,src = (k:Int):=⟨src.toNat,by omega⟩
    have hk:k < s.said.length:=by omega
    have e1:(decide (0 ≤ leap) && decide (leap ≤ 3)) = true:=by rw [decide_eq_true a3.1,decide_eq_true a3.2];rfl
    rw [e1] at VI
    have H:Hid (ad = (0,(s.says k leap).weigh)):=by show _ = _;rw [HH.out,if_neg (by omega),if_neg (by omega),Int.toNat_natCast]
    have VH:=hid' (fun (W:World) (hb:Below w.heap.size w W) => v_hear b s dv cv op bs bf leap k W (HP.out.below hb) hk)
    have c4:=HP.out.c4
    have c5:=HP.out.c5
    have HSN:=hid' (Sv.says_num HI.out.num k leap a3.1 a3.2)
    clear HH a1 a3 e1
    go_enter Tryz.func113,Tryz.ntmps113
    go_wp2_with fail
    refine (VI.out _).mono ?_
    rintro e w1 ⟨rfl,hw1⟩
    subst w1
    go_wp2_with fail
    go_region_with (go_at_call 155;refine (VH.out _ (by exact (Below.refl _ _).drew)).mono ?_;rintro e w2 ⟨rfl,pr2,of2⟩;have PR2:=hid' pr2;have OF2:=hid' ((Off.of_below (F:=pFoot b dv cv) ((Below.refl w.heap.size w).drew)).trans of2 (fun _ _ q => q));clear pr2 of2)
    all_goals
     have LA:=hid' (look_around b (s.says k leap) dv cv op bs bf w2 PR2.out (HO.out.says k leap) HSN.out (fun e => Sv.says_mid (HI.out.mid e) k leap) (fun e => by have:=HI.out.ex e;exact ⟨by show 0 ≤ s.ex;omega,by show s.ex ≤ _;omega⟩))
     clear c2 c4 c5
     go_wp2_with fail
     refine LA.out.mono ?_
     rintro e w3 ⟨rfl,F3,ps,of,ff⟩
     have PSH:=hid' ps
     have OF:=hid' of
     have FF:=hid' ff
     clear ps of ff LA
     go_wp2
     go_ret
     rw [H.out]
     have sz:=OF2.out.size
     refine ⟨rfl,F3,PSH.out,OF2.out.trans OF.out (fun _ _ q => q),fun j q => ?_⟩
     rcases FF.out j q with z | z
     ·exact .inl z
     ·exact .inr (by omega)
   ·have e1:(decide (0 ≤ leap) && decide (leap ≤ 3)) = false:=by
     by_cases z:0 ≤ leap
     ·rw [decide_eq_false (show ¬ leap ≤ 3 from fun q => a3 ⟨z,q⟩),Bool.and_false]
     ·rw [decide_eq_false z,Bool.false_and]
    rw [e1] at VI
    have H:Hid (ad = (14,s)):=by show _ = _;rw [HH.out,if_neg (by omega),if_pos (by omega)]
    clear HH a3 e1
    go_enter Tryz.func113,Tryz.ntmps113
    go_wp2_with fail
    refine (VI.out _).mono ?_
    rintro e w1 ⟨rfl,hw1⟩
    subst w1
    go_wp2
    go_ret
    rw [H.out]
    exact ⟨rfl,DueP.post ⟨dv,cv,op,bs,bf,HP.out,HO.out,Off.refl _ _,fun j q => .inl q⟩⟩
theorem p_hear (s:Sv) (src leap:Int) (hI:s.Inv):PDoes PS 66 (fun q => #[.pointer (some ⟨q,0,none⟩),.int .i64 src,.int .i64 leap]) s (s.hear src leap).2 (s.hear src leap).1 (fun _ => True):=by
 intro b F w hp _
 obtain ⟨dv,cv,op,bs,bf,r,o,f⟩:=hp
 have SA:=hid' (fun (W:World) (hb:Below w.heap.size w W) => srv_hear b s dv cv op bs bf src leap W (r.below hb) o hI)
 have HF:=hid' f
 clear r o f hI
 go_enter Tryz.func66,Tryz.ntmps66
 go_wp2_with fail
 refine (SA.out _ (Below.refl _ _)).mono ?_
 rintro e w1 ⟨rfl,F',ps,of,ff⟩
 have PSH:=hid' ps
 have OF:=hid' of
 have FF:=hid' ff
 clear ps of ff
 go_wp2
 go_ret
 refine ⟨rfl,F',PSH.out,OF.out.mono (fun k _ e => (HF.out k).2 e),fun k e => ?_⟩
 rcases FF.out k e with z | z
 ·exact .inl ((HF.out k).2 z)
 ·exact .inr z
end Go.Proofs.YtmmkhodaljpjgaaGreatDoor
namespace Go.Proofs.YtmmkhodaljpjgaaGreatDoor
open Go.RowKit
attribute [local go_sem ↓] Go.wp_at_zero Go.wp_at_succ
theorem quo_up {a b:Int} (hb:0 < b):quo a b true = if a % b = 0 then a / b else a / b + 1:=by
 unfold quo
 rw [if_pos rfl]
 have h:=Int.mul_ediv_add_emod a b
 have m0:=Int.emod_nonneg a (show b ≠ 0 by omega)
 have m1:=Int.emod_lt_of_pos a hb
 split
 ·rename_i c
  have e:a + b - 1 = (b - 1) + (a / b) * b:=by rw [Int.mul_comm (a / b) b];omega
  rw [e,Int.add_mul_ediv_right _ _ (by omega),Int.ediv_eq_zero_of_lt (by omega) (by omega)];omega
 ·rename_i c
  have e:a + b - 1 = (a % b - 1) + (a / b + 1) * b:=by rw [Int.add_mul,Int.mul_comm (a / b) b];omega
  rw [e,Int.add_mul_ediv_right _ _ (by omega),Int.ediv_eq_zero_of_lt (by omega) (by omega)];omega
theorem tdiv_pos {a b:Int} (ha:0 ≤ a):a.tdiv b = a / b:=Int.tdiv_eq_ediv_of_nonneg ha
theorem tmod_pos {a b:Int} (ha:0 ≤ a):a.tmod b = a % b:=Int.tmod_eq_emod_of_nonneg ha
theorem p_quot (a b:Int) (up:Bool) (w:World) (a0:0 ≤ a) (b0:1 ≤ b) (a1:a ≤ 4000000000000000000) (b1:b ≤ 4000000000000000000) :
  Calls Tryz.prog 207 #[.int .i64 a,.int .i64 b,.bool up] w fun e w' => e = .returned (.int .i64 (quo a b up)) ∧ w' = w:=by
 have hd:=tdiv_pos (b:=b) a0
 have hm:=tmod_pos (b:=b) a0
 have hq0:0 ≤ a / b:=Int.ediv_nonneg a0 (by omega)
 have hq1:a / b ≤ a:=Int.ediv_le_self _ a0
 cases up with
 | false =>
  have H:Hid (quo a b false = a / b):=by show _ = _;unfold quo;rw [if_neg (by simp)]
  generalize quo a b false = r at *
  go_enter Tryz.func207,Tryz.ntmps207
  go_wp2
  go_ret
  exact ⟨by rw [H.out];first | rfl | (rw [← hd];rfl),rfl⟩
 | true =>
  have H:Hid (quo a b true = if a % b = 0 then a / b else a / b + 1):=quo_up (by omega)
  generalize quo a b true = r at *
  by_cases c:a % b = 0
  ·have c1:(a.tmod b != 0) = false:=by rw [hm,c];rfl
   have c2:(a % b != 0) = false:=by rw [c];rfl
   have H2:Hid (r = a / b):=by show _ = _;rw [H.out,if_pos c]
   clear c H
   go_enter Tryz.func207,Tryz.ntmps207
   go_wp2
   go_ret
   exact ⟨by rw [H2.out];first | rfl | (rw [← hd];rfl),rfl⟩
  ·have c1:(a.tmod b != 0) = true:=bne_iff_ne.2 (by rw [hm];exact c)
   have c2:(a % b != 0) = true:=bne_iff_ne.2 c
   have H2:Hid (r = a / b + 1):=by show _ = _;rw [H.out,if_neg c]
   clear c H
   go_enter Tryz.func207,Tryz.ntmps207
   go_wp2
   go_ret
   exact ⟨by rw [H2.out];first | rfl | (rw [← hd];rfl),rfl⟩
theorem p_curve (i:Int) (w:World) (h0:0 ≤ i) (h1:i ≤ 1024) :
  Calls Tryz.prog 208 #[.int .i64 i] w fun e w' => e = .returned (.int .i64 (gZ i)) ∧ w' = w:=by
 have a0:0 ≤ 4 * i * i:=Int.mul_nonneg (by omega) h0
 have a1:4 * i * i ≤ 4 * i * 1024:=Int.mul_le_mul_of_nonneg_left h1 (by omega)
 have HG:Hid (gZ i = 4 * i * i * (3072 - 2 * i)):=rfl
 have gb:=gZ_bd h0 h1
 rw [HG.out] at gb
 obtain ⟨a,ha⟩:∃ a,4 * i * i = a:=⟨_,rfl⟩
 rw [ha] at a0 a1 HG gb
 obtain ⟨c,hc⟩:∃ c,a * (3072 - 2 * i) = c:=⟨_,rfl⟩
 rw [hc] at HG gb
 rw [HG.out]
 have a2:a ≤ 4194304:=by omega
 clear HG
 go_enter Tryz.func208,Tryz.ntmps208
 go_wp2
 go_ret
 exact ⟨rfl,rfl⟩
theorem p_open (n W:Int) (w:World) (ok:PullOk W n) :
  Calls Tryz.prog 206 #[.int .i64 n,.int .i64 W] w fun e w' => e = .returned (.bool true) ∧ w' = w:=by
 have ⟨w0,w1,n0,n1⟩:=ok
 have n2:n < W * 4294967296:=n1
 have hx:=ok.x
 clear ok n1
 go_enter Tryz.func206,Tryz.ntmps206
 go_wp2
 go_ret
 exact ⟨ret_bool (by simp <;> omega),rfl⟩
theorem p_linear (n W:Int) (up:Bool) (w:World) (ok:PullOk W n) :
  Calls Tryz.prog 194 #[.int .i64 n,.int .i64 W,.bool up] w fun e w' => e = .returned (.int .i64 (quo (pullU 1 W n) (pullD 1 W) up)) ∧ w' = w:=by
 have e1:pullU 1 W n = n:=rfl
 have e2:pullD 1 W = W:=rfl
 rw [e1,e2]
 have hx:=ok.x
 have ⟨w0,w1,n0,n1⟩:=ok
 have QU:=hid' (fun V => p_quot n W up V n0 (by omega) (by omega) (by omega))
 have OP:=hid' (fun V => p_open n W V ok)
 generalize quo n W up = r at *
 clear ok hx n1
 go_enter Tryz.func194,Tryz.ntmps194
 go_wp2_with fail
 refine (OP.out _).mono ?_
 rintro e w1 ⟨rfl,hw⟩
 subst w1
 go_wp2_with fail
 refine (QU.out _).mono ?_
 rintro e w1 ⟨rfl,hw⟩
 subst w1
 go_wp2
 go_ret
 exact ⟨rfl,rfl⟩
theorem rise_bd {i:Int} (h0:0 ≤ i) (h1:i ≤ 1023):0 ≤ gZ (i + 1) - gZ i ∧ gZ (i + 1) - gZ i ≤ 25129000:=by
 have a:=gZ_step i
 have b:i * (1023 - i) ≤ i * 1023:=Int.mul_le_mul_of_nonneg_left (by omega) h0
 have c:0 ≤ i * (1023 - i):=Int.mul_nonneg h0 (by omega)
 omega
theorem mul_bd {a b A B:Int} (a0:0 ≤ a) (b0:0 ≤ b) (h1:a ≤ A) (h2:b ≤ B):0 ≤ a * b ∧ a * b ≤ A * B :=
 ⟨Int.mul_nonneg a0 b0,Int.mul_le_mul h1 h2 b0 (by omega)⟩
theorem p_smooth (n W:Int) (up:Bool) (w:World) (ok:PullOk W n) :
  Calls Tryz.prog 193 #[.int .i64 n,.int .i64 W,.bool up] w fun e w' => e = .returned (.int .i64 (quo (pullU 2 W n) (pullD 2 W) up)) ∧ w' = w:=by
 rw [← pull_smooth ok up]
 have hx:=ok.x
 have hi:=ok.i
 have hr:=ok.r
 have hix:=ok.ix
 have ⟨w0,w1,n0,n1⟩:=ok
 have n2:n < 2597596220620800:=by omega
 have eX:W * 4294967296 = pX W:=rfl
 have eI:quo (1024 * n) (pX W) false = pI W n:=rfl
 have eR:1024 * n - pI W n * pX W = pR W n:=rfl
 have gi:=gZ_bd (i:=pI W n) hi.1 (by omega)
 have rb:=rise_bd hi.1 hi.2
 have OP:=hid' (fun V => p_open n W V ok)
 have Q1:=hid' (fun V => p_quot (1024 * n) (pX W) false V (by omega) (by omega) (by omega) (by omega))
 rw [eI] at Q1
 have C0:=hid' (fun V => p_curve (pI W n) V hi.1 (by omega))
 have C1:=hid' (fun V => p_curve (pI W n + 1) V (by omega) (by omega))
 have g1:=gZ_bd (i:=pI W n + 1) (by omega) (by omega)
 have hmod0:0 ≤ pR W n % 4294967296:=Int.emod_nonneg _ (by decide)
 have hmod1:pR W n % 4294967296 < 4294967296:=Int.emod_lt_of_pos _ (by decide)
 have hdiv0:0 ≤ pR W n / 4294967296:=Int.ediv_nonneg hr.1 (by decide)
 have hdiv1:pR W n / 4294967296 ≤ 604800:=by omega
 have m1:=mul_bd rb.1 hmod0 rb.2 (show _ ≤ 4294967295 by omega)
 have m2:=mul_bd rb.1 hdiv0 rb.2 hdiv1
 generalize hri:gZ (pI W n + 1) - gZ (pI W n) = ri at *
 generalize gZ (pI W n) = h0 at *
 generalize gZ (pI W n + 1) = h1 at *
 generalize pI W n = i at *
 generalize pX W = X at *
 generalize pR W n = r at *
 generalize hp:ri * (r % 4294967296) = p at *
 generalize hq:ri * (r / 4294967296) = q at *
 have qb:=quo_bd p 4294967296 25129000 up (by decide) m1.1 (by omega)
 have Q2:=hid' (fun V => p_quot p 4294967296 up V m1.1 (by decide) (by omega) (by decide))
 generalize hpp:quo p 4294967296 up = pp at *
 have qb2:=quo_bd (q + pp) W 15199000000000 up (by omega) (by omega) (Int.le_trans (show q + pp ≤ 15199000000000 by omega) (by omega))
 have Q3:=hid' (fun V => p_quot (q + pp) W up V (by omega) (by omega) (by omega) (by omega))
 generalize quo (q + pp) W up = z at *
 generalize hix2:i * X = ix at *
 clear ok n1 hpp
 go_enter Tryz.func193,Tryz.ntmps193
 go_wp2_with fail
 refine (OP.out _).mono ?_
 rintro e w1 ⟨rfl,hw⟩
 subst w1
 go_wp2_with fail
 refine (Q1.out _).mono ?_
 rintro e w1 ⟨rfl,hw⟩
 subst w1
 go_wp2_with fail
 refine (C1.out _).mono ?_
 rintro e w1 ⟨rfl,hw⟩
 subst w1
 go_wp2_with fail
 refine (C0.out _).mono ?_
 rintro e w1 ⟨rfl,hw⟩
 subst w1
 go_wp2_with fail
 refine (Q2.out _).mono ?_
 rintro e w1 ⟨rfl,hw⟩
 subst w1
 go_wp2_with fail
 refine (C0.out _).mono ?_
 rintro e w1 ⟨rfl,hw⟩
 subst w1
 go_wp2_with fail
 refine (Q3.out _).mono ?_
 rintro e w1 ⟨rfl,hw⟩
 subst w1
 go_wp2
 go_ret
 exact ⟨rfl,rfl⟩
theorem p_pull (b:Nat) (s:Sv) (dv cv:Value) (op:Bool) (bs bf n:Int) (up:Bool) (w:World) (h:PRow b s dv cv op bs bf w) (ok:PullOk s.win n) (hm:s.mode = 1 ∨ s.mode = 2) :
  Calls Tryz.prog 178 #[.pointer (some ⟨b,0,none⟩),.int .i64 n,.bool up] w fun e w' => e = .returned (.int .i64 (quo (pullU s.mode s.win n) (pullD s.mode s.win) up)) ∧ w' = w:=by
 have c0:=h.c0
 have c1:=h.c1
 have SM:=hid' (fun V => p_smooth n s.win up V ok)
 have LI:=hid' (fun V => p_linear n s.win up V ok)
 clear h ok
 rcases hm with e | e
 ·rw [e] at c0 ⊢
  generalize quo (pullU 1 s.win n) (pullD 1 s.win) up = r at *
  clear SM e
  go_enter Tryz.func178,Tryz.ntmps178
  go_wp2_with fail
  refine (LI.out _).mono ?_
  rintro e w1 ⟨rfl,hw⟩
  subst w1
  go_wp2
  go_ret
  exact ⟨rfl,rfl⟩
 ·rw [e] at c0 ⊢
  generalize quo (pullU 2 s.win n) (pullD 2 s.win) up = r at *
  clear LI e
  go_enter Tryz.func178,Tryz.ntmps178
  go_wp2_with fail
  refine (SM.out _).mono ?_
  rintro e w1 ⟨rfl,hw⟩
  subst w1
  go_wp2
  go_ret
  exact ⟨rfl,rfl⟩
end Go.Proofs.YtmmkhodaljpjgaaGreatDoor
namespace Go.Proofs.YtmmkhodaljpjgaaGreatDoor
open Go.RowKit
theorem Sv.agrees_eq {x:Sv} {ls:List (Int × Int)} (hf:Tab.Fit ls):x.agrees ls = if x.ld = false then decide (0 ≤ Tab.lastAt ls x.ns ls.length) else (decide (Tab.lastAt ls x.ns ls.length < (x.done.length:Int)) && begB ls x.done):=by
 unfold Sv.agrees
 by_cases c:x.ld = false
 ·rw [if_pos c,if_pos c]
  have q:=hf.lastAt_iff x.ns ls.length 0 (Nat.le_refl _) hf.1
  by_cases z:Tab.when ls 0 ≤ x.ns
  ·rw [decide_eq_true z,decide_eq_true (by have:=q.1 z;omega)]
  ·rw [decide_eq_false z,decide_eq_false (fun e => z (q.2 (by omega)))]
 ·rw [if_neg c,if_neg c]
  have lb:=Tab.lastAt_bd ls x.ns ls.length
  unfold begB
  by_cases c1:ls.length < x.done.length
  ·rw [if_pos c1,decide_eq_false (show ¬ x.done.length ≤ ls.length by omega)];simp
  ·rw [if_neg c1,decide_eq_true (show x.done.length ≤ ls.length by omega)]
   by_cases c2:ls.take x.done.length = x.done
   ·rw [if_pos c2,decide_eq_true c2]
    by_cases c3:ls.length = x.done.length
    ·rw [decide_eq_true c3,decide_eq_true (show Tab.lastAt ls x.ns ls.length < (x.done.length:Int) by omega)];rfl
    ·have q:=hf.lastAt_iff x.ns ls.length x.done.length (Nat.le_refl _) (by omega)
     rw [decide_eq_false c3,Bool.false_or]
     by_cases c4:x.ns < Tab.when ls x.done.length
     ·rw [decide_eq_true c4,decide_eq_true (by
       by_cases z:Tab.lastAt ls x.ns ls.length < (x.done.length:Int)
       ·exact z
       ·have:=q.2 (by omega);omega)];rfl
     ·rw [decide_eq_false c4,decide_eq_false (fun z => by have:=q.1 (by omega);omega)];rfl
   ·rw [if_neg c2,decide_eq_false c2];simp
theorem p_agrees (b:Nat) (s:Sv) (dv cv:Value) (op:Bool) (bs bf:Int) (g n cap:Nat) (ls:List (Int × Int)) (w:World) (h:PRow b s dv cv op bs bf w) (hl:Lies w g ls) (lg:g < w.heap.size) (hn:ls.length = n) (hf:Tab.Fit ls) (hd:s.done.length ≤ 900) :
  Calls Tryz.prog 184 #[.pointer (some ⟨b,0,none⟩),.slice (some ⟨g,0,none⟩) n cap] w fun e w' => e = .returned (.bool (s.agrees ls)) ∧ ∃ k,w' = w.drewN k:=by
 have hG:=hf.good
 have hlen:=hG.len
 have HO:=hid' (fun (W:World) (h:Lies W g ls) => holder_any g cap n ls s.ns W hn h hG.fine (by omega))
 have HA:=hid' (s.agrees_eq hf)
 have q2:=h.c4
 have q4:=h.c6
 have q7:=h.c9
 obtain ⟨da,dcp,hdv⟩:=own_slice h.dd
 subst hdv
 have BW:=hid' (fun W hr hd => begins_with (some ⟨g,0,none⟩) da n s.done.length cap dcp ls s.done W hr hd hn rfl (by omega) (by omega))
 have RD:=hid' (read_of h.dd rfl)
 have RL:Hid (Read w (some ⟨g,0,none⟩) ls):=fun _ => ⟨g,rfl,lg,hl⟩
 have HL:=hid' hl
 have lb:=Tab.lastAt_bd ls s.ns ls.length
 rw [hn] at HA lb
 generalize s.agrees ls = res at *
 generalize Tab.lastAt ls s.ns n = la at *
 generalize begB ls s.done = bg at *
 clear h hl hf hG
 cases hld:s.ld with
 | false =>
  rw [hld] at q4
  have H:Hid (res = decide (0 ≤ la)):=by show _ = _;rw [HA.out,if_pos hld]
  clear HA hld
  by_cases c:0 ≤ la
  ·rw [decide_eq_true c] at H
   go_enter Tryz.func184,Tryz.ntmps184
   go_wp2_with fail
   refine (HO.out _ HL.out).mono ?_
   rintro e w1 ⟨rfl,rfl⟩
   go_wp2
   go_ret
   exact ⟨ret_bool H.out.symm,0,rfl⟩
  ·go_enter Tryz.func184,Tryz.ntmps184
   go_wp2_with fail
   refine (HO.out _ HL.out).mono ?_
   rintro e w1 ⟨rfl,rfl⟩
   go_wp2
   go_ret
   exact ⟨ret_bool H.out.symm,0,rfl⟩
 | true =>
  rw [hld] at q4
  have H:Hid (res = (decide (la < (s.done.length:Int)) && bg)):=by show _ = _;rw [HA.out,if_neg (by rw [hld];simp)]
  clear HA hld
  by_cases c:la < (s.done.length:Int)
  ·rw [decide_eq_true c,Bool.true_and] at H
   go_enter Tryz.func184,Tryz.ntmps184
   go_wp2_with fail
   refine (HO.out _ HL.out).mono ?_
   rintro e w1 ⟨rfl,rfl⟩
   go_wp2_with fail
   refine (BW.out _ RL.out RD.out).mono ?_
   rintro e w2 ⟨rfl,k,hw2⟩
   have HW:=hid' hw2
   clear hw2
   go_wp2
   go_ret
   exact ⟨ret_bool H.out.symm,k,HW.out⟩
  ·rw [decide_eq_false c,Bool.false_and] at H
   go_enter Tryz.func184,Tryz.ntmps184
   go_wp2_with fail
   refine (HO.out _ HL.out).mono ?_
   rintro e w1 ⟨rfl,rfl⟩
   go_wp2
   go_ret
   exact ⟨ret_bool H.out.symm,0,rfl⟩
theorem p_objection (b:Nat) (s:Sv) (dv cv:Value) (op:Bool) (bs bf:Int) (g n cap:Nat) (up ex:Int) (ls:List (Int × Int)) (w:World) (h:PRow b s dv cv op bs bf w) (hl:Lies w g ls) (lg:g < w.heap.size) (hn:ls.length = n) (hf:Tab.Fit ls) (hd:s.done.length ≤ 900) :
  Calls Tryz.prog 152 #[.pointer (some ⟨b,0,none⟩),.agg #[.int .i64 up,.int .i64 ex,.slice (some ⟨g,0,none⟩) n cap]] w fun e w' => e = .returned (.int .i64 (if s.ld = true ∧ up < s.up then 11 else if s.agrees ls = false then 12 else 0)) ∧ Below w.heap.size w w':=by
 have B0:=hid' ((Below.refl w.heap.size w).alloc (Nat.le_refl _) (.cells #[.int .i64 up,.int .i64 ex,.slice (some ⟨g,0,none⟩) n cap] 78))
 have R0:=hid' (heap_alloc_new w (.cells #[.int .i64 up,.int .i64 ex,.slice (some ⟨g,0,none⟩) n cap] 78))
 have P0:=hid' (h.below B0.out)
 have AG:=hid' (fun (W:World) (hb:Below (w.alloc (.cells #[.int .i64 up,.int .i64 ex,.slice (some ⟨g,0,none⟩) n cap] 78)).heap.size (w.alloc (.cells #[.int .i64 up,.int .i64 ex,.slice (some ⟨g,0,none⟩) n cap] 78)) W) => p_agrees b s dv cv op bs bf g n cap ls W ((h.below B0.out).below hb) ((hl.below lg B0.out).below (by have:=B0.out.size;omega) hb) (by have:=B0.out.size;have:=hb.size;omega) hn hf hd)
 generalize s.agrees ls = ag at *
 obtain ⟨rv,hrv⟩:∃ rv,(if s.ld = true ∧ up < s.up then (11:Int) else if ag = false then 12 else 0) = rv:=⟨_,rfl⟩
 rw [hrv]
 have HRV:=hid' hrv
 clear h hl hf hrv
 go_enter Tryz.func152,Tryz.ntmps152
 go_upto_region 1 with fail
 generalize hV:w.alloc (.cells #[.int .i64 up,.int .i64 ex,.slice (some ⟨g,0,none⟩) n cap] 78) = V at *
 have hsz:V.heap.size = w.heap.size + 1:=by rw [← hV];simp
 clear hV
 have q4:=P0.out.c6
 have q5:=P0.out.c7
 have t0:=cell_of_row _ _ 0 _ _ _ R0.out
 have t2:=cell_of_row _ _ 2 _ _ _ R0.out
 simp at t0 t2
 cases hld:s.ld with
 | true =>
  rw [hld] at q4
  by_cases c:up < s.up
  ·have HV:Hid (rv = 11):=by show _ = _;rw [← HRV.out,if_pos ⟨hld,c⟩]
   clear hld HRV
   go_quiet (fail)
   go_wp2
   go_ret
   rw [HV.out]
   exact ⟨rfl,below_drewN B0.out nq⟩
  ·have HV:Hid (rv = if ag = false then 12 else 0):=by show _ = _;rw [← HRV.out,if_neg (fun z => c z.2)]
   clear hld HRV
   go_quiet (fail)
   go_wp2_with fail
   refine (AG.out _ (below_drewN (Below.refl _ _) _)).mono ?_
   rintro e w2 ⟨rfl,k,hw2⟩
   have B2:=hid' (show Below w.heap.size w w2 by rw [hw2,World.drewN_drewN];exact below_drewN B0.out _)
   clear hw2
   cases ag with
   | true =>
    go_wp2
    go_ret
    rw [HV.out,if_neg (by simp)]
    exact ⟨rfl,B2.out⟩
   | false =>
    go_wp2
    go_ret
    rw [HV.out];first | rw [if_pos rfl] | rw [if_pos trivial]
    exact ⟨rfl,B2.out⟩
 | false =>
  rw [hld] at q4
  have HV:Hid (rv = if ag = false then 12 else 0):=by show _ = _;rw [← HRV.out,if_neg (fun z => by rw [hld] at z;cases z.1)]
  clear hld HRV
  go_quiet (fail)
  go_wp2_with fail
  refine (AG.out _ (below_drewN (Below.refl _ _) _)).mono ?_
  rintro e w2 ⟨rfl,k,hw2⟩
  have B2:=hid' (show Below w.heap.size w w2 by rw [hw2,World.drewN_drewN];exact below_drewN B0.out _)
  clear hw2
  cases ag with
  | true =>
   go_wp2
   go_ret
   rw [HV.out,if_neg (by simp)]
   exact ⟨rfl,B2.out⟩
  | false =>
   go_wp2
   go_ret
   rw [HV.out];first | rw [if_pos rfl] | rw [if_pos trivial]
   exact ⟨rfl,B2.out⟩
end Go.Proofs.YtmmkhodaljpjgaaGreatDoor
