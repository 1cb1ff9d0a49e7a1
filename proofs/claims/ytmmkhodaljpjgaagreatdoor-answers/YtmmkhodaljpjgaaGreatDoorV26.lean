import Derived.Test.YtmmkhodaljpjgaaGreatDoorV25
import Derived.Deep.QuietTactic
import Derived.BigQuiet
namespace Go.Proofs.YtmmkhodaljpjgaaGreatDoor
open Go.RowKit
attribute [local go_sem ↓] Go.wp_at_zero Go.wp_at_succ
theorem rpost_then {b:Nat} {F:Nat → Prop} {s':Sv} {w W w':World} {dv bv cv hv:Value} (o:Off F w W) (f:∀ k,rFoot b dv bv cv hv k → F k ∨ w.heap.size ≤ k) (g:RPost b (rFoot b dv bv cv hv) W s' w'):RPost b F w s' w':=by
 obtain ⟨dv',bv',cv',hv',r',o',f'⟩:=g
 have sz:=o.size
 refine ⟨dv',bv',cv',hv',r',o.trans o' (fun k hk e => ?_),fun k e => ?_⟩
 ·rcases f k e with h | h
  ·exact h
  ·omega
 ·rcases f' k e with h | h
  ·exact f k h
  ·exact .inr (by omega)
theorem voted_row {b:Nat} {y:Sv} {dv bv cv hv:Value} {w:World} (h:RSrv b y dv bv cv hv w) (c:Cm) (o:Obj) :
  RSrv b { y with com:=[c] } dv bv (.slice (some ⟨w.heap.size + 1,0,none⟩) 1 1) hv (((w.setCell ⟨b,10,none⟩ (.slice (some ⟨w.heap.size + 1,0,none⟩) 1 1)).alloc o).alloc (.cells #[.int .i64 c.a,.int .i64 c.o,.int .i64 c.bs,.int .i64 c.bf,.bool c.v] 123)):=by
 have row:=heap_setCell_same _ _ 10 _ _ (.slice (some ⟨w.heap.size + 1,0,none⟩) 1 1) h.row
 have hn:=heap_alloc2_new (w.setCell ⟨b,10,none⟩ (.slice (some ⟨w.heap.size + 1,0,none⟩) 1 1)) o (.cells #[.int .i64 c.a,.int .i64 c.o,.int .i64 c.bs,.int .i64 c.bf,.bool c.v] 123)
 rw [show (w.setCell ⟨b,10,none⟩ (.slice (some ⟨w.heap.size + 1,0,none⟩) 1 1)).heap.size = w.heap.size from by simp] at hn
 refine ⟨(((Keep.refl _ _).alloc o).alloc _) _ _ _ row,((own_set (p:=⟨b,10,none⟩) h.dd h.row (by decide) _).alloc _).alloc _,((own_set (p:=⟨b,10,none⟩) h.bb h.row (by decide) _).alloc _).alloc _,⟨rfl,.inr ⟨w.heap.size + 1,1,_,rfl,Nat.zero_le _,hn,Nat.le_refl _,by unfold maxLen;omega,rfl,rfl⟩⟩,((own_set (p:=⟨b,10,none⟩) h.ss h.row (by decide) _).alloc _).alloc _⟩
set_option maxRecDepth 100000 in
set_option maxHeartbeats 12800000 in
theorem ref_weigh (b:Nat) (x:Sv) (dv bv cv hv:Value) (w:World) (hr:RSrv b x dv bv cv hv w) (h1:x.done.length + x.com.length ≤ 1000) (h2:x.began.length + x.com.length ≤ 1000) (hc:x.ld = true → x.begun.Can) :
  Calls Tryz.prog 108 #[.pointer (some ⟨b,0,none⟩)] w fun e w' => e = .returned (.tuple #[]) ∧ RPost b (rFoot b dv bv cv hv) w x.weigh w':=by
 have HR:=hid' hr
 have q5:=cell_of_row _ _ 5 _ _ _ hr.row
 simp at q5
 by_cases hld:x.ld = false
 ·have H:Hid (x.weigh = x):=by show _ = _;unfold Sv.weigh;rw [if_pos hld]
  rw [hld] at q5
  clear hc hld
  go_enter Tryz.func108,Tryz.ntmps108
  go_wp2
  go_returns
  exact ⟨rfl,by rw [H.out];exact HR.out.post⟩
 ·have hlt:x.ld = true:=by simpa using hld
  have H:Hid (x.weigh = if x.begun.filed = true then x.begun else x.begun.voted):=by show _ = _;unfold Sv.weigh;rw [if_neg hld]
  rw [hlt] at q5
  have HBG:=hid' (ref_begun b x dv bv cv hv w hr h1 h2)
  have HCan:=hid' (hc hlt)
  generalize rFoot b dv bv cv hv = F at *
  generalize x.weigh = res at *
  generalize x.begun = y at *
  clear hc hld hlt hr h1 h2
  go_enter Tryz.func108,Tryz.ntmps108
  go_wp2_with fail
  refine HBG.out.mono ?_
  rintro e w1 ⟨rfl,dv1,bv1,cv1,hv1,r1,o1,f1⟩
  have R1:=hid' r1
  have O1:=hid' o1
  have F1:=hid' f1
  have q10:=cell_of_row _ _ 10 _ _ _ r1.row
  obtain ⟨ca,ccp,hcv⟩:=own_slice r1.cc
  subst hcv
  simp at q10
  obtain ⟨fl,hfl⟩:∃ fl,y.filed = fl:=⟨_,rfl⟩
  have HFL:=hid' hfl
  clear hfl HBG o1 f1 q5
  go_upto_region 2 with fail
  go_cut [32] from 10 (fun s32 wx => s32 = .bool fl ∧ wx = w1)
  case first =>
   have hcc:=r1.cc
   generalize hyc:y.com = com at *
   cases com with
   | nil =>
    obtain rfl:false = fl:=by have:=HFL.out;unfold Sv.filed at this;rw [hyc] at this;exact this
    clear r1 hcc
    go_wp2_with fail
    go_meet
    case rel => exact ⟨rfl,rfl⟩
   | cons c r =>
    obtain rfl:(!c.v) = fl:=by have:=HFL.out;unfold Sv.filed at this;rw [hyc] at this;exact this
    obtain ⟨g,cap',hg⟩:=own_some hcc (show 0 < (c :: r).length by simp)
    obtain ⟨rfl,_,rfl⟩:=Value.slice.inj hg
    have a4:=(hcc.cellAt 4 (by simp;omega)).trans (flatC_at (c :: r) 0 (by simp) 4 (by omega))
    simp [Cm.cells] at a4
    generalize hL:r.length = rl at *
    have hcl:(c :: r).length = rl + 1:=by simp [hL]
    try simp only [hcl] at q10
    have z0:(0:Int) < ((rl + 1:Nat):Int):=by omega
    have z0':(0:Int) < (rl:Int) + 1:=by omega
    clear r1 hcc hg
    generalize c.v = vv at *
    cases vv with
    | true =>
     go_wp2_with fail
     go_meet
     case rel => exact ⟨rfl,rfl⟩
    | false =>
     go_wp2_with fail
     go_meet
     case rel => exact ⟨rfl,rfl⟩
  case rest =>
   obtain ⟨rfl,rfl⟩:=hcut
   rename World => W1
   cases fl with
   | true =>
    have H2:Hid (res = y):=by show _ = _;rw [H.out,if_pos HFL.out]
    go_wp2
    go_returns
    exact ⟨rfl,by rw [H2.out];exact ⟨_,_,_,_,R1.out,O1.out,F1.out⟩⟩
   | false =>
    have H2:Hid (res = y.voted):=by show _ = _;rw [H.out,if_neg (by rw [HFL.out];simp)]
    clear q10
    have MO:=hid' (ref_most b y dv1 bv1 (.slice ca y.com.length ccp) hv1 W1 R1.out HCan.out.said HCan.out.sok HCan.out.f0 HCan.out.f1)
    go_wp2_with fail
    refine MO.out.mono ?_
    rintro e w2 ⟨rfl,hb2⟩
    have R2:=hid' (R1.out.below hb2)
    have B2:=hid' hb2
    clear hb2 MO
    have UT:=hid' (ref_utc b y dv1 bv1 (.slice ca y.com.length ccp) hv1 w2 R2.out HCan.out.fine (by have:=HCan.out.len;omega) HCan.out.hold HCan.out.n0 (by have:=HCan.out.n1;omega))
    go_wp2_with fail
    refine UT.out.mono ?_
    rintro e w3 ⟨rfl,um,hw3⟩
    have B3:=hid' (show Below W1.heap.size W1 w3 by rw [hw3];exact below_drewN B2.out um)
    have R3:=hid' (R1.out.below B3.out)
    clear hw3 UT
    have q7:=cell_of_row _ _ 7 _ _ _ R3.out.row
    simp at q7
    have HSG:Hid (y.sign = if y.utc < y.ex then 0 else y.most):=rfl
    generalize hsg:y.sign = sg at *
    generalize hut:y.utc = u at *
    generalize hex:y.ex = exx at *
    generalize hmo:y.most = mo at *
    by_cases cu:u < exx
    ·have hs0:sg = 0:=by rw [HSG.out,if_pos cu]
     have HS0:=hid' hs0
     clear hs0
     have q8:=cell_of_row _ _ 8 _ _ _ R3.out.row
     simp at q8
     obtain ⟨kk,hkk⟩:∃ kk,y.done.length = kk + 1:=⟨y.done.length - 1,by have:=Tab.lastAt_bd y.done y.ns y.done.length;have:=HCan.out.hold;omega⟩
     obtain ⟨g,cap,hdv⟩:=own_some R3.out.dd (by omega)
     subst hdv
     have a1:=(R3.out.dd.cellAt (kk * 2 + 1) (by omega)).trans (flat_at1 y.done kk (by omega))
     have hold:y.old = y.done[kk].2:=by unfold Sv.old;rw [show y.done.length - 1 = kk from by omega,getD_at kk (by omega)]
     have fk:=(HCan.out.fine _ (List.getElem_mem (show kk < y.done.length by omega))).2
     have HOLD:=hid' hold
     generalize y.done[kk] = pp at *
     obtain ⟨pa,po⟩:=pp
     simp only at a1 fk HOLD
     rw [hkk] at q8
     have HKK:=hid' hkk
     have z0:(0:Int) ≤ (kk:Int):=by omega
     have z1:(kk:Int) < ((kk + 1:Nat):Int):=by omega
     have z2:((kk + 1:Nat):Int) - 1 = (kk:Int):=by omega
     have wz:IntKind.i64.wrap (((kk + 1:Nat):Int) - 1) = (kk:Int):=by
      have:=HCan.out.len
      rw [z2];exact wrap_small (by omega) (by omega)
     have wz':IntKind.i64.wrap ((kk:Int) + 1 - 1) = (kk:Int):=by
      have:=HCan.out.len
      rw [show (kk:Int) + 1 - 1 = (kk:Int) from by omega];exact wrap_small (by omega) (by omega)
     have wk:IntKind.i64.wrap (kk:Int) = (kk:Int):=by
      have:=HCan.out.len
      exact wrap_small (by omega) (by omega)
     obtain ⟨yy,mm,hin⟩:=in_cal (u:=u) (by rw [← hut];exact HCan.out.u0) (by rw [← hut];exact HCan.out.u1)
     have ub:=HCan.out.u0
     rw [hut] at ub
     have NX:=hid' (fun W => ref_next u yy mm W ub hin)
     have HAT:Hid (y.atN = nextOf yy mm):=by show _ = _;unfold Sv.atN;rw [hut];exact nextS_eq hin
     have atb:=nextOf_bd hin
     generalize nextOf yy mm = at' at *
     clear hold hkk hin
     go_upto_region 7 with fail
     go_quiet (fail)
     go_wp2_with fail
     refine (NX.out _).mono ?_
     rintro e w4 ⟨rfl,hw4⟩
     have B4:=hid' (show Below W1.heap.size W1 w4 by rw [hw4];exact below_drewN B3.out _)
     have R4:=hid' (R1.out.below B4.out)
     have lb4:=lt_of_heap R4.out.row
     have b8:=cell_of_row _ _ 8 _ _ _ R4.out.row
     simp at b8
     rw [HKK.out] at b8
     clear hw4 NX q8 a1 z0 z1 z2 wz wz' wk q7
     have okf:y.okN = false:=by unfold Sv.okN;rw [hsg,HS0.out];simp
     have VT:Hid (y.voted = { y with com:=[] }):=by show _ = _;unfold Sv.voted;rw [if_pos (.inl okf)]
     clear okf
     go_upto_region 10 with fail
     go_cut [7] from 10 (fun s7 wx => s7 = .bool false ∧ Below W1.heap.size W1 wx)
     case first =>
      by_cases ca0:0 < at'
      ·go_quiet (fail)
       go_wp2_with fail
       go_meet
       case rel => exact ⟨rfl,below_drewN (B4.out.alloc B4.out.size _) _⟩
      ·go_quiet (fail)
       go_wp2_with fail
       go_meet
       case rel => exact ⟨rfl,below_drewN (B4.out.alloc B4.out.size _) _⟩
     case rest =>
      obtain ⟨rfl,bel10⟩:=hcut
      rename World => W5
      have R5:=hid' (R1.out.below bel10)
      have O5:=hid' (O1.out.then bel10)
      have q10:=cell_of_row _ _ 10 _ _ _ R5.out.row
      have f10:=frozen_of_row _ _ 10 _ _ R5.out.row
      have q3:=cell_of_row _ _ 3 _ _ _ R5.out.row
      simp at q10 q3
      clear bel10
      go_wp2
      go_returns
      refine ⟨rfl,?_⟩
      rw [H2.out,VT.out]
      exact rpost_C (L:=[]) R5.out O5.out F1.out (World.ownsRow_nil _ _ _ _) (fun k e => by simp [Value.ownBlock] at e)
    ·have hs0:sg = mo:=by rw [HSG.out,if_neg cu]
     have mb:=y.most_bd
     rw [hmo] at mb
     rcases mb with mb | mb | mb
     ·subst mb
      have HS0:=hid' hs0
      clear hs0
      have q8:=cell_of_row _ _ 8 _ _ _ R3.out.row
      simp at q8
      obtain ⟨kk,hkk⟩:∃ kk,y.done.length = kk + 1:=⟨y.done.length - 1,by have:=Tab.lastAt_bd y.done y.ns y.done.length;have:=HCan.out.hold;omega⟩
      obtain ⟨g,cap,hdv⟩:=own_some R3.out.dd (by omega)
      subst hdv
      have a1:=(R3.out.dd.cellAt (kk * 2 + 1) (by omega)).trans (flat_at1 y.done kk (by omega))
      have hold:y.old = y.done[kk].2:=by unfold Sv.old;rw [show y.done.length - 1 = kk from by omega,getD_at kk (by omega)]
      have fk:=(HCan.out.fine _ (List.getElem_mem (show kk < y.done.length by omega))).2
      have HOLD:=hid' hold
      generalize y.done[kk] = pp at *
      obtain ⟨pa,po⟩:=pp
      simp only at a1 fk HOLD
      rw [hkk] at q8
      have HKK:=hid' hkk
      have z0:(0:Int) ≤ (kk:Int):=by omega
      have z1:(kk:Int) < ((kk + 1:Nat):Int):=by omega
      have z2:((kk + 1:Nat):Int) - 1 = (kk:Int):=by omega
      have wz:IntKind.i64.wrap (((kk + 1:Nat):Int) - 1) = (kk:Int):=by
       have:=HCan.out.len
       rw [z2];exact wrap_small (by omega) (by omega)
      have wz':IntKind.i64.wrap ((kk:Int) + 1 - 1) = (kk:Int):=by
       have:=HCan.out.len
       rw [show (kk:Int) + 1 - 1 = (kk:Int) from by omega];exact wrap_small (by omega) (by omega)
      have wk:IntKind.i64.wrap (kk:Int) = (kk:Int):=by
       have:=HCan.out.len
       exact wrap_small (by omega) (by omega)
      obtain ⟨yy,mm,hin⟩:=in_cal (u:=u) (by rw [← hut];exact HCan.out.u0) (by rw [← hut];exact HCan.out.u1)
      have ub:=HCan.out.u0
      rw [hut] at ub
      have NX:=hid' (fun W => ref_next u yy mm W ub hin)
      have HAT:Hid (y.atN = nextOf yy mm):=by show _ = _;unfold Sv.atN;rw [hut];exact nextS_eq hin
      have atb:=nextOf_bd hin
      generalize nextOf yy mm = at' at *
      clear hold hkk hin
      go_upto_region 7 with fail
      go_quiet (fail)
      go_wp2_with fail
      refine (NX.out _).mono ?_
      rintro e w4 ⟨rfl,hw4⟩
      have B4:=hid' (show Below W1.heap.size W1 w4 by rw [hw4];exact below_drewN B3.out _)
      have R4:=hid' (R1.out.below B4.out)
      have lb4:=lt_of_heap R4.out.row
      have b8:=cell_of_row _ _ 8 _ _ _ R4.out.row
      simp at b8
      rw [HKK.out] at b8
      clear hw4 NX q8 a1 z0 z1 z2 wz wz' wk q7
      have hs1:y.sign = 1:=by rw [hsg];exact HS0.out
      have whn:y.whenN = at' + po:=by unfold Sv.whenN;rw [hs1,HAT.out,HOLD.out];simp
      obtain ⟨okv,hokv⟩:∃ okv,y.okN = okv:=⟨_,rfl⟩
      have okd:okv = (decide (0 < at') && Tab.follows y.done at' (po + 1)):=by
       rw [← hokv];unfold Sv.okN;rw [hs1,HAT.out,HOLD.out]
       cases decide (0 < at') <;> simp
      have HOKV:=hid' hokv
      have HOKD:=hid' okd
      have WHN:=hid' whn
      have HS1:=hid' hs1
      clear hokv okd whn hs1
      have FO:=hid' (fun (W:World) (h:W.ownsRow 0 46 2 (.slice (some ⟨g,0,none⟩) y.done.length cap) y.done.length (flat y.done)) => follows_any 0 _ y.done at' (po + 1) W (wf_at (by omega) (by omega)) (wf_at (by omega) (by omega)) h (by have:=HCan.out.len;omega) (fun p hp => (HCan.out.fine p hp).2))
      rw [HKK.out] at FO
      go_upto_region 10 with fail
      go_cut [7] from 10 (fun s7 wx => s7 = .bool okv ∧ Below W1.heap.size W1 wx)
      case first =>
       by_cases ca0:0 < at'
       ·have eok:Tab.follows y.done at' (po + 1) = okv:=by rw [HOKD.out];simp [ca0]
        rw [eok] at FO
        have HA:=hid' (B4.out.alloc B4.out.size (.cells #[.int .i64 at',.int .i64 (po + 1)] 46))
        have OW:=hid' ((R4.out.dd.alloc (.cells #[.int .i64 at',.int .i64 (po + 1)] 46)).drew)
        rw [HKK.out] at OW
        clear eok
        have RW:=hid' (heap_alloc_new w4 (.cells #[.int .i64 at',.int .i64 (po + 1)] 46))
        have m8:(w4.alloc (.cells #[.int .i64 at',.int .i64 (po + 1)] 46)).cell? ⟨b,8,none⟩ = some (.slice (some ⟨g,0,none⟩) (kk + 1) cap):=(((Below.refl w4.heap.size w4).alloc (Nat.le_refl _) _).cell (p:=⟨b,8,none⟩) lb4).trans b8
        have m0:(w4.alloc (.cells #[.int .i64 at',.int .i64 (po + 1)] 46)).cell? ⟨w4.heap.size,0,none⟩ = some (.int .i64 at'):=(cell_of_row _ _ 0 _ _ _ RW.out).trans rfl
        have m1:(w4.alloc (.cells #[.int .i64 at',.int .i64 (po + 1)] 46)).cell? ⟨w4.heap.size,1,none⟩ = some (.int .i64 (po + 1)):=(cell_of_row _ _ 1 _ _ _ RW.out).trans rfl
        have lq:w4.heap.size < (w4.alloc (.cells #[.int .i64 at',.int .i64 (po + 1)] 46)).heap.size:=by simp
        have lbv:b < (w4.alloc (.cells #[.int .i64 at',.int .i64 (po + 1)] 46)).heap.size:=by simp;omega
        generalize hQ:w4.heap.size = Q at *
        generalize hV6:w4.alloc (.cells #[.int .i64 at',.int .i64 (po + 1)] 46) = V6 at *
        clear hV6 hQ
        go_region_held3 (fun w' => w'.cell? ⟨b,8,none⟩ = some (.slice (some ⟨g,0,none⟩) (kk + 1) cap) ∧ w'.cell? ⟨Q,0,none⟩ = some (.int .i64 at') ∧ w'.cell? ⟨Q,1,none⟩ = some (.int .i64 (po + 1))) (go_keep)
         (first
          | (go_at_call 126;refine (FO.out _ (by exact OW.out)).mono ?_;rintro e w6 ⟨rfl,hb6⟩;have n8:=(hb6.cell (p:=⟨b,8,none⟩) (by exact lbv)).trans m8;have n0:=(hb6.cell (p:=⟨Q,0,none⟩) (by exact lq)).trans m0;have n1:=(hb6.cell (p:=⟨Q,1,none⟩) (by exact lq)).trans m1;have HB6:=hid' hb6;clear hb6))
        all_goals
         go_wp2_with fail
         go_meet
         case rel => exact ⟨rfl,HA.out.drew.trans (HB6.out.mono (by exact HA.out.size))⟩
       ·have eok:okv = false:=by rw [HOKD.out];simp [ca0]
        subst eok
        go_quiet (fail)
        go_wp2_with fail
        go_meet
        case rel => exact ⟨rfl,below_drewN (B4.out.alloc B4.out.size _) _⟩
      case rest =>
       obtain ⟨rfl,bel10⟩:=hcut
       rename World => W5
       have R5:=hid' (R1.out.below bel10)
       have O5:=hid' (O1.out.then bel10)
       have q10:=cell_of_row _ _ 10 _ _ _ R5.out.row
       have f10:=frozen_of_row _ _ 10 _ _ R5.out.row
       have q3:=cell_of_row _ _ 3 _ _ _ R5.out.row
       have lb5:=lt_of_heap R5.out.row
       simp at q10 q3
       clear bel10 FO b8
       have nsb:=HCan.out.n0
       have nsb1:=HCan.out.n1
       cases okv with
       | false =>
        have VT:Hid (y.voted = { y with com:=[] }):=by show _ = _;unfold Sv.voted;rw [if_pos (.inl HOKV.out)]
        go_wp2
        go_returns
        refine ⟨rfl,?_⟩
        rw [H2.out,VT.out]
        exact rpost_C (L:=[]) R5.out O5.out F1.out (World.ownsRow_nil _ _ _ _) (fun k e => by simp [Value.ownBlock] at e)
       | true =>
        by_cases cw:at' + po ≤ y.ns
        ·have VT:Hid (y.voted = { y with com:=[] }):=by show _ = _;unfold Sv.voted;rw [if_pos (.inr (by rw [WHN.out];exact cw))]
         go_wp2
         go_returns
         refine ⟨rfl,?_⟩
         rw [H2.out,VT.out]
         exact rpost_C (L:=[]) R5.out O5.out F1.out (World.ownsRow_nil _ _ _ _) (fun k e => by simp [Value.ownBlock] at e)
        ·have VT:Hid (y.voted = ({ y with com:=[⟨at',po + 1,(y.opens (at' + po)).1,(y.opens (at' + po)).2,true⟩] }:Sv).begun):=by
          show _ = _;unfold Sv.voted;rw [if_neg (fun c => by
           rcases c with c | c
           ·rw [HOKV.out] at c;cases c
           ·rw [WHN.out] at c;exact cw c),HAT.out,HOLD.out,HS1.out,WHN.out]
         have OP:=hid' (fun (W:World) h => ref_opens b y (.slice (some ⟨g,0,none⟩) y.done.length cap) bv1 (.slice ca y.com.length ccp) hv1 (at' + po) W h HCan.out.w0 HCan.out.w1 (by omega) (by omega))
         generalize y.opens (at' + po) = op at *
         obtain ⟨os,of⟩:=op
         simp only at OP VT
         go_wp2_with fail
         refine (OP.out _ R5.out).mono ?_
         rintro e w7 ⟨rfl,hb7⟩
         have R7:=hid' (R5.out.below hb7)
         have O7:=hid' (O5.out.then hb7)
         clear hb7 OP q10 f10 q3 lb5
         have q10:=cell_of_row _ _ 10 _ _ _ R7.out.row
         have f10:=frozen_of_row _ _ 10 _ _ R7.out.row
         have lb7:=lt_of_heap R7.out.row
         have fz:∀ o p,((w7.alloc o).alloc p).frozen? ⟨b,10,none⟩ = false:=fun o p => frozen_of_row _ _ 10 _ _ (((Keep.refl _ w7).alloc o).alloc p _ _ _ R7.out.row)
         simp at q10
         have R8:=voted_row R7.out ⟨at',po + 1,os,of,true⟩ (.cells #[.int .i64 os,.int .i64 of] 35)
         have bl:=HCan.out.bl
         have dl:=HCan.out.len
         have BG:=hid' (ref_begun b _ _ _ _ _ _ R8 (by simp only [List.length_cons,List.length_nil];omega) (by simp only [List.length_cons,List.length_nil];omega))
         have O8:=hid' ((((O7.out.setCell (p:=⟨b,10,none⟩) (fun hk => (F1.out b (.inl rfl)).resolve_right (by simp only at hk;omega)) (.slice (some ⟨w7.heap.size + 1,0,none⟩) 1 1)).alloc (.cells #[.int .i64 os,.int .i64 of] 35)).alloc (.cells #[.int .i64 at',.int .i64 (po + 1),.int .i64 os,.int .i64 of,.bool true] 123)))
         clear R8
         go_wp2_with fail
         refine BG.out.mono ?_
         rintro e w9 ⟨rfl,p9⟩
         have P9:=hid' p9
         clear p9 BG
         go_wp2
         go_end0
         refine ⟨rfl,?_⟩
         rw [H2.out,VT.out]
         refine rpost_then O8.out (fun k e => ?_) P9.out
         have w7s:=O7.out.size
         rcases e with e | e | e | e | e
         ·exact F1.out k (.inl e)
         ·exact F1.out k (.inr (.inl e))
         ·exact F1.out k (.inr (.inr (.inl e)))
         ·exact .inr (by simp [Value.ownBlock] at e;omega)
         ·exact F1.out k (.inr (.inr (.inr (.inr e))))
     ·subst mb
      have HS0:=hid' hs0
      clear hs0
      have q8:=cell_of_row _ _ 8 _ _ _ R3.out.row
      simp at q8
      obtain ⟨kk,hkk⟩:∃ kk,y.done.length = kk + 1:=⟨y.done.length - 1,by have:=Tab.lastAt_bd y.done y.ns y.done.length;have:=HCan.out.hold;omega⟩
      obtain ⟨g,cap,hdv⟩:=own_some R3.out.dd (by omega)
      subst hdv
      have a1:=(R3.out.dd.cellAt (kk * 2 + 1) (by omega)).trans (flat_at1 y.done kk (by omega))
      have hold:y.old = y.done[kk].2:=by unfold Sv.old;rw [show y.done.length - 1 = kk from by omega,getD_at kk (by omega)]
      have fk:=(HCan.out.fine _ (List.getElem_mem (show kk < y.done.length by omega))).2
      have HOLD:=hid' hold
      generalize y.done[kk] = pp at *
      obtain ⟨pa,po⟩:=pp
      simp only at a1 fk HOLD
      rw [hkk] at q8
      have HKK:=hid' hkk
      have z0:(0:Int) ≤ (kk:Int):=by omega
      have z1:(kk:Int) < ((kk + 1:Nat):Int):=by omega
      have z2:((kk + 1:Nat):Int) - 1 = (kk:Int):=by omega
      have wz:IntKind.i64.wrap (((kk + 1:Nat):Int) - 1) = (kk:Int):=by
       have:=HCan.out.len
       rw [z2];exact wrap_small (by omega) (by omega)
      have wz':IntKind.i64.wrap ((kk:Int) + 1 - 1) = (kk:Int):=by
       have:=HCan.out.len
       rw [show (kk:Int) + 1 - 1 = (kk:Int) from by omega];exact wrap_small (by omega) (by omega)
      have wk:IntKind.i64.wrap (kk:Int) = (kk:Int):=by
       have:=HCan.out.len
       exact wrap_small (by omega) (by omega)
      obtain ⟨yy,mm,hin⟩:=in_cal (u:=u) (by rw [← hut];exact HCan.out.u0) (by rw [← hut];exact HCan.out.u1)
      have ub:=HCan.out.u0
      rw [hut] at ub
      have NX:=hid' (fun W => ref_next u yy mm W ub hin)
      have HAT:Hid (y.atN = nextOf yy mm):=by show _ = _;unfold Sv.atN;rw [hut];exact nextS_eq hin
      have atb:=nextOf_bd hin
      generalize nextOf yy mm = at' at *
      clear hold hkk hin
      go_upto_region 7 with fail
      go_quiet (fail)
      go_wp2_with fail
      refine (NX.out _).mono ?_
      rintro e w4 ⟨rfl,hw4⟩
      have B4:=hid' (show Below W1.heap.size W1 w4 by rw [hw4];exact below_drewN B3.out _)
      have R4:=hid' (R1.out.below B4.out)
      have lb4:=lt_of_heap R4.out.row
      have b8:=cell_of_row _ _ 8 _ _ _ R4.out.row
      simp at b8
      rw [HKK.out] at b8
      clear hw4 NX q8 a1 z0 z1 z2 wz wz' wk q7
      have hs1:y.sign = -1:=by rw [hsg];exact HS0.out
      have whn:y.whenN = at' + po + -1:=by unfold Sv.whenN;rw [hs1,HAT.out,HOLD.out];simp
      obtain ⟨okv,hokv⟩:∃ okv,y.okN = okv:=⟨_,rfl⟩
      have okd:okv = (decide (0 < at') && Tab.follows y.done at' (po + -1)):=by
       rw [← hokv];unfold Sv.okN;rw [hs1,HAT.out,HOLD.out]
       cases decide (0 < at') <;> simp
      have HOKV:=hid' hokv
      have HOKD:=hid' okd
      have WHN:=hid' whn
      have HS1:=hid' hs1
      clear hokv okd whn hs1
      have FO:=hid' (fun (W:World) (h:W.ownsRow 0 46 2 (.slice (some ⟨g,0,none⟩) y.done.length cap) y.done.length (flat y.done)) => follows_any 0 _ y.done at' (po + -1) W (wf_at (by omega) (by omega)) (wf_at (by omega) (by omega)) h (by have:=HCan.out.len;omega) (fun p hp => (HCan.out.fine p hp).2))
      rw [HKK.out] at FO
      go_upto_region 10 with fail
      go_cut [7] from 10 (fun s7 wx => s7 = .bool okv ∧ Below W1.heap.size W1 wx)
      case first =>
       by_cases ca0:0 < at'
       ·have eok:Tab.follows y.done at' (po + -1) = okv:=by rw [HOKD.out];simp [ca0]
        rw [eok] at FO
        have HA:=hid' (B4.out.alloc B4.out.size (.cells #[.int .i64 at',.int .i64 (po + -1)] 46))
        have OW:=hid' ((R4.out.dd.alloc (.cells #[.int .i64 at',.int .i64 (po + -1)] 46)).drew)
        rw [HKK.out] at OW
        clear eok
        have RW:=hid' (heap_alloc_new w4 (.cells #[.int .i64 at',.int .i64 (po + -1)] 46))
        have m8:(w4.alloc (.cells #[.int .i64 at',.int .i64 (po + -1)] 46)).cell? ⟨b,8,none⟩ = some (.slice (some ⟨g,0,none⟩) (kk + 1) cap):=(((Below.refl w4.heap.size w4).alloc (Nat.le_refl _) _).cell (p:=⟨b,8,none⟩) lb4).trans b8
        have m0:(w4.alloc (.cells #[.int .i64 at',.int .i64 (po + -1)] 46)).cell? ⟨w4.heap.size,0,none⟩ = some (.int .i64 at'):=(cell_of_row _ _ 0 _ _ _ RW.out).trans rfl
        have m1:(w4.alloc (.cells #[.int .i64 at',.int .i64 (po + -1)] 46)).cell? ⟨w4.heap.size,1,none⟩ = some (.int .i64 (po + -1)):=(cell_of_row _ _ 1 _ _ _ RW.out).trans rfl
        have lq:w4.heap.size < (w4.alloc (.cells #[.int .i64 at',.int .i64 (po + -1)] 46)).heap.size:=by simp
        have lbv:b < (w4.alloc (.cells #[.int .i64 at',.int .i64 (po + -1)] 46)).heap.size:=by simp;omega
        generalize hQ:w4.heap.size = Q at *
        generalize hV6:w4.alloc (.cells #[.int .i64 at',.int .i64 (po + -1)] 46) = V6 at *
        clear hV6 hQ
        go_region_held3 (fun w' => w'.cell? ⟨b,8,none⟩ = some (.slice (some ⟨g,0,none⟩) (kk + 1) cap) ∧ w'.cell? ⟨Q,0,none⟩ = some (.int .i64 at') ∧ w'.cell? ⟨Q,1,none⟩ = some (.int .i64 (po + -1))) (go_keep)
         (first
          | (go_at_call 126;refine (FO.out _ (by exact OW.out)).mono ?_;rintro e w6 ⟨rfl,hb6⟩;have n8:=(hb6.cell (p:=⟨b,8,none⟩) (by exact lbv)).trans m8;have n0:=(hb6.cell (p:=⟨Q,0,none⟩) (by exact lq)).trans m0;have n1:=(hb6.cell (p:=⟨Q,1,none⟩) (by exact lq)).trans m1;have HB6:=hid' hb6;clear hb6))
        all_goals
         go_wp2_with fail
         go_meet
         case rel => exact ⟨rfl,HA.out.drew.trans (HB6.out.mono (by exact HA.out.size))⟩
       ·have eok:okv = false:=by rw [HOKD.out];simp [ca0]
        subst eok
        go_quiet (fail)
        go_wp2_with fail
        go_meet
        case rel => exact ⟨rfl,below_drewN (B4.out.alloc B4.out.size _) _⟩
      case rest =>
       obtain ⟨rfl,bel10⟩:=hcut
       rename World => W5
       have R5:=hid' (R1.out.below bel10)
       have O5:=hid' (O1.out.then bel10)
       have q10:=cell_of_row _ _ 10 _ _ _ R5.out.row
       have f10:=frozen_of_row _ _ 10 _ _ R5.out.row
       have q3:=cell_of_row _ _ 3 _ _ _ R5.out.row
       have lb5:=lt_of_heap R5.out.row
       simp at q10 q3
       clear bel10 FO b8
       have nsb:=HCan.out.n0
       have nsb1:=HCan.out.n1
       cases okv with
       | false =>
        have VT:Hid (y.voted = { y with com:=[] }):=by show _ = _;unfold Sv.voted;rw [if_pos (.inl HOKV.out)]
        go_wp2
        go_returns
        refine ⟨rfl,?_⟩
        rw [H2.out,VT.out]
        exact rpost_C (L:=[]) R5.out O5.out F1.out (World.ownsRow_nil _ _ _ _) (fun k e => by simp [Value.ownBlock] at e)
       | true =>
        by_cases cw:at' + po + -1 ≤ y.ns
        ·have VT:Hid (y.voted = { y with com:=[] }):=by show _ = _;unfold Sv.voted;rw [if_pos (.inr (by rw [WHN.out];exact cw))]
         go_wp2
         go_returns
         refine ⟨rfl,?_⟩
         rw [H2.out,VT.out]
         exact rpost_C (L:=[]) R5.out O5.out F1.out (World.ownsRow_nil _ _ _ _) (fun k e => by simp [Value.ownBlock] at e)
        ·have VT:Hid (y.voted = ({ y with com:=[⟨at',po + -1,(y.opens (at' + po + -1)).1,(y.opens (at' + po + -1)).2,true⟩] }:Sv).begun):=by
          show _ = _;unfold Sv.voted;rw [if_neg (fun c => by
           rcases c with c | c
           ·rw [HOKV.out] at c;cases c
           ·rw [WHN.out] at c;exact cw c),HAT.out,HOLD.out,HS1.out,WHN.out]
         have OP:=hid' (fun (W:World) h => ref_opens b y (.slice (some ⟨g,0,none⟩) y.done.length cap) bv1 (.slice ca y.com.length ccp) hv1 (at' + po + -1) W h HCan.out.w0 HCan.out.w1 (by omega) (by omega))
         generalize y.opens (at' + po + -1) = op at *
         obtain ⟨os,of⟩:=op
         simp only at OP VT
         go_wp2_with fail
         refine (OP.out _ R5.out).mono ?_
         rintro e w7 ⟨rfl,hb7⟩
         have R7:=hid' (R5.out.below hb7)
         have O7:=hid' (O5.out.then hb7)
         clear hb7 OP q10 f10 q3 lb5
         have q10:=cell_of_row _ _ 10 _ _ _ R7.out.row
         have f10:=frozen_of_row _ _ 10 _ _ R7.out.row
         have lb7:=lt_of_heap R7.out.row
         have fz:∀ o p,((w7.alloc o).alloc p).frozen? ⟨b,10,none⟩ = false:=fun o p => frozen_of_row _ _ 10 _ _ (((Keep.refl _ w7).alloc o).alloc p _ _ _ R7.out.row)
         simp at q10
         have R8:=voted_row R7.out ⟨at',po + -1,os,of,true⟩ (.cells #[.int .i64 os,.int .i64 of] 35)
         have bl:=HCan.out.bl
         have dl:=HCan.out.len
         have BG:=hid' (ref_begun b _ _ _ _ _ _ R8 (by simp only [List.length_cons,List.length_nil];omega) (by simp only [List.length_cons,List.length_nil];omega))
         have O8:=hid' ((((O7.out.setCell (p:=⟨b,10,none⟩) (fun hk => (F1.out b (.inl rfl)).resolve_right (by simp only at hk;omega)) (.slice (some ⟨w7.heap.size + 1,0,none⟩) 1 1)).alloc (.cells #[.int .i64 os,.int .i64 of] 35)).alloc (.cells #[.int .i64 at',.int .i64 (po + -1),.int .i64 os,.int .i64 of,.bool true] 123)))
         clear R8
         go_wp2_with fail
         refine BG.out.mono ?_
         rintro e w9 ⟨rfl,p9⟩
         have P9:=hid' p9
         clear p9 BG
         go_wp2
         go_end0
         refine ⟨rfl,?_⟩
         rw [H2.out,VT.out]
         refine rpost_then O8.out (fun k e => ?_) P9.out
         have w7s:=O7.out.size
         rcases e with e | e | e | e | e
         ·exact F1.out k (.inl e)
         ·exact F1.out k (.inr (.inl e))
         ·exact F1.out k (.inr (.inr (.inl e)))
         ·exact .inr (by simp [Value.ownBlock] at e;omega)
         ·exact F1.out k (.inr (.inr (.inr (.inr e))))
     ·subst mb
      have HS0:=hid' hs0
      clear hs0
      have q8:=cell_of_row _ _ 8 _ _ _ R3.out.row
      simp at q8
      obtain ⟨kk,hkk⟩:∃ kk,y.done.length = kk + 1:=⟨y.done.length - 1,by have:=Tab.lastAt_bd y.done y.ns y.done.length;have:=HCan.out.hold;omega⟩
      obtain ⟨g,cap,hdv⟩:=own_some R3.out.dd (by omega)
      subst hdv
      have a1:=(R3.out.dd.cellAt (kk * 2 + 1) (by omega)).trans (flat_at1 y.done kk (by omega))
      have hold:y.old = y.done[kk].2:=by unfold Sv.old;rw [show y.done.length - 1 = kk from by omega,getD_at kk (by omega)]
      have fk:=(HCan.out.fine _ (List.getElem_mem (show kk < y.done.length by omega))).2
      have HOLD:=hid' hold
      generalize y.done[kk] = pp at *
      obtain ⟨pa,po⟩:=pp
      simp only at a1 fk HOLD
      rw [hkk] at q8
      have HKK:=hid' hkk
      have z0:(0:Int) ≤ (kk:Int):=by omega
      have z1:(kk:Int) < ((kk + 1:Nat):Int):=by omega
      have z2:((kk + 1:Nat):Int) - 1 = (kk:Int):=by omega
      have wz:IntKind.i64.wrap (((kk + 1:Nat):Int) - 1) = (kk:Int):=by
       have:=HCan.out.len
       rw [z2];exact wrap_small (by omega) (by omega)
      have wz':IntKind.i64.wrap ((kk:Int) + 1 - 1) = (kk:Int):=by
       have:=HCan.out.len
       rw [show (kk:Int) + 1 - 1 = (kk:Int) from by omega];exact wrap_small (by omega) (by omega)
      have wk:IntKind.i64.wrap (kk:Int) = (kk:Int):=by
       have:=HCan.out.len
       exact wrap_small (by omega) (by omega)
      obtain ⟨yy,mm,hin⟩:=in_cal (u:=u) (by rw [← hut];exact HCan.out.u0) (by rw [← hut];exact HCan.out.u1)
      have ub:=HCan.out.u0
      rw [hut] at ub
      have NX:=hid' (fun W => ref_next u yy mm W ub hin)
      have HAT:Hid (y.atN = nextOf yy mm):=by show _ = _;unfold Sv.atN;rw [hut];exact nextS_eq hin
      have atb:=nextOf_bd hin
      generalize nextOf yy mm = at' at *
      clear hold hkk hin
      go_upto_region 7 with fail
      go_quiet (fail)
      go_wp2_with fail
      refine (NX.out _).mono ?_
      rintro e w4 ⟨rfl,hw4⟩
      have B4:=hid' (show Below W1.heap.size W1 w4 by rw [hw4];exact below_drewN B3.out _)
      have R4:=hid' (R1.out.below B4.out)
      have lb4:=lt_of_heap R4.out.row
      have b8:=cell_of_row _ _ 8 _ _ _ R4.out.row
      simp at b8
      rw [HKK.out] at b8
      clear hw4 NX q8 a1 z0 z1 z2 wz wz' wk q7
      have okf:y.okN = false:=by unfold Sv.okN;rw [hsg,HS0.out];simp
      have VT:Hid (y.voted = { y with com:=[] }):=by show _ = _;unfold Sv.voted;rw [if_pos (.inl okf)]
      clear okf
      go_upto_region 10 with fail
      go_cut [7] from 10 (fun s7 wx => s7 = .bool false ∧ Below W1.heap.size W1 wx)
      case first =>
       by_cases ca0:0 < at'
       ·go_quiet (fail)
        go_wp2_with fail
        go_meet
        case rel => exact ⟨rfl,below_drewN (B4.out.alloc B4.out.size _) _⟩
       ·go_quiet (fail)
        go_wp2_with fail
        go_meet
        case rel => exact ⟨rfl,below_drewN (B4.out.alloc B4.out.size _) _⟩
      case rest =>
       obtain ⟨rfl,bel10⟩:=hcut
       rename World => W5
       have R5:=hid' (R1.out.below bel10)
       have O5:=hid' (O1.out.then bel10)
       have q10:=cell_of_row _ _ 10 _ _ _ R5.out.row
       have f10:=frozen_of_row _ _ 10 _ _ R5.out.row
       have q3:=cell_of_row _ _ 3 _ _ _ R5.out.row
       simp at q10 q3
       clear bel10
       go_wp2
       go_returns
       refine ⟨rfl,?_⟩
       rw [H2.out,VT.out]
       exact rpost_C (L:=[]) R5.out O5.out F1.out (World.ownsRow_nil _ _ _ _) (fun k e => by simp [Value.ownBlock] at e)
end Go.Proofs.YtmmkhodaljpjgaaGreatDoor
