import Derived.Test.YtmmkhodaljpjgaaGreatDoorV24
namespace Go.Proofs.YtmmkhodaljpjgaaGreatDoor
open Go.RowKit
attribute [local go_sem ↓] Go.wp_at_zero Go.wp_at_succ
def TimeAt (W:World) (s f:Int) (v:Value) (wx:World):Prop:=∃ q,v = .pointer (some ⟨q,0,none⟩) ∧ Below W.heap.size W wx ∧ wx.heap[q]? = some (.cells #[.int .i64 s,.int .i64 f] 35 (0,0))
end Go.Proofs.YtmmkhodaljpjgaaGreatDoor
namespace Go.Proofs.YtmmkhodaljpjgaaGreatDoor
open Go.RowKit
set_option maxRecDepth 100000 in
theorem ref_next (sec y m:Int) (w:World) (h0:0 ≤ sec) (hi:Cal.In y m (sec / 86400)) :
  Calls Tryz.prog 151 #[.int .i64 sec] w fun e w' => e = .returned (.int .i64 (nextOf y m)) ∧ w' = w:=by
 have hyr:=hi.year
 have hym:=Cal.yb_mono (y + 1) 3000 (by have:=hi.y2;omega)
 have h3:Cal.yb 3000 = 401767:=by decide
 have HCI:=hid' (fun W => ref_civil_yes (sec / 86400) W (by omega) (by omega))
 have hs1:sec < 34712668800:=by omega
 have HIN:=hid' hi
 clear hi hyr hym h3
 go_enter Tryz.func151,Tryz.ntmps151
 go_wp2_with fail
 refine (HCI.out _).mono ?_
 rintro e w1 ⟨⟨y',m',rfl,hin⟩,rfl⟩
 obtain ⟨rfl,rfl⟩:y' = y ∧ m' = m:=Cal.In.only hin HIN.out
 have i1:=hin.y1
 have i2:=hin.y2
 have i3:=hin.m1
 have i4:=hin.m2
 generalize sec / 86400 - Cal.yb y' - Cal.cum y' m' + 1 = dd at *
 clear hin HIN HCI
 by_cases c:m' = 12
 ·by_cases cy:y' = 2999
  ·have H:Hid (nextOf y' m' = -1):=by show _ = _;unfold nextOf;rw [if_pos c,if_pos cy]
   have DN:=hid' (fun W => ref_day_no (y' + 1) 1 1 W (by unfold NoDate;omega))
   have e12:(m' == 12) = true:=by rw [c];rfl
   clear c cy
   go_wp2_with fail
   refine (DN.out _).mono ?_
   rintro e w2 ⟨rfl,rfl⟩
   go_wp2
   go_ret
   exact ⟨ret_int H.out.symm,rfl⟩
  ·have H:Hid (nextOf y' m' = (Cal.yb (y' + 1) + Cal.cum (y' + 1) 1) * 86400):=by show _ = _;unfold nextOf;rw [if_pos c,if_neg cy]
   have db:=Cal.dim_bd (y' + 1) 1
   have DY:=hid' (fun W => ref_day_yes (y' + 1) 1 1 W (by omega) (by omega) (by omega) (by omega) (by omega) (by omega))
   have bb:=Cal.yb_bd (y' + 1) (by omega) (by omega)
   have cb:=Cal.cum_bd (y' + 1) 1 (by omega) (by omega)
   have e12:(m' == 12) = true:=by rw [c];rfl
   generalize Cal.yb (y' + 1) = Y at *
   generalize Cal.cum (y' + 1) 1 = C at *
   have HV:Hid ((Y + C) * 86400 = (Y + C + 1 - 1) * 86400):=by show _ = _;omega
   clear c cy
   go_wp2_with fail
   refine (DY.out _).mono ?_
   rintro e w2 ⟨rfl,rfl⟩
   generalize hn:Y + C + 1 - 1 = nn at *
   have nb:0 ≤ nn ∧ nn ≤ 1000000:=by omega
   clear hn DY
   go_wp2
   go_ret
   exact ⟨ret_int (by rw [H.out,HV.out]),rfl⟩
 ·have H:Hid (nextOf y' m' = (Cal.yb y' + Cal.cum y' (m' + 1)) * 86400):=by show _ = _;unfold nextOf;rw [if_neg c]
  have db:=Cal.dim_bd y' (m' + 1)
  have DY:=hid' (fun W => ref_day_yes y' (m' + 1) 1 W (by omega) (by omega) (by omega) (by omega) (by omega) (by omega))
  have bb:=Cal.yb_bd y' (by omega) (by omega)
  have cb:=Cal.cum_bd y' (m' + 1) (by omega) (by omega)
  have e12:(m' == 12) = false:=by rw [beq_eq_false_iff_ne];exact c
  generalize Cal.yb y' = Y at *
  generalize Cal.cum y' (m' + 1) = C at *
  have HV:Hid ((Y + C) * 86400 = (Y + C + 1 - 1) * 86400):=by show _ = _;omega
  clear c
  go_wp2_with fail
  refine (DY.out _).mono ?_
  rintro e w2 ⟨rfl,rfl⟩
  generalize hn:Y + C + 1 - 1 = nn at *
  have nb:0 ≤ nn ∧ nn ≤ 1000000:=by omega
  clear hn DY
  go_wp2
  go_ret
  exact ⟨ret_int (by rw [H.out,HV.out]),rfl⟩
end Go.Proofs.YtmmkhodaljpjgaaGreatDoor
namespace Go.Proofs.YtmmkhodaljpjgaaGreatDoor
open Go.RowKit
attribute [local go_sem ↓] Go.wp_at_zero Go.wp_at_succ
set_option maxRecDepth 100000 in
set_option maxHeartbeats 6400000 in
theorem ref_most (b:Nat) (x:Sv) (dv bv cv hv:Value) (w:World) (hr:RSrv b x dv bv cv hv w) (hl:x.said.length ≤ 100) (hok:∀ h ∈ x.said,h.Ok) (f0:0 ≤ x.fresh) (f1:x.fresh ≤ 1000000) :
  Calls Tryz.prog 150 #[.pointer (some ⟨b,0,none⟩)] w fun e w' => e = .returned (.int .i64 x.most) ∧ Below w.heap.size w w':=by
 have HT:=hid' x.tally_bd
 have HTS:Hid (∀ k,x.tally (k + 1) = if x.counts (x.said.getD k noHd) = true then ((x.tally k).1 + 1,(if (x.said.getD k noHd).leap = 1 then (x.tally k).2.1 + 1 else (x.tally k).2.1),(if (x.said.getD k noHd).leap = 2 then (x.tally k).2.2 + 1 else (x.tally k).2.2)) else x.tally k):=fun k => rfl
 have HM:Hid (x.most = if 2 * (x.tally x.said.length).2.1 > (x.tally x.said.length).1 then 1 else if 2 * (x.tally x.said.length).2.2 > (x.tally x.said.length).1 then -1 else 0):=rfl
 have HR:=hid' hr
 have HOK:=hid' hok
 have HC:Hid (∀ h:Hd,x.counts h = (h.said && !tLater x.ns x.nf (tSum h.ws h.wf x.fresh 0).1 (tSum h.ws h.wf x.fresh 0).2 && h.leap != 3)):=fun h => rfl
 have HZ:Hid (x.tally 0 = (0,0,0)):=rfl
 generalize x.most = res at *
 generalize htl:x.tally = tally at *
 generalize hct:x.counts = counts at *
 clear htl hct hok
 obtain ⟨mode,win,fresh,ns,nf,ld,up,ex,done,began,com,ref,said⟩:=x
 simp only at hl f0 f1 HTS HM HC HOK
 obtain ⟨sa,scp,hsv⟩:=own_slice hr.ss
 subst hsv
 clear hr
 go_enter Tryz.func150,Tryz.ntmps150
 go_wp2_with fail
 go_loopw [3,4,5,6,7,8,9] (fun a p m i _ _ _ wr => ∃ k:Nat,k ≤ said.length ∧ i = .int .i64 k ∧ a = .int .i64 (tally k).1 ∧ p = .int .i64 (tally k).2.1 ∧ m = .int .i64 (tally k).2.2 ∧ Below w.heap.size w wr) (fun _ _ _ i _ _ _ _ => said.length - (intOf i).toNat)
 case atStart => exact ⟨0,by omega,rfl,by rw [HZ.out],by rw [HZ.out],by rw [HZ.out],Below.refl _ _⟩
 case round =>
  obtain ⟨k,hk,rfl,rfl,rfl,rfl,hb⟩:=hrel
  have rr:=HR.out.below hb
  have q12:=cell_of_row _ _ 12 _ _ _ rr.row
  have q2:=cell_of_row _ _ 2 _ _ _ rr.row
  have q3:=cell_of_row _ _ 3 _ _ _ rr.row
  have q4:=cell_of_row _ _ 4 _ _ _ rr.row
  have lb:=lt_of_heap rr.row
  simp at q12 q2 q3 q4
  have HB:=hid' hb
  have bd:=HT.out k
  by_cases hlt:k < said.length
  ·obtain ⟨g,cap',hg⟩:=own_some rr.ss (show 0 < said.length by omega)
   obtain ⟨rfl,_,rfl⟩:=Value.slice.inj hg
   have a0:=(rr.ss.cellAt (k * 4 + 0) (by omega)).trans (flatH_at said k hlt 0 (by omega))
   have a1:=(rr.ss.cellAt (k * 4 + 1) (by omega)).trans (flatH_at said k hlt 1 (by omega))
   have a2:=(rr.ss.cellAt (k * 4 + 2) (by omega)).trans (flatH_at said k hlt 2 (by omega))
   have a3:=(rr.ss.cellAt (k * 4 + 3) (by omega)).trans (flatH_at said k hlt 3 (by omega))
   have lg:=(rr.ss.lt _ rfl).2
   have hO:=HOK.out _ (List.getElem_mem hlt)
   have eg:said.getD k noHd = said[k]:=by rw [List.getD_eq_getElem?_getD,List.getElem?_eq_getElem hlt];rfl
   have TS:=HTS.out k
   have CT:=HC.out said[k]
   rw [eg] at TS
   generalize said[k] = h at *
   obtain ⟨hsd,hlp,hws,hwf⟩:=h
   obtain ⟨o1,o2,o3,o4⟩:=hO
   simp only at TS CT o1 o2 o3 o4
   simp at a0 a1 a2 a3
   generalize hcb:counts ⟨hsd,hlp,hws,hwf⟩ = cb at *
   have HTK:=hid' TS
   have HCT:=hid' CT
   have SU:=hid' (fun W => ref_sum hws hwf fresh 0 W (by omega) (by omega) (by omega) (by omega) o3 (by omega) (by omega) (by omega))
   have LA:=hid' (fun W => ref_later ns nf (tSum hws hwf fresh 0).1 (tSum hws hwf fresh 0).2 W)
   generalize tSum hws hwf fresh 0 = tm at *
   obtain ⟨ts,tf⟩:=tm
   simp only at SU LA HCT
   generalize tLater ns nf ts tf = old at *
   have z0:(0:Int) ≤ (k:Int):=by omega
   have z1:(k:Int) < (said.length:Int):=by omega
   clear TS CT hcb hg rr
   have BA:=hid' ((Below.refl wr.heap.size wr).alloc (Nat.le_refl _) (.cells #[.bool hsd,.int .i64 hlp,.int .i64 hws,.int .i64 hwf] 160))
   have RA:=hid' (heap_alloc_new wr (.cells #[.bool hsd,.int .i64 hlp,.int .i64 hws,.int .i64 hwf] 160))
   go_upto_region 8 with fail
   go_cut [7,8] from 10 to 62 (fun s7 s8 wx => s7 = .pointer (some ⟨wr.heap.size,0,none⟩) ∧ TimeAt (wr.alloc (.cells #[.bool hsd,.int .i64 hlp,.int .i64 hws,.int .i64 hwf] 160)) ts tf s8 wx)
   case first =>
    go_region_with (go_at_call 101;refine (SU.out _).mono ?_;rintro e w1 ⟨rfl,hb1⟩;have HB1:=hid' hb1;(try (have zr:=(hb1.block (wr.heap.size + 1) (by simp <;> omega)).trans (heap_alloc2_new wr _ _);have HZR:=hid' zr;have y0:=cell_of_row _ _ 0 _ _ _ zr;have y1:=cell_of_row _ _ 1 _ _ _ zr;have g0:=frozen_of_row _ _ 0 _ _ zr;have g1:=frozen_of_row _ _ 1 _ _ zr;(simp at y0 y1);clear zr));clear hb1)
    all_goals
     go_wp2_with fail
     go_meet
     case rel =>
      refine ⟨rfl,_,rfl,?_,?_⟩
      ·first
        | exact ((Below.refl _ _).drew.trans HB1.out).alloc (by exact HB1.out.size) _
        | exact ((((Below.refl _ _).alloc (Nat.le_refl _) _).drew.trans (HB1.out.mono (by simp))).setCell (p:=⟨wr.heap.size + 1,0,none⟩) (by simp) _).setCell (p:=⟨wr.heap.size + 1,1,none⟩) (by simp) _
      ·first
        | exact heap_alloc_new _ _
        | exact two_row HZR.out
   case rest =>
    obtain ⟨rfl,tq,rfl,bel8,row8⟩:=hcut
    rename World => W1
    have B8:=hid' bel8
    have RW8:=hid' row8
    have HR8:=hid' ((bel8.block _ (by simp)).trans RA.out)
    have RS8:=hid' (HR.out.below (HB.out.trans ((BA.out.trans (bel8.mono BA.out.size)).mono HB.out.size)))
    clear q12 q2 q3 q4 lb a0 a1 a2 a3 lg bel8 row8
    have q3:=cell_of_row _ _ 3 _ _ _ RS8.out.row
    have q4:=cell_of_row _ _ 4 _ _ _ RS8.out.row
    have t0:=cell_of_row _ _ 0 _ _ _ RW8.out
    have t1:=cell_of_row _ _ 1 _ _ _ RW8.out
    simp at q3 q4 t0 t1
    go_upto_region 9 with fail
    go_cut [7,9] from 10 to 62 (fun s7 s9 wx => s7 = .pointer (some ⟨wr.heap.size,0,none⟩) ∧ s9 = .bool old ∧ Below W1.heap.size W1 wx)
    case first =>
     go_region_with (go_at_call 140;refine (LA.out _).mono ?_;rintro e w1 ⟨rfl,hb1⟩;have HB1:=hid' hb1;clear hb1)
     all_goals
      go_wp2_with fail
      go_meet
      case rel => exact ⟨rfl,rfl,(Below.refl _ _).drew.trans HB1.out⟩
    case rest =>
     obtain ⟨rfl,rfl,bel9⟩:=hcut
     rename World => W2
     have hrow:=(bel9.block _ (lt_of_heap HR8.out)).trans HR8.out
     have BN:=hid' (HB.out.trans (((BA.out.trans (B8.out.mono BA.out.size)).trans (bel9.mono (Nat.le_trans BA.out.size B8.out.size))).mono HB.out.size))
     have e0:=cell_of_row _ _ 0 _ _ _ hrow
     have e1:=cell_of_row _ _ 1 _ _ _ hrow
     simp at e0 e1
     clear q3 q4 t0 t1 bel9 hrow SU LA
     generalize tally k = T at *
     obtain ⟨ta,tp,tn⟩:=T
     simp only at bd HTK
     have b1:=bd.1
     have b2:=bd.2.1
     have b3:=bd.2.2
     clear bd
     by_cases hcb:(hsd = true ∧ old = false) ∧ hlp ≠ 3
     ·obtain ⟨⟨rfl,rfl⟩,h3⟩:=hcb
      have n3:(hlp != 3) = true:=bne_iff_ne.2 h3
      have cbt:cb = true:=by rw [HCT.out,n3];rfl
      by_cases c1:hlp = 1
      ·have E:Hid (tally (k + 1) = (ta + 1,tp + 1,tn)):=by show _ = _;rw [HTK.out,cbt];simp [c1]
       have m1:(hlp == 1) = true:=by rw [c1];rfl
       have m2:(hlp == 2) = false:=by rw [c1];rfl
       clear h3 cbt c1
       go_wp2
       go_roundw
       case rel => exact ⟨k + 1,by omega,by go_num,by rw [E.out],by rw [E.out],by rw [E.out],BN.out⟩
       case measure => simp [intOf];omega
      ·by_cases c2:hlp = 2
       ·subst c2
        have E:Hid (tally (k + 1) = (ta + 1,tp,tn + 1)):=by show _ = _;rw [HTK.out,cbt];simp
        clear h3 cbt c1
        go_wp2
        go_roundw
        case rel => exact ⟨k + 1,by omega,by go_num,by rw [E.out],by rw [E.out],by rw [E.out],BN.out⟩
        case measure => simp [intOf];omega
       ·have E:Hid (tally (k + 1) = (ta + 1,tp,tn)):=by show _ = _;rw [HTK.out,cbt];simp [c1,c2]
        have m1:(hlp == 1) = false:=by rw [beq_eq_false_iff_ne];exact c1
        have m2:(hlp == 2) = false:=by rw [beq_eq_false_iff_ne];exact c2
        clear h3 cbt c1 c2
        go_wp2
        go_roundw
        case rel => exact ⟨k + 1,by omega,by go_num,by rw [E.out],by rw [E.out],by rw [E.out],BN.out⟩
        case measure => simp [intOf];omega
     ·have cbf:cb = false:=by
       rw [HCT.out]
       cases hsd with
       | false => rfl
       | true =>
        cases old with
        | true => rfl
        | false =>
         have:hlp = 3:=by
          by_cases c:hlp = 3
          ·exact c
          ·exact absurd ⟨⟨rfl,rfl⟩,c⟩ hcb
         rw [this];rfl
      have E:Hid (tally (k + 1) = (ta,tp,tn)):=by show _ = _;rw [HTK.out,cbf];simp
      cases hsd with
      | false =>
       clear hcb cbf
       go_wp2
       go_roundw
       case rel => exact ⟨k + 1,by omega,by go_num,by rw [E.out],by rw [E.out],by rw [E.out],BN.out⟩
       case measure => simp [intOf];omega
      | true =>
       cases old with
       | true =>
        clear hcb cbf
        go_wp2
        go_roundw
        case rel => exact ⟨k + 1,by omega,by go_num,by rw [E.out],by rw [E.out],by rw [E.out],BN.out⟩
        case measure => simp [intOf];omega
       | false =>
        obtain rfl:hlp = 3:=by
         by_cases c:hlp = 3
         ·exact c
         ·exact absurd ⟨⟨rfl,rfl⟩,c⟩ hcb
        clear hcb cbf
        go_wp2
        go_roundw
        case rel => exact ⟨k + 1,by omega,by go_num,by rw [E.out],by rw [E.out],by rw [E.out],BN.out⟩
        case measure => simp [intOf];omega
  ·have ek:k = said.length:=by omega
   subst ek
   clear rr
   generalize tally said.length = T at *
   obtain ⟨ta,tp,tn⟩:=T
   simp only at bd HM
   have b1:=bd.1
   have b2:=bd.2.1
   have b3:=bd.2.2
   clear bd
   by_cases c1:ta < 2 * tp
   ·have H:Hid (res = 1):=by show _ = _;rw [HM.out,if_pos c1]
    go_wp2
    go_ret
    exact ⟨ret_int H.out.symm,HB.out⟩
   ·by_cases c2:ta < 2 * tn
    ·have H:Hid (res = -1):=by show _ = _;rw [HM.out,if_neg c1,if_pos c2]
     go_wp2
     go_ret
     exact ⟨ret_int H.out.symm,HB.out⟩
    ·have H:Hid (res = 0):=by show _ = _;rw [HM.out,if_neg c1,if_neg c2]
     go_wp2
     go_ret
     exact ⟨ret_int H.out.symm,HB.out⟩
end Go.Proofs.YtmmkhodaljpjgaaGreatDoor
