import Derived.Test.YtmmkhodaljpjgaaGreatDoorV36
set_option maxRecDepth 100000
set_option maxHeartbeats 6400000
namespace Go.Proofs.YtmmkhodaljpjgaaGreatDoor
open Go.RowKit
attribute [local go_sem ↓] Go.wp_at_zero Go.wp_at_succ
def KnownAt (W:World) (L:List (Int × Int)) (v:Value) (wx:World):Prop:=wx.ownsRow W.heap.size 46 2 v L.length (flat L) ∧ Below W.heap.size W wx
theorem ref_indicator (b:Nat) (x:Sv) (dv bv cv hv:Value) (d:Int) (w:World) (hr:RSrv b x dv bv cv hv w) (hp:0 < x.done.length) (hl:x.done.length ≤ 900) (hG:Tab.Good x.known) (hD:Tab.Day x.known x.ns d) (n1:x.ns ≤ 34000000000) :
  Calls Tryz.prog 93 #[.pointer (some ⟨b,0,none⟩)] w fun e w' => e = .returned (.int .i64 (x.ind d)) ∧ Below w.heap.size w w':=by
 have HR:=hid' hr
 have q8:=cell_of_row _ _ 8 _ _ _ hr.row
 obtain ⟨g,cap,hdv⟩:=own_some hr.dd hp
 subst hdv
 simp at q8
 obtain ⟨i0,hi0,hz0,hz1,hz2⟩:=info_parts infoLeap
 have HI:Hid (x.ind d = if 86400 < Tab.length x.known d then 1 else if Tab.length x.known d < 86400 then 2 else 0):=rfl
 have dlo:=hD.lo
 have dfr:=hD.from'
 have bg:=hG.begins_ge d dfr
 have f0:=(hG.fine _ (List.getElem_mem hG.pos)).1
 rw [← getD_at 0 hG.pos] at f0
 have db:0 ≤ d ∧ d ≤ 400000:=by omega
 have TD:=hid' (fun (W:World) (g' cap':Nat) (h:Lies W g' x.known) => ref_today g' cap' x.known.length x.known x.ns d W rfl h hG hD n1)
 have LN:=hid' (fun (W:World) (g' cap':Nat) (h:Lies W g' x.known) => ref_length g' cap' x.known.length x.known d W rfl hG.pos h hG.fine (by have:=hG.len;omega) (by omega) (by omega))
 have HKP:=hid' hG.pos
 have HKN:Hid (x.known = x.done ++ (match x.com with | [] => [] | c :: _ => [(c.a,c.o)])):=rfl
 generalize x.ind d = res at *
 generalize x.known = K at *
 generalize Tab.length K d = tl at *
 have OD:=hid' (own_cells hr.dd)
 clear hr hG hD dlo dfr bg f0
 go_enter Tryz.func93,Tryz.ntmps93
 go_upto_region 2 with fail
 go_cut [3] from 6 (fun s3 wx => KnownAt w x.done s3 wx)
 case first =>
  go_wp2_with (at_builtin;refine wpList_append_own _ (by rfl) (.tmp 6) (.tmp 10) 31 (by rfl) w.heap.size 46 i0 (.agg #[.int .i64 0,.int .i64 0]) 2 16 Tryz.underlying31 hi0 hz0 hz1 hz2 rfl (by decide) (.slice none 0 0) 0 [] (by rfl) (World.ownsRow_nil _ _ _ _) ⟨g,0,none⟩ x.done.length cap (flat x.done) (by rfl) (flat_length x.done) OD.out (flat_one x.done) (by unfold maxLen;omega) (by omega) (Nat.le_refl _) ?_;intro v1 w1 own1 hg1 hn1;have OWN1:=hid' own1;have HG1:=hid' hg1;clear own1 hg1 hn1)
  go_meet
  case rel =>
   have o1:=OWN1.out
   simp only [Nat.zero_add,List.nil_append] at o1
   exact ⟨o1,(Below.refl _ _).grown HG1.out (Nat.le_refl _) (fun k e => by simp [Value.ownBlock] at e)⟩
 case rest =>
  obtain ⟨own1,bel1⟩:=hcut
  rename World => W1
  have OWN1:=hid' own1
  have B1:=hid' bel1
  have R1:=hid' (HR.out.below bel1)
  obtain ⟨a3,p3,hs3⟩:=own_slice own1
  subst hs3
  have q10:=cell_of_row _ _ 10 _ _ _ R1.out.row
  have lb1:=lt_of_heap R1.out.row
  obtain ⟨ca,ccp,hcv⟩:=own_slice R1.out.cc
  subst hcv
  simp at q10
  clear own1 bel1 q8
  generalize hyc:x.com = com at *
  cases com with
  | nil =>
   obtain rfl:K = x.done:=by rw [HKN.out];simp
   have OK:=hid' OWN1.out
   have BK:=hid' B1.out
   obtain ⟨gk,ck,hgk⟩:=own_some OK.out HKP.out
   obtain ⟨rfl,-,rfl⟩:=Value.slice.inj hgk
   have LK:=hid' (lies_of OK.out rfl)
   have RK:=hid' (HR.out.below BK.out)
   have k3:=cell_of_row _ _ 3 _ _ _ RK.out.row
   simp at k3
   clear hgk
   go_wp2_with fail
   refine (TD.out _ _ _ LK.out).mono ?_
   rintro e w5 ⟨rfl,m5,hw5⟩
   have B5:=hid' (show Below w.heap.size w w5 by rw [hw5];exact below_drewN BK.out m5)
   have L5:Hid (Lies w5 gk x.done):=by show Lies _ _ _;rw [hw5];exact LK.out
   clear hw5 k3
   go_wp2_with fail
   refine (LN.out _ _ _ L5.out).mono ?_
   rintro e w6 ⟨rfl,m6,hw6⟩
   have B6:=hid' (show Below w.heap.size w w6 by rw [hw6];exact below_drewN B5.out m6)
   clear hw6
   by_cases c1:86400 < tl
   ·have H:Hid (res = 1):=by show _ = _;rw [HI.out,if_pos c1]
    go_wp2
    go_ret
    exact ⟨ret_int H.out.symm,B6.out⟩
   ·by_cases c2:tl < 86400
    ·have H:Hid (res = 2):=by show _ = _;rw [HI.out,if_neg c1,if_pos c2]
     go_wp2
     go_ret
     exact ⟨ret_int H.out.symm,B6.out⟩
    ·have H:Hid (res = 0):=by show _ = _;rw [HI.out,if_neg c1,if_neg c2]
     go_wp2
     go_ret
     exact ⟨ret_int H.out.symm,B6.out⟩
  | cons c r =>
   have hK:K = x.done ++ [(c.a,c.o)]:=HKN.out
   have OCC:=R1.out.cc
   rw [hyc] at OCC
   obtain ⟨gc,cc',hgc⟩:=own_some OCC (show 0 < (c :: r).length by simp)
   obtain ⟨rfl,-,rfl⟩:=Value.slice.inj hgc
   have a0:=(OCC.cellAt 0 (by simp)).trans (flatC_at (c :: r) 0 (by simp) 0 (by omega))
   have a1:=(OCC.cellAt 1 (by simp;omega)).trans (flatC_at (c :: r) 0 (by simp) 1 (by omega))
   simp [Cm.cells] at a0 a1
   generalize hL:r.length = rl at *
   have hcl:(c :: r).length = rl + 1:=by simp [hL]
   try simp only [hcl] at q10
   have z0:(0:Int) < ((rl + 1:Nat):Int):=by omega
   have z0':(0:Int) < (rl:Int) + 1:=by omega
   have z1:(0:Int) < (1:Int):=by omega
   have lgc:=(OCC.lt _ rfl).2
   obtain ⟨cA,cO,cS,cF,cV⟩:=c
   simp only at a0 a1 hK
   have R1ROW:=hid' R1.out.row
   have GCROW:Hid (∃ cs,W1.heap[gc]? = some (.cells cs 123 (0,0))):=by
    rcases OCC.2 with ⟨h,_⟩ | ⟨g',cap',cur,h,_,hh,_⟩
    ·cases h
    ·cases h;exact ⟨_,hh⟩
   obtain ⟨gcs,gch⟩:=GCROW.out
   have GCROW:=hid' gch
   clear OCC hgc gch
   go_upto_region 4 with fail
   go_cut [3] from 6 (fun s3 wx => KnownAt w K s3 wx)
   case first =>
    clear TD LN HI HKN HKP OD HR R1 db hp n1 hcl
    have NB10:Hid (some b ≠ (Value.slice a3 x.done.length p3).ownBlock):=fun e => own_ne OWN1.out R1ROW.out (by decide) e.symm
    have NG0:Hid (some gc ≠ (Value.slice a3 x.done.length p3).ownBlock):=fun e => own_ne OWN1.out GCROW.out (by decide) e.symm
    have m10:(W1.alloc (.cells #[.int .i64 cA,.int .i64 cO] 46)).cell? ⟨b,10,none⟩ = some (.slice (some ⟨gc,0,none⟩) (rl + 1) ccp):=(((Below.refl W1.heap.size W1).alloc (Nat.le_refl _) _).cell (p:=⟨b,10,none⟩) lb1).trans q10
    have m0:(W1.alloc (.cells #[.int .i64 cA,.int .i64 cO] 46)).cell? ⟨gc,0,none⟩ = some (.int .i64 cA):=(((Below.refl W1.heap.size W1).alloc (Nat.le_refl _) _).cell (p:=⟨gc,0,none⟩) lgc).trans a0
    have m1:(W1.alloc (.cells #[.int .i64 cA,.int .i64 cO] 46)).cell? ⟨gc,1,none⟩ = some (.int .i64 cO):=(((Below.refl W1.heap.size W1).alloc (Nat.le_refl _) _).cell (p:=⟨gc,1,none⟩) lgc).trans a1
    go_region_held3 (fun w' => w'.cell? ⟨b,10,none⟩ = some (.slice (some ⟨gc,0,none⟩) (rl + 1) ccp) ∧ w'.cell? ⟨gc,0,none⟩ = some (.int .i64 cA) ∧ w'.cell? ⟨gc,1,none⟩ = some (.int .i64 cO)) (go_keep)
     (first
      | (refine step_append_lies _ ?_ (.tmp 18) (.tmp 34) 31 ?_ w.heap.size 46 i0 (.agg #[.int .i64 0,.int .i64 0]) 2 16 Tryz.underlying31 hi0 hz0 hz1 hz2 rfl (by decide) (.slice a3 x.done.length p3) x.done.length (flat x.done) ?_ ?_ ⟨W1.heap.size,0,none⟩ 1 1 [.int .i64 cA,.int .i64 cO] ?_ ?_ ?_ ?_ ?_ ?_ ?_ ?_ (W1.heap.size + 1) ?_ ?_;exact rfl;exact rfl;exact rfl;exact (OWN1.out.alloc _).drew;exact rfl;exact rfl;exact (World.news_of_block (cs:=#[.int .i64 cA,.int .i64 cO]) (t:=46) (fr:=(0,0)) (heap_alloc_new W1 _));(simp [Value.oneCell']);decide;(unfold maxLen;omega);omega;(have:=B1.out.size;simp;omega);(simp);intro gg cap6 w6 own6 hg6 hat6 hlt6;have k10:=(hg6.cell (a:=⟨b,10,none⟩) (v:=.slice (some ⟨gc,0,none⟩) (rl + 1) ccp) (by exact m10) NB10.out);have k0:=(hg6.cell (a:=⟨gc,0,none⟩) (v:=.int .i64 cA) (by exact m0) NG0.out);have k1:=(hg6.cell (a:=⟨gc,1,none⟩) (v:=.int .i64 cO) (by exact m1) NG0.out);have OWN6:=hid' own6;have HG6:=hid' hg6;clear own6 hg6 hat6))
    all_goals
     go_wp2_with fail
     go_meet
     case rel =>
      refine ⟨?_,((B1.out.alloc B1.out.size _).drew).grown HG6.out (by have:=B1.out.size;simp;omega) (own_ge OWN1.out)⟩
      rw [hK,flat_append,List.length_append];exact OWN6.out
   case rest =>
    obtain ⟨ok4,bk4⟩:=hcut
    rename World => W4
    have OK:=hid' ok4
    have BK:=hid' bk4
    obtain ⟨a4,p4,hs4⟩:=own_slice ok4
    subst hs4
    clear ok4 bk4 q10 a0 a1 hK
    obtain ⟨gk,ck,hgk⟩:=own_some OK.out HKP.out
    obtain ⟨rfl,-,rfl⟩:=Value.slice.inj hgk
    have LK:=hid' (lies_of OK.out rfl)
    have RK:=hid' (HR.out.below BK.out)
    have k3:=cell_of_row _ _ 3 _ _ _ RK.out.row
    simp at k3
    clear hgk
    go_wp2_with fail
    refine (TD.out _ _ _ LK.out).mono ?_
    rintro e w5 ⟨rfl,m5,hw5⟩
    have B5:=hid' (show Below w.heap.size w w5 by rw [hw5];exact below_drewN BK.out m5)
    have L5:Hid (Lies w5 gk K):=by show Lies _ _ _;rw [hw5];exact LK.out
    clear hw5 k3
    go_wp2_with fail
    refine (LN.out _ _ _ L5.out).mono ?_
    rintro e w6 ⟨rfl,m6,hw6⟩
    have B6:=hid' (show Below w.heap.size w w6 by rw [hw6];exact below_drewN B5.out m6)
    clear hw6
    by_cases c1:86400 < tl
    ·have H:Hid (res = 1):=by show _ = _;rw [HI.out,if_pos c1]
     go_wp2
     go_ret
     exact ⟨ret_int H.out.symm,B6.out⟩
    ·by_cases c2:tl < 86400
     ·have H:Hid (res = 2):=by show _ = _;rw [HI.out,if_neg c1,if_pos c2]
      go_wp2
      go_ret
      exact ⟨ret_int H.out.symm,B6.out⟩
     ·have H:Hid (res = 0):=by show _ = _;rw [HI.out,if_neg c1,if_neg c2]
      go_wp2
      go_ret
      exact ⟨ret_int H.out.symm,B6.out⟩
end Go.Proofs.YtmmkhodaljpjgaaGreatDoor
namespace Go.Proofs.YtmmkhodaljpjgaaGreatDoor
open Go.RowKit
attribute [local go_sem ↓] Go.wp_at_zero Go.wp_at_succ
theorem RSrv.putN {b:Nat} {s:Sv} {dv bv cv hv:Value} {w:World} (h:RSrv b s dv bv cv hv w) (x y:Int):RSrv b (s.at' x y) dv bv cv hv ((w.setCell ⟨b,3,none⟩ (.int .i64 x)).setCell ⟨b,4,none⟩ (.int .i64 y)):=by
 have row:=heap_setCell_same _ _ 3 _ _ (.int .i64 x) h.row
 refine ⟨?_,own_set (p:=⟨b,4,none⟩) (own_set (p:=⟨b,3,none⟩) h.dd h.row (by decide) _) row (by decide) _,own_set (p:=⟨b,4,none⟩) (own_set (p:=⟨b,3,none⟩) h.bb h.row (by decide) _) row (by decide) _,own_set (p:=⟨b,4,none⟩) (own_set (p:=⟨b,3,none⟩) h.cc h.row (by decide) _) row (by decide) _,own_set (p:=⟨b,4,none⟩) (own_set (p:=⟨b,3,none⟩) h.ss h.row (by decide) _) row (by decide) _⟩
 rw [heap_setCell_same _ _ _ _ _ _ row];rfl
theorem ref_advance (b:Nat) (x:Sv) (dv bv cv hv:Value) (s f:Int) (w:World) (hr:RSrv b x dv bv cv hv w) (ht:isT x.ns x.nf = true) (h1:x.done.length + x.com.length ≤ 1000) (h2:x.began.length + x.com.length ≤ 1000)
  (hc:∀ a c,isT a c = true → x.ld = true → tLater x.ns x.nf a c = false → (x.at' a c).begun.Can) :
  Calls Tryz.prog 63 #[.pointer (some ⟨b,0,none⟩),.agg #[.int .i64 s,.int .i64 f]] w fun e w' => e = .returned (.int .i64 (x.adv s f).1) ∧ RPost b (rFoot b dv bv cv hv) w (x.adv s f).2 w':=by
 have HR:=hid' hr
 have B0:=hid' ((Below.refl w.heap.size w).alloc (Nat.le_refl _) (.cells #[.int .i64 s,.int .i64 f] 35))
 have IS:=hid' (fun W => ref_is s f W)
 by_cases c1:isT s f = false
 ·have H:Hid (x.adv s f = (9,x)):=by show _ = _;unfold Sv.adv;rw [if_pos c1]
  rw [c1] at IS
  clear c1 hc ht hr
  go_enter Tryz.func63,Tryz.ntmps63
  go_wp2_with fail
  refine (IS.out _).mono ?_
  rintro e w1 ⟨rfl,hb1⟩
  have B1:=hid' (B0.out.trans (hb1.mono B0.out.size))
  clear hb1
  go_wp2
  go_ret
  rw [H.out]
  exact ⟨rfl,HR.out.post.below B1.out⟩
 ·have c1':isT s f = true:=by simpa using c1
  obtain ⟨s0,s1,f0,f1⟩:=isT_bd c1'
  obtain ⟨n0,n1,m0,m1⟩:=isT_bd ht
  rw [c1'] at IS
  have HAD:Hid (x.adv s f = if isT (tSum x.ns x.nf s f).1 (tSum x.ns x.nf s f).2 = false then (9,x) else (0,(x.at' (tSum x.ns x.nf s f).1 (tSum x.ns x.nf s f).2).weigh)):=by show _ = _;unfold Sv.adv;rw [if_neg c1]
  have SU:=hid' (fun W => ref_sum x.ns x.nf s f W (by omega) (by omega) (by omega) (by omega) m0 (by omega) f0 (by omega))
  have LT:tLater x.ns x.nf (tSum x.ns x.nf s f).1 (tSum x.ns x.nf s f).2 = false:=by
   unfold tLater tSum
   refine decide_eq_false (fun h => ?_)
   simp only at h
   omega
  have q3:=cell_of_row _ _ 3 _ _ _ hr.row
  have q4:=cell_of_row _ _ 4 _ _ _ hr.row
  have lb:=lt_of_heap hr.row
  simp at q3 q4
  have IS2:=hid' (fun W => ref_is (tSum x.ns x.nf s f).1 (tSum x.ns x.nf s f).2 W)
  have HC:=hid' (fun h => hc (tSum x.ns x.nf s f).1 (tSum x.ns x.nf s f).2 h)
  have HLT:=hid' LT
  generalize x.adv s f = ad at *
  generalize tSum x.ns x.nf s f = tm at *
  obtain ⟨ts,tf⟩:=tm
  simp only at HAD SU IS2 HC HLT
  clear hc LT c1 c1' hr ht
  go_enter Tryz.func63,Tryz.ntmps63
  go_wp2_with fail
  refine (IS.out _).mono ?_
  rintro e w1 ⟨rfl,hb1⟩
  have B1:=hid' (B0.out.trans (hb1.mono B0.out.size))
  have trow:=(hb1.block _ (by simp)).trans (heap_alloc_new w (.cells #[.int .i64 s,.int .i64 f] 35))
  have t0:=cell_of_row _ _ 0 _ _ _ trow
  have t1:=cell_of_row _ _ 1 _ _ _ trow
  have p3:=(B1.out.cell (p:=⟨b,3,none⟩) lb).trans q3
  have p4:=(B1.out.cell (p:=⟨b,4,none⟩) lb).trans q4
  have lt1:=lt_of_heap trow
  have lb1:=Nat.lt_of_lt_of_le lb B1.out.size
  simp at t0 t1
  clear hb1 q3 q4 IS trow
  go_upto_region 4 with fail
  go_cut [6] from 7 (fun s6 wx => TimeAt w1 ts tf s6 wx)
  case first =>
   go_region_with (go_at_call 101;refine (SU.out _).mono ?_;rintro e w2 ⟨rfl,hb2⟩;have HB2:=hid' hb2;(try (have zr:=(hb2.block w1.heap.size (by simp <;> omega)).trans (heap_alloc_new w1 _);have HZR:=hid' zr;have y0:=cell_of_row _ _ 0 _ _ _ zr;have y1:=cell_of_row _ _ 1 _ _ _ zr;have g0:=frozen_of_row _ _ 0 _ _ zr;have g1:=frozen_of_row _ _ 1 _ _ zr;(simp at y0 y1);clear zr));clear hb2)
   all_goals
    go_wp2_with fail
    go_meet
    case rel =>
     refine ⟨_,rfl,?_,?_⟩
     ·first
       | exact ((Below.refl _ _).drew.trans HB2.out).alloc (by exact HB2.out.size) _
       | exact ((((Below.refl _ _).alloc (Nat.le_refl _) _).drew.trans (HB2.out.mono (by simp))).setCell (p:=⟨w1.heap.size,0,none⟩) (by simp) _).setCell (p:=⟨w1.heap.size,1,none⟩) (by simp) _
     ·first
       | exact heap_alloc_new _ _
       | exact two_row HZR.out
  case rest =>
   obtain ⟨tq,rfl,bel4,row4⟩:=hcut
   rename World => W2
   have B2:=hid' (B1.out.trans (bel4.mono B1.out.size))
   have RW4:=hid' row4
   have v0:=cell_of_row _ _ 0 _ _ _ row4
   have v1:=cell_of_row _ _ 1 _ _ _ row4
   simp at v0 v1
   clear bel4 row4 t0 t1 p3 p4 lt1 lb1 SU
   by_cases c2:isT ts tf = false
   ·rw [c2] at IS2
    have H:Hid (ad = (9,x)):=by show _ = _;rw [HAD.out,if_pos c2]
    clear c2
    go_wp2_with fail
    refine (IS2.out _).mono ?_
    rintro e w3 ⟨rfl,hb3⟩
    have B3:=hid' (B2.out.trans (hb3.mono B2.out.size))
    clear hb3 v0 v1
    go_wp2
    go_ret
    rw [H.out]
    exact ⟨rfl,HR.out.post.below B3.out⟩
   ·have c2':isT ts tf = true:=by simpa using c2
    have H:Hid (ad = (0,(x.at' ts tf).weigh)):=by show _ = _;rw [HAD.out,if_neg c2]
    rw [c2'] at IS2
    have HCN:=hid' (fun hl => HC.out c2' hl HLT.out)
    clear c2 c2'
    go_wp2_with fail
    refine (IS2.out _).mono ?_
    rintro e w3 ⟨rfl,hb3⟩
    have B3:=hid' (B2.out.trans (hb3.mono B2.out.size))
    have R3:=hid' (HR.out.below B3.out)
    have row3:=(hb3.block _ (lt_of_heap RW4.out)).trans RW4.out
    clear v0 v1 hb3
    have v0:=cell_of_row _ _ 0 _ _ _ row3
    have v1:=cell_of_row _ _ 1 _ _ _ row3
    have d3:=cell_of_row _ _ 3 _ _ _ R3.out.row
    have d4:=cell_of_row _ _ 4 _ _ _ R3.out.row
    have f3:=frozen_of_row _ _ 3 _ _ R3.out.row
    have f4:=frozen_of_row _ _ 4 _ _ R3.out.row
    simp at v0 v1 d3 d4
    have R4:=R3.out.putN ts tf
    have WG:=hid' (ref_weigh b (x.at' ts tf) dv bv cv hv _ R4 h1 h2 (fun hl => HCN.out hl))
    have O4:=hid' (((Off.of_below (F:=rFoot b dv bv cv hv) B3.out).setCell (p:=⟨b,3,none⟩) (fun _ => .inl rfl) (.int .i64 ts)).setCell (p:=⟨b,4,none⟩) (fun _ => .inl rfl) (.int .i64 tf))
    clear R4 row3
    go_wp2_with fail
    refine WG.out.mono ?_
    rintro e w5 ⟨rfl,p5⟩
    have P5:=hid' p5
    clear p5 WG
    go_wp2
    go_ret
    rw [H.out]
    exact ⟨rfl,rpost_then O4.out (fun _ e => .inl e) P5.out⟩
end Go.Proofs.YtmmkhodaljpjgaaGreatDoor
namespace Go.Proofs.YtmmkhodaljpjgaaGreatDoor
open Go.RowKit
attribute [local go_sem ↓] Go.wp_at_zero Go.wp_at_succ
theorem ref_agrees (b B:Nat) (x:Sv) (dv bv cv hv lv:Value) (ls:List (Int × Int)) (w:World) (hr:RSrv b x dv bv cv hv w) (ho:w.ownsRow B 46 2 lv ls.length (flat ls)) (hp:0 < ls.length) (hn:ls.length ≤ 1000) (hd:x.done.length ≤ 1000) (hf:Fine ls) :
  Calls Tryz.prog 110 #[.pointer (some ⟨b,0,none⟩),lv] w fun e w' => e = .returned (.bool (x.agrees ls)) ∧ ∃ m,w' = w.drewN m:=by
 obtain ⟨g,cap,hlv⟩:=own_some ho hp
 subst hlv
 have HL:=hid' (lies_of ho rfl)
 have q5:=cell_of_row _ _ 5 _ _ _ hr.row
 have q3:=cell_of_row _ _ 3 _ _ _ hr.row
 have q8:=cell_of_row _ _ 8 _ _ _ hr.row
 simp at q5 q3 q8
 have HR:=hid' hr
 cases hld:x.ld with
 | false =>
  have H:Hid (x.agrees ls = decide (Tab.when ls 0 ≤ x.ns)):=by show _ = _;unfold Sv.agrees;rw [if_pos hld]
  rw [hld] at q5
  have WH:Hid (∀ m:Nat,Calls Tryz.prog 111 #[.slice (some ⟨g,0,none⟩) ls.length cap,.int .i64 0] (w.drewN m) fun e w' => e = .returned (.int .i64 (Tab.when ls 0)) ∧ w' = w.drewN m):=fun m => ref_when g cap 0 ls.length ls (w.drewN m) rfl hp HL.out hf (by omega)
  generalize Tab.when ls 0 = wn at *
  clear hr hld ho hf
  by_cases c:wn ≤ x.ns
  ·have H2:Hid (x.agrees ls = true):=by show _ = _;rw [H.out];exact decide_eq_true c
   go_enter Tryz.func110,Tryz.ntmps110
   go_wp2_with fail
   go_quiet (first | (go_at_call 111;exact Calls.quiet_of_same (WH.out _)))
   go_wp2
   go_ret
   exact ⟨ret_bool H2.out.symm,_,rfl⟩
  ·go_enter Tryz.func110,Tryz.ntmps110
   go_wp2_with fail
   go_quiet (first | (go_at_call 111;exact Calls.quiet_of_same (WH.out _)))
   go_wp2
   go_ret
   exact ⟨ret_bool H.out.symm,_,rfl⟩
 | true =>
  rw [hld] at q5
  obtain ⟨da,dcp,hdv⟩:=own_slice hr.dd
  subst hdv
  have H:Hid (x.agrees ls = if ls.length < x.done.length then false else if ls.take x.done.length = x.done then decide (ls.length = x.done.length) || decide (x.ns < Tab.when ls x.done.length) else false):=by
   show _ = _;unfold Sv.agrees;rw [if_neg (by rw [hld];simp)]
  generalize x.agrees ls = res at *
  clear hld hr
  by_cases hlt:ls.length < x.done.length
  ·have H2:Hid (res = false):=by show _ = _;rw [H.out,if_pos hlt]
   have zi:(ls.length:Int) < (x.done.length:Int):=by omega
   clear hlt
   go_enter Tryz.func110,Tryz.ntmps110
   go_wp2
   go_ret
   exact ⟨ret_bool H2.out.symm,0,rfl⟩
  ·have H2:Hid (res = if ls.take x.done.length = x.done then decide (ls.length = x.done.length) || decide (x.ns < Tab.when ls x.done.length) else false):=by show _ = _;rw [H.out,if_neg hlt]
   have hle:x.done.length ≤ ls.length:=by omega
   have zi:¬ (ls.length:Int) < (x.done.length:Int):=by omega
   clear hlt H
   go_enter Tryz.func110,Tryz.ntmps110
   go_wp2_with fail
   go_loopw [5] (fun i wr => ∃ k m:Nat,k ≤ x.done.length ∧ i = .int .i64 k ∧ ls.take k = x.done.take k ∧ wr = w.drewN m) (fun i _ => x.done.length - (intOf i).toNat)
   case atStart => exact ⟨0,0,by omega,rfl,rfl,rfl⟩
   case round =>
    obtain ⟨k,m,hk,rfl,htk,hwr⟩:=hrel
    have HTK:=hid' htk
    have HWR:=hid' hwr
    have p8:wr.cell? ⟨b,8,none⟩ = some (.slice da x.done.length dcp):=by rw [hwr];exact q8
    have p3:wr.cell? ⟨b,3,none⟩ = some (.int .i64 x.ns):=by rw [hwr];exact q3
    clear htk
    by_cases hkl:k < x.done.length
    ·obtain ⟨g',cap',hg'⟩:=own_some HR.out.dd (show 0 < x.done.length by omega)
     obtain ⟨rfl,_,rfl⟩:=Value.slice.inj hg'
     have a0:wr.cell? ⟨g,k * 2,none⟩ = some (.int .i64 (ls.getD k (0,0)).1):=by rw [hwr,getD_at k (by omega)];exact (HL.out k (by omega)).1
     have a1:wr.cell? ⟨g,k * 2 + 1,none⟩ = some (.int .i64 (ls.getD k (0,0)).2):=by rw [hwr,getD_at k (by omega)];exact (HL.out k (by omega)).2
     have b0:wr.cell? ⟨g',k * 2,none⟩ = some (.int .i64 (x.done.getD k (0,0)).1):=by rw [hwr,getD_at k hkl];exact (lies_of HR.out.dd rfl k hkl).1
     have b1:wr.cell? ⟨g',k * 2 + 1,none⟩ = some (.int .i64 (x.done.getD k (0,0)).2):=by rw [hwr,getD_at k hkl];exact (lies_of HR.out.dd rfl k hkl).2
     have HS:=hid' (take_same (a:=ls) k hkl hle HTK.out)
     have HN:=hid' (take_not (a:=ls) k hkl hle)
     generalize ls.getD k (0,0) = pl at *
     generalize x.done.getD k (0,0) = pd at *
     obtain ⟨la,lo⟩:=pl
     obtain ⟨ea,eo⟩:=pd
     simp only at a0 a1 b0 b1
     have z0:(0:Int) ≤ (k:Int):=by omega
     have z1:(k:Int) < (x.done.length:Int):=by omega
     have z2:(k:Int) < (ls.length:Int):=by omega
     clear hwr hg' q3 q5 q8 p3
     by_cases e1:la = ea
     ·by_cases e2:lo = eo
      ·have HS2:=hid' (HS.out (by rw [e1,e2]))
       subst e1 e2
       have n0':(la != la) = false:=by simp
       have n1':(lo != lo) = false:=by simp
       clear HS HN
       go_wp2_with fail
       go_quiet (fail)
       go_wp2
       go_roundw
       case rel => exact ⟨k + 1,m + nq,by omega,by go_num,HS2.out,by rw [HWR.out,World.drewN_drewN]⟩
       case measure => simp [intOf];omega
      ·have H3:Hid (res = false):=by show _ = _;rw [H2.out,if_neg (HN.out (fun q => e2 (congrArg Prod.snd q)))]
       subst e1
       have n0':(la != la) = false:=by simp
       have n1':(lo != eo) = true:=bne_iff_ne.2 e2
       clear HS HN e2
       go_wp2_with fail
       go_quiet (fail)
       go_wp2
       go_ret
       exact ⟨ret_bool H3.out.symm,m + nq,by rw [HWR.out,World.drewN_drewN]⟩
     ·have H3:Hid (res = false):=by show _ = _;rw [H2.out,if_neg (HN.out (fun q => e1 (congrArg Prod.fst q)))]
      have n0':(la != ea) = true:=bne_iff_ne.2 e1
      clear HS HN e1
      go_wp2_with fail
      go_quiet (fail)
      go_wp2
      go_ret
      exact ⟨ret_bool H3.out.symm,m + nq,by rw [HWR.out,World.drewN_drewN]⟩
    ·have ek:k = x.done.length:=by omega
     have heq:ls.take x.done.length = x.done:=by
      have:=HTK.out;rw [ek,List.take_length] at this;exact this
     have H3:Hid (res = (decide (ls.length = x.done.length) || decide (x.ns < Tab.when ls x.done.length))):=by show _ = _;rw [H2.out,if_pos heq]
     have znl:¬ (k:Int) < (x.done.length:Int):=by omega
     clear hwr ek heq q3 q5 q8
     by_cases c1:ls.length = x.done.length
     ·have H4:Hid (res = true):=by show _ = _;rw [H3.out,decide_eq_true c1];rfl
      have zz:((ls.length:Int) == (x.done.length:Int)) = true:=by rw [c1];simp
      clear c1
      go_wp2_with fail
      go_quiet (fail)
      go_wp2
      go_ret
      exact ⟨ret_bool H4.out.symm,m + nq,by rw [HWR.out,World.drewN_drewN]⟩
     ·have zz:((ls.length:Int) == (x.done.length:Int)) = false:=by rw [beq_eq_false_iff_ne];omega
      have WH:=hid' (fun mm:Nat => ref_when g cap x.done.length ls.length ls (wr.drewN mm) rfl (by omega) (by rw [HWR.out];exact HL.out) hf (by omega))
      have H4:Hid (res = decide (x.ns < Tab.when ls x.done.length)):=by show _ = _;rw [H3.out,decide_eq_false c1];rfl
      generalize Tab.when ls x.done.length = wn at *
      clear c1
      by_cases c2:x.ns < wn
      ·have H5:Hid (res = true):=by show _ = _;rw [H4.out];exact decide_eq_true c2
       go_wp2_with fail
       go_quiet (first | (go_at_call 111;exact Calls.quiet_of_same (WH.out _)))
       go_wp2
       go_ret
       exact ⟨ret_bool H5.out.symm,m + nq,by rw [HWR.out,World.drewN_drewN]⟩
      ·go_wp2_with fail
       go_quiet (first | (go_at_call 111;exact Calls.quiet_of_same (WH.out _)))
       go_wp2
       go_ret
       exact ⟨ret_bool H4.out.symm,m + nq,by rw [HWR.out,World.drewN_drewN]⟩
end Go.Proofs.YtmmkhodaljpjgaaGreatDoor
