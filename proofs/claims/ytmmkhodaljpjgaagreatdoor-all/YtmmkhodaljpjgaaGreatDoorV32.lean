import Derived.Test.YtmmkhodaljpjgaaGreatDoorV31
namespace Go.Proofs.YtmmkhodaljpjgaaGreatDoor
open Go.RowKit
attribute [local go_sem ↓] Go.wp_at_zero Go.wp_at_succ
def KnownAt (W:World) (L:List (Int × Int)) (v:Value) (wx:World):Prop:=wx.ownsRow W.heap.size 46 2 v L.length (flat L) ∧ Below W.heap.size W wx
set_option maxRecDepth 100000 in
set_option maxHeartbeats 6400000 in
theorem ref_indicator (b:Nat) (x:Sv) (dv bv cv hv:Value) (d:Int) (w:World) (hr:RSrv b x dv bv cv hv w) (hp:0 < x.done.length) (hl:x.done.length ≤ 900) (hG:Tab.Good x.known) (hD:Tab.Day x.known x.ns d) (n1:x.ns ≤ 34000000000) :
  Calls Tryz.prog 93 #[.pointer (some ⟨b,0,none⟩)] w fun e w' => e = .returned (.int .i64 (x.ind d)) ∧ Below w.heap.size w w':=by
 have HR:=hid' hr
 have q8:=cell_of_row _ _ 8 _ _ _ hr.row
 obtain ⟨g,cap,hdv⟩:=own_some hr.dd hp
 subst hdv
 simp at q8
 obtain ⟨i0,hi0,hz0,hz1,hz2⟩:=info_parts infoLeap
 have HI:Hid (x.ind d = if 86400 < Tab.length x.known d then 1 else if Tab.length x.known d < 86400 then 2 else 0):=rfl
 have dlo:=hD.lo
 have dfr:=hD.from'
 have bg:=hG.begins_ge d dfr
 have f0:=(hG.fine _ (List.getElem_mem hG.pos)).1
 rw [← getD_at 0 hG.pos] at f0
 have db:0 ≤ d ∧ d ≤ 400000:=by omega
 have TD:=hid' (fun (W:World) (g' cap':Nat) (h:Lies W g' x.known) => ref_today g' cap' x.known.length x.known x.ns d W rfl h hG hD n1)
 have LN:=hid' (fun (W:World) (g' cap':Nat) (h:Lies W g' x.known) => ref_length g' cap' x.known.length x.known d W rfl hG.pos h hG.fine (by have:=hG.len;omega) (by omega) (by omega))
 have HKP:=hid' hG.pos
 have HKN:Hid (x.known = x.done ++ (match x.com with | [] => [] | c :: _ => [(c.a,c.o)])):=rfl
 generalize x.ind d = res at *
 generalize x.known = K at *
 generalize Tab.length K d = tl at *
 have OD:=hid' (own_cells hr.dd)
 clear hr hG hD dlo dfr bg f0
 go_enter Tryz.func93,Tryz.ntmps93
 go_upto_region 2 with fail
 go_cut [3] from 6 (fun s3 wx => KnownAt w x.done s3 wx)
 case first =>
  go_wp2_with (at_builtin;refine wpList_append_own _ (by rfl) (.tmp 6) (.tmp 10) 31 (by rfl) w.heap.size 46 i0 (.agg #[.int .i64 0,.int .i64 0]) 2 16 Tryz.underlying31 hi0 hz0 hz1 hz2 rfl (by decide) (.slice none 0 0) 0 [] (by rfl) (World.ownsRow_nil _ _ _ _) ⟨g,0,none⟩ x.done.length cap (flat x.done) (by rfl) (flat_length x.done) OD.out (flat_one x.done) (by unfold maxLen;omega) (by omega) (Nat.le_refl _) ?_;intro v1 w1 own1 hg1 hn1;have OWN1:=hid' own1;have HG1:=hid' hg1;clear own1 hg1 hn1)
  go_meet
  case rel =>
   have o1:=OWN1.out
   simp only [Nat.zero_add,List.nil_append] at o1
   exact ⟨o1,(Below.refl _ _).grown HG1.out (Nat.le_refl _) (fun k e => by simp [Value.ownBlock] at e)⟩
 case rest =>
  obtain ⟨own1,bel1⟩:=hcut
  rename World => W1
  have OWN1:=hid' own1
  have B1:=hid' bel1
  have R1:=hid' (HR.out.below bel1)
  obtain ⟨a3,p3,hs3⟩:=own_slice own1
  subst hs3
  have q10:=cell_of_row _ _ 10 _ _ _ R1.out.row
  have lb1:=lt_of_heap R1.out.row
  obtain ⟨ca,ccp,hcv⟩:=own_slice R1.out.cc
  subst hcv
  simp at q10
  clear own1 bel1 q8
  generalize hyc:x.com = com at *
  cases com with
  | nil =>
   obtain rfl:K = x.done:=by rw [HKN.out];simp
   have OK:=hid' OWN1.out
   have BK:=hid' B1.out
   obtain ⟨gk,ck,hgk⟩:=own_some OK.out HKP.out
   obtain ⟨rfl,-,rfl⟩:=Value.slice.inj hgk
   have LK:=hid' (lies_of OK.out rfl)
   have RK:=hid' (HR.out.below BK.out)
   have k3:=cell_of_row _ _ 3 _ _ _ RK.out.row
   simp at k3
   clear hgk
   go_wp2_with fail
   refine (TD.out _ _ _ LK.out).mono ?_
   rintro e w5 ⟨rfl,m5,hw5⟩
   have B5:=hid' (show Below w.heap.size w w5 by rw [hw5];exact below_drewN BK.out m5)
   have L5:Hid (Lies w5 gk x.done):=by show Lies _ _ _;rw [hw5];exact LK.out
   clear hw5 k3
   go_wp2_with fail
   refine (LN.out _ _ _ L5.out).mono ?_
   rintro e w6 ⟨rfl,m6,hw6⟩
   have B6:=hid' (show Below w.heap.size w w6 by rw [hw6];exact below_drewN B5.out m6)
   clear hw6
   by_cases c1:86400 < tl
   ·have H:Hid (res = 1):=by show _ = _;rw [HI.out,if_pos c1]
    go_wp2
    go_ret
    exact ⟨ret_int H.out.symm,B6.out⟩
   ·by_cases c2:tl < 86400
    ·have H:Hid (res = 2):=by show _ = _;rw [HI.out,if_neg c1,if_pos c2]
     go_wp2
     go_ret
     exact ⟨ret_int H.out.symm,B6.out⟩
    ·have H:Hid (res = 0):=by show _ = _;rw [HI.out,if_neg c1,if_neg c2]
     go_wp2
     go_ret
     exact ⟨ret_int H.out.symm,B6.out⟩
  | cons c r =>
   have hK:K = x.done ++ [(c.a,c.o)]:=HKN.out
   have OCC:=R1.out.cc
   rw [hyc] at OCC
   obtain ⟨gc,cc',hgc⟩:=own_some OCC (show 0 < (c :: r).length by simp)
   obtain ⟨rfl,-,rfl⟩:=Value.slice.inj hgc
   have a0:=(OCC.cellAt 0 (by simp)).trans (flatC_at (c :: r) 0 (by simp) 0 (by omega))
   have a1:=(OCC.cellAt 1 (by simp;omega)).trans (flatC_at (c :: r) 0 (by simp) 1 (by omega))
   simp [Cm.cells] at a0 a1
   generalize hL:r.length = rl at *
   have hcl:(c :: r).length = rl + 1:=by simp [hL]
   try simp only [hcl] at q10
   have z0:(0:Int) < ((rl + 1:Nat):Int):=by omega
   have z0':(0:Int) < (rl:Int) + 1:=by omega
   have z1:(0:Int) < (1:Int):=by omega
   have lgc:=(OCC.lt _ rfl).2
   obtain ⟨cA,cO,cS,cF,cV⟩:=c
   simp only at a0 a1 hK
   have R1ROW:=hid' R1.out.row
   have GCROW:Hid (∃ cs,W1.heap[gc]? = some (.cells cs 123 (0,0))):=by
    rcases OCC.2 with ⟨h,_⟩ | ⟨g',cap',cur,h,_,hh,_⟩
    ·cases h
    ·cases h;exact ⟨_,hh⟩
   obtain ⟨gcs,gch⟩:=GCROW.out
   have GCROW:=hid' gch
   clear OCC hgc gch
   go_upto_region 4 with fail
   go_cut [3] from 6 (fun s3 wx => KnownAt w K s3 wx)
   case first =>
    clear TD LN HI HKN HKP OD HR R1 db hp n1 hcl
    have NB10:Hid (some b ≠ (Value.slice a3 x.done.length p3).ownBlock):=fun e => own_ne OWN1.out R1ROW.out (by decide) e.symm
    have NG0:Hid (some gc ≠ (Value.slice a3 x.done.length p3).ownBlock):=fun e => own_ne OWN1.out GCROW.out (by decide) e.symm
    have m10:(W1.alloc (.cells #[.int .i64 cA,.int .i64 cO] 46)).cell? ⟨b,10,none⟩ = some (.slice (some ⟨gc,0,none⟩) (rl + 1) ccp):=(((Below.refl W1.heap.size W1).alloc (Nat.le_refl _) _).cell (p:=⟨b,10,none⟩) lb1).trans q10
    have m0:(W1.alloc (.cells #[.int .i64 cA,.int .i64 cO] 46)).cell? ⟨gc,0,none⟩ = some (.int .i64 cA):=(((Below.refl W1.heap.size W1).alloc (Nat.le_refl _) _).cell (p:=⟨gc,0,none⟩) lgc).trans a0
    have m1:(W1.alloc (.cells #[.int .i64 cA,.int .i64 cO] 46)).cell? ⟨gc,1,none⟩ = some (.int .i64 cO):=(((Below.refl W1.heap.size W1).alloc (Nat.le_refl _) _).cell (p:=⟨gc,1,none⟩) lgc).trans a1
    go_region_held3 (fun w' => w'.cell? ⟨b,10,none⟩ = some (.slice (some ⟨gc,0,none⟩) (rl + 1) ccp) ∧ w'.cell? ⟨gc,0,none⟩ = some (.int .i64 cA) ∧ w'.cell? ⟨gc,1,none⟩ = some (.int .i64 cO)) (go_keep)
     (first
      | (refine step_append_lies _ ?_ (.tmp 18) (.tmp 34) 31 ?_ w.heap.size 46 i0 (.agg #[.int .i64 0,.int .i64 0]) 2 16 Tryz.underlying31 hi0 hz0 hz1 hz2 rfl (by decide) (.slice a3 x.done.length p3) x.done.length (flat x.done) ?_ ?_ ⟨W1.heap.size,0,none⟩ 1 1 [.int .i64 cA,.int .i64 cO] ?_ ?_ ?_ ?_ ?_ ?_ ?_ ?_ (W1.heap.size + 1) ?_ ?_;exact rfl;exact rfl;exact rfl;exact (OWN1.out.alloc _).drew;exact rfl;exact rfl;exact (World.news_of_block (cs:=#[.int .i64 cA,.int .i64 cO]) (t:=46) (fr:=(0,0)) (heap_alloc_new W1 _));(simp [Value.oneCell']);decide;(unfold maxLen;omega);omega;(have:=B1.out.size;simp;omega);(simp);intro gg cap6 w6 own6 hg6 hat6 hlt6;have k10:=(hg6.cell (a:=⟨b,10,none⟩) (v:=.slice (some ⟨gc,0,none⟩) (rl + 1) ccp) (by exact m10) NB10.out);have k0:=(hg6.cell (a:=⟨gc,0,none⟩) (v:=.int .i64 cA) (by exact m0) NG0.out);have k1:=(hg6.cell (a:=⟨gc,1,none⟩) (v:=.int .i64 cO) (by exact m1) NG0.out);have OWN6:=hid' own6;have HG6:=hid' hg6;clear own6 hg6 hat6))
    all_goals
     go_wp2_with fail
     go_meet
     case rel =>
      refine ⟨?_,((B1.out.alloc B1.out.size _).drew).grown HG6.out (by have:=B1.out.size;simp;omega) (own_ge OWN1.out)⟩
      rw [hK,flat_append,List.length_append];exact OWN6.out
   case rest =>
    obtain ⟨ok4,bk4⟩:=hcut
    rename World => W4
    have OK:=hid' ok4
    have BK:=hid' bk4
    obtain ⟨a4,p4,hs4⟩:=own_slice ok4
    subst hs4
    clear ok4 bk4 q10 a0 a1 hK
    obtain ⟨gk,ck,hgk⟩:=own_some OK.out HKP.out
    obtain ⟨rfl,-,rfl⟩:=Value.slice.inj hgk
    have LK:=hid' (lies_of OK.out rfl)
    have RK:=hid' (HR.out.below BK.out)
    have k3:=cell_of_row _ _ 3 _ _ _ RK.out.row
    simp at k3
    clear hgk
    go_wp2_with fail
    refine (TD.out _ _ _ LK.out).mono ?_
    rintro e w5 ⟨rfl,m5,hw5⟩
    have B5:=hid' (show Below w.heap.size w w5 by rw [hw5];exact below_drewN BK.out m5)
    have L5:Hid (Lies w5 gk K):=by show Lies _ _ _;rw [hw5];exact LK.out
    clear hw5 k3
    go_wp2_with fail
    refine (LN.out _ _ _ L5.out).mono ?_
    rintro e w6 ⟨rfl,m6,hw6⟩
    have B6:=hid' (show Below w.heap.size w w6 by rw [hw6];exact below_drewN B5.out m6)
    clear hw6
    by_cases c1:86400 < tl
    ·have H:Hid (res = 1):=by show _ = _;rw [HI.out,if_pos c1]
     go_wp2
     go_ret
     exact ⟨ret_int H.out.symm,B6.out⟩
    ·by_cases c2:tl < 86400
     ·have H:Hid (res = 2):=by show _ = _;rw [HI.out,if_neg c1,if_pos c2]
      go_wp2
      go_ret
      exact ⟨ret_int H.out.symm,B6.out⟩
     ·have H:Hid (res = 0):=by show _ = _;rw [HI.out,if_neg c1,if_neg c2]
      go_wp2
      go_ret
      exact ⟨ret_int H.out.symm,B6.out⟩
end Go.Proofs.YtmmkhodaljpjgaaGreatDoor
namespace Go.Proofs.YtmmkhodaljpjgaaGreatDoor
open Go.RowKit
attribute [local go_sem ↓] Go.wp_at_zero Go.wp_at_succ
set_option maxRecDepth 100000 in
set_option maxHeartbeats 6400000 in
theorem ref_window (b:Nat) (x:Sv) (dv bv cv hv:Value) (i:Int) (w:World) (hr:RSrv b x dv bv cv hv w) (hl:x.done.length ≤ 1000) (hb:x.BegOk) (hw:x.WinAt i) :
  Calls Tryz.prog 94 #[.pointer (some ⟨b,0,none⟩)] w fun e w' => e = .returned (.int .i64 i) ∧ Below w.heap.size w w':=by
 have HR:=hid' hr
 have HOK:=hid' hb.ok
 have hbl:=hb.len
 have w0:=hb.w0
 have w1:=hb.w1
 have HT:Hid (∀ i,x.till i = tLater (tSum (x.began.getD i (0,0)).1 (x.began.getD i (0,0)).2 x.win 0).1 (tSum (x.began.getD i (0,0)).1 (x.began.getD i (0,0)).2 x.win 0).2 x.ns x.nf):=fun _ => rfl
 have HW:Hid ((i = -1 ∧ ∀ j,1 ≤ j → j < x.done.length → x.till j = false) ∨ ∃ k:Nat,i = k ∧ 1 ≤ k ∧ k < x.done.length ∧ x.till k = true ∧ ∀ j,1 ≤ j → j < k → x.till j = false):=hw
 generalize htl:x.till = till at *
 clear htl hb hw
 obtain ⟨mode,win,fresh,ns,nf,ld,up,ex,done,began,com,ref,said⟩:=x
 simp only at hl hbl w0 w1 HT HW HOK
 obtain ⟨da,dcp,hdv⟩:=own_slice hr.dd
 obtain ⟨ba,bcp,hbv⟩:=own_slice hr.bb
 subst hdv hbv
 obtain ⟨L,hL⟩:∃ L,done.length = L:=⟨_,rfl⟩
 have HL:=hid' hL
 have HBL:=hid' (hbl.trans hL)
 have hl':L ≤ 1000:=by omega
 clear hr hL hbl hl
 rw [HL.out] at HW
 go_enter Tryz.func94,Tryz.ntmps94
 go_wp2_with fail
 go_loopw [3,4,5] (fun iv _ _ wr => ∃ k:Nat,1 ≤ k ∧ k ≤ max L 1 ∧ iv = .int .i64 k ∧ (∀ j,1 ≤ j → j < k → till j = false) ∧ Below w.heap.size w wr) (fun iv _ _ _ => L - (intOf iv).toNat)
 case atStart => exact ⟨1,by omega,by omega,rfl,fun j h1 h2 => by omega,Below.refl _ _⟩
 case round =>
  obtain ⟨k,hk1,hk,rfl,hz,hb⟩:=hrel
  have HZ:=hid' hz
  have HB:=hid' hb
  have rr:=HR.out.below hb
  have q8:=cell_of_row _ _ 8 _ _ _ rr.row
  have q9:=cell_of_row _ _ 9 _ _ _ rr.row
  have q1:=cell_of_row _ _ 1 _ _ _ rr.row
  have lb:=lt_of_heap rr.row
  simp at q8 q9 q1
  rw [HL.out] at q8
  rw [HBL.out] at q9
  by_cases hlt:k < L
  ·have hkb:k < began.length:=by rw [HBL.out];exact hlt
   obtain ⟨g,cap',hg⟩:=own_some rr.bb (show 0 < began.length by omega)
   obtain ⟨rfl,_,rfl⟩:=Value.slice.inj hg
   have a0:=(rr.bb.cellAt (k * 2) (by omega)).trans (flat_at0 began k hkb)
   have a1:=(rr.bb.cellAt (k * 2 + 1) (by omega)).trans (flat_at1 began k hkb)
   have lg:g < wr.heap.size:=(rr.bb.lt _ rfl).2
   have ne1:¬ b = wr.heap.size:=by omega
   have ne2:¬ g = wr.heap.size:=by omega
   have ne3:¬ wr.heap.size = b:=by omega
   have ne4:¬ wr.heap.size = g:=by omega
   have hO:=HOK.out _ (List.getElem_mem hkb)
   have eg:began.getD k (0,0) = began[k]:=getD_at k hkb
   have TT:=HT.out k
   rw [eg] at TT
   generalize began[k] = p at *
   obtain ⟨ps,pf⟩:=p
   simp only at a0 a1 hO TT
   have SU:=hid' (fun W => ref_sum ps pf win 0 W (by omega) (by omega) (by omega) (by omega) (by omega) (by omega) (by omega) (by omega))
   have LA:=hid' (fun W => ref_later (tSum ps pf win 0).1 (tSum ps pf win 0).2 ns nf W)
   have HTT:=hid' TT
   generalize tSum ps pf win 0 = tm at *
   obtain ⟨ts,tf⟩:=tm
   simp only at SU LA HTT
   generalize tLater ts tf ns nf = old at *
   have z0:(0:Int) ≤ (k:Int):=by omega
   have z1:(k:Int) < (L:Int):=by omega
   clear TT hg rr hb eg hz
   go_upto_region 4 with fail
   go_cut [4] from 6 to 35 (fun s4 wx => TimeAt wr ts tf s4 wx)
   case first =>
    go_region_held3 (fun w' => w'.cell? ⟨b,9,none⟩ = some (.slice (some ⟨g,0,none⟩) L bcp) ∧ w'.cell? ⟨g,k * 2,none⟩ = some (.int .i64 ps) ∧ w'.cell? ⟨g,k * 2 + 1,none⟩ = some (.int .i64 pf) ∧ w'.cell? ⟨b,1,none⟩ = some (.int .i64 win)) (go_keep)
     (first | (go_at_call 101;refine (SU.out _).mono ?_;rintro e w1 ⟨rfl,hb1⟩;have HB1:=hid' hb1;have n1:w1.cell? ⟨b,1,none⟩ = some (.int .i64 win):=(hb1.cell (p:=⟨b,1,none⟩) (by simp <;> omega)).trans (by go_simp);have n9:w1.cell? ⟨b,9,none⟩ = some (.slice (some ⟨g,0,none⟩) L bcp):=(hb1.cell (p:=⟨b,9,none⟩) (by simp <;> omega)).trans (by go_simp);have m0:w1.cell? ⟨g,k * 2,none⟩ = some (.int .i64 ps):=(hb1.cell (p:=⟨g,k * 2,none⟩) (by simp <;> omega)).trans (by go_simp);have m1:w1.cell? ⟨g,k * 2 + 1,none⟩ = some (.int .i64 pf):=(hb1.cell (p:=⟨g,k * 2 + 1,none⟩) (by simp <;> omega)).trans (by go_simp);(try (have zr:=(hb1.block wr.heap.size (by simp <;> omega)).trans (heap_alloc_new wr _);have HZR:=hid' zr;have y0:=cell_of_row _ _ 0 _ _ _ zr;have y1:=cell_of_row _ _ 1 _ _ _ zr;have g0:=frozen_of_row _ _ 0 _ _ zr;have g1:=frozen_of_row _ _ 1 _ _ zr;(simp at y0 y1);clear zr));clear hb1))
    all_goals
     go_wp2_with fail
     go_meet
     case rel =>
      refine ⟨_,rfl,?_,?_⟩
      ·first
        | exact ((Below.refl _ _).drew.trans HB1.out).alloc (by exact HB1.out.size) _
        | exact ((((Below.refl _ _).alloc (Nat.le_refl _) _).drew.trans (HB1.out.mono (by simp))).setCell (p:=⟨wr.heap.size,0,none⟩) (by simp) _).setCell (p:=⟨wr.heap.size,1,none⟩) (by simp) _
      ·first
        | exact heap_alloc_new _ _
        | exact two_row HZR.out
   case rest =>
    obtain ⟨tq,rfl,bel,row⟩:=hcut
    rename World => W1
    have BN:=hid' (HB.out.trans (bel.mono HB.out.size))
    have RS:=hid' (HR.out.below BN.out)
    have RW:=hid' row
    clear q8 q9 q1 a0 a1 lg bel row ne1 ne2 ne3 ne4
    have q3:=cell_of_row _ _ 3 _ _ _ RS.out.row
    have q4:=cell_of_row _ _ 4 _ _ _ RS.out.row
    have t0:=cell_of_row _ _ 0 _ _ _ RW.out
    have t1:=cell_of_row _ _ 1 _ _ _ RW.out
    simp at q3 q4 t0 t1
    go_upto_region 5 with fail
    go_cut [4,5] from 6 to 35 (fun s4 s5 wx => s5 = .bool old ∧ Below W1.heap.size W1 wx)
    case first =>
     go_region_with (go_at_call 140;refine (LA.out _).mono ?_;rintro e w1 ⟨rfl,hb1⟩;have HB1:=hid' hb1;clear hb1)
     all_goals
      go_wp2_with fail
      go_meet
      case rel => exact ⟨rfl,(Below.refl _ _).drew.trans HB1.out⟩
    case rest =>
     obtain ⟨rfl,bel9⟩:=hcut
     rename World => W2
     have B2:=hid' (BN.out.trans (bel9.mono BN.out.size))
     clear q3 q4 t0 t1 bel9 SU LA
     cases old with
     | true =>
      have H:Hid (i = k):=by
       rcases HW.out with ⟨_,h⟩ | ⟨j,rfl,h1,h2,h3,h4⟩
       ·have:=h k hk1 hlt;rw [HTT.out] at this;cases this
       ·rcases Nat.lt_trichotomy j k with c | c | c
        ·have:=HZ.out j h1 c;rw [h3] at this;cases this
        ·rw [c];rfl
        ·have:=h4 k hk1 c;rw [HTT.out] at this;cases this
      clear HW
      go_wp2
      go_ret
      exact ⟨ret_int H.out.symm,B2.out⟩
     | false =>
      clear HW
      go_wp2
      go_roundw
      case rel =>
       refine ⟨k + 1,by omega,by omega,by go_num,fun j h1 h2 => ?_,B2.out⟩
       by_cases c:j = k
       ·subst c;exact HTT.out
       ·exact HZ.out j h1 (by omega)
      case measure => simp [intOf];omega
  ·have hnl:¬ (k:Int) < (L:Int):=by omega
   have H:Hid (i = -1):=by
    rcases HW.out with ⟨h,_⟩ | ⟨j,rfl,h1,h2,h3,h4⟩
    ·exact h
    ·have:=HZ.out j h1 (by omega);rw [h3] at this;cases this
   clear rr hb hz HW
   go_wp2
   go_ret
   exact ⟨ret_int H.out.symm,HB.out⟩
end Go.Proofs.YtmmkhodaljpjgaaGreatDoor
namespace Go.Proofs.YtmmkhodaljpjgaaGreatDoor
open Go.RowKit
theorem load_time {w:World} {g:Nat} {cs:Array Value} (hg:w.heap[g]? = some (.cells cs 35 (0,0))) (hs:cs.size = 2):(loadVar 35 ⟨g,0,none⟩).run Tryz.prog w = .ok (.agg cs) w :=
 run_loadVar_row (P:=Tryz.prog) w g 35 35 cs (0,0) _ hg Tryz.underlying35 rfl (by rw [hs];kernel_rfl)
set_option maxRecDepth 100000 in
theorem ref_served_no (b:Nat) (x:Sv) (dv bv cv hv:Value) (w:World) (hr:RSrv b x dv bv cv hv w) (hld:x.ld = false) :
  Calls Tryz.prog 56 #[.pointer (some ⟨b,0,none⟩)] w fun e w' => e = .returned (.tuple #[.agg #[.int .i64 0,.int .i64 0],.int .i64 3,.int .i64 8]) ∧ Below w.heap.size w w':=by
 have q5:=cell_of_row _ _ 5 _ _ _ hr.row
 have lb:=lt_of_heap hr.row
 simp at q5
 rw [hld] at q5
 have RN:=hid' (heap_alloc_new w (.cells #[.int .i64 0,.int .i64 0] 35))
 have BN:=hid' ((Below.refl w.heap.size w).alloc (Nat.le_refl _) (.cells #[.int .i64 0,.int .i64 0] 35))
 clear hr hld
 go_enter Tryz.func56,Tryz.ntmps56
 go_wp2
 try simp only [Exit.inBlock,Exit.then]
 first
  | (refine bodyPost_ret (results_row_tt (p:=2) (u:=3) (v:=4) rfl _ _ w.heap.size #[.int .i64 0,.int .i64 0] rfl (load_time RN.out rfl)) rfl ?_
     exact ⟨rfl,BN.out⟩)
  | (refine bodyPost_ret (results_row_tt (p:=2) (u:=3) (v:=4) rfl _ _ w.heap.size #[.int .i64 0,.int .i64 0] rfl (load_time (two_row RN.out) rfl)) rfl ?_
     exact ⟨rfl,(BN.out.setCell (p:=⟨w.heap.size,0,none⟩) (Nat.le_refl _) _).setCell (p:=⟨w.heap.size,1,none⟩) (Nat.le_refl _) _⟩)
set_option maxRecDepth 100000 in
set_option maxHeartbeats 1600000 in
theorem ref_served_step (b:Nat) (x:Sv) (dv bv cv hv:Value) (iv:Int) (w:World) (hr:RSrv b x dv bv cv hv w) (hld:x.ld = true) (hm:x.mode = 0) (hc:x.Can)
  (hi:∀ W,Below w.heap.size w W → Calls Tryz.prog 93 #[.pointer (some ⟨b,0,none⟩)] W fun e w' => e = .returned (.int .i64 iv) ∧ Below W.heap.size W w') :
  Calls Tryz.prog 56 #[.pointer (some ⟨b,0,none⟩)] w fun e w' => e = .returned (.tuple #[.agg #[.int .i64 x.utc,.int .i64 x.nf],.int .i64 iv,.int .i64 0]) ∧ Below w.heap.size w w':=by
 have HR:=hid' hr
 have HI:=hid' hi
 have HCan:=hid' hc
 have RN:=hid' (heap_alloc_new w (.cells #[.int .i64 0,.int .i64 0] 35))
 have BN:=hid' ((Below.refl w.heap.size w).alloc (Nat.le_refl _) (.cells #[.int .i64 0,.int .i64 0] 35))
 have q5:=cell_of_row _ _ 5 _ _ _ hr.row
 have q0:=cell_of_row _ _ 0 _ _ _ hr.row
 have lb:=lt_of_heap hr.row
 simp at q5 q0
 rw [hld] at q5
 rw [hm] at q0
 have UT:=hid' (fun (W:World) h => ref_utc b x dv bv cv hv W h HCan.out.fine (by have:=HCan.out.len;omega) HCan.out.hold HCan.out.n0 (by have:=HCan.out.n1;omega))
 clear hr hi hc hld hm
 generalize x.utc = u at *
 go_enter Tryz.func56,Tryz.ntmps56
 go_wp2_with fail
 refine (UT.out _ (HR.out.below BN.out)).mono ?_
 rintro e w1 ⟨rfl,m1,hw1⟩
 have B1:=hid' (show Below w.heap.size w w1 by rw [hw1];exact below_drewN BN.out m1)
 have RN1:Hid (w1.heap[w.heap.size]? = some (.cells #[.int .i64 0,.int .i64 0] 35 (0,0))):=by show _ = _;rw [hw1];exact RN.out
 clear hw1 UT q5 q0
 go_wp2_with fail
 refine (HI.out _ B1.out).mono ?_
 rintro e w2 ⟨rfl,hb2⟩
 have B2:=hid' (B1.out.trans (hb2.mono B1.out.size))
 have RN2:=hid' ((hb2.block _ (lt_of_heap RN1.out)).trans RN1.out)
 have R2:=hid' (HR.out.below B2.out)
 have q4:=cell_of_row _ _ 4 _ _ _ R2.out.row
 have t0:=cell_of_row _ _ 0 _ _ _ RN2.out
 have t1:=cell_of_row _ _ 1 _ _ _ RN2.out
 have f0:=frozen_of_row _ _ 0 _ _ RN2.out
 have f1:=frozen_of_row _ _ 1 _ _ RN2.out
 simp at q4 t0 t1
 clear hb2
 go_wp2
 try simp only [Exit.inBlock,Exit.then]
 refine bodyPost_ret (results_row_tt (p:=2) (u:=3) (v:=4) rfl _ _ w.heap.size #[.int .i64 u,.int .i64 x.nf] rfl (load_time (two_row RN2.out) rfl)) rfl ?_
 exact ⟨rfl,(B2.out.setCell (p:=⟨w.heap.size,0,none⟩) (Nat.le_refl _) _).setCell (p:=⟨w.heap.size,1,none⟩) (Nat.le_refl _) _⟩
end Go.Proofs.YtmmkhodaljpjgaaGreatDoor
