import Derived.Test.YtmmkhodaljpjgaaGreatDoorV37
import Derived.Test.YtmmkhodaljpjgaaGreatDoorV38
set_option maxRecDepth 100000
set_option maxHeartbeats 6400000
namespace Go.Proofs.YtmmkhodaljpjgaaGreatDoor
open Go.RowKit
theorem ref_served_out (b:Nat) (x:Sv) (dv bv cv hv:Value) (w:World) (hr:RSrv b x dv bv cv hv w) (hld:x.ld = true) (hm:x.mode ≠ 0) (hc:x.Can) (hb:x.BegOk) (hw:x.WinAt (-1)) :
  Calls Tryz.prog 56 #[.pointer (some ⟨b,0,none⟩)] w fun e w' => e = .returned (.tuple #[.agg #[.int .i64 x.utc,.int .i64 x.nf],.int .i64 0,.int .i64 0]) ∧ Below w.heap.size w w':=by
 have HR:=hid' hr
 have HCan:=hid' hc
 have RN:=hid' (heap_alloc_new w (.cells #[.int .i64 0,.int .i64 0] 35))
 have BN:=hid' ((Below.refl w.heap.size w).alloc (Nat.le_refl _) (.cells #[.int .i64 0,.int .i64 0] 35))
 have q5:=cell_of_row _ _ 5 _ _ _ hr.row
 have q0:=cell_of_row _ _ 0 _ _ _ hr.row
 have lb:=lt_of_heap hr.row
 simp at q5 q0
 rw [hld] at q5
 have nm:(x.mode == 0) = false:=beq_eq_false_iff_ne.2 hm
 have UT:=hid' (fun (W:World) h => ref_utc b x dv bv cv hv W h HCan.out.fine (by have:=HCan.out.len;omega) HCan.out.hold HCan.out.n0 (by have:=HCan.out.n1;omega))
 have WI:=hid' (fun (W:World) h => ref_window b x dv bv cv hv (-1) W h (by have:=HCan.out.len;omega) hb hw)
 clear hr hc hld hm hb hw
 generalize x.utc = u at *
 go_enter Tryz.func56,Tryz.ntmps56
 go_wp2_with fail
 refine (WI.out _ (HR.out.below BN.out)).mono ?_
 rintro e w1 ⟨rfl,hb1⟩
 have B1:=hid' (BN.out.trans (hb1.mono BN.out.size))
 have RN1:=hid' ((hb1.block _ (lt_of_heap RN.out)).trans RN.out)
 have R1:=hid' (HR.out.below B1.out)
 have q4:=cell_of_row _ _ 4 _ _ _ R1.out.row
 have t0:=cell_of_row _ _ 0 _ _ _ RN1.out
 have t1:=cell_of_row _ _ 1 _ _ _ RN1.out
 have f0:=frozen_of_row _ _ 0 _ _ RN1.out
 have f1:=frozen_of_row _ _ 1 _ _ RN1.out
 simp at q4 t0 t1
 clear hb1 q5 q0 WI RN BN
 go_wp2_with fail
 go_region_with (go_at_call 92;refine (UT.out _ (by exact R1.out.below (below_drewN (Below.refl _ _) _))).mono ?_;rintro e w2 ⟨rfl,m2,rfl⟩)
 all_goals
  go_wp2
  try simp only [Exit.inBlock,Exit.then]
  refine bodyPost_ret (results_row_tt (p:=2) (u:=3) (v:=4) rfl _ _ w.heap.size #[.int .i64 u,.int .i64 x.nf] rfl (load_time (two_row RN1.out) rfl)) rfl ?_
  exact ⟨rfl,((below_drewN B1.out _).setCell (p:=⟨w.heap.size,0,none⟩) (Nat.le_refl _) _).setCell (p:=⟨w.heap.size,1,none⟩) (Nat.le_refl _) _⟩
theorem labelled_13 (B:Nat) (up ex:Int) (tv:Value) (ls:List (Int × Int)) (x a b c d:Int) (s:ByteArray) (w:World) (wu:(Lit.int .i64 up).wf = true) (wx:(Lit.int .i64 ex).wf = true)
  (hown:w.ownsRow B 46 2 tv ls.length (flat ls)) (hn:ls.length ≤ 100000) (hwf:∀ p ∈ ls,WfP p) :
  Calls Tryz.prog 26 #[.agg #[.int .i64 up,.int .i64 ex,tv],.agg #[.int .i64 13,.int .i64 x,.int .i64 a,.int .i64 b,.int .i64 c,.int .i64 d,.string s]] w fun e w' => e = .returned (.bool true) ∧ Below w.heap.size w w':=by
 by_cases he:(Tab.offset up ex ls a).2 = 0
 ·obtain ⟨hwh,_,hla⟩:=Tab.offset_ok he
  obtain ⟨dd,hD⟩:=(Tab.good_of_whole hwh).has_day a hla
  exact labelled_13_yes B up ex tv ls x a b c d s w wu wx hown hn hwf he dd hD
 ·exact labelled_13_no B up ex tv ls x a b c d s w wu wx hown hn hwf he
theorem labelled_all (B:Nat) (up ex:Int) (tv:Value) (ls:List (Int × Int)) (k x a b c d:Int) (s:ByteArray) (w:World) (wu:(Lit.int .i64 up).wf = true) (wx:(Lit.int .i64 ex).wf = true)
  (hown:w.ownsRow B 46 2 tv ls.length (flat ls)) (hn:ls.length ≤ 100000) (hwf:∀ p ∈ ls,WfP p) (hk:k = 12 ∨ k = 13 ∨ k = 14) :
  Calls Tryz.prog 26 #[.agg #[.int .i64 up,.int .i64 ex,tv],.agg #[.int .i64 k,.int .i64 x,.int .i64 a,.int .i64 b,.int .i64 c,.int .i64 d,.string s]] w fun e w' => e = .returned (.bool true) ∧ Below w.heap.size w w':=by
 rcases hk with rfl | rfl | rfl
 ·exact labelled_12 B up ex tv ls x a b c d s w wu wx hown hn hwf
 ·exact labelled_13 B up ex tv ls x a b c d s w wu wx hown hn hwf
 ·exact labelled_14 B up ex tv ls x a b c d s w wu wx hown hn hwf
theorem pure_labelled {X:Xs} (B bW n:Nat) (o:Op) (w:World) (hn:n ≤ 90000) (hI:Inv X B bW n w) (hk:o.kind = 12 ∨ o.kind = 13 ∨ o.kind = 14) :
  Calls Tryz.prog 17 #[.pointer (some ⟨bW,0,none⟩),.agg #[.int .i64 o.kind,.int .i64 o.x,.int .i64 o.a,.int .i64 o.b,.int .i64 o.c,.int .i64 o.d,.string o.s]] w fun e w' => e = .returned (.bool true) ∧ Below w.heap.size w w':=by
 obtain ⟨k,x,a,b,c,d,s⟩:=o
 simp only at *
 have HB0:=hid' ((Below.refl w.heap.size w).alloc (Nat.le_refl _) (.cells #[.int .i64 k,.int .i64 x,.int .i64 a,.int .i64 b,.int .i64 c,.int .i64 d,.string s] 27))
 obtain ⟨le,tv,lv,xv,F,ts,ls,up,ex,se,fr,hb,ht,hl,h1,h2,h3,h4⟩:=hI
 have HLA:=hid' (fun (W:World) (h:W.ownsRow B 46 2 lv ls.length (flat ls)) => labelled_all B up ex lv ls k x a b c d s W h3.up h3.ex h (by omega) h3.tab hk)
 have OW:=hid' (hl.alloc (.cells #[.int .i64 k,.int .i64 x,.int .i64 a,.int .i64 b,.int .i64 c,.int .i64 d,.string s] 27)).drew
 have hlt:=hb.lt
 have c1:=hb.cell 1
 have c2:=hb.cell 2
 have c3:=hb.cell 3
 simp at c1 c2 c3
 clear hb ht hl h3 h4
 rcases hk with rfl | rfl | rfl
 all_goals
  go_enter Tryz.func17,Tryz.ntmps17
  go_wp2_with fail
  go_region_with (go_at_call 26;refine (HLA.out _ (by exact OW.out)).mono ?_;rintro e w1 ⟨rfl,hb1⟩;have HB1:=hid' hb1;clear hb1)
  all_goals
   go_wp2
   go_ret
   exact ⟨rfl,HB0.out.drew.trans (HB1.out.mono (by exact HB0.out.size))⟩
theorem does_labelled {X:Xs} (o:Op) (hk:o.kind = 12 ∨ o.kind = 13 ∨ o.kind = 14) (B n:Nat) (wr:World) (hn:n ≤ 90000):Does X B B n o wr:=by
 refine does_pure (.inr (by omega)) (by omega) ?_
 intro w1 hI hB1 hb1
 refine (pure_labelled B B n o w1 hn hI hk).mono ?_
 rintro e w' ⟨rfl,hbb⟩
 exact ⟨rfl,(hI.below hbb).up (Nat.le_succ _),Keep.below hbb,hbb.mono hB1⟩
end Go.Proofs.YtmmkhodaljpjgaaGreatDoor
namespace Go.Proofs.YtmmkhodaljpjgaaGreatDoor
open Go.RowKit
attribute [local go_sem ↓] Go.wp_at_zero Go.wp_at_succ
theorem RSrv.putR {b:Nat} {s:Sv} {dv bv cv hv:Value} {w:World} (h:RSrv b s dv bv cv hv w):RSrv b s.refuse dv bv cv hv (w.setCell ⟨b,11,none⟩ (.int .i64 (s.ref + 1))):=by
 refine ⟨?_,own_set (p:=⟨b,11,none⟩) h.dd h.row (by decide) _,own_set (p:=⟨b,11,none⟩) h.bb h.row (by decide) _,own_set (p:=⟨b,11,none⟩) h.cc h.row (by decide) _,own_set (p:=⟨b,11,none⟩) h.ss h.row (by decide) _⟩
 rw [heap_setCell_same _ _ _ _ _ _ h.row];rfl
theorem refused {b:Nat} {x:Sv} {dv bv cv hv:Value} {w w':World} (h:RSrv b x dv bv cv hv w) (hb:Below w.heap.size w w'):RPost b (rFoot b dv bv cv hv) w x.refuse (w'.setCell ⟨b,11,none⟩ (.int .i64 (x.ref + 1))) :=
 ⟨dv,bv,cv,hv,(h.below hb).putR,(Off.of_below hb).setCell (p:=⟨b,11,none⟩) (fun _ => .inl rfl) _,fun _ e => .inl e⟩
theorem ref_load_no (b:Nat) (x:Sv) (dv bv cv hv:Value) (t:ByteArray) (w:World) (hr:RSrv b x dv bv cv hv w) (ht:t.size ≤ 1000000) (hd:x.done.length ≤ 1000) (r0:0 ≤ x.ref) (r1:x.ref ≤ 1000000) (hne:x.loadErr (Txt.parse t) ≠ 0) :
  Calls Tryz.prog 65 #[.pointer (some ⟨b,0,none⟩),.string t] w fun e w' => e = .returned (.tuple #[.int .i64 (x.loadErr (Txt.parse t)),.int .i64 (Txt.parse t).num]) ∧ RPost b (rFoot b dv bv cv hv) w x.refuse w':=by
 have HR:=hid' hr
 have HP:=hid' (ref_parse t w ht)
 have HW:=hid' (Txt.parse_whole (t:=t))
 have HLE:Hid (x.loadErr (Txt.parse t) = if (Txt.parse t).err ≠ 0 then (Txt.parse t).err else if x.ld = true ∧ (Txt.parse t).up < x.up then 11 else if x.agrees (Txt.parse t).ls = false then 12 else 0):=rfl
 have HNE:=hid' hne
 clear hne hr
 generalize Txt.parse t = gt at *
 obtain ⟨gu,gx,gl,ge,gn⟩:=gt
 simp only at HP HW HLE HNE
 generalize x.loadErr ⟨gu,gx,gl,ge,gn⟩ = le at *
 go_enter Tryz.func65,Tryz.ntmps65
 go_wp2_with fail
 refine HP.out.mono ?_
 rintro e w1 ⟨lv,rfl,own1,hb1⟩
 simp only at own1
 obtain ⟨la,lcp,hlv⟩:=own_slice own1
 subst hlv
 have a1:=(Below.refl w1.heap.size w1).alloc (Nat.le_refl _) (.cells #[.int .i64 gu,.int .i64 gx,.slice la gl.length lcp] 33)
 have BA:=hid' (hb1.trans (a1.mono hb1.size))
 have TR:=hid' (heap_alloc_new w1 (.cells #[.int .i64 gu,.int .i64 gx,.slice la gl.length lcp] 33))
 have OA:=hid' (own_down own1 a1)
 clear own1 hb1 a1 HP
 go_upto_region 2 with fail
 generalize hV:w1.alloc (.cells #[.int .i64 gu,.int .i64 gx,.slice la gl.length lcp] 33) = V at *
 generalize hq:w1.heap.size = tb at *
 clear hV hq
 have RV:=hid' (HR.out.below BA.out)
 have q5:=cell_of_row _ _ 5 _ _ _ RV.out.row
 have q6:=cell_of_row _ _ 6 _ _ _ RV.out.row
 have t0:=cell_of_row _ _ 0 _ _ _ TR.out
 have t2:=cell_of_row _ _ 2 _ _ _ TR.out
 have q11:=cell_of_row _ _ 11 _ _ _ RV.out.row
 have f11:=frozen_of_row _ _ 11 _ _ RV.out.row
 simp at q5 q6 t0 t2 q11
 by_cases c0:ge = 0
 ·subst c0
  have e0:((0:Int) == 0) = true:=rfl
  by_cases c1:x.ld = true ∧ gu < x.up
  ·obtain ⟨hl,hu⟩:=c1
   have hle:le = 11:=by rw [HLE.out,if_neg (by simp),if_pos ⟨hl,hu⟩]
   subst hle
   rw [hl] at q5
   clear HNE HW
   go_quiet (fail)
   go_wp2
   go_ret2
   exact ⟨rfl,by exact refused HR.out (below_drewN BA.out nq)⟩
  ·have hle:le = if x.agrees gl = false then 12 else 0:=by rw [HLE.out,if_neg (by simp),if_neg c1]
   have ha:x.agrees gl = false:=by
    by_cases c:x.agrees gl = false
    ·exact c
    ·rw [if_neg c] at hle;exact absurd hle HNE.out
   rw [if_pos ha] at hle
   subst hle
   obtain ⟨hw,hn⟩:=HW.out rfl
   subst hn
   have hG:=Tab.good_of_whole hw
   have AG:=hid' (fun m:Nat => ref_agrees b w.heap.size x dv bv cv hv _ gl (V.drewN m) (RV.out.below (below_drewN (Below.refl _ _) m)) (own_down OA.out (below_drewN (Below.refl _ _) m)) hG.pos (by have:=hG.len;omega) hd hG.fine)
   rw [ha] at AG
   clear HNE HW hG hw
   cases hl:x.ld with
   | false =>
    rw [hl] at q5
    clear hl c1
    go_quiet (fail)
    go_wp2_with fail
    refine (AG.out _).mono ?_
    rintro e w3 ⟨rfl,m3,hw3⟩
    have B3:=hid' (show Below w.heap.size w w3 by rw [hw3,World.drewN_drewN];exact below_drewN BA.out _)
    have R3:=hid' (HR.out.below B3.out)
    have s11:=cell_of_row _ _ 11 _ _ _ R3.out.row
    have g11:=frozen_of_row _ _ 11 _ _ R3.out.row
    simp at s11
    clear hw3
    go_wp2
    go_ret2
    exact ⟨rfl,refused HR.out B3.out⟩
   | true =>
    rw [hl] at q5
    have hu:¬ gu < x.up:=fun h => c1 ⟨hl,h⟩
    clear hl c1
    go_quiet (fail)
    go_wp2_with fail
    refine (AG.out _).mono ?_
    rintro e w3 ⟨rfl,m3,hw3⟩
    have B3:=hid' (show Below w.heap.size w w3 by rw [hw3,World.drewN_drewN];exact below_drewN BA.out _)
    have R3:=hid' (HR.out.below B3.out)
    have s11:=cell_of_row _ _ 11 _ _ _ R3.out.row
    have g11:=frozen_of_row _ _ 11 _ _ R3.out.row
    simp at s11
    clear hw3
    go_wp2
    go_ret2
    exact ⟨rfl,refused HR.out B3.out⟩
 ·have hle:le = ge:=by rw [HLE.out,if_pos c0]
  subst hle
  have e0:(le == 0) = false:=by rw [beq_eq_false_iff_ne];exact c0
  have e1:(le != 0) = true:=bne_iff_ne.2 c0
  clear c0 HNE HW HLE
  go_quiet (fail)
  go_wp2
  go_ret2
  exact ⟨rfl,by exact refused HR.out (below_drewN BA.out nq)⟩
end Go.Proofs.YtmmkhodaljpjgaaGreatDoor
namespace Go.Proofs.YtmmkhodaljpjgaaGreatDoor
open Go.RowKit
structure LdV (b:Nat) (F:Nat → Prop) (w:World) (tb:Nat) (gu gx:Int) (lv:Value) (gl:List (Int × Int)) (s:Sv) (dv bv cv hv:Value) (wr:World):Prop where
 r:RSrv b s dv bv cv hv wr
 off:Off F w wr
 foot:∀ k,rFoot b dv bv cv hv k → F k ∨ w.heap.size ≤ k
 row:wr.heap[tb]? = some (.cells #[.int .i64 gu,.int .i64 gx,lv] 33 (0,0))
 own:wr.ownsRow w.heap.size 46 2 lv gl.length (flat gl)
 ne:∀ k,lv.ownBlock = some k → dv.ownBlock ≠ some k
def LdAt (b:Nat) (F:Nat → Prop) (w:World) (tb:Nat) (gu gx:Int) (lv:Value) (gl:List (Int × Int)) (s:Sv) (wr:World):Prop:=∃ dv bv cv hv,LdV b F w tb gu gx lv gl s dv bv cv hv wr
theorem LdV.below {b:Nat} {F:Nat → Prop} {w:World} {tb:Nat} {gu gx:Int} {lv:Value} {gl:List (Int × Int)} {s:Sv} {dv bv cv hv:Value} {W W':World} (h:LdV b F w tb gu gx lv gl s dv bv cv hv W) (hb:Below W.heap.size W W'):LdV b F w tb gu gx lv gl s dv bv cv hv W' :=
 ⟨h.r.below hb,h.off.then hb,h.foot,(hb.block _ (lt_of_heap h.row)).trans h.row,own_down h.own hb,h.ne⟩
theorem LdV.lv_lt {b:Nat} {F:Nat → Prop} {w:World} {tb:Nat} {gu gx:Int} {lv:Value} {gl:List (Int × Int)} {s:Sv} {dv bv cv hv:Value} {W:World} (h:LdV b F w tb gu gx lv gl s dv bv cv hv W) (k:Nat) (hk:lv.ownBlock = some k):k < W.heap.size:=by
 obtain ⟨_,_,hh⟩:=own_typ h.own hk;exact lt_of_heap hh
theorem LdV.putD {b:Nat} {F:Nat → Prop} {w:World} {tb:Nat} {gu gx:Int} {lv:Value} {gl:List (Int × Int)} {s:Sv} {dv bv cv hv dv':Value} {W w2:World} {L:List (Int × Int)} (h:LdV b F w tb gu gx lv gl s dv bv cv hv W)
  (hg:W.grownBy w2 dv.ownBlock) (own:w2.ownsRow 0 46 2 dv' L.length (flat L)) (hat:∀ k,dv'.ownBlock = some k → dv.ownBlock = some k ∨ W.heap.size ≤ k):LdAt b F w tb gu gx lv gl { s with done:=L } (w2.setCell ⟨b,8,none⟩ dv'):=by
 have sz:=h.off.size
 obtain ⟨dv1,bv1,cv1,hv1,r1,o1,f1⟩:=rpost_D h.r h.off h.foot hg own (fun k e => by
  rcases hat k e with q | q
  ·exact .inl q
  ·exact .inr (by omega))
 have row2:=grown_heap (t:=119) hg h.r.dd h.r.row (by decide)
 have trow2:=grown_heap (t:=33) hg h.r.dd h.row (by decide)
 have hl2:w2.ownsRow w.heap.size 46 2 lv gl.length (flat gl):=own_same h.own (fun k e => hg.block k (h.lv_lt k e) (fun q => h.ne k e q.symm))
 refine ⟨dv1,bv1,cv1,hv1,r1,o1,f1,?_,own_set (p:=⟨b,8,none⟩) hl2 row2 (by decide) _,fun k e q => ?_⟩
 ·exact ((Keep.refl 33 w2).setCell (p:=⟨b,8,none⟩) row2 (by decide) dv') _ _ _ trow2
 ·have e1:dv1 = dv':=by
   have r:=r1.row
   rw [heap_setCell_same _ _ _ _ _ _ row2] at r
   simp at r
   exact r.1.symm
  rw [e1] at q
  rcases hat k q with c | c
  ·exact h.ne k e c
  ·have:=h.lv_lt k e;omega
theorem LdV.putB {b:Nat} {F:Nat → Prop} {w:World} {tb:Nat} {gu gx:Int} {lv:Value} {gl:List (Int × Int)} {s:Sv} {dv bv cv hv bv':Value} {W w2:World} {L:List (Int × Int)} (h:LdV b F w tb gu gx lv gl s dv bv cv hv W)
  (hg:W.grownBy w2 bv.ownBlock) (own:w2.ownsRow 0 35 2 bv' L.length (flat L)) (hat:∀ k,bv'.ownBlock = some k → bv.ownBlock = some k ∨ W.heap.size ≤ k):LdAt b F w tb gu gx lv gl { s with began:=L } (w2.setCell ⟨b,9,none⟩ bv'):=by
 have sz:=h.off.size
 obtain ⟨dv1,bv1,cv1,hv1,r1,o1,f1⟩:=rpost_B h.r h.off h.foot hg own (fun k e => by
  rcases hat k e with q | q
  ·exact .inl q
  ·exact .inr (by omega))
 have row2:=grown_heap (t:=119) hg h.r.bb h.r.row (by decide)
 have trow2:=grown_heap (t:=33) hg h.r.bb h.row (by decide)
 have hl2:=own_grown h.own hg h.r.bb (by decide)
 refine ⟨dv1,bv1,cv1,hv1,r1,o1,f1,?_,own_set (p:=⟨b,9,none⟩) hl2 row2 (by decide) _,fun k e => ?_⟩
 ·exact ((Keep.refl 33 w2).setCell (p:=⟨b,9,none⟩) row2 (by decide) bv') _ _ _ trow2
 ·have e1:dv1 = dv:=by
   have r:=r1.row
   rw [heap_setCell_same _ _ _ _ _ _ row2] at r
   simp at r
   exact r.1.symm
  rw [e1]
  exact h.ne k e
theorem LdV.putC {b:Nat} {F:Nat → Prop} {w:World} {tb:Nat} {gu gx:Int} {lv:Value} {gl:List (Int × Int)} {s:Sv} {dv bv cv hv cv':Value} {W w2:World} {L:List Cm} (h:LdV b F w tb gu gx lv gl s dv bv cv hv W)
  (hg:W.grownBy w2 cv.ownBlock) (own:w2.ownsRow 0 123 5 cv' L.length (flatC L)) (hat:∀ k,cv'.ownBlock = some k → cv.ownBlock = some k ∨ W.heap.size ≤ k):LdAt b F w tb gu gx lv gl { s with com:=L } (w2.setCell ⟨b,10,none⟩ cv'):=by
 have sz:=h.off.size
 have row2:=grown_heap (t:=119) hg h.r.cc h.r.row (by decide)
 have trow2:=grown_heap (t:=33) hg h.r.cc h.row (by decide)
 have hl2:=own_grown h.own hg h.r.cc (by decide)
 have d2:=own_grown h.r.dd hg h.r.cc (by decide)
 have b2:=own_grown h.r.bb hg h.r.cc (by decide)
 have s2:=own_grown h.r.ss hg h.r.cc (by decide)
 refine ⟨dv,bv,cv',hv,⟨?_,own_set (p:=⟨b,10,none⟩) d2 row2 (by decide) _,own_set (p:=⟨b,10,none⟩) b2 row2 (by decide) _,own_set (p:=⟨b,10,none⟩) own row2 (by decide) _,own_set (p:=⟨b,10,none⟩) s2 row2 (by decide) _⟩,(h.off.grown hg (fun k e hk => ?_)).setCell (fun hk => ?_) _,fun k e => ?_,?_,own_set (p:=⟨b,10,none⟩) hl2 row2 (by decide) _,h.ne⟩
 ·rw [heap_setCell_same _ _ _ _ _ _ row2];rfl
 ·rcases h.foot k (.inr (.inr (.inr (.inl e)))) with q | q
  ·exact q
  ·omega
 ·rcases h.foot b (.inl rfl) with q | q
  ·exact q
  ·simp only at hk;omega
 ·rcases e with e | e | e | e | e
  ·exact h.foot k (.inl e)
  ·exact h.foot k (.inr (.inl e))
  ·exact h.foot k (.inr (.inr (.inl e)))
  ·rcases hat k e with q | q
   ·exact h.foot k (.inr (.inr (.inr (.inl q))))
   ·exact .inr (by omega)
  ·exact h.foot k (.inr (.inr (.inr (.inr e))))
 ·exact ((Keep.refl 33 w2).setCell (p:=⟨b,10,none⟩) row2 (by decide) cv') _ _ _ trow2
theorem LdV.putT {b:Nat} {F:Nat → Prop} {w:World} {tb:Nat} {gu gx:Int} {lv:Value} {gl:List (Int × Int)} {s:Sv} {dv bv cv hv:Value} {W:World} (h:LdV b F w tb gu gx lv gl s dv bv cv hv W) :
  LdAt b F w tb gu gx lv gl (s.stamp gu gx) ((((W.setCell ⟨b,5,none⟩ (.bool true)).setCell ⟨b,6,none⟩ (.int .i64 gu)).setCell ⟨b,7,none⟩ (.int .i64 gx)).setCell ⟨b,10,none⟩ (.slice none 0 0)):=by
 have r0:=h.r.row
 have r1:=heap_setCell_same _ _ 5 _ _ (.bool true) r0
 have r2:=heap_setCell_same _ _ 6 _ _ (.int .i64 gu) r1
 have r3:=heap_setCell_same _ _ 7 _ _ (.int .i64 gx) r2
 have ow:∀ {B e size n:Nat} {v:Value} {xs:List Value},W.ownsRow B e size v n xs → 119 ≠ e → ((((W.setCell ⟨b,5,none⟩ (.bool true)).setCell ⟨b,6,none⟩ (.int .i64 gu)).setCell ⟨b,7,none⟩ (.int .i64 gx)).setCell ⟨b,10,none⟩ (.slice none 0 0)).ownsRow B e size v n xs:=fun o he =>
  own_set (p:=⟨b,10,none⟩) (own_set (p:=⟨b,7,none⟩) (own_set (p:=⟨b,6,none⟩) (own_set (p:=⟨b,5,none⟩) o r0 he _) r1 he _) r2 he _) r3 he _
 have bF:b < w.heap.size → F b:=fun hk => by
  rcases h.foot b (.inl rfl) with q | q
  ·exact q
  ·omega
 refine ⟨dv,bv,.slice none 0 0,hv,⟨?_,ow h.r.dd (by decide),ow h.r.bb (by decide),World.ownsRow_nil _ _ _ _,ow h.r.ss (by decide)⟩,(((h.off.setCell (p:=⟨b,5,none⟩) bF _).setCell (p:=⟨b,6,none⟩) bF _).setCell (p:=⟨b,7,none⟩) bF _).setCell (p:=⟨b,10,none⟩) bF _,fun k e => ?_,?_,ow h.own (by decide),h.ne⟩
 ·rw [heap_setCell_same _ _ _ _ _ _ r3];rfl
 ·rcases e with e | e | e | e | e
  ·exact h.foot k (.inl e)
  ·exact h.foot k (.inr (.inl e))
  ·exact h.foot k (.inr (.inr (.inl e)))
  ·simp [Value.ownBlock] at e
  ·exact h.foot k (.inr (.inr (.inr (.inr e))))
 ·exact ((((Keep.refl 33 W).setCell (p:=⟨b,5,none⟩) r0 (by decide) _).setCell (p:=⟨b,6,none⟩) r1 (by decide) _).setCell (p:=⟨b,7,none⟩) r2 (by decide) _).setCell (p:=⟨b,10,none⟩) r3 (by decide) _ _ _ _ h.row
end Go.Proofs.YtmmkhodaljpjgaaGreatDoor
