import Derived.Test.YtmmkhodaljpjgaaGreatDoorV41
import Derived.Shelf.Strconv.Itoa3
import Derived.Shelf.Lay
import Derived.Ground.NamesProg
import Derived.Lib.AppendIntMem
namespace Go.Proofs.YtmmkhodaljpjgaaGreatDoor
open Go.RowKit
set_option maxRecDepth 100000 in
set_option maxHeartbeats 3200000 in
theorem still_yes (B g:Nat) (up ex:Int) (tv:Value) (ls:List (Int × Int)) (w:World) (hg:B ≤ g) (hH:Handed w g ls) (hT:Held w tv ls) (hn:ls.length ≤ 100000) :
  Calls Tryz.prog 45 #[.agg #[.int .i64 up,.int .i64 ex,.slice (some ⟨g,0,none⟩) ls.length (ls.length + 2)],.agg #[.int .i64 up,.int .i64 ex,tv]] w fun e w' => e = .returned (.bool true) ∧ Below B w w':=by
 obtain ⟨ta,tc,rfl⟩:∃ ao c,tv = .slice ao ls.length c:=by
  rcases hT with ⟨rfl,ao,c,rfl⟩ | ⟨_,g,c,rfl,_⟩
  ·exact ⟨_,_,rfl⟩
  ·exact ⟨_,_,rfl⟩
 have hgl:g < w.heap.size:=by obtain ⟨cs,hh,_⟩:=hH;exact lt_of_heap hh.row
 have B1:=hid' (((Below.refl w.heap.size w).alloc (Nat.le_refl _) (.cells #[.int .i64 up,.int .i64 ex,.slice (some ⟨g,0,none⟩) ls.length (ls.length + 2)] 78)).alloc (by simp) (.cells #[.int .i64 up,.int .i64 ex,.slice ta ls.length tc] 33))
 have R1:=hid' (heap_alloc2_old w (.cells #[.int .i64 up,.int .i64 ex,.slice (some ⟨g,0,none⟩) ls.length (ls.length + 2)] 78) (.cells #[.int .i64 up,.int .i64 ex,.slice ta ls.length tc] 33))
 have R2:=hid' (heap_alloc2_new w (.cells #[.int .i64 up,.int .i64 ex,.slice (some ⟨g,0,none⟩) ls.length (ls.length + 2)] 78) (.cells #[.int .i64 up,.int .i64 ex,.slice ta ls.length tc] 33))
 have HSM:=hid' (same_yes up ex _ _ ls _ (hH.held.below B1.out) (hT.below B1.out) hn)
 have HH:=hid' (hH.below B1.out)
 clear hH hT
 generalize hk:ls.length = k at *
 go_enter Tryz.func45,Tryz.ntmps45
 go_wp2_with fail
 refine HSM.out.mono ?_
 rintro e W ⟨rfl,hb⟩
 obtain ⟨cs,hh,s1,s2⟩:=HH.out.below hb
 rw [hk] at hh s1 s2
 have r1:=(hb.block _ (lt_of_heap R1.out)).trans R1.out
 have bw:=hid' (B1.out.trans (hb.mono B1.out.size))
 have q2:=cell_of_row _ _ 2 _ _ _ r1
 simp at q2
 have c0:W.cell? ⟨g,k * 2,none⟩ = some (.int .i64 (-7)):=by rw [cell_of_row _ _ _ _ _ _ hh.row];exact s1
 have c1:W.cell? ⟨g,(k + 1) * 2,none⟩ = some (.int .i64 (-7)):=by rw [cell_of_row _ _ _ _ _ _ hh.row];exact s2
 have HROW:=hid' (⟨cs,hh.row,hh.size⟩:∃ cs,W.heap[g]? = some (.cells cs 84 (0,0)) ∧ cs.size = (k + 2) * 2)
 have hsl:=fun V => head_run g k (k + 2) (k + 2) (by omega) V
 have hk2:(((k + 2:Nat):Int)) = (k:Int) + 2:=by omega
 rw [hk2] at hsl
 have BW:=hid' (show Below B w W from bw.out.mono (by omega))
 clear hh s1 s2 r1 hb HH HSM R1 R2 B1 hk2 bw
 go_wp2_with fail
 go_loopw [9] (fun i wr => ∃ (j:Nat) (cs:Array Value),j ≤ k ∧ i = .int .i64 j ∧ wr.heap[g]? = some (.cells cs 84 (0,0)) ∧ cs.size = (k + 2) * 2 ∧ Below B w wr) (fun i _ => k - (intOf i).toNat)
 case atStart =>
  obtain ⟨cs,h,hz⟩:=HROW.out
  exact ⟨0,cs,by omega,rfl,h,hz,BW.out⟩
 case round =>
  clear HROW BW c0 c1 q2
  obtain ⟨j,cs,hj,rfl,hrow,hz,hb⟩:=hrel
  by_cases hlt:j < k
  ·obtain ⟨o0,p0⟩:∃ v,wr.cell? ⟨g,j * 2,none⟩ = some v:=by rw [cell_of_row _ _ (j * 2) _ _ _ hrow,Array.getElem?_eq_getElem (by omega)];exact ⟨_,rfl⟩
   obtain ⟨o1,p1⟩:∃ v,wr.cell? ⟨g,j * 2 + 1,none⟩ = some v:=by rw [cell_of_row _ _ (j * 2 + 1) _ _ _ hrow,Array.getElem?_eq_getElem (by omega)];exact ⟨_,rfl⟩
   have f0:=frozen_of_row _ _ (j * 2) _ _ hrow
   have f1:=frozen_of_row _ _ (j * 2 + 1) _ _ hrow
   have e1:=heap_setCell_same _ g (j * 2) _ _ (.int .i64 (-7)) hrow
   have e2:=hid' (heap_setCell_same _ g (j * 2 + 1) _ _ (.int .i64 0) e1)
   have hb2:=hid' ((hb.setCell (p:=⟨g,j * 2,none⟩) hg (.int .i64 (-7))).setCell (p:=⟨g,j * 2 + 1,none⟩) hg (.int .i64 0))
   have HZ:=hid' hz
   clear hrow e1 hb hz
   go_wp2
   go_roundw
   case rel => exact ⟨j + 1,_,by omega,by go_num,e2.out,by simp [HZ.out],hb2.out⟩
   case measure => simp [intOf];omega
  ·have hnl:¬ (j:Int) < (k:Int):=by omega
   have HB:=hid' hb
   clear hrow hb
   go_wp2
   go_ret
   exact ⟨rfl,HB.out⟩
theorem Txt.run_ok (t:ByteArray) (f b n:Nat) (st:Txt.St) (h:Txt.Ok st n):∃ m,Txt.Ok (Txt.run t f b n st).2.2 m:=by
 induction f generalizing b n st with
 | zero => exact ⟨n,h⟩
 | succ f ih =>
  by_cases hb:b ≤ t.size
  ·by_cases he:(Txt.line st (t.extract b (Txt.eol t b))).1 = 0
   ·rw [Txt.run_go hb he];exact ih _ _ _ (h.line _ he)
   ·rw [Txt.run_err hb he];exact ⟨n,h⟩
  ·rw [Txt.run_end hb];exact ⟨n,h⟩
structure Fair (gt:Txt.Got):Prop where
 up:(Lit.int .i64 gt.up).wf = true
 ex:(Lit.int .i64 gt.ex).wf = true
 len:gt.ls.length ≤ 40
 wf:∀ p ∈ gt.ls,WfP p
theorem fair_none (e:Int) (m:Nat):Fair ⟨0,0,[],e,m⟩:=⟨rfl,rfl,Nat.zero_le _,fun p h => by cases h⟩
theorem numTo_wf {u:ByteArray} (h:u = Txt.em ∨ Txt.isNum u = true):(Lit.int .i64 (Txt.numTo u u.size)).wf = true:=by
 rcases h with rfl | h
 ·rfl
 ·have:=Txt.numTo_le h;exact Txt.wf_num this.1 this.2
theorem Txt.parse_fair (t:ByteArray):Fair (Txt.parse t):=by
 unfold Txt.parse
 split
 ·exact fair_none _ _
 ·split
  ·obtain ⟨m,h⟩:=Txt.run_ok t (t.size + 2) 0 0 Txt.st0 Txt.Ok.start
   generalize (Txt.run t (t.size + 2) 0 0 Txt.st0).2.2 = st at *
   unfold Txt.done
   split
   ·exact ⟨numTo_wf h.u,numTo_wf h.x,h.len,h.wf⟩
   ·exact fair_none _ _
  ·exact fair_none _ _
structure PW (w:World) (up ex:Int) (av tv:Value) (ls:List (Int × Int)) (b4 b7:Nat) (wx:World):Prop where
 r:wx.heap[w.heap.size]? = some (.cells #[.int .i64 0,.int .i64 0,.slice none 0 0] 33 (0,0))
 a:wx.heap[b4]? = some (.cells #[.int .i64 up,.int .i64 ex,av] 78 (0,0))
 t:wx.heap[b7]? = some (.cells #[.int .i64 up,.int .i64 ex,tv] 33 (0,0))
 own:wx.ownsRow w.heap.size 46 2 tv ls.length (flat ls)
 bel:Below w.heap.size w wx
theorem PW.below {w wx wy:World} {up ex:Int} {av tv:Value} {ls:List (Int × Int)} {b4 b7:Nat} (h:PW w up ex av tv ls b4 b7 wx) (hb:Below wx.heap.size wx wy):PW w up ex av tv ls b4 b7 wy :=
 ⟨(hb.block _ (lt_of_heap h.r)).trans h.r,(hb.block _ (lt_of_heap h.a)).trans h.a,(hb.block _ (lt_of_heap h.t)).trans h.t,own_down h.own hb,h.bel.trans (hb.mono h.bel.size)⟩
theorem PW.set {w wx:World} {up ex:Int} {av tv:Value} {ls:List (Int × Int)} {b4 b7 g:Nat} {cs:Array Value} (h:PW w up ex av tv ls b4 b7 wx) (hg:wx.heap[g]? = some (.cells cs 84 (0,0))) (h0:w.heap.size ≤ g) (j:Nat) (v:Value) :
  PW w up ex av tv ls b4 b7 (wx.setCell ⟨g,j,none⟩ v):=by
 have n1:w.heap.size ≠ g:=fun e => by have:=h.r;rw [e,hg] at this;simp at this
 have n2:b4 ≠ g:=fun e => by have:=h.a;rw [e,hg] at this;simp at this
 have n3:b7 ≠ g:=fun e => by have:=h.t;rw [e,hg] at this;simp at this
 exact ⟨(heap_setCell_other _ _ _ _ n1).trans h.r,(heap_setCell_other _ _ _ _ n2).trans h.a,(heap_setCell_other _ _ _ _ n3).trans h.t,own_set (p:=⟨g,j,none⟩) h.own hg (by decide) v,h.bel.setCell (p:=⟨g,j,none⟩) h0 v⟩
def PSaid (w:World) (gt:Txt.Got) (e:Ending) (w':World):Prop:=∃ lv,e = .returned (.tuple #[.agg #[.int .i64 gt.up,.int .i64 gt.ex,lv],.bool true]) ∧ w'.ownsRow w.heap.size 46 2 lv gt.ls.length (flat gt.ls) ∧ Below w.heap.size w w'
set_option maxRecDepth 100000 in
set_option maxHeartbeats 3200000 in
theorem parsed_any (s:ByteArray) (w:World) (hs:s.size ≤ 1000000) (hT:Table w) :
  Calls Tryz.prog 24 #[.string s] w fun e w' => PSaid w (Txt.parse s) e w':=by
 have B0:=hid' ((Below.refl w.heap.size w).alloc (Nat.le_refl _) (.cells #[.int .i64 0,.int .i64 0,.slice none 0 0] 33))
 have R0:=hid' (heap_alloc_new w (.cells #[.int .i64 0,.int .i64 0,.slice none 0 0] 33))
 have hz0:(w.alloc (.cells #[.int .i64 0,.int .i64 0,.slice none 0 0] 33)).heap.size = w.heap.size + 1:=by simp
 have HP:=hid' (fun W (h:Table W) => smear_parse s W hs h)
 have HR:=hid' (fun W => ref_parse s W hs)
 have HT:=hid' hT
 have hfair:=Txt.parse_fair s
 have hlen:=hfair.len
 clear hT hfair
 generalize Txt.parse s = gt at *
 obtain ⟨up,ex,ls,er,nm⟩:=gt
 simp only at hlen
 go_enter Tryz.func24,Tryz.ntmps24
 go_wp2_with fail
 refine (HP.out _ (HT.out.below B0.out)).mono ?_
 rintro e w1 ⟨av,rfl,oa,hb1⟩
 simp only at oa
 have hav:∃ ao c,av = .slice ao ls.length c:=by
  rcases oa.2 with ⟨h,e⟩ | ⟨g,cap,cur,h,_⟩
  ·exact ⟨_,_,by rw [h,e]⟩
  ·exact ⟨_,_,h⟩
 obtain ⟨aa,ac,rfl⟩:=hav
 have b1:=B0.out.trans (hb1.mono B0.out.size)
 have r1:=(hb1.block _ (lt_of_heap R0.out)).trans R0.out
 have bA:=(Below.refl w1.heap.size w1).alloc (Nat.le_refl _) (.cells #[.int .i64 up,.int .i64 ex,.slice aa ls.length ac] 78)
 have ra:=heap_alloc_new w1 (.cells #[.int .i64 up,.int .i64 ex,.slice aa ls.length ac] 78)
 have r1a:=(bA.block _ (lt_of_heap r1)).trans r1
 have oaa:=own_down oa bA
 have b1a:=b1.trans (bA.mono b1.size)
 have RA:=hid' ra
 have R1:=hid' r1a
 have OA:=hid' oaa
 have B1:=hid' b1a
 clear oa hb1 b1 r1 bA ra r1a oaa b1a
 go_wp2_with fail
 refine (HR.out _).mono ?_
 rintro e w2 ⟨tv,rfl,ot,hb2⟩
 simp only at ot
 have htv:∃ ao c,tv = .slice ao ls.length c:=by
  rcases ot.2 with ⟨h,e⟩ | ⟨g,cap,cur,h,_⟩
  ·exact ⟨_,_,by rw [h,e]⟩
  ·exact ⟨_,_,h⟩
 obtain ⟨ta,tc,rfl⟩:=htv
 have b2:=B1.out.trans (hb2.mono B1.out.size)
 have ra2:=(hb2.block _ (lt_of_heap RA.out)).trans RA.out
 have r2:=(hb2.block _ (lt_of_heap R1.out)).trans R1.out
 have oa2:=own_down OA.out hb2
 have hsz:=B1.out.size
 have bT:=(Below.refl w2.heap.size w2).alloc (Nat.le_refl _) (.cells #[.int .i64 up,.int .i64 ex,.slice ta ls.length tc] 33)
 have P3:PW w up ex (.slice aa ls.length ac) (.slice ta ls.length tc) ls w1.heap.size w2.heap.size (w2.alloc (.cells #[.int .i64 up,.int .i64 ex,.slice ta ls.length tc] 33)) :=
  ⟨(bT.block _ (lt_of_heap r2)).trans r2,(bT.block _ (lt_of_heap ra2)).trans ra2,heap_alloc_new _ _,own_wide (own_down ot bT) (by omega),b2.trans (bT.mono b2.size)⟩
 have oa3:=own_down oa2 bT
 have a0:=cell_of_row _ _ 0 _ _ _ ra2
 have a1:=cell_of_row _ _ 1 _ _ _ ra2
 have a2:=cell_of_row _ _ 2 _ _ _ ra2
 simp at a0 a1 a2
 have l1:=lt_of_heap ra2
 have HSM:=hid' (same_yes up ex _ _ ls _ (held_of oa3) (held_ref P3.own) (by omega))
 have P3:=hid' P3
 have OA3:=hid' oa3
 generalize hb4:w1.heap.size = b4 at *
 clear hb4 RA R1 OA B1 ot hb2 b2 ra2 r2 oa2 hsz bT oa3
 go_wp2_with fail
 refine HSM.out.mono ?_
 rintro e w4 ⟨rfl,hb4⟩
 have P4:=P3.out.below hb4
 have oa4:=own_down OA3.out hb4
 have hga:∀ _:0 < ls.length,∃ g cap cur,aa = some ⟨g,0,none⟩ ∧ ac = cap ∧ w.heap.size ≤ g ∧ w4.heap[g]? = some (.cells cur 84 (0,0)) ∧ ls.length * 2 ≤ cur.size:=fun h => by
  rcases oa4.2 with ⟨_,e⟩ | ⟨g,cap,cur,e,hbg,hh,hc,_,hcs,_⟩
  ·omega
  ·obtain ⟨e1,_,e2⟩:=Value.slice.inj e
   exact ⟨g,cap,cur,e1,e2,by rw [hz0] at hbg;omega,hh,by rw [hcs];omega⟩
 have HGA:=hid' hga
 have P4:=hid' P4
 generalize hb7:w2.heap.size = b7 at *
 clear hb7 hb4 oa4 hga HSM OA3 P3 a0 a1 a2 l1
 go_wp2_with fail
 go_loopw [11] (fun i wr => ∃ j:Nat,j ≤ ls.length ∧ i = .int .i64 j ∧ PW w up ex (.slice aa ls.length ac) (.slice ta ls.length tc) ls b4 b7 wr ∧ (0 < ls.length → ∃ g cur,aa = some ⟨g,0,none⟩ ∧ w.heap.size ≤ g ∧ wr.heap[g]? = some (.cells cur 84 (0,0)) ∧ ls.length * 2 ≤ cur.size)) (fun i _ => ls.length - (intOf i).toNat)
 case atStart => exact ⟨0,by omega,rfl,P4.out,fun h => by obtain ⟨g,cap,cur,a,_,b,c,d⟩:=HGA.out h;exact ⟨g,cur,a,b,c,d⟩⟩
 case round =>
  clear HGA P4
  obtain ⟨j,hj,rfl,hP,hG⟩:=hrel
  have c2:=cell_of_row _ _ 2 _ _ _ hP.a
  simp at c2
  by_cases hlt:j < ls.length
  ·obtain ⟨g,cur,rfl,hg0,hrow,hcs⟩:=hG (by omega)
   obtain ⟨o0,p0⟩:∃ v,wr.cell? ⟨g,j * 2,none⟩ = some v:=by rw [cell_of_row _ _ (j * 2) _ _ _ hrow,Array.getElem?_eq_getElem (by omega)];exact ⟨_,rfl⟩
   obtain ⟨o1,p1⟩:∃ v,wr.cell? ⟨g,j * 2 + 1,none⟩ = some v:=by rw [cell_of_row _ _ (j * 2 + 1) _ _ _ hrow,Array.getElem?_eq_getElem (by omega)];exact ⟨_,rfl⟩
   have f0:=frozen_of_row _ _ (j * 2) _ _ hrow
   have f1:=frozen_of_row _ _ (j * 2 + 1) _ _ hrow
   have e1:=heap_setCell_same _ g (j * 2) _ _ (.int .i64 (-7)) hrow
   have e2:=heap_setCell_same _ g (j * 2 + 1) _ _ (.int .i64 0) e1
   have E2:=hid' e2
   have PN:=hid' ((hP.set hrow hg0 (j * 2) (.int .i64 (-7))).set e1 hg0 (j * 2 + 1) (.int .i64 0))
   have HCS:=hid' hcs
   clear hrow e1 e2 hP hG hcs
   go_wp2
   go_roundw
   case rel => exact ⟨j + 1,by omega,by go_num,PN.out,fun _ => ⟨g,_,rfl,hg0,E2.out,by simp;exact HCS.out⟩⟩
   case measure => simp [intOf];omega
  ·have hnl:¬ (j:Int) < (ls.length:Int):=by omega
   have P5:=hid' hP
   have HTT:=hid' (HT.out.below hP.bel)
   clear hP hG
   go_wp2_with fail
   refine (HP.out _ HTT.out).mono ?_
   rintro e w5 ⟨bv,rfl,ob,hb5⟩
   simp only at ob
   have hbv:∃ ao c,bv = .slice ao ls.length c:=by
    rcases ob.2 with ⟨h,e⟩ | ⟨g,cap,cur,h,_⟩
    ·exact ⟨_,_,by rw [h,e]⟩
    ·exact ⟨_,_,h⟩
   obtain ⟨ba,bc,rfl⟩:=hbv
   have P6:=P5.out.below hb5
   have bB:=(Below.refl w5.heap.size w5).alloc (Nat.le_refl _) (.cells #[.int .i64 up,.int .i64 ex,.slice ba ls.length bc] 78)
   have P7:=P6.below bB
   have ob7:=own_down ob bB
   have t0:=cell_of_row _ _ 0 _ _ _ P6.t
   have t1:=cell_of_row _ _ 1 _ _ _ P6.t
   have t2:=cell_of_row _ _ 2 _ _ _ P6.t
   simp at t0 t1 t2
   have l7:=lt_of_heap P6.t
   have HSM:=hid' (same_yes up ex _ _ ls _ (held_of ob7) (held_ref P7.own) (by omega))
   have P7:=hid' P7
   clear P6 bB ob7 ob hb5 P5 HTT c2
   go_wp2_with fail
   refine HSM.out.mono ?_
   rintro e w6 ⟨rfl,hb6⟩
   have P8:=P7.out.below hb6
   have t0':=cell_of_row _ _ 0 _ _ _ P8.t
   have t1':=cell_of_row _ _ 1 _ _ _ P8.t
   have t2':=cell_of_row _ _ 2 _ _ _ P8.t
   have y0:=cell_of_row _ _ 0 _ _ _ P8.r
   have y1:=cell_of_row _ _ 1 _ _ _ P8.r
   have y2:=cell_of_row _ _ 2 _ _ _ P8.r
   simp at t0' t1' t2' y0 y1 y2
   have x0:=frozen_of_row _ _ 0 _ _ P8.r
   have x1:=frozen_of_row _ _ 1 _ _ P8.r
   have x2:=frozen_of_row _ _ 2 _ _ P8.r
   have P8:=hid' P8
   have e1:(er == er) = true:=by simp
   have e2:((nm:Int) == (nm:Int)) = true:=by simp
   clear hb6 t0 t1 t2 HSM P7 l7
   go_wp2_with (first
    | (go_at_call 34;refine (num_any _ _).mono ?_;rintro e w7 ⟨rfl,rfl⟩))
   have hrowE:=z3_row (x:=.int .i64 up) (y:=.int .i64 ex) (z:=.slice ta ls.length tc) P8.out.r
   refine bodyPost_ret (results_row_tmp (p:=2) (u:=3) rfl _ _ w.heap.size #[.int .i64 up,.int .i64 ex,.slice ta ls.length tc] rfl (load_rtable hrowE rfl)) rfl ?_
   exact ⟨.slice ta ls.length tc,rfl,z3_own P8.out.r P8.out.own (by decide),z3_below P8.out.bel (Nat.le_refl _)⟩
namespace Txt
def db (n:Int):ByteArray:=⟨(dec n.toNat).toArray⟩
theorem dec_ten (n:Nat) (k:Nat) (h:n < 10 ^ (k + 1)):(dec n).length ≤ k + 1:=by
 induction k generalizing n with
 | zero => rw [dec_low n (by omega)];simp
 | succ k ih =>
  by_cases c:9 < n
  ·rw [dec_up n c,List.length_append]
   have:=ih (n / 10) (by rw [Nat.pow_succ] at h;omega)
   simp;omega
  ·rw [dec_low n c];simp
theorem db_size (n:Int) (h:n < 1000000000000):(db n).size ≤ 12:=by
 have:=dec_ten n.toNat 11 (by omega)
 show (dec n.toNat).toArray.size ≤ 12
 simpa using this
def head (u x:Int):ByteArray:=⟨#[35,36,32]⟩ ++ db u ++ ⟨#[10,35,64,32]⟩ ++ db x ++ ⟨#[10]⟩
def eline (p:Int × Int):ByteArray:=db p.1 ++ ⟨#[32]⟩ ++ db p.2 ++ ⟨#[10]⟩
def prTo (u x:Int) (ls:List (Int × Int)):Nat → ByteArray
 | 0 => head u x
 | k + 1 => prTo u x ls k ++ eline (ls.getD k (0,0))
def dgTo (u x:Int) (ls:List (Int × Int)):Nat → ByteArray
 | 0 => db u ++ db x
 | k + 1 => dgTo u x ls k ++ (db (ls.getD k (0,0)).1 ++ db (ls.getD k (0,0)).2)
def hlTo (h:ByteArray):Nat → ByteArray
 | 0 => ⟨#[35,104]⟩
 | k + 1 => hlTo h k ++ (⟨#[32]⟩ ++ h.extract (k * 8) (k * 8 + 8))
def hl (h:ByteArray):ByteArray:=hlTo h 5 ++ ⟨#[10]⟩
def dgst (u x:Int) (ls:List (Int × Int)):ByteArray:=⟨(Sha.digest (dgTo u x ls ls.length)).toArray⟩
def print (u x:Int) (ls:List (Int × Int)):ByteArray:=prTo u x ls ls.length ++ hl (dgst u x ls)
theorem digest_size (s:ByteArray):(ByteArray.mk (Sha.digest s).toArray).size = 40:=by
 show (Sha.digest s).toArray.size = 40
 unfold Sha.digest
 simp [Sha.St.text_length]
theorem size_app (a b:ByteArray):(a ++ b).size = a.size + b.size:=ByteArray.size_append
theorem head_size {u x:Int} (hu:u < 1000000000000) (hx:x < 1000000000000):(head u x).size ≤ 32:=by
 have a:=db_size u hu
 have b:=db_size x hx
 unfold head
 rw [size_app,size_app,size_app,size_app]
 have c1:(ByteArray.mk #[35,36,32]).size = 3:=rfl
 have c2:(ByteArray.mk #[10,35,64,32]).size = 4:=rfl
 have c3:(ByteArray.mk #[10]).size = 1:=rfl
 omega
theorem eline_size {p:Int × Int} (h1:p.1 < 1000000000000) (h2:p.2 < 1000000000000):(eline p).size ≤ 26:=by
 have a:=db_size _ h1
 have b:=db_size _ h2
 unfold eline
 rw [size_app,size_app,size_app]
 have c1:(ByteArray.mk #[32]).size = 1:=rfl
 have c3:(ByteArray.mk #[10]).size = 1:=rfl
 omega
theorem prTo_size {u x:Int} {ls:List (Int × Int)} (hu:u < 1000000000000) (hx:x < 1000000000000) (hl:∀ i,(ls.getD i (0,0)).1 < 1000000000000 ∧ (ls.getD i (0,0)).2 < 1000000000000) (k:Nat):(prTo u x ls k).size ≤ 32 + 26 * k:=by
 induction k with
 | zero => exact head_size hu hx
 | succ k ih => rw [prTo,size_app];have:=eline_size (hl k).1 (hl k).2;omega
theorem dgTo_size {u x:Int} {ls:List (Int × Int)} (hu:u < 1000000000000) (hx:x < 1000000000000) (hl:∀ i,(ls.getD i (0,0)).1 < 1000000000000 ∧ (ls.getD i (0,0)).2 < 1000000000000) (k:Nat):(dgTo u x ls k).size ≤ 24 + 24 * k:=by
 induction k with
 | zero => rw [dgTo,size_app];have:=db_size u hu;have:=db_size x hx;omega
 | succ k ih => rw [dgTo,size_app,size_app];have:=db_size _ (hl k).1;have:=db_size _ (hl k).2;omega
theorem hlTo_size (h:ByteArray) (k:Nat):(hlTo h k).size ≤ 2 + 9 * k:=by
 induction k with
 | zero => exact Nat.le_refl _
 | succ k ih =>
  rw [hlTo,size_app,size_app,ByteArray.size_extract]
  have c1:(ByteArray.mk #[32]).size = 1:=rfl
  omega
end Txt
end Go.Proofs.YtmmkhodaljpjgaaGreatDoor
namespace Go.Proofs
open Go.Shelf
shelf_lay LaysM.n171 Nm 171 at Tryz as Tryz.laysItoa
end Go.Proofs
namespace Go.Proofs.YtmmkhodaljpjgaaGreatDoor
open Go.RowKit
def Pows (w : World) : Prop := Lib.TabIs Tryz.prog w "internal/strconv.uint64pow10" .u64 Lib.pow10Tab
theorem Pows.below {w w':World} (h:Pows w) (hb:Below w.heap.size w w'):Pows w':=Lib.tabBelow_of_tabIs h w' hb
theorem dec_itoa (n:Nat):Lib.decDigits n = Txt.dec n:=by
 induction n using Nat.strongRecOn with
 | _ n ih =>
  rw [Lib.decDigits]
  by_cases h:n < 10
  ·rw [dif_pos h,Txt.dec_low n (by omega)]
  ·rw [dif_neg h,Txt.dec_up n (by omega),ih (n / 10) (by omega)]
theorem itoa_any (n:Nat) (w:World) (hn:n ≤ 1000000000000) (hP:Pows w) :
  Calls Tryz.prog 128 #[.int .i64 n] w fun e w' => e = .returned (.string ⟨(Txt.dec n).toArray⟩) ∧ Below w.heap.size w w':=by
 refine (Any.strconv_Itoa Tryz.laysItoa (n:Int) (by omega) (by omega) w hP).mono ?_
 rintro e w' ⟨rfl,k,os,rfl⟩
 refine ⟨?_,?_⟩
 ·have:Lib.itoa (n:Int) = Txt.dec n:=by
   unfold Lib.itoa
   rw [if_neg (by omega),Int.toNat_natCast,dec_itoa]
  rw [this]
 ·exact (below_drewN (Below.refl w.heap.size w) k).trans ⟨rfl,rfl,rfl,by simp,fun j hj => Sort.heap_grow_old _ _ hj⟩
end Go.Proofs.YtmmkhodaljpjgaaGreatDoor
