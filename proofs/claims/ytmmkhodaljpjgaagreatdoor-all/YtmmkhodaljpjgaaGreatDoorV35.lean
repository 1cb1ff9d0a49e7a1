import Derived.Test.YtmmkhodaljpjgaaGreatDoorV34
import Derived.Deep.Cut
import Derived.Deep.CutBlock
import Derived.Deep.CutRange
set_option maxRecDepth 100000
set_option maxHeartbeats 6400000
namespace Go.Proofs.YtmmkhodaljpjgaaGreatDoor
open Go.RowKit
theorem Txt.run_ok (t:ByteArray) (f b n:Nat) (st:Txt.St) (h:Txt.Ok st n):∃ m,Txt.Ok (Txt.run t f b n st).2.2 m:=by
 induction f generalizing b n st with
 | zero => exact ⟨n,h⟩
 | succ f ih =>
  by_cases hb:b ≤ t.size
  ·by_cases he:(Txt.line st (t.extract b (Txt.eol t b))).1 = 0
   ·rw [Txt.run_go hb he];exact ih _ _ _ (h.line _ he)
   ·rw [Txt.run_err hb he];exact ⟨n,h⟩
  ·rw [Txt.run_end hb];exact ⟨n,h⟩
structure Fair (gt:Txt.Got):Prop where
 up:(Lit.int .i64 gt.up).wf = true
 ex:(Lit.int .i64 gt.ex).wf = true
 len:gt.ls.length ≤ 40
 wf:∀ p ∈ gt.ls,WfP p
theorem fair_none (e:Int) (m:Nat):Fair ⟨0,0,[],e,m⟩:=⟨rfl,rfl,Nat.zero_le _,fun p h => by cases h⟩
theorem numTo_wf {u:ByteArray} (h:u = Txt.em ∨ Txt.isNum u = true):(Lit.int .i64 (Txt.numTo u u.size)).wf = true:=by
 rcases h with rfl | h
 ·rfl
 ·have:=Txt.numTo_le h;exact Txt.wf_num this.1 this.2
theorem Txt.parse_fair (t:ByteArray):Fair (Txt.parse t):=by
 unfold Txt.parse
 split
 ·exact fair_none _ _
 ·split
  ·obtain ⟨m,h⟩:=Txt.run_ok t (t.size + 2) 0 0 Txt.st0 Txt.Ok.start
   generalize (Txt.run t (t.size + 2) 0 0 Txt.st0).2.2 = st at *
   unfold Txt.done
   split
   ·exact ⟨numTo_wf h.u,numTo_wf h.x,h.len,h.wf⟩
   ·exact fair_none _ _
  ·exact fair_none _ _
structure PW (w:World) (up ex:Int) (av tv:Value) (ls:List (Int × Int)) (b4 b7:Nat) (wx:World):Prop where
 r:wx.heap[w.heap.size]? = some (.cells #[.int .i64 0,.int .i64 0,.slice none 0 0] 33 (0,0))
 a:wx.heap[b4]? = some (.cells #[.int .i64 up,.int .i64 ex,av] 78 (0,0))
 t:wx.heap[b7]? = some (.cells #[.int .i64 up,.int .i64 ex,tv] 33 (0,0))
 own:wx.ownsRow w.heap.size 46 2 tv ls.length (flat ls)
 bel:Below w.heap.size w wx
theorem PW.below {w wx wy:World} {up ex:Int} {av tv:Value} {ls:List (Int × Int)} {b4 b7:Nat} (h:PW w up ex av tv ls b4 b7 wx) (hb:Below wx.heap.size wx wy):PW w up ex av tv ls b4 b7 wy :=
 ⟨(hb.block _ (lt_of_heap h.r)).trans h.r,(hb.block _ (lt_of_heap h.a)).trans h.a,(hb.block _ (lt_of_heap h.t)).trans h.t,own_down h.own hb,h.bel.trans (hb.mono h.bel.size)⟩
theorem PW.set {w wx:World} {up ex:Int} {av tv:Value} {ls:List (Int × Int)} {b4 b7 g:Nat} {cs:Array Value} (h:PW w up ex av tv ls b4 b7 wx) (hg:wx.heap[g]? = some (.cells cs 84 (0,0))) (h0:w.heap.size ≤ g) (j:Nat) (v:Value) :
  PW w up ex av tv ls b4 b7 (wx.setCell ⟨g,j,none⟩ v):=by
 have n1:w.heap.size ≠ g:=fun e => by have:=h.r;rw [e,hg] at this;simp at this
 have n2:b4 ≠ g:=fun e => by have:=h.a;rw [e,hg] at this;simp at this
 have n3:b7 ≠ g:=fun e => by have:=h.t;rw [e,hg] at this;simp at this
 exact ⟨(heap_setCell_other _ _ _ _ n1).trans h.r,(heap_setCell_other _ _ _ _ n2).trans h.a,(heap_setCell_other _ _ _ _ n3).trans h.t,own_set (p:=⟨g,j,none⟩) h.own hg (by decide) v,h.bel.setCell (p:=⟨g,j,none⟩) h0 v⟩
def PSaid (w:World) (gt:Txt.Got) (e:Ending) (w':World):Prop:=∃ lv,e = .returned (.tuple #[.agg #[.int .i64 gt.up,.int .i64 gt.ex,lv],.bool true]) ∧ w'.ownsRow w.heap.size 46 2 lv gt.ls.length (flat gt.ls) ∧ Below w.heap.size w w'
theorem parsed_any (s:ByteArray) (w:World) (hs:s.size ≤ 1000000) (hT:Table w) :
  Calls Tryz.prog 24 #[.string s] w fun e w' => PSaid w (Txt.parse s) e w':=by
 have B0:=hid' ((Below.refl w.heap.size w).alloc (Nat.le_refl _) (.cells #[.int .i64 0,.int .i64 0,.slice none 0 0] 33))
 have R0:=hid' (heap_alloc_new w (.cells #[.int .i64 0,.int .i64 0,.slice none 0 0] 33))
 have hz0:(w.alloc (.cells #[.int .i64 0,.int .i64 0,.slice none 0 0] 33)).heap.size = w.heap.size + 1:=by simp
 have HP:=hid' (fun W (h:Table W) => smear_parse s W hs h)
 have HR:=hid' (fun W => ref_parse s W hs)
 have HT:=hid' hT
 have hfair:=Txt.parse_fair s
 have hlen:=hfair.len
 clear hT hfair
 generalize Txt.parse s = gt at *
 obtain ⟨up,ex,ls,er,nm⟩:=gt
 simp only at hlen
 go_enter Tryz.func24,Tryz.ntmps24
 go_wp2_with fail
 refine (HP.out _ (HT.out.below B0.out)).mono ?_
 rintro e w1 ⟨av,rfl,oa,hb1⟩
 simp only at oa
 have hav:∃ ao c,av = .slice ao ls.length c:=by
  rcases oa.2 with ⟨h,e⟩ | ⟨g,cap,cur,h,_⟩
  ·exact ⟨_,_,by rw [h,e]⟩
  ·exact ⟨_,_,h⟩
 obtain ⟨aa,ac,rfl⟩:=hav
 have b1:=B0.out.trans (hb1.mono B0.out.size)
 have r1:=(hb1.block _ (lt_of_heap R0.out)).trans R0.out
 have bA:=(Below.refl w1.heap.size w1).alloc (Nat.le_refl _) (.cells #[.int .i64 up,.int .i64 ex,.slice aa ls.length ac] 78)
 have ra:=heap_alloc_new w1 (.cells #[.int .i64 up,.int .i64 ex,.slice aa ls.length ac] 78)
 have r1a:=(bA.block _ (lt_of_heap r1)).trans r1
 have oaa:=own_down oa bA
 have b1a:=b1.trans (bA.mono b1.size)
 have RA:=hid' ra
 have R1:=hid' r1a
 have OA:=hid' oaa
 have B1:=hid' b1a
 clear oa hb1 b1 r1 bA ra r1a oaa b1a
 go_wp2_with fail
 refine (HR.out _).mono ?_
 rintro e w2 ⟨tv,rfl,ot,hb2⟩
 simp only at ot
 have htv:∃ ao c,tv = .slice ao ls.length c:=by
  rcases ot.2 with ⟨h,e⟩ | ⟨g,cap,cur,h,_⟩
  ·exact ⟨_,_,by rw [h,e]⟩
  ·exact ⟨_,_,h⟩
 obtain ⟨ta,tc,rfl⟩:=htv
 have b2:=B1.out.trans (hb2.mono B1.out.size)
 have ra2:=(hb2.block _ (lt_of_heap RA.out)).trans RA.out
 have r2:=(hb2.block _ (lt_of_heap R1.out)).trans R1.out
 have oa2:=own_down OA.out hb2
 have hsz:=B1.out.size
 have bT:=(Below.refl w2.heap.size w2).alloc (Nat.le_refl _) (.cells #[.int .i64 up,.int .i64 ex,.slice ta ls.length tc] 33)
 have P3:PW w up ex (.slice aa ls.length ac) (.slice ta ls.length tc) ls w1.heap.size w2.heap.size (w2.alloc (.cells #[.int .i64 up,.int .i64 ex,.slice ta ls.length tc] 33)) :=
  ⟨(bT.block _ (lt_of_heap r2)).trans r2,(bT.block _ (lt_of_heap ra2)).trans ra2,heap_alloc_new _ _,own_wide (own_down ot bT) (by omega),b2.trans (bT.mono b2.size)⟩
 have oa3:=own_down oa2 bT
 have a0:=cell_of_row _ _ 0 _ _ _ ra2
 have a1:=cell_of_row _ _ 1 _ _ _ ra2
 have a2:=cell_of_row _ _ 2 _ _ _ ra2
 simp at a0 a1 a2
 have l1:=lt_of_heap ra2
 have HSM:=hid' (same_yes up ex _ _ ls _ (held_of oa3) (held_ref P3.own) (by omega))
 have P3:=hid' P3
 have OA3:=hid' oa3
 generalize hb4:w1.heap.size = b4 at *
 clear hb4 RA R1 OA B1 ot hb2 b2 ra2 r2 oa2 hsz bT oa3
 go_wp2_with fail
 refine HSM.out.mono ?_
 rintro e w4 ⟨rfl,hb4⟩
 have P4:=P3.out.below hb4
 have oa4:=own_down OA3.out hb4
 have hga:∀ _:0 < ls.length,∃ g cap cur,aa = some ⟨g,0,none⟩ ∧ ac = cap ∧ w.heap.size ≤ g ∧ w4.heap[g]? = some (.cells cur 84 (0,0)) ∧ ls.length * 2 ≤ cur.size:=fun h => by
  rcases oa4.2 with ⟨_,e⟩ | ⟨g,cap,cur,e,hbg,hh,hc,_,hcs,_⟩
  ·omega
  ·obtain ⟨e1,_,e2⟩:=Value.slice.inj e
   exact ⟨g,cap,cur,e1,e2,by rw [hz0] at hbg;omega,hh,by rw [hcs];omega⟩
 have HGA:=hid' hga
 have P4:=hid' P4
 generalize hb7:w2.heap.size = b7 at *
 clear hb7 hb4 oa4 hga HSM OA3 P3 a0 a1 a2 l1
 go_wp2_with fail
 go_loopw [11] (fun i wr => ∃ j:Nat,j ≤ ls.length ∧ i = .int .i64 j ∧ PW w up ex (.slice aa ls.length ac) (.slice ta ls.length tc) ls b4 b7 wr ∧ (0 < ls.length → ∃ g cur,aa = some ⟨g,0,none⟩ ∧ w.heap.size ≤ g ∧ wr.heap[g]? = some (.cells cur 84 (0,0)) ∧ ls.length * 2 ≤ cur.size)) (fun i _ => ls.length - (intOf i).toNat)
 case atStart => exact ⟨0,by omega,rfl,P4.out,fun h => by obtain ⟨g,cap,cur,a,_,b,c,d⟩:=HGA.out h;exact ⟨g,cur,a,b,c,d⟩⟩
 case round =>
  clear HGA P4
  obtain ⟨j,hj,rfl,hP,hG⟩:=hrel
  have c2:=cell_of_row _ _ 2 _ _ _ hP.a
  simp at c2
  by_cases hlt:j < ls.length
  ·obtain ⟨g,cur,rfl,hg0,hrow,hcs⟩:=hG (by omega)
   obtain ⟨o0,p0⟩:∃ v,wr.cell? ⟨g,j * 2,none⟩ = some v:=by rw [cell_of_row _ _ (j * 2) _ _ _ hrow,Array.getElem?_eq_getElem (by omega)];exact ⟨_,rfl⟩
   obtain ⟨o1,p1⟩:∃ v,wr.cell? ⟨g,j * 2 + 1,none⟩ = some v:=by rw [cell_of_row _ _ (j * 2 + 1) _ _ _ hrow,Array.getElem?_eq_getElem (by omega)];exact ⟨_,rfl⟩
   have f0:=frozen_of_row _ _ (j * 2) _ _ hrow
   have f1:=frozen_of_row _ _ (j * 2 + 1) _ _ hrow
   have e1:=heap_setCell_same _ g (j * 2) _ _ (.int .i64 (-7)) hrow
   have e2:=heap_setCell_same _ g (j * 2 + 1) _ _ (.int .i64 0) e1
   have E2:=hid' e2
   have PN:=hid' ((hP.set hrow hg0 (j * 2) (.int .i64 (-7))).set e1 hg0 (j * 2 + 1) (.int .i64 0))
   have HCS:=hid' hcs
   clear hrow e1 e2 hP hG hcs
   go_wp2
   go_roundw
   case rel => exact ⟨j + 1,by omega,by go_num,PN.out,fun _ => ⟨g,_,rfl,hg0,E2.out,by simp;exact HCS.out⟩⟩
   case measure => simp [intOf];omega
  ·have hnl:¬ (j:Int) < (ls.length:Int):=by omega
   have P5:=hid' hP
   have HTT:=hid' (HT.out.below hP.bel)
   clear hP hG
   go_wp2_with fail
   refine (HP.out _ HTT.out).mono ?_
   rintro e w5 ⟨bv,rfl,ob,hb5⟩
   simp only at ob
   have hbv:∃ ao c,bv = .slice ao ls.length c:=by
    rcases ob.2 with ⟨h,e⟩ | ⟨g,cap,cur,h,_⟩
    ·exact ⟨_,_,by rw [h,e]⟩
    ·exact ⟨_,_,h⟩
   obtain ⟨ba,bc,rfl⟩:=hbv
   have P6:=P5.out.below hb5
   have bB:=(Below.refl w5.heap.size w5).alloc (Nat.le_refl _) (.cells #[.int .i64 up,.int .i64 ex,.slice ba ls.length bc] 78)
   have P7:=P6.below bB
   have ob7:=own_down ob bB
   have t0:=cell_of_row _ _ 0 _ _ _ P6.t
   have t1:=cell_of_row _ _ 1 _ _ _ P6.t
   have t2:=cell_of_row _ _ 2 _ _ _ P6.t
   simp at t0 t1 t2
   have l7:=lt_of_heap P6.t
   have HSM:=hid' (same_yes up ex _ _ ls _ (held_of ob7) (held_ref P7.own) (by omega))
   have P7:=hid' P7
   clear P6 bB ob7 ob hb5 P5 HTT c2
   go_wp2_with fail
   refine HSM.out.mono ?_
   rintro e w6 ⟨rfl,hb6⟩
   have P8:=P7.out.below hb6
   have t0':=cell_of_row _ _ 0 _ _ _ P8.t
   have t1':=cell_of_row _ _ 1 _ _ _ P8.t
   have t2':=cell_of_row _ _ 2 _ _ _ P8.t
   have y0:=cell_of_row _ _ 0 _ _ _ P8.r
   have y1:=cell_of_row _ _ 1 _ _ _ P8.r
   have y2:=cell_of_row _ _ 2 _ _ _ P8.r
   simp at t0' t1' t2' y0 y1 y2
   have x0:=frozen_of_row _ _ 0 _ _ P8.r
   have x1:=frozen_of_row _ _ 1 _ _ P8.r
   have x2:=frozen_of_row _ _ 2 _ _ P8.r
   have P8:=hid' P8
   have e1:(er == er) = true:=by simp
   have e2:((nm:Int) == (nm:Int)) = true:=by simp
   clear hb6 t0 t1 t2 HSM P7 l7
   go_wp2_with (first
    | (go_at_call 34;refine (num_any _ _).mono ?_;rintro e w7 ⟨rfl,rfl⟩))
   have hrowE:=z3_row (x:=.int .i64 up) (y:=.int .i64 ex) (z:=.slice ta ls.length tc) P8.out.r
   refine bodyPost_ret (results_row_tmp (p:=2) (u:=3) rfl _ _ w.heap.size #[.int .i64 up,.int .i64 ex,.slice ta ls.length tc] rfl (load_rtable hrowE rfl)) rfl ?_
   exact ⟨.slice ta ls.length tc,rfl,z3_own P8.out.r P8.out.own (by decide),z3_below P8.out.bel (Nat.le_refl _)⟩
end Go.Proofs.YtmmkhodaljpjgaaGreatDoor
namespace Go.Proofs.YtmmkhodaljpjgaaGreatDoor
open Go.RowKit
attribute [local go_sem ↓] Go.wp_at_zero Go.wp_at_succ
theorem infoSrvPtr:(Tryz.prog.info? 40).map (fun i => (i.zero,i.size,i.bytes)) = some (some (.pointer none),1,8):=by kernel_rfl
theorem Blk.at6 {bW:Nat} {tv lv xs:Value} {up ex se fr:Int} {w:World} (h:Blk bW tv up ex lv se fr xs w) (v:Value):Blk bW tv up ex lv se fr v (w.setCell ⟨bW,6,none⟩ v):=by
 unfold Blk at *;rw [heap_setCell_same _ _ _ _ _ _ h];simp
theorem inv_add {P:Nat → Sv → (Nat → Prop) → World → Prop} (hP:PLaw P) {B bW n:Nat} {w w1 w3:World} {tv lv xv:Value} {F:Nat → Prop} {ts:List ByteArray} {ls:List (Int × Int)} {up ex se fr:Int} {L:List Rc} {r:Rc} {gg cap:Nat} (le:B ≤ bW) (hb:Blk bW tv up ex lv se fr xv w) (ht:w.ownsRow B 9 1 tv ts.length (ts.map Value.string))
  (hl:w.ownsRow B 46 2 lv ls.length (flat ls)) (h1:ts.length ≤ n) (h2:ls.length ≤ n + 40) (h3:Nums ts ls up ex se fr) (h4:Many P B n F xv L w) (h5:∀ k,F k → lv.ownBlock ≠ some k) (hB:B ≤ w.heap.size) (b1:Below w.heap.size w w1) (hr:r.Ok P 0 w1) (hf:∀ k,r.F k → w.heap.size ≤ k)
  (own3:w3.ownsRow B 40 1 (.slice (some ⟨gg,0,none⟩) (L.length + 1) cap) (L.length + 1) (L.map Rc.ptr ++ [r.ptr])) (hg:w1.grownBy w3 xv.ownBlock) (hat:xv.ownBlock = some gg ∨ w1.heap.size ≤ gg) :
  Inv (srvXs P hP B) B bW (n + 1) (w3.setCell ⟨bW,6,none⟩ (.slice (some ⟨gg,0,none⟩) (L.length + 1) cap)) ∧ Keep 27 w (w3.setCell ⟨bW,6,none⟩ (.slice (some ⟨gg,0,none⟩) (L.length + 1) cap)) ∧ Below B w (w3.setCell ⟨bW,6,none⟩ (.slice (some ⟨gg,0,none⟩) (L.length + 1) cap)):=by
 have x1:w1.ownsRow B 40 1 xv L.length (L.map Rc.ptr):=own_down h4.own b1
 have bw1:Blk bW tv up ex lv se fr xv w1:=(b1.block _ hb.lt).trans hb
 have bw3:=bw1.grown hg x1 (by decide)
 have t3:=own_grown (own_down ht b1) hg x1 (by decide)
 have l3:=own_grown (own_down hl b1) hg x1 (by decide)
 obtain ⟨F',L',mn,ff⟩:=h4.add hP b1 (hr.up (Nat.zero_le (n + 1))) hf hg own3 (fun k e => by
  obtain rfl:gg = k:=by simpa [Value.ownBlock] using e
  exact hat) (Nat.lt_succ_self n) hB
 have bel3:Below B w w3:=(b1.mono hB).grown hg (by have:=b1.size;omega) (own_ge x1)
 refine ⟨⟨le,tv,lv,_,F',ts,ls,up,ex,se,fr,bw3.at6 _,bw3.own t3 (by decide) 6 _,bw3.own l3 (by decide) 6 _,by omega,by omega,h3,⟨⟨L',mn.keep hP (fun k e => ?_)⟩,fun k e q => ?_⟩⟩,((Keep.below b1).grown hg x1 (by decide)).setCell (p:=⟨bW,6,none⟩) bw3 (by decide) _,bel3.setCell le _⟩
 ·obtain ⟨cs,ty,fr',hh,a,_⟩:=mn.typ hP k e
  refine heap_setCell_other _ _ _ _ (fun q => ?_)
  simp only at q
  subst q
  rw [bw3] at hh
  cases hh
  exact a rfl
 ·obtain ⟨cs,f,hh⟩:=own_typ hl q
  have:=lt_of_heap hh
  rcases ff k e with a | a
  ·exact h5 k a q
  ·omega
theorem pure_made15 {P:Nat → Sv → (Nat → Prop) → World → Prop} (hP:PLaw P) (B bW n:Nat) (o:Op) (w:World) (hn:n ≤ 90000) (hI:Inv (srvXs P hP B) B bW n w) (hB:B ≤ w.heap.size) (hk:o.kind = 15)
  (hM:∀ W s f,Calls Tryz.prog 27 #[.int .i64 0,.int .i64 0,.int .i64 o.c,.int .i64 o.d,.agg #[.int .i64 s,.int .i64 f]] W fun e w' => MadeP P W e w') :
  Calls Tryz.prog 17 #[.pointer (some ⟨bW,0,none⟩),.agg #[.int .i64 o.kind,.int .i64 o.x,.int .i64 o.a,.int .i64 o.b,.int .i64 o.c,.int .i64 o.d,.string o.s]] w fun e w' => e = .returned (.bool true) ∧ Inv (srvXs P hP B) B bW (n + 1) w' ∧ Keep 27 w w' ∧ Below B w w':=by
 obtain ⟨k,x,a,b,c,d,s⟩:=o
 simp only at *
 subst hk
 obtain ⟨i0,hi0,hz0,hz1,hz2⟩:=info_parts infoSrvPtr
 have HI:=hid' hI
 obtain ⟨le,tv,lv,xv,F,ts,ls,up,ex,se,fr,hb,ht,hl,h1,h2,h3,⟨L,h4⟩,h5⟩:=hI
 have HB0:=hid' ((Below.refl w.heap.size w).alloc (Nat.le_refl _) (.cells #[.int .i64 15,.int .i64 x,.int .i64 a,.int .i64 b,.int .i64 c,.int .i64 d,.string s] 27))
 have HMM:=hid' (fun W => hM W se fr)
 have HB:=hid' hb
 have HT:=hid' ht
 have HL:=hid' hl
 have H4:=hid' h4
 have H5:=hid' h5
 have hlt:=hb.lt
 have c4:=hb.cell 4
 have c5:=hb.cell 5
 simp at c4 c5
 have hll:=h4.len
 clear hb ht hl h4 h5 hM
 go_enter Tryz.func17,Tryz.ntmps17
 go_upto_region 26 with fail
 have RO:=hid' (heap_alloc_new w (.cells #[.int .i64 15,.int .i64 x,.int .i64 a,.int .i64 b,.int .i64 c,.int .i64 d,.string s] 27))
 have lq:=lt_of_heap RO.out
 have m2:=cell_of_row _ _ 2 _ _ _ RO.out
 have m3:=cell_of_row _ _ 3 _ _ _ RO.out
 have m4:=cell_of_row _ _ 4 _ _ _ RO.out
 have m5:=cell_of_row _ _ 5 _ _ _ RO.out
 simp only [List.getElem?_toArray,List.getElem?_cons_succ,List.getElem?_cons_zero] at m2 m3 m4 m5
 have lw:=Nat.lt_of_lt_of_le hlt HB0.out.size
 have v4:=(HB0.out.cell (p:=⟨bW,4,none⟩) hlt).trans c4
 have v5:=(HB0.out.cell (p:=⟨bW,5,none⟩) hlt).trans c5
 generalize hQ:w.heap.size = Q at *
 generalize hV:w.alloc (.cells #[.int .i64 15,.int .i64 x,.int .i64 a,.int .i64 b,.int .i64 c,.int .i64 d,.string s] 27) = V at *
 have QV:Q ≤ V.heap.size:=by rw [← hQ];exact HB0.out.size
 go_cut [5,11] from 12 (fun s5 s11 wx => s5 = .bool true ∧ Below Q w wx ∧ (s11 = .pointer none ∨ ∃ r:Rc,r.Ok P 0 wx ∧ (∀ k,r.F k → Q ≤ k) ∧ s11 = .pointer (some ⟨r.bc,0,none⟩)))
 case first =>
  clear hQ hV c4 c5 HB HT HL H4 H5 HI h1 h2 h3 hll
  go_region_held3 (fun w' => w'.cell? ⟨Q,4,none⟩ = some (.int .i64 c) ∧ w'.cell? ⟨Q,5,none⟩ = some (.int .i64 d) ∧ w'.cell? ⟨bW,4,none⟩ = some (.int .i64 se) ∧ w'.cell? ⟨bW,5,none⟩ = some (.int .i64 fr)) (go_keep)
   (first
    | (go_at_call 27;refine (HMM.out _).mono ?_;rintro e w1 ⟨pv,rfl,hb1,hm1⟩;have n2:=(hb1.cell (p:=⟨Q,2,none⟩) (by exact lq)).trans m2;have n3:=(hb1.cell (p:=⟨Q,3,none⟩) (by exact lq)).trans m3;have n4:=(hb1.cell (p:=⟨Q,4,none⟩) (by exact lq)).trans m4;have n5:=(hb1.cell (p:=⟨Q,5,none⟩) (by exact lq)).trans m5;have y4:=(hb1.cell (p:=⟨bW,4,none⟩) (by exact lw)).trans v4;have y5:=(hb1.cell (p:=⟨bW,5,none⟩) (by exact lw)).trans v5;have B1:=hid' (HB0.out.drew.trans (hb1.mono (by exact QV)));have M1:=hid' hm1;clear hb1 hm1))
  all_goals
   go_wp2_with fail
   go_meet
   case rel =>
    refine ⟨rfl,B1.out,?_⟩
    rcases M1.out with h | ⟨r,rok,rf,h⟩
    ·exact .inl h
    ·exact .inr ⟨r,rok,fun k e => Nat.le_trans (by exact QV) (rf k e),h⟩
 case rest =>
  obtain ⟨rfl,b1,mm⟩:=hcut
  rename World => w1
  clear m2 m3 m4 m5 v4 v5 lq lw RO HB0 HMM QV
  subst hQ
  have B1:=hid' b1
  clear b1 c4 c5 hV
  rcases mm with rfl | ⟨r,rok,rf,rfl⟩
  ·go_wp2
   go_ret
   exact ⟨rfl,(HI.out.below B1.out).up (Nat.le_succ _),Keep.below B1.out,B1.out.mono hB⟩
  ·have ROK:=hid' rok
   have RF:=hid' rf
   have X1:=hid' (own_down H4.out.own B1.out)
   have BL:=hid' (show Blk bW tv up ex lv se fr xv w1 from (B1.out.block _ hlt).trans HB.out)
   have v6:=BL.out.cell 6
   have hlt1:=BL.out.lt
   have hs1:=B1.out.size
   simp at v6
   obtain ⟨xa,xcp,hxv⟩:=own_slice X1.out
   subst hxv
   have fz1:∀ o,(w1.alloc o).frozen? ⟨bW,6,none⟩ = false:=fun o => (BL.out.alloc o).free 6
   clear rok rf
   go_wp2_with (at_builtin;refine wpList_append_lies _ (by rfl) (.tmp 116) (.tmp 118) 36 (by rfl) B 40 i0 (.pointer none) 1 8 Tryz.underlying36 hi0 hz0 hz1 hz2 rfl (by decide) (.slice xa L.length xcp) L.length (L.map Rc.ptr) (by rfl) (X1.out.alloc _) ⟨w1.heap.size,0,none⟩ 1 1 [.pointer (some ⟨r.bc,0,none⟩)] (by rfl) (by rfl) (World.news_of_block (cs:=#[.pointer (some ⟨r.bc,0,none⟩)]) (t:=40) (fr:=(0,0)) (heap_alloc_new w1 _)) (by simp [Value.oneCell']) (by decide) (by unfold maxLen;omega) (by omega) (by simp <;> omega) (w1.heap.size + 1) (by simp) ?_;intro g3 cap3 w3 own3 hg3 hat3 hlt3;have B3:=hid' ((BL.out.alloc (.cells #[.pointer (some ⟨r.bc,0,none⟩)] 40)).grown hg3 (X1.out.alloc _) (by decide));have d3:=B3.out.cell 6;have f3:=B3.out.free 6;simp at d3;have OWN3:=hid' own3;have HG3:=hid' hg3;have HAT3:=hid' hat3;clear own3 hg3 hat3)
   go_ret
   have BA:=(Below.refl w1.heap.size w1).alloc (Nat.le_refl _) (.cells #[.pointer (some ⟨r.bc,0,none⟩)] 40)
   exact ⟨rfl,inv_add hP le HB.out HT.out HL.out h1 h2 h3 H4.out H5.out hB (B1.out.trans (BA.mono hs1)) (ROK.out.keep hP (fun k e => BA.block k (ROK.out.low hP k e))) RF.out OWN3.out HG3.out (by
    rcases HAT3.out with q | q
    ·exact .inl q
    ·exact .inr (by simp <;> omega))⟩
theorem pure_made16 {P:Nat → Sv → (Nat → Prop) → World → Prop} (hP:PLaw P) (B bW n:Nat) (o:Op) (w:World) (hn:n ≤ 90000) (hI:Inv (srvXs P hP B) B bW n w) (hB:B ≤ w.heap.size) (hk:o.kind = 16)
  (hM:∀ W s f,Calls Tryz.prog 27 #[.int .i64 o.a,.int .i64 o.b,.int .i64 o.c,.int .i64 o.d,.agg #[.int .i64 s,.int .i64 f]] W fun e w' => MadeP P W e w') :
  Calls Tryz.prog 17 #[.pointer (some ⟨bW,0,none⟩),.agg #[.int .i64 o.kind,.int .i64 o.x,.int .i64 o.a,.int .i64 o.b,.int .i64 o.c,.int .i64 o.d,.string o.s]] w fun e w' => e = .returned (.bool true) ∧ Inv (srvXs P hP B) B bW (n + 1) w' ∧ Keep 27 w w' ∧ Below B w w':=by
 obtain ⟨k,x,a,b,c,d,s⟩:=o
 simp only at *
 subst hk
 obtain ⟨i0,hi0,hz0,hz1,hz2⟩:=info_parts infoSrvPtr
 have HI:=hid' hI
 obtain ⟨le,tv,lv,xv,F,ts,ls,up,ex,se,fr,hb,ht,hl,h1,h2,h3,⟨L,h4⟩,h5⟩:=hI
 have HB0:=hid' ((Below.refl w.heap.size w).alloc (Nat.le_refl _) (.cells #[.int .i64 16,.int .i64 x,.int .i64 a,.int .i64 b,.int .i64 c,.int .i64 d,.string s] 27))
 have HMM:=hid' (fun W => hM W se fr)
 have HB:=hid' hb
 have HT:=hid' ht
 have HL:=hid' hl
 have H4:=hid' h4
 have H5:=hid' h5
 have hlt:=hb.lt
 have c4:=hb.cell 4
 have c5:=hb.cell 5
 simp at c4 c5
 have hll:=h4.len
 clear hb ht hl h4 h5 hM
 go_enter Tryz.func17,Tryz.ntmps17
 go_upto_region 27 with fail
 have RO:=hid' (heap_alloc_new w (.cells #[.int .i64 16,.int .i64 x,.int .i64 a,.int .i64 b,.int .i64 c,.int .i64 d,.string s] 27))
 have lq:=lt_of_heap RO.out
 have m2:=cell_of_row _ _ 2 _ _ _ RO.out
 have m3:=cell_of_row _ _ 3 _ _ _ RO.out
 have m4:=cell_of_row _ _ 4 _ _ _ RO.out
 have m5:=cell_of_row _ _ 5 _ _ _ RO.out
 simp only [List.getElem?_toArray,List.getElem?_cons_succ,List.getElem?_cons_zero] at m2 m3 m4 m5
 have lw:=Nat.lt_of_lt_of_le hlt HB0.out.size
 have v4:=(HB0.out.cell (p:=⟨bW,4,none⟩) hlt).trans c4
 have v5:=(HB0.out.cell (p:=⟨bW,5,none⟩) hlt).trans c5
 generalize hQ:w.heap.size = Q at *
 generalize hV:w.alloc (.cells #[.int .i64 16,.int .i64 x,.int .i64 a,.int .i64 b,.int .i64 c,.int .i64 d,.string s] 27) = V at *
 have QV:Q ≤ V.heap.size:=by rw [← hQ];exact HB0.out.size
 go_cut [5,11] from 12 (fun s5 s11 wx => s5 = .bool true ∧ Below Q w wx ∧ (s11 = .pointer none ∨ ∃ r:Rc,r.Ok P 0 wx ∧ (∀ k,r.F k → Q ≤ k) ∧ s11 = .pointer (some ⟨r.bc,0,none⟩)))
 case first =>
  clear hQ hV c4 c5 HB HT HL H4 H5 HI h1 h2 h3 hll
  go_region_held3 (fun w' => w'.cell? ⟨Q,2,none⟩ = some (.int .i64 a) ∧ w'.cell? ⟨Q,3,none⟩ = some (.int .i64 b) ∧ w'.cell? ⟨Q,4,none⟩ = some (.int .i64 c) ∧ w'.cell? ⟨Q,5,none⟩ = some (.int .i64 d) ∧ w'.cell? ⟨bW,4,none⟩ = some (.int .i64 se) ∧ w'.cell? ⟨bW,5,none⟩ = some (.int .i64 fr)) (go_keep)
   (first
    | (go_at_call 27;refine (HMM.out _).mono ?_;rintro e w1 ⟨pv,rfl,hb1,hm1⟩;have n2:=(hb1.cell (p:=⟨Q,2,none⟩) (by exact lq)).trans m2;have n3:=(hb1.cell (p:=⟨Q,3,none⟩) (by exact lq)).trans m3;have n4:=(hb1.cell (p:=⟨Q,4,none⟩) (by exact lq)).trans m4;have n5:=(hb1.cell (p:=⟨Q,5,none⟩) (by exact lq)).trans m5;have y4:=(hb1.cell (p:=⟨bW,4,none⟩) (by exact lw)).trans v4;have y5:=(hb1.cell (p:=⟨bW,5,none⟩) (by exact lw)).trans v5;have B1:=hid' (HB0.out.drew.trans (hb1.mono (by exact QV)));have M1:=hid' hm1;clear hb1 hm1))
  all_goals
   go_wp2_with fail
   go_meet
   case rel =>
    refine ⟨rfl,B1.out,?_⟩
    rcases M1.out with h | ⟨r,rok,rf,h⟩
    ·exact .inl h
    ·exact .inr ⟨r,rok,fun k e => Nat.le_trans (by exact QV) (rf k e),h⟩
 case rest =>
  obtain ⟨rfl,b1,mm⟩:=hcut
  rename World => w1
  clear m2 m3 m4 m5 v4 v5 lq lw RO HB0 HMM QV
  subst hQ
  have B1:=hid' b1
  clear b1 c4 c5 hV
  rcases mm with rfl | ⟨r,rok,rf,rfl⟩
  ·go_wp2
   go_ret
   exact ⟨rfl,(HI.out.below B1.out).up (Nat.le_succ _),Keep.below B1.out,B1.out.mono hB⟩
  ·have ROK:=hid' rok
   have RF:=hid' rf
   have X1:=hid' (own_down H4.out.own B1.out)
   have BL:=hid' (show Blk bW tv up ex lv se fr xv w1 from (B1.out.block _ hlt).trans HB.out)
   have v6:=BL.out.cell 6
   have hlt1:=BL.out.lt
   have hs1:=B1.out.size
   simp at v6
   obtain ⟨xa,xcp,hxv⟩:=own_slice X1.out
   subst hxv
   have fz1:∀ o,(w1.alloc o).frozen? ⟨bW,6,none⟩ = false:=fun o => (BL.out.alloc o).free 6
   clear rok rf
   go_wp2_with (at_builtin;refine wpList_append_lies _ (by rfl) (.tmp 116) (.tmp 118) 36 (by rfl) B 40 i0 (.pointer none) 1 8 Tryz.underlying36 hi0 hz0 hz1 hz2 rfl (by decide) (.slice xa L.length xcp) L.length (L.map Rc.ptr) (by rfl) (X1.out.alloc _) ⟨w1.heap.size,0,none⟩ 1 1 [.pointer (some ⟨r.bc,0,none⟩)] (by rfl) (by rfl) (World.news_of_block (cs:=#[.pointer (some ⟨r.bc,0,none⟩)]) (t:=40) (fr:=(0,0)) (heap_alloc_new w1 _)) (by simp [Value.oneCell']) (by decide) (by unfold maxLen;omega) (by omega) (by simp <;> omega) (w1.heap.size + 1) (by simp) ?_;intro g3 cap3 w3 own3 hg3 hat3 hlt3;have B3:=hid' ((BL.out.alloc (.cells #[.pointer (some ⟨r.bc,0,none⟩)] 40)).grown hg3 (X1.out.alloc _) (by decide));have d3:=B3.out.cell 6;have f3:=B3.out.free 6;simp at d3;have OWN3:=hid' own3;have HG3:=hid' hg3;have HAT3:=hid' hat3;clear own3 hg3 hat3)
   go_ret
   have BA:=(Below.refl w1.heap.size w1).alloc (Nat.le_refl _) (.cells #[.pointer (some ⟨r.bc,0,none⟩)] 40)
   exact ⟨rfl,inv_add hP le HB.out HT.out HL.out h1 h2 h3 H4.out H5.out hB (B1.out.trans (BA.mono hs1)) (ROK.out.keep hP (fun k e => BA.block k (ROK.out.low hP k e))) RF.out OWN3.out HG3.out (by
    rcases HAT3.out with q | q
    ·exact .inl q
    ·exact .inr (by simp <;> omega))⟩
theorem does_made15 {P:Nat → Sv → (Nat → Prop) → World → Prop} (hP:PLaw P) {B n:Nat} {o:Op} {w:World} (hn:n ≤ 90000) (hk:o.kind = 15)
  (hM:∀ W s f,Calls Tryz.prog 27 #[.int .i64 0,.int .i64 0,.int .i64 o.c,.int .i64 o.d,.agg #[.int .i64 s,.int .i64 f]] W fun e w' => MadeP P W e w'):Does (srvXs P hP B) B B n o w :=
 does_pure (.inr (by omega)) (by omega) (fun w1 hI hB _ => pure_made15 hP B B n o w1 hn hI hB hk hM)
theorem does_made16 {P:Nat → Sv → (Nat → Prop) → World → Prop} (hP:PLaw P) {B n:Nat} {o:Op} {w:World} (hn:n ≤ 90000) (hk:o.kind = 16)
  (hM:∀ W s f,Calls Tryz.prog 27 #[.int .i64 o.a,.int .i64 o.b,.int .i64 o.c,.int .i64 o.d,.agg #[.int .i64 s,.int .i64 f]] W fun e w' => MadeP P W e w'):Does (srvXs P hP B) B B n o w :=
 does_pure (.inr (by omega)) (by omega) (fun w1 hI hB _ => pure_made16 hP B B n o w1 hn hI hB hk hM)
end Go.Proofs.YtmmkhodaljpjgaaGreatDoor
namespace Go.Proofs.YtmmkhodaljpjgaaGreatDoor
open Go.RowKit
theorem pure_parse {X:Xs} (B bW n:Nat) (o:Op) (w:World) (ho:o.Ok) (hn:n ≤ 100000) (hI:Inv X B bW n w) (hB:B ≤ w.heap.size) (hT:Table w) (hk:o.kind = 10) :
  Calls Tryz.prog 17 #[.pointer (some ⟨bW,0,none⟩),.agg #[.int .i64 o.kind,.int .i64 o.x,.int .i64 o.a,.int .i64 o.b,.int .i64 o.c,.int .i64 o.d,.string o.s]] w fun e w' => e = .returned (.bool true) ∧ Inv X B bW n w' ∧ Keep 27 w w' ∧ Below B w w':=by
 have hTx:=text_any B bW n o.a (w.alloc (.cells #[.int .i64 o.kind,.int .i64 o.x,.int .i64 o.a,.int .i64 o.b,.int .i64 o.c,.int .i64 o.d,.string o.s] 27)) ho.a hn (inv_alloc hI _)
 have HTx:=hid' hTx
 have HT:=hid' hT
 have HI:=hid' hI
 clear hTx ho hI hT
 obtain ⟨k,x,a,b,c,d,s⟩:=o
 simp only at *
 subst hk
 have HB0:=hid' ((Below.refl w.heap.size w).alloc (Nat.le_refl _) (.cells #[.int .i64 10,.int .i64 x,.int .i64 a,.int .i64 b,.int .i64 c,.int .i64 d,.string s] 27))
 go_enter Tryz.func17,Tryz.ntmps17
 go_wp2_with fail
 refine HTx.out.mono ?_
 rintro e w1 ⟨t,m,rfl,hts,hw1⟩
 have hb1:Below w.heap.size w w1:=by rw [hw1];exact below_drewN HB0.out m
 have HB1:=hid' hb1
 have HT1:=hid' (HT.out.below hb1)
 have hs1:=hb1.size
 clear hw1 hb1 HTx
 go_wp2_with fail
 refine (parsed_any t w1 (by omega) HT1.out).mono ?_
 rintro e w2 ⟨lv,rfl,ol,hb2⟩
 have hb3:=HB1.out.trans (hb2.mono HB1.out.size)
 obtain ⟨le,tv,lv0,xv,F,ts,ls0,up0,ex0,se,fr,hbw,htw,hlw,h1,h2,h3,h4⟩:=HI.out
 have hb:Blk bW tv up0 ex0 lv0 se fr xv w2:=(hb3.block _ hbw.lt).trans hbw
 have ht:=own_down htw hb3
 have H4:=hid' h4
 have ge:∀ k,lv.ownBlock = some k → w.heap.size ≤ k:=fun k hk => Nat.le_trans hs1 (own_ge ol k hk)
 have GE:=hid' ge
 clear hbw htw hlw h4 ge
 have fair:=Txt.parse_fair t
 generalize Txt.parse t = gt at *
 obtain ⟨up,ex,ls,er,nm⟩:=gt
 simp only at ol
 have hlv:∃ ao l cp,lv = .slice ao l cp:=by
  rcases ol.2 with ⟨h,_⟩ | ⟨g,cap,cur,h,_⟩
  ·exact ⟨_,_,_,h⟩
  ·exact ⟨_,_,_,h⟩
 obtain ⟨ao,ll,cp,rfl⟩:=hlv
 have c1:=hb.cell 1
 have c2:=hb.cell 2
 have c3:=hb.cell 3
 have f1:=hb.free 1
 have f2:=hb.free 2
 have f3:=hb.free 3
 simp at c1 c2 c3
 have HB:=hid' hb
 have HTV:=hid' ht
 have HOL:=hid' ol
 have HB3:=hid' hb3
 have HF:=hid' fair
 clear hb ht ol hb2 hb3 fair HB1 HT1 HI HT
 simp only at *
 go_wp2
 go_ret
 have q1:=HB.out.at1 up
 have q2:=q1.at2 ex
 have q3:=q2.at3 (.slice ao ll cp)
 have tv3:=q2.own (q1.own (HB.out.own HTV.out (by decide) 1 (.int .i64 up)) (by decide) 2 (.int .i64 ex)) (by decide) 3 (.slice ao ll cp)
 have lv3:=q2.own (q1.own (HB.out.own (own_wide HOL.out (show B ≤ w1.heap.size by omega)) (by decide) 1 (.int .i64 up)) (by decide) 2 (.int .i64 ex)) (by decide) 3 (.slice ao ll cp)
 have kp:Keeps w _:=q2.keeps (q1.keeps (HB.out.keeps (Keeps.below HB3.out) 1 (.int .i64 up)) 2 (.int .i64 ex)) 3 (.slice ao ll cp)
 have bl:=(((HB3.out.mono hB).setCell (p:=⟨bW,1,none⟩) le (.int .i64 up)).setCell (p:=⟨bW,2,none⟩) le (.int .i64 ex)).setCell (p:=⟨bW,3,none⟩) le (.slice ao ll cp)
 have fl:=HF.out.len
 exact ⟨rfl,⟨le,tv,.slice ao ll cp,xv,F,ts,ls,up,ex,se,fr,q3,tv3,lv3,h1,by simp only at fl;omega,⟨h3.txt,HF.out.wf,HF.out.up,HF.out.ex,h3.se,h3.fr⟩,H4.out.fresh kp (Nat.le_refl _) GE.out⟩,kp.op,bl⟩
theorem does_parse {X:Xs} (w:World) (hT:Table w) (o:Op) (hk:o.kind = 10) (hok:o.Ok) (B n:Nat) (wr:World) (hB:w.heap.size ≤ B) (hn:n ≤ 100000) (hb:Below w.heap.size w wr):Does X B B n o wr:=by
 refine does_pure (.inr (by omega)) (by omega) ?_
 intro w1 hI hB1 hb1
 refine (pure_parse B B n o w1 hok hn hI hB1 (hT.below (hb.trans (hb1.mono hB))) hk).mono ?_
 rintro e w' ⟨rfl,h1,h2,h3⟩
 exact ⟨rfl,h1.up (Nat.le_succ _),h2,h3⟩
structure PX (w:World) (up ex:Int) (tv:Value) (ls:List (Int × Int)) (b g B:Nat) (wx:World):Prop where
 t:wx.heap[w.heap.size]? = some (.cells #[.int .i64 up,.int .i64 ex,tv] 33 (0,0))
 a:wx.heap[b]? = some (.cells #[.int .i64 up,.int .i64 ex,.slice (some ⟨g,0,none⟩) ls.length (ls.length + 2)] 78 (0,0))
 h:Handed wx g ls
 own:wx.ownsRow B 46 2 tv ls.length (flat ls)
 bel:Below w.heap.size w wx
theorem PX.below {w wx wy:World} {up ex:Int} {tv:Value} {ls:List (Int × Int)} {b g B:Nat} (h:PX w up ex tv ls b g B wx) (hb:Below wx.heap.size wx wy):PX w up ex tv ls b g B wy :=
 ⟨(hb.block _ (lt_of_heap h.t)).trans h.t,(hb.block _ (lt_of_heap h.a)).trans h.a,h.h.below hb,own_down h.own hb,h.bel.trans (hb.mono h.bel.size)⟩
theorem printed_any (B:Nat) (up ex:Int) (tv:Value) (ls:List (Int × Int)) (w:World) (wu:(Lit.int .i64 up).wf = true) (wx:(Lit.int .i64 ex).wf = true)
  (hown:w.ownsRow B 46 2 tv ls.length (flat ls)) (hn:ls.length ≤ 100000) (hwf:∀ p ∈ ls,WfP p) (hT:Table w) (hP:Pows w) :
  Calls Tryz.prog 25 #[.agg #[.int .i64 up,.int .i64 ex,tv]] w fun e w' => e = .returned (.tuple #[.string (Txt.printed up ex ls).1,.bool true]) ∧ Below w.heap.size w w':=by
 have B0:=hid' ((Below.refl w.heap.size w).alloc (Nat.le_refl _) (.cells #[.int .i64 up,.int .i64 ex,tv] 33))
 have R0:=hid' (heap_alloc_new w (.cells #[.int .i64 up,.int .i64 ex,tv] 33))
 have HHA:=hid' (handed_any up ex tv ls _ (held_below (held_ref hown) B0.out) hn)
 have HOW:=hid' hown
 have HT:=hid' hT
 have HPW:=hid' hP
 clear hT hP
 have htv:∃ ao l cp,tv = .slice ao l cp:=by
  rcases hown.2 with ⟨h,_⟩ | ⟨g,cap,cur,h,_⟩
  ·exact ⟨_,_,_,h⟩
  ·exact ⟨_,_,_,h⟩
 obtain ⟨ao,tl,tcp,rfl⟩:=htv
 have HP:=hid' (fun (W:World) (av:Value) (h:Held W av ls) (h2:Table W) (h3:Pows W) => smear_print av ls up ex W wu wx h hn hwf h2 h3)
 have HR:=hid' (fun (W:World) (h:W.ownsRow B 46 2 (.slice ao tl tcp) ls.length (flat ls)) => ref_print B _ ls up ex W wu wx h hn hwf)
 generalize Txt.printed up ex ls = r at *
 obtain ⟨rs,rn⟩:=r
 simp only at HP HR
 have HST:=hid' (fun (g:Nat) (W:World) (hg:w.heap.size + 1 ≤ g) (h:Handed W g ls) (ht:Held W (.slice ao tl tcp) ls) => still_yes (w.heap.size + 1) g up ex (.slice ao tl tcp) ls W hg h ht hn)
 clear hown wu wx hwf
 go_enter Tryz.func25,Tryz.ntmps25
 go_wp2_with fail
 refine HHA.out.mono ?_
 rintro e w1 ⟨g,hg,rfl,hH,hb⟩
 have hg1:w.heap.size + 1 ≤ g:=by simpa using hg
 have rt1:=(hb.block _ (lt_of_heap R0.out)).trans R0.out
 have bel1:=B0.out.trans (hb.mono B0.out.size)
 have a1:=(Below.refl w1.heap.size w1).alloc (Nat.le_refl _) (.cells #[.int .i64 up,.int .i64 ex,.slice (some ⟨g,0,none⟩) ls.length (ls.length + 2)] 78)
 have L1:PX w up ex (.slice ao tl tcp) ls w1.heap.size g B (w1.alloc (.cells #[.int .i64 up,.int .i64 ex,.slice (some ⟨g,0,none⟩) ls.length (ls.length + 2)] 78)) :=
  ⟨(a1.block _ (lt_of_heap rt1)).trans rt1,heap_alloc_new _ _,hH.below a1,own_down HOW.out (bel1.trans (a1.mono bel1.size)),bel1.trans (a1.mono bel1.size)⟩
 have t01:=cell_of_row _ _ 0 _ _ _ rt1
 have t11:=cell_of_row _ _ 1 _ _ _ rt1
 have t21:=cell_of_row _ _ 2 _ _ _ rt1
 simp at t01 t11 t21
 have l1:=lt_of_heap rt1
 clear hg hH hb HHA rt1 bel1 a1
 have L1:=hid' L1
 go_wp2_with fail
 refine (HP.out _ _ L1.out.h.held (HT.out.below L1.out.bel) (HPW.out.below L1.out.bel)).mono ?_
 rintro e w2 ⟨rfl,hb2⟩
 have L2:=L1.out.below hb2
 clear hb2 t01 t11 t21
 have t02:=cell_of_row _ _ 0 _ _ _ L2.t
 have t12:=cell_of_row _ _ 1 _ _ _ L2.t
 have t22:=cell_of_row _ _ 2 _ _ _ L2.t
 have a02:=cell_of_row _ _ 0 _ _ _ L2.a
 have a12:=cell_of_row _ _ 1 _ _ _ L2.a
 have a22:=cell_of_row _ _ 2 _ _ _ L2.a
 simp at t02 t12 t22 a02 a12 a22
 have L2:=hid' L2
 go_wp2_with fail
 refine (HST.out g _ hg1 L2.out.h (held_ref L2.out.own)).mono ?_
 rintro e w3 ⟨rfl,hb3⟩
 have rt3:=(hb3.block _ (Nat.lt_succ_self _)).trans L2.out.t
 have bel3:=L2.out.bel.trans (hb3.mono (Nat.le_succ _))
 have OW3:=hid' (own_down HOW.out bel3)
 have BEL3:=hid' bel3
 clear hb3 bel3 t02 t12 t22 a02 a12 a22
 have t03:=cell_of_row _ _ 0 _ _ _ rt3
 have t13:=cell_of_row _ _ 1 _ _ _ rt3
 have t23:=cell_of_row _ _ 2 _ _ _ rt3
 simp at t03 t13 t23
 clear rt3
 go_wp2_with fail
 refine (HR.out w3 OW3.out).mono ?_
 rintro e w4 ⟨rfl,hb4⟩
 have BEL4:=hid' (BEL3.out.trans (hb4.mono BEL3.out.size))
 clear hb4 t03 t13 t23
 have e2:(rn == rn) = true:=by simp
 go_wp2_with (go_at_call 34;refine (num_any _ _).mono ?_;rintro e w5 ⟨rfl,rfl⟩)
 go_ret2
 exact ⟨rfl,BEL4.out⟩
end Go.Proofs.YtmmkhodaljpjgaaGreatDoor
namespace Go.Proofs.YtmmkhodaljpjgaaGreatDoor
open Go.RowKit
attribute [local go_sem ↓] Go.wp_at_zero Go.wp_at_succ
theorem PRow.putC {b:Nat} {s:Sv} {dv cv cv':Value} {op:Bool} {bs bf:Int} {w:World} {L:List Cm} (h:PRow b s dv cv op bs bf w) (ho:w.ownsRow 0 121 5 cv' L.length (flatC L)) :
  PRow b { s with com:=L } dv cv' op bs bf (w.setCell ⟨b,10,none⟩ cv'):=by
 refine ⟨?_,own_set (p:=⟨b,10,none⟩) h.dd h.row (by decide) _,own_set (p:=⟨b,10,none⟩) ho h.row (by decide) _,h.sl⟩
 rw [heap_setCell_same _ _ _ _ _ _ h.row];rfl
def lastB (l:List Cm) (k:Nat) (op:Bool) (bs bf:Int):Bool × Int × Int:=if k = 0 then (op,bs,bf) else (true,(l.getD (k - 1) ⟨0,0,0,0,false⟩).bs,(l.getD (k - 1) ⟨0,0,0,0,false⟩).bf)
structure LkV (b:Nat) (s:Sv) (dv cv:Value) (op:Bool) (bs bf:Int) (m k:Nat) (w:World) (lv dv':Value) (wr:World):Prop where
 r:PRow b { s with done:=s.done ++ (s.com.take (min k m)).map cmP } dv' cv (lastB s.com (min k m) op bs bf).1 (lastB s.com (min k m) op bs bf).2.1 (lastB s.com (min k m) op bs bf).2.2 wr
 off:Off (pFoot b dv cv) w wr
 at':∀ j,dv'.ownBlock = some j → dv.ownBlock = some j ∨ w.heap.size ≤ j
 l:wr.ownsRow w.heap.size 121 5 lv (k - m) (flatC ((s.com.drop m).take (k - m)))
theorem LkV.below {b:Nat} {s:Sv} {dv cv:Value} {op:Bool} {bs bf:Int} {m k:Nat} {w:World} {lv dv':Value} {wr w':World} (h:LkV b s dv cv op bs bf m k w lv dv' wr) (hb:Below wr.heap.size wr w'):LkV b s dv cv op bs bf m k w lv dv' w' :=
 ⟨h.r.below hb,h.off.then hb,h.at',own_down h.l hb⟩
theorem LkV.stay {b:Nat} {s:Sv} {dv cv:Value} {op:Bool} {bs bf:Int} {m k:Nat} {w:World} {lv dv' lv':Value} {wr w2:World} (h:LkV b s dv cv op bs bf m k w lv dv' wr) (hm:m ≤ k) (lb:b < w.heap.size) (cl:∀ j,cv.ownBlock = some j → j < w.heap.size) (hg:wr.grownBy w2 lv.ownBlock)
  (own:w2.ownsRow w.heap.size 121 5 lv' (k + 1 - m) (flatC ((s.com.drop m).take (k + 1 - m)))):LkV b s dv cv op bs bf m (k + 1) w lv' dv' w2:=by
 have e:min (k + 1) m = min k m:=by omega
 have ge:=own_ge h.l
 have sz:=h.off.size
 refine ⟨?_,h.off.grown hg (fun j e hj => by have:=ge j e;omega),h.at',own⟩
 rw [e]
 refine h.r.keep (fun j q => ?_)
 have lj:j < wr.heap.size:=by obtain ⟨_,_,_,hh,_⟩:=h.r.typ q;exact lt_of_heap hh
 refine hg.block j lj (fun c => ?_)
 have g1:=ge j c.symm
 rcases q with q | q | q
 ·omega
 ·obtain ⟨cs,fr,hh⟩:=own_typ h.l c.symm
  obtain ⟨cs',fr',hh'⟩:=own_typ h.r.dd q
  rw [hh] at hh'
  simp at hh'
 ·have:=cl j q;omega
theorem LkV.begin {b:Nat} {s:Sv} {dv cv:Value} {op:Bool} {bs bf:Int} {m k:Nat} {w:World} {lv dv':Value} {wr w2:World} (h:LkV b s dv cv op bs bf m k w lv dv' wr) (hk:k < s.com.length) (hm:k < m) (lb:b < w.heap.size) (cl:∀ j,cv.ownBlock = some j → j < w.heap.size)
  (hp:BegP b { s with done:=s.done ++ (s.com.take (min k m)).map cmP } dv' cv s.com[k].a s.com[k].o s.com[k].bs s.com[k].bf wr w2):∃ dv2,LkV b s dv cv op bs bf m (k + 1) w lv dv2 w2:=by
 obtain ⟨dv2,pr,of,ha⟩:=hp
 have e1:min k m = k:=by omega
 have e2:min (k + 1) m = k + 1:=by omega
 have sz:=h.off.size
 have ge:=own_ge h.l
 refine ⟨dv2,?_,?_,fun j e => ?_,?_⟩
 ·have ed:(s.done ++ (s.com.take (min k m)).map cmP) ++ [(s.com[k].a,s.com[k].o)] = s.done ++ (s.com.take (min (k + 1) m)).map cmP:=by
   rw [e1,e2,List.take_succ_eq_append_getElem hk,List.map_append,List.append_assoc];rfl
  have el:lastB s.com (min (k + 1) m) op bs bf = (true,s.com[k].bs,s.com[k].bf):=by
   unfold lastB
   rw [e2,if_neg (by omega),show k + 1 - 1 = k from rfl,List.getD_eq_getElem?_getD,List.getElem?_eq_getElem hk];rfl
  rw [el,← ed]
  exact pr
 ·refine h.off.trans of (fun j hj e => ?_)
  rcases e with e | e | e
  ·exact .inl e
  ·rcases h.at' j e with q | q
   ·exact .inr (.inl q)
   ·omega
  ·exact .inr (.inr e)
 ·rcases ha j e with q | q
  ·exact h.at' j q
  ·exact .inr (by omega)
 ·have e3:k + 1 - m = k - m:=by omega
  rw [e3]
  refine of.own h.l (fun j e q => ?_)
  have g1:=ge j e
  rcases q with q | q | q
  ·omega
  ·obtain ⟨cs,fr,hh⟩:=own_typ h.l e
   obtain ⟨cs',fr',hh'⟩:=own_typ h.r.dd q
   rw [hh] at hh'
   simp at hh'
  ·have:=cl j q;omega
def LkP (b:Nat) (s:Sv) (dv cv:Value) (op:Bool) (bs bf:Int) (m:Nat) (w w':World):Prop:=∃ dv' cv',PRow b s.begun dv' cv' (lastB s.com m op bs bf).1 (lastB s.com m op bs bf).2.1 (lastB s.com m op bs bf).2.2 w' ∧ Off (pFoot b dv cv) w w' ∧ ∀ j,pFoot b dv' cv' j → pFoot b dv cv j ∨ w.heap.size ≤ j
theorem let_due (b:Nat) (s:Sv) (dv cv:Value) (op:Bool) (bs bf:Int) (m:Nat) (w:World) (h:PRow b s dv cv op bs bf w) (hc:Cut s.ns s.nf s.com m) (hl:s.done.length + s.com.length ≤ 800) :
  Calls Tryz.prog 182 #[.pointer (some ⟨b,0,none⟩)] w fun e w' => e = .returned (.tuple #[]) ∧ LkP b s dv cv op bs bf m w w':=by
 obtain ⟨k0,hk0,hx0,hx1,hx2⟩:=info_parts infoAComing
 have HP:=hid' h
 have HC:=hid' hc
 have lb:=lt_of_heap h.row
 have CL:∀ j,cv.ownBlock = some j → j < w.heap.size:=fun j e => by obtain ⟨_,_,hh⟩:=own_typ h.cc e;exact lt_of_heap hh
 have HCL:=hid' CL
 have hm:=hc.le
 obtain ⟨ca,ccp,hcv⟩:=own_slice h.cc
 subst hcv
 have L0:Hid (LkV b s dv (.slice ca s.com.length ccp) op bs bf m 0 w (.slice none 0 0) dv w):=by
  refine ⟨?_,Off.refl _ _,fun j e => .inl e,?_⟩
  ·rw [Nat.zero_min]
   simpa [lastB] using h
  ·rw [Nat.zero_sub];exact World.ownsRow_nil _ _ _ _
 clear h hc CL
 go_enter Tryz.func182,Tryz.ntmps182
 go_wp2
 go_loopw [2,3,4] (fun lv i _ wr => ∃ (k:Nat) (dv':Value),k ≤ s.com.length ∧ i = .int .i64 k ∧ LkV b s dv (.slice ca s.com.length ccp) op bs bf m k w lv dv' wr) (fun _ i _ _ => s.com.length - (intOf i).toNat)
 case atStart => exact ⟨0,_,by omega,rfl,L0.out⟩
 case round =>
  obtain ⟨k,dv',hk,rfl,lk⟩:=hrel
  have LK:=hid' lk
  have q8:=lk.r.c10
  have lbr:=lt_of_heap lk.r.row
  have sz:=lk.off.size
  by_cases hlt:k < s.com.length
  ·have hli:(k:Int) < (s.com.length:Int):=by omega
   have hk0i:(0:Int) ≤ (k:Int):=by omega
   obtain ⟨g,cg,hg⟩:=own_some lk.r.cc (show 0 < s.com.length by omega)
   obtain ⟨rfl,_,rfl⟩:=Value.slice.inj hg
   have lg:g < wr.heap.size:=(lk.r.cc.lt _ rfl).2
   have e0:=(lk.r.cc.cellAt (k * 5) (by omega)).trans (flatC_at s.com k hlt 0 (by omega))
   have e1:=(lk.r.cc.cellAt (k * 5 + 1) (by omega)).trans (flatC_at s.com k hlt 1 (by omega))
   have e2:=(lk.r.cc.cellAt (k * 5 + 2) (by omega)).trans (flatC_at s.com k hlt 2 (by omega))
   have e3:=(lk.r.cc.cellAt (k * 5 + 3) (by omega)).trans (flatC_at s.com k hlt 3 (by omega))
   have e4:=(lk.r.cc.cellAt (k * 5 + 4) (by omega)).trans (flatC_at s.com k hlt 4 (by omega))
   have q2:=lk.r.c4
   have q3:=lk.r.c5
   have HLO:=hid' (HC.out.lo k hlt)
   have HHI:=hid' (HC.out.hi k hlt)
   have HBG:=hid' (fun (w2:World) (lv0 dv0:Value) (W:World) (hh:LkV b s dv (.slice (some ⟨g,0,none⟩) s.com.length ccp) op bs bf m k w lv0 dv0 W) (hm:k < m) hp => LkV.begin (w2:=w2) hh hlt hm lb HCL.out hp)
   have htk:m ≤ k → (s.com.drop m).take (k + 1 - m) = (s.com.drop m).take (k - m) ++ [s.com[k]]:=fun q => by
    rw [show k + 1 - m = (k - m) + 1 from by omega,List.take_succ_eq_append_getElem (by rw [List.length_drop];omega),List.getElem_drop]
    congr 2
    congr 1
    omega
   have HTK:=hid' htk
   generalize s.com[k] = c at *
   obtain ⟨cA,cO,cS,cF,cV⟩:=c
   simp [Cm.cells] at e0 e1 e2 e3 e4
   simp only at HLO HHI HBG
   have EAR:=hid' (fun W => clk_earlier s.ns s.nf cS cF W)
   obtain ⟨lt,hltb⟩:∃ lt,tLater cS cF s.ns s.nf = lt:=⟨_,rfl⟩
   rw [hltb] at EAR HLO HHI
   have BA:=hid' ((Below.refl wr.heap.size wr).alloc (Nat.le_refl _) (.cells #[.int .i64 cA,.int .i64 cO,.int .i64 cS,.int .i64 cF,.bool cV] 121))
   have RA:=hid' (heap_alloc_new wr (.cells #[.int .i64 cA,.int .i64 cO,.int .i64 cS,.int .i64 cF,.bool cV] 121))
   obtain ⟨va,vcp,hv⟩:=own_slice lk.l
   subst hv
   clear lk hg htk hltb
   go_upto_region 5 with fail
   go_cut [2,3,4,30] from 5 to 37 (fun s2 s3 s4 s30 wx => s2 = .slice va (k - m) vcp ∧ s3 = .int .i64 k ∧ s4 = .pointer (some ⟨wr.heap.size,0,none⟩) ∧ s30 = .bool lt ∧ Below wr.heap.size wr wx ∧ wx.heap[wr.heap.size]? = some (.cells #[.int .i64 cA,.int .i64 cO,.int .i64 cS,.int .i64 cF,.bool cV] 121 (0,0)))
   case first =>
    go_region_with (go_at_call 196;refine (EAR.out _).mono ?_;rintro e w1 ⟨rfl,hb1⟩;have HB1:=hid' hb1;clear hb1)
    all_goals
     go_wp2_with fail
     go_meet
     case rel => exact ⟨rfl,rfl,rfl,rfl,BA.out.drew.trans (HB1.out.mono (by exact BA.out.size)),(HB1.out.block _ (by simp)).trans RA.out⟩
   case rest =>
    obtain ⟨rfl,rfl,rfl,rfl,bel,crow⟩:=hcut
    rename World => W1
    have L1:=hid' (LK.out.below bel)
    have CR:=hid' crow
    have lc:=lt_of_heap crow
    have sz1:=bel.size
    have d0:=cell_of_row _ _ 0 _ _ _ crow
    have d1:=cell_of_row _ _ 1 _ _ _ crow
    have d2:=cell_of_row _ _ 2 _ _ _ crow
    have d3:=cell_of_row _ _ 3 _ _ _ crow
    have d4:=cell_of_row _ _ 4 _ _ _ crow
    simp at d0 d1 d2 d3 d4
    clear bel crow q2 q3 q8 e0 e1 e2 e3 e4
    cases lt with
    | true =>
     have hmk:m ≤ k:=by
      by_cases q:m ≤ k
      ·exact q
      ·have:=HLO.out (by omega);cases this
     go_wp2_with (at_builtin;refine wpList_append_lies _ (by rfl) (.tmp 31) (.tmp 33) 111 (by rfl) w.heap.size 121 k0 (.agg #[.int .i64 0,.int .i64 0,.int .i64 0,.int .i64 0,.bool false]) 5 40 Tryz.underlying111 hk0 hx0 hx1 hx2 rfl (by decide) (.slice va (k - m) vcp) (k - m) (flatC ((s.com.drop m).take (k - m))) (by rfl) (L1.out.l.alloc _) ⟨W1.heap.size,0,none⟩ 1 1 [.int .i64 cA,.int .i64 cO,.int .i64 cS,.int .i64 cF,.bool cV] (by rfl) (by rfl) (World.news_of_block (cs:=#[.int .i64 cA,.int .i64 cO,.int .i64 cS,.int .i64 cF,.bool cV]) (t:=121) (fr:=(0,0)) (heap_alloc_new W1 _)) (by simp [Value.oneCell']) (by decide) (by unfold maxLen;omega) (by omega) (by simp <;> omega) (W1.heap.size + 1) (by simp) ?_;intro g3 cap3 w3 own3 hg3 hat3 hlt3;have OWN3:=hid' own3;have HG3:=hid' hg3;clear own3 hg3 hat3)
     go_roundw
     case rel =>
      refine ⟨k + 1,dv',by omega,by go_num,?_⟩
      refine (L1.out.below ((Below.refl W1.heap.size W1).alloc (Nat.le_refl _) _)).stay hmk lb HCL.out HG3.out ?_
      rw [HTK.out hmk,flatC_append,show k + 1 - m = k - m + 1 from by omega]
      exact OWN3.out
     case measure => simp [intOf];omega
    | false =>
     have hmk:k < m:=by
      by_cases q:m ≤ k
      ·have:=HHI.out q;cases this
      ·omega
     have dlen:(s.done ++ (s.com.take (min k m)).map cmP).length ≤ 900:=by simp;omega
     have LB:=hid' (let_begin b _ dv' (.slice (some ⟨g,0,none⟩) s.com.length ccp) _ _ _ cA cO cS cF cV W1 L1.out.r dlen)
     clear dlen
     go_wp2_with fail
     refine LB.out.mono ?_
     rintro e w4 ⟨rfl,bp⟩
     have BP:=hid' (HBG.out w4 _ _ W1 L1.out hmk bp)
     clear bp LB
     go_wp2
     go_roundw
     case rel =>
      obtain ⟨dv2,l2⟩:=BP.out
      exact ⟨k + 1,dv2,by omega,by go_num,l2⟩
     case measure => simp [intOf];omega
  ·have hnl:¬ (k:Int) < (s.com.length:Int):=by omega
   obtain rfl:k = s.com.length:=by omega
   obtain ⟨va,vcp,hv⟩:=own_slice lk.l
   subst hv
   have f8:=lk.r.fr 10
   clear lk
   go_wp2
   go_end0
   have e1:min s.com.length m = m:=by omega
   have hr:=LK.out.r
   rw [e1] at hr
   have hcc:(s.com.drop m).take (s.com.length - m) = s.com.drop m:=List.take_of_length_le (by simp)
   have hll:=LK.out.l
   rw [hcc] at hll
   have pc:=hr.putC (L:=s.com.drop m) (by rw [List.length_drop];exact own_lo hll (Nat.zero_le _))
   refine ⟨rfl,dv',.slice va (s.com.length - m) vcp,?_,LK.out.off.setCell (p:=⟨b,10,none⟩) (fun _ => .inl rfl) _,fun j e => ?_⟩
   ·have eb:=s.begun_cut m HC.out
    rw [eb]
    exact ⟨pc.row,pc.dd,pc.cc,pc.sl⟩
   ·rcases e with e | e | e
    ·exact .inl (.inl e)
    ·rcases LK.out.at' j e with q | q
     ·exact .inl (.inr (.inl q))
     ·exact .inr q
    ·exact .inr (own_ge hll j e)
end Go.Proofs.YtmmkhodaljpjgaaGreatDoor
namespace Go.Proofs.YtmmkhodaljpjgaaGreatDoor
open Go.RowKit
theorem PRow.putN {b:Nat} {s:Sv} {dv cv:Value} {op:Bool} {bs bf:Int} {w:World} (h:PRow b s dv cv op bs bf w) (x y:Int):PRow b (s.at' x y) dv cv op bs bf ((w.setCell ⟨b,4,none⟩ (.int .i64 x)).setCell ⟨b,5,none⟩ (.int .i64 y)):=by
 have r1:=heap_setCell_same _ _ 4 _ _ (.int .i64 x) h.row
 refine ⟨?_,own_set (p:=⟨b,5,none⟩) (own_set (p:=⟨b,4,none⟩) h.dd h.row (by decide) _) r1 (by decide) _,own_set (p:=⟨b,5,none⟩) (own_set (p:=⟨b,4,none⟩) h.cc h.row (by decide) _) r1 (by decide) _,h.sl⟩
 rw [heap_setCell_same _ _ _ _ _ _ r1];rfl
theorem Opn.at' {s:Sv} {op:Bool} {bs bf x y:Int} (h:Opn s op bs bf) (hl:tLater s.ns s.nf x y = false):Opn (s.at' x y) op bs bf:=by
 refine ⟨h.1,fun e i hi => ?_⟩
 have q:=h.2 e i hi
 have nl:=not_later hl
 show (s.began.getD i (0,0)).1 + s.win < x ∨ ((s.began.getD i (0,0)).1 + s.win = x ∧ (s.began.getD i (0,0)).2 ≤ y)
 omega
theorem Opn.begun {s:Sv} {op:Bool} {bs bf:Int} {m:Nat} (h:Opn s op bs bf) (hc:Cut s.ns s.nf s.com m) (hp:0 < m → 0 < s.began.length):Opn s.begun (lastB s.com m op bs bf).1 (lastB s.com m op bs bf).2.1 (lastB s.com m op bs bf).2.2:=by
 have eb:=s.begun_cut m hc
 have hm:=hc.le
 by_cases z:m = 0
 ·subst z
  have e2:s.begun.began = s.began:=by rw [eb];simp
  have e3:s.begun.ns = s.ns:=rfl
  have e4:s.begun.nf = s.nf:=rfl
  have e5:s.begun.win = s.win:=rfl
  have el:lastB s.com 0 op bs bf = (op,bs,bf):=rfl
  rw [el]
  unfold Opn
  rw [e2,e3,e4,e5]
  exact h
 ·have el:lastB s.com m op bs bf = (true,(s.com.getD (m - 1) ⟨0,0,0,0,false⟩).bs,(s.com.getD (m - 1) ⟨0,0,0,0,false⟩).bf):=by unfold lastB;rw [if_neg z]
  rw [el]
  refine ⟨fun _ => ?_,fun e => by cases e⟩
  have e2:s.begun.began = s.began ++ (s.com.take m).map cmB:=by rw [eb]
  rw [e2]
  have ln:(s.began ++ (s.com.take m).map cmB).length = s.began.length + m:=by simp;omega
  refine ⟨by have:=hp (by omega);omega,?_⟩
  rw [ln,List.getD_eq_getElem?_getD,List.getElem?_append_right (by omega),List.getElem?_map,List.getElem?_take_of_lt (by omega),List.getD_eq_getElem?_getD]
  rw [show s.began.length + m - 1 - s.began.length = m - 1 from by omega,List.getElem?_eq_getElem (show m - 1 < s.com.length by omega)]
  rfl
theorem Opn.com {s:Sv} {op:Bool} {bs bf:Int} (h:Opn s op bs bf) (L:List Cm):Opn { s with com:=L } op bs bf:=h
theorem Opn.says {s:Sv} {op:Bool} {bs bf:Int} (h:Opn s op bs bf) (k:Nat) (leap:Int):Opn (s.says k leap) op bs bf:=h
def PPost (b:Nat) (F:Nat → Prop) (w:World) (s:Sv) (w':World):Prop:=∃ F',PS b s F' w' ∧ Off F w w' ∧ ∀ k,F' k → F k ∨ w.heap.size ≤ k
end Go.Proofs.YtmmkhodaljpjgaaGreatDoor
