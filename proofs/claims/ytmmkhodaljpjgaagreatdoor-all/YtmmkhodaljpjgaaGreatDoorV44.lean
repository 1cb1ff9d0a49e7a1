import Derived.Test.YtmmkhodaljpjgaaGreatDoorV42
namespace Go.Proofs.YtmmkhodaljpjgaaGreatDoor
open Go.RowKit
set_option maxRecDepth 100000 in
set_option maxHeartbeats 1600000 in
theorem pure_parse {X:Xs} (B bW n:Nat) (o:Op) (w:World) (ho:o.Ok) (hn:n ≤ 100000) (hI:Inv X B bW n w) (hB:B ≤ w.heap.size) (hT:Table w) (hk:o.kind = 10) :
  Calls Tryz.prog 17 #[.pointer (some ⟨bW,0,none⟩),.agg #[.int .i64 o.kind,.int .i64 o.x,.int .i64 o.a,.int .i64 o.b,.int .i64 o.c,.int .i64 o.d,.string o.s]] w fun e w' => e = .returned (.bool true) ∧ Inv X B bW n w' ∧ Keep 27 w w' ∧ Below B w w':=by
 have hTx:=text_any B bW n o.a (w.alloc (.cells #[.int .i64 o.kind,.int .i64 o.x,.int .i64 o.a,.int .i64 o.b,.int .i64 o.c,.int .i64 o.d,.string o.s] 27)) ho.a hn (inv_alloc hI _)
 have HTx:=hid' hTx
 have HT:=hid' hT
 have HI:=hid' hI
 clear hTx ho hI hT
 obtain ⟨k,x,a,b,c,d,s⟩:=o
 simp only at *
 subst hk
 have HB0:=hid' ((Below.refl w.heap.size w).alloc (Nat.le_refl _) (.cells #[.int .i64 10,.int .i64 x,.int .i64 a,.int .i64 b,.int .i64 c,.int .i64 d,.string s] 27))
 go_enter Tryz.func17,Tryz.ntmps17
 go_wp2_with fail
 refine HTx.out.mono ?_
 rintro e w1 ⟨t,m,rfl,hts,hw1⟩
 have hb1:Below w.heap.size w w1:=by rw [hw1];exact below_drewN HB0.out m
 have HB1:=hid' hb1
 have HT1:=hid' (HT.out.below hb1)
 have hs1:=hb1.size
 clear hw1 hb1 HTx
 go_wp2_with fail
 refine (parsed_any t w1 (by omega) HT1.out).mono ?_
 rintro e w2 ⟨lv,rfl,ol,hb2⟩
 have hb3:=HB1.out.trans (hb2.mono HB1.out.size)
 obtain ⟨le,tv,lv0,xv,F,ts,ls0,up0,ex0,se,fr,hbw,htw,hlw,h1,h2,h3,h4⟩:=HI.out
 have hb:Blk bW tv up0 ex0 lv0 se fr xv w2:=(hb3.block _ hbw.lt).trans hbw
 have ht:=own_down htw hb3
 have H4:=hid' h4
 have ge:∀ k,lv.ownBlock = some k → w.heap.size ≤ k:=fun k hk => Nat.le_trans hs1 (own_ge ol k hk)
 have GE:=hid' ge
 clear hbw htw hlw h4 ge
 have fair:=Txt.parse_fair t
 generalize Txt.parse t = gt at *
 obtain ⟨up,ex,ls,er,nm⟩:=gt
 simp only at ol
 have hlv:∃ ao l cp,lv = .slice ao l cp:=by
  rcases ol.2 with ⟨h,_⟩ | ⟨g,cap,cur,h,_⟩
  ·exact ⟨_,_,_,h⟩
  ·exact ⟨_,_,_,h⟩
 obtain ⟨ao,ll,cp,rfl⟩:=hlv
 have c1:=hb.cell 1
 have c2:=hb.cell 2
 have c3:=hb.cell 3
 have f1:=hb.free 1
 have f2:=hb.free 2
 have f3:=hb.free 3
 simp at c1 c2 c3
 have HB:=hid' hb
 have HTV:=hid' ht
 have HOL:=hid' ol
 have HB3:=hid' hb3
 have HF:=hid' fair
 clear hb ht ol hb2 hb3 fair HB1 HT1 HI HT
 simp only at *
 go_wp2
 go_ret
 have q1:=HB.out.at1 up
 have q2:=q1.at2 ex
 have q3:=q2.at3 (.slice ao ll cp)
 have tv3:=q2.own (q1.own (HB.out.own HTV.out (by decide) 1 (.int .i64 up)) (by decide) 2 (.int .i64 ex)) (by decide) 3 (.slice ao ll cp)
 have lv3:=q2.own (q1.own (HB.out.own (own_wide HOL.out (show B ≤ w1.heap.size by omega)) (by decide) 1 (.int .i64 up)) (by decide) 2 (.int .i64 ex)) (by decide) 3 (.slice ao ll cp)
 have kp:Keeps w _:=q2.keeps (q1.keeps (HB.out.keeps (Keeps.below HB3.out) 1 (.int .i64 up)) 2 (.int .i64 ex)) 3 (.slice ao ll cp)
 have bl:=(((HB3.out.mono hB).setCell (p:=⟨bW,1,none⟩) le (.int .i64 up)).setCell (p:=⟨bW,2,none⟩) le (.int .i64 ex)).setCell (p:=⟨bW,3,none⟩) le (.slice ao ll cp)
 have fl:=HF.out.len
 exact ⟨rfl,⟨le,tv,.slice ao ll cp,xv,F,ts,ls,up,ex,se,fr,q3,tv3,lv3,h1,by simp only at fl;omega,⟨h3.txt,HF.out.wf,HF.out.up,HF.out.ex,h3.se,h3.fr⟩,H4.out.fresh kp (Nat.le_refl _) GE.out⟩,kp.op,bl⟩
theorem does_parse {X:Xs} (w:World) (hT:Table w) (o:Op) (hk:o.kind = 10) (hok:o.Ok) (B n:Nat) (wr:World) (hB:w.heap.size ≤ B) (hn:n ≤ 100000) (hb:Below w.heap.size w wr):Does X B B n o wr:=by
 refine does_pure (.inr (by omega)) (by omega) ?_
 intro w1 hI hB1 hb1
 refine (pure_parse B B n o w1 hok hn hI hB1 (hT.below (hb.trans (hb1.mono hB))) hk).mono ?_
 rintro e w' ⟨rfl,h1,h2,h3⟩
 exact ⟨rfl,h1.up (Nat.le_succ _),h2,h3⟩
set_option maxRecDepth 100000 in
set_option maxHeartbeats 1000000 in
theorem ref_label_no (B:Nat) (lv:Value) (ls:List (Int × Int)) (up ex sec:Int) (w:World) (wu:(Lit.int .i64 up).wf = true) (wx:(Lit.int .i64 ex).wf = true)
  (hv:w.ownsRow B 46 2 lv ls.length (flat ls)) (hn:ls.length ≤ 100000) (hwf:∀ p ∈ ls,WfP p) (he:(Tab.offset up ex ls sec).2 ≠ 0) :
  Calls Tryz.prog 50 #[.agg #[.int .i64 up,.int .i64 ex,lv],.int .i64 sec] w fun e w' =>
   e = .returned (.tuple #[.int .i64 0,.int .i64 0,.int .i64 (Tab.offset up ex ls sec).2]) ∧ Below w.heap.size w w':=by
 have HBel:=hid' ((Below.refl w.heap.size w).alloc (Nat.le_refl _) (.cells #[.int .i64 up,.int .i64 ex,lv] 33))
 have HO:=hid' (ref_offset B lv ls up ex sec (w.alloc (.cells #[.int .i64 up,.int .i64 ex,lv] 33)) wu wx (hv.alloc _) hn hwf)
 clear wu wx hwf hv hn
 have hne:((Tab.offset up ex ls sec).2 == 0) = false:=by rw [beq_eq_false_iff_ne];exact he
 clear he
 generalize Tab.offset up ex ls sec = r at *
 obtain ⟨ro,re⟩:=r
 simp only at hne HO
 go_enter Tryz.func50,Tryz.ntmps50
 go_wp2_with (go_at_call 48;refine HO.out.mono ?_;rintro e w1 ⟨rfl,hb1⟩;have HB1:=hid' (HBel.out.trans (hb1.mono HBel.out.size));clear hb1)
 go_ret3
 exact ⟨rfl,HB1.out⟩
set_option maxRecDepth 100000 in
set_option maxHeartbeats 1000000 in
theorem ref_label_yes (B:Nat) (lv:Value) (ls:List (Int × Int)) (up ex sec d:Int) (w:World) (wu:(Lit.int .i64 up).wf = true) (wx:(Lit.int .i64 ex).wf = true)
  (hv:w.ownsRow B 46 2 lv ls.length (flat ls)) (hn:ls.length ≤ 100000) (hwf:∀ p ∈ ls,WfP p) (he:(Tab.offset up ex ls sec).2 = 0) (hD:Tab.Day ls sec d) :
  Calls Tryz.prog 50 #[.agg #[.int .i64 up,.int .i64 ex,lv],.int .i64 sec] w fun e w' =>
   e = .returned (.tuple #[.int .i64 d,.int .i64 (sec - Tab.begins ls d),.int .i64 0]) ∧ Below w.heap.size w w':=by
 have HBel:=hid' ((Below.refl w.heap.size w).alloc (Nat.le_refl _) (.cells #[.int .i64 up,.int .i64 ex,lv] 33))
 have HROW:=hid' (heap_alloc_new w (.cells #[.int .i64 up,.int .i64 ex,lv] 33))
 have HO:=hid' (ref_offset B lv ls up ex sec (w.alloc (.cells #[.int .i64 up,.int .i64 ex,lv] 33)) wu wx (hv.alloc _) hn hwf)
 obtain ⟨hwh,hs1,_⟩:=Tab.offset_ok he
 have hG:=Tab.good_of_whole hwh
 obtain ⟨g,cap,rfl⟩:=own_some hv hG.pos
 have hgl:=(hv.lt _ rfl).2
 have HLies:=hid' (lies_of_own hv)
 have a0:=(hG.fine _ (List.getElem_mem hG.pos)).1
 rw [← getD_at 0 hG.pos] at a0
 have hbe:=hG.begins_ge d hD.from'
 have d1:=hD.lo
 have d3:=hD.from'
 have d0:0 ≤ d:=by omega
 have dm:d ≤ 400000:=by omega
 have htd:∀ w1,Lies w1 g ls → Calls Tryz.prog 85 #[.slice (some ⟨g,0,none⟩) ls.length cap,.int .i64 sec] w1 fun q w' => q = .returned (.int .i64 d) ∧ ∃ m,w' = w1.drewN m:=fun w1 h => ref_today g cap ls.length ls sec d w1 rfl h hG hD hs1
 have HTD:=hid' htd
 have hbg:∀ w1,Lies w1 g ls → Calls Tryz.prog 86 #[.slice (some ⟨g,0,none⟩) ls.length cap,.int .i64 d] w1 fun e w' => e = .returned (.int .i64 (Tab.begins ls d)) ∧ w' = w1:=fun w1 h => ref_begins g cap ls.length ls d w1 rfl hG.pos h hG.fine hn (by omega) (by omega)
 have HBG:=hid' hbg
 clear wu wx hwf hv hwh hG htd hbg a0 d3 hD
 have hze:((Tab.offset up ex ls sec).2 == 0) = true:=by rw [beq_iff_eq];exact he
 generalize Tab.begins ls d = b at *
 generalize Tab.offset up ex ls sec = r at *
 obtain ⟨ro,re⟩:=r
 simp only at hze HO he
 subst he
 clear hze
 go_enter Tryz.func50,Tryz.ntmps50
 go_wp2_with (first
  | (go_at_call 48;refine HO.out.mono ?_;rintro e w1 ⟨rfl,hb1⟩;have HB1:=hid' (HBel.out.trans (hb1.mono HBel.out.size));have t2:=cell_of_row _ _ 2 _ _ _ ((hb1.block _ (lt_of_heap HROW.out)).trans HROW.out);(simp at t2);clear hb1)
  | (go_at_call 85;refine (HTD.out _ (HLies.out.below hgl HB1.out)).mono ?_;rintro e w2 ⟨rfl,m2,rfl⟩)
  | (go_at_call 86;refine (HBG.out _ (HLies.out.below hgl (below_drewN HB1.out m2))).mono ?_;rintro e w3 ⟨rfl,rfl⟩))
 go_ret3
 exact ⟨rfl,below_drewN HB1.out m2⟩
structure LW (w:World) (up ex:Int) (tv:Value) (ls:List (Int × Int)) (oc:Array Value) (b3 g B:Nat) (wx:World):Prop where
 t:wx.heap[w.heap.size]? = some (.cells #[.int .i64 up,.int .i64 ex,tv] 33 (0,0))
 o:wx.heap[w.heap.size + 1]? = some (.cells oc 27 (0,0))
 a:wx.heap[b3]? = some (.cells #[.int .i64 up,.int .i64 ex,.slice (some ⟨g,0,none⟩) ls.length (ls.length + 2)] 78 (0,0))
 h:Handed wx g ls
 own:wx.ownsRow B 46 2 tv ls.length (flat ls)
 bel:Below w.heap.size w wx
 g0:w.heap.size ≤ g
theorem LW.below {w wx wy:World} {up ex:Int} {tv:Value} {ls:List (Int × Int)} {oc:Array Value} {b3 g B:Nat} (h:LW w up ex tv ls oc b3 g B wx) (hb:Below wx.heap.size wx wy):LW w up ex tv ls oc b3 g B wy :=
 ⟨(hb.block _ (lt_of_heap h.t)).trans h.t,(hb.block _ (lt_of_heap h.o)).trans h.o,(hb.block _ (lt_of_heap h.a)).trans h.a,h.h.below hb,own_down h.own hb,h.bel.trans (hb.mono h.bel.size),h.g0⟩
theorem LW.start {w w1:World} {up ex:Int} {tv:Value} {ls:List (Int × Int)} {oc:Array Value} {g B:Nat} (hown:w.ownsRow B 46 2 tv ls.length (flat ls))
  (hg:((w.alloc (.cells #[.int .i64 up,.int .i64 ex,tv] 33)).alloc (.cells oc 27)).heap.size ≤ g) (hH:Handed w1 g ls)
  (hb:Below ((w.alloc (.cells #[.int .i64 up,.int .i64 ex,tv] 33)).alloc (.cells oc 27)).heap.size ((w.alloc (.cells #[.int .i64 up,.int .i64 ex,tv] 33)).alloc (.cells oc 27)) w1) :
  LW w up ex tv ls oc w1.heap.size g B (w1.alloc (.cells #[.int .i64 up,.int .i64 ex,.slice (some ⟨g,0,none⟩) ls.length (ls.length + 2)] 78)) ∧ w1.heap[w.heap.size]? = some (.cells #[.int .i64 up,.int .i64 ex,tv] 33 (0,0)) ∧ w1.heap[w.heap.size + 1]? = some (.cells oc 27 (0,0)):=by
 have b0:Below w.heap.size w ((w.alloc (.cells #[.int .i64 up,.int .i64 ex,tv] 33)).alloc (.cells oc 27)):=((Below.refl w.heap.size w).alloc (Nat.le_refl _) _).alloc (by simp) _
 have b2:=(Below.refl w1.heap.size w1).alloc (Nat.le_refl _) (.cells #[.int .i64 up,.int .i64 ex,.slice (some ⟨g,0,none⟩) ls.length (ls.length + 2)] 78)
 have r1:=heap_alloc2_old w (.cells #[.int .i64 up,.int .i64 ex,tv] 33) (.cells oc 27)
 have r2:=heap_alloc2_new w (.cells #[.int .i64 up,.int .i64 ex,tv] 33) (.cells oc 27)
 have r1':=(hb.block _ (lt_of_heap r1)).trans r1
 have r2':=(hb.block _ (lt_of_heap r2)).trans r2
 have bel1:=b0.trans (hb.mono b0.size)
 have hsz:=b0.size
 exact ⟨⟨(b2.block _ (lt_of_heap r1')).trans r1',(b2.block _ (lt_of_heap r2')).trans r2',heap_alloc_new _ _,hH.below b2,own_down hown (bel1.trans (b2.mono bel1.size)),bel1.trans (b2.mono bel1.size),by omega⟩,r1',r2'⟩
set_option maxRecDepth 100000 in
set_option maxHeartbeats 3200000 in
theorem labelled_12 (B:Nat) (up ex:Int) (tv:Value) (ls:List (Int × Int)) (x a b c d:Int) (s:ByteArray) (w:World) (wu:(Lit.int .i64 up).wf = true) (wx:(Lit.int .i64 ex).wf = true)
  (hown:w.ownsRow B 46 2 tv ls.length (flat ls)) (hn:ls.length ≤ 100000) (hwf:∀ p ∈ ls,WfP p) :
  Calls Tryz.prog 26 #[.agg #[.int .i64 up,.int .i64 ex,tv],.agg #[.int .i64 12,.int .i64 x,.int .i64 a,.int .i64 b,.int .i64 c,.int .i64 d,.string s]] w fun e w' => e = .returned (.bool true) ∧ Below w.heap.size w w':=by
 have HHA:=hid' (handed_any up ex tv ls _ ((held_ref hown).below (((Below.refl w.heap.size w).alloc (Nat.le_refl _) (.cells #[.int .i64 up,.int .i64 ex,tv] 33)).alloc (by simp) (.cells #[.int .i64 12,.int .i64 x,.int .i64 a,.int .i64 b,.int .i64 c,.int .i64 d,.string s] 27))) hn)
 have HOW:=hid' hown
 have htv:∃ ao l cp,tv = .slice ao l cp:=by
  rcases hown.2 with ⟨h,_⟩ | ⟨g,cap,cur,h,_⟩
  ·exact ⟨_,_,_,h⟩
  ·exact ⟨_,_,_,h⟩
 obtain ⟨ao,tl,tcp,rfl⟩:=htv
 have HP:=hid' (fun (W:World) (av:Value) (h:Held W av ls) => smear_offset av ls up ex a W wu wx h hn hwf)
 have HR:=hid' (fun (W:World) (h:W.ownsRow B 46 2 (.slice ao tl tcp) ls.length (flat ls)) => ref_offset B _ ls up ex a W wu wx h hn hwf)
 generalize hr:Tab.offset up ex ls a = r at *
 obtain ⟨r1,r2⟩:=r
 simp only at HP HR
 have HST:=hid' (fun (g:Nat) (W:World) (hg:w.heap.size ≤ g) (h:Handed W g ls) (ht:Held W (.slice ao tl tcp) ls) => still_yes w.heap.size g up ex (.slice ao tl tcp) ls W hg h ht hn)
 clear hown wu wx hwf
 go_enter Tryz.func26,Tryz.ntmps26
 go_wp2_with fail
 refine HHA.out.mono ?_
 rintro e w1 ⟨g,hg,rfl,hH,hb⟩
 obtain ⟨L1,ra,rb⟩:=LW.start HOW.out hg hH hb
 have g0:=L1.g0
 have l1:=lt_of_heap ra
 have l2:=lt_of_heap rb
 have t01:=cell_of_row _ _ 0 _ _ _ ra
 have t11:=cell_of_row _ _ 1 _ _ _ ra
 have t21:=cell_of_row _ _ 2 _ _ _ ra
 have o01:=cell_of_row _ _ 0 _ _ _ rb
 have o21:=cell_of_row _ _ 2 _ _ _ rb
 have o31:=cell_of_row _ _ 3 _ _ _ rb
 simp at t01 t11 t21 o01 o21 o31
 clear hg hH hb HHA ra rb
 have L1:=hid' L1
 go_wp2_with fail
 refine (HP.out _ _ L1.out.h.held).mono ?_
 rintro e w2 ⟨rfl,hb2⟩
 have L2:=L1.out.below hb2
 clear hb2 t01 t11 t21 o01 o21 o31
 have t02:=cell_of_row _ _ 0 _ _ _ L2.t
 have t12:=cell_of_row _ _ 1 _ _ _ L2.t
 have t22:=cell_of_row _ _ 2 _ _ _ L2.t
 have o22:=cell_of_row _ _ 2 _ _ _ L2.o
 have o32:=cell_of_row _ _ 3 _ _ _ L2.o
 have o02:=cell_of_row _ _ 0 _ _ _ L2.o
 have a02:=cell_of_row _ _ 0 _ _ _ L2.a
 have a12:=cell_of_row _ _ 1 _ _ _ L2.a
 have a22:=cell_of_row _ _ 2 _ _ _ L2.a
 simp at t02 t12 t22 o22 o32 o02 a02 a12 a22
 have L2:=hid' L2
 go_wp2_with fail
 refine (HR.out w2 L2.out.own).mono ?_
 rintro e w3 ⟨rfl,hb3⟩
 have L3:=L2.out.below hb3
 clear hb3 t02 t12 t22 o22 o32 o02 a02 a12 a22
 have t03:=cell_of_row _ _ 0 _ _ _ L3.t
 have t13:=cell_of_row _ _ 1 _ _ _ L3.t
 have t23:=cell_of_row _ _ 2 _ _ _ L3.t
 have o23:=cell_of_row _ _ 2 _ _ _ L3.o
 have o33:=cell_of_row _ _ 3 _ _ _ L3.o
 have o03:=cell_of_row _ _ 0 _ _ _ L3.o
 have a03:=cell_of_row _ _ 0 _ _ _ L3.a
 have a13:=cell_of_row _ _ 1 _ _ _ L3.a
 have a23:=cell_of_row _ _ 2 _ _ _ L3.a
 simp at t03 t13 t23 o23 o33 o03 a03 a13 a23
 have L3:=hid' L3
 have e1:(r1 == r1) = true:=by simp
 have e2:(r2 == r2) = true:=by simp
 go_wp2_with (first
  | (go_at_call 34;refine (num_any _ _).mono ?_;rintro e w4 ⟨rfl,rfl⟩)
  | (go_at_call 45;refine (HST.out g _ g0 (by exact L3.out.h) (by exact held_ref L3.out.own)).mono ?_;rintro e w5 ⟨rfl,hb5⟩;have HB5:=hid' hb5;clear hb5))
 go_ret
 exact ⟨rfl,L3.out.bel.trans HB5.out⟩
set_option maxRecDepth 100000 in
set_option maxHeartbeats 3200000 in
theorem labelled_14 (B:Nat) (up ex:Int) (tv:Value) (ls:List (Int × Int)) (x a b c d:Int) (s:ByteArray) (w:World) (wu:(Lit.int .i64 up).wf = true) (wx:(Lit.int .i64 ex).wf = true)
  (hown:w.ownsRow B 46 2 tv ls.length (flat ls)) (hn:ls.length ≤ 100000) (hwf:∀ p ∈ ls,WfP p) :
  Calls Tryz.prog 26 #[.agg #[.int .i64 up,.int .i64 ex,tv],.agg #[.int .i64 14,.int .i64 x,.int .i64 a,.int .i64 b,.int .i64 c,.int .i64 d,.string s]] w fun e w' => e = .returned (.bool true) ∧ Below w.heap.size w w':=by
 have HHA:=hid' (handed_any up ex tv ls _ ((held_ref hown).below (((Below.refl w.heap.size w).alloc (Nat.le_refl _) (.cells #[.int .i64 up,.int .i64 ex,tv] 33)).alloc (by simp) (.cells #[.int .i64 14,.int .i64 x,.int .i64 a,.int .i64 b,.int .i64 c,.int .i64 d,.string s] 27))) hn)
 have HOW:=hid' hown
 have htv:∃ ao l cp,tv = .slice ao l cp:=by
  rcases hown.2 with ⟨h,_⟩ | ⟨g,cap,cur,h,_⟩
  ·exact ⟨_,_,_,h⟩
  ·exact ⟨_,_,_,h⟩
 obtain ⟨ao,tl,tcp,rfl⟩:=htv
 have HP:=hid' (fun (W:World) (av:Value) (h:Held W av ls) => smear_second av ls up ex a b W wu wx h hn hwf)
 have HR:=hid' (fun (W:World) (h:W.ownsRow B 46 2 (.slice ao tl tcp) ls.length (flat ls)) => ref_second B _ ls up ex a b W wu wx h hn hwf)
 generalize hr:Tab.second up ex ls a b = r at *
 obtain ⟨r1,r2⟩:=r
 simp only at HP HR
 have HST:=hid' (fun (g:Nat) (W:World) (hg:w.heap.size ≤ g) (h:Handed W g ls) (ht:Held W (.slice ao tl tcp) ls) => still_yes w.heap.size g up ex (.slice ao tl tcp) ls W hg h ht hn)
 clear hown wu wx hwf
 go_enter Tryz.func26,Tryz.ntmps26
 go_wp2_with fail
 refine HHA.out.mono ?_
 rintro e w1 ⟨g,hg,rfl,hH,hb⟩
 obtain ⟨L1,ra,rb⟩:=LW.start HOW.out hg hH hb
 have g0:=L1.g0
 have l1:=lt_of_heap ra
 have l2:=lt_of_heap rb
 have t01:=cell_of_row _ _ 0 _ _ _ ra
 have t11:=cell_of_row _ _ 1 _ _ _ ra
 have t21:=cell_of_row _ _ 2 _ _ _ ra
 have o01:=cell_of_row _ _ 0 _ _ _ rb
 have o21:=cell_of_row _ _ 2 _ _ _ rb
 have o31:=cell_of_row _ _ 3 _ _ _ rb
 simp at t01 t11 t21 o01 o21 o31
 clear hg hH hb HHA ra rb
 have L1:=hid' L1
 go_wp2_with fail
 refine (HP.out _ _ L1.out.h.held).mono ?_
 rintro e w2 ⟨rfl,hb2⟩
 have L2:=L1.out.below hb2
 clear hb2 t01 t11 t21 o01 o21 o31
 have t02:=cell_of_row _ _ 0 _ _ _ L2.t
 have t12:=cell_of_row _ _ 1 _ _ _ L2.t
 have t22:=cell_of_row _ _ 2 _ _ _ L2.t
 have o22:=cell_of_row _ _ 2 _ _ _ L2.o
 have o32:=cell_of_row _ _ 3 _ _ _ L2.o
 have o02:=cell_of_row _ _ 0 _ _ _ L2.o
 have a02:=cell_of_row _ _ 0 _ _ _ L2.a
 have a12:=cell_of_row _ _ 1 _ _ _ L2.a
 have a22:=cell_of_row _ _ 2 _ _ _ L2.a
 simp at t02 t12 t22 o22 o32 o02 a02 a12 a22
 have L2:=hid' L2
 go_wp2_with fail
 refine (HR.out w2 L2.out.own).mono ?_
 rintro e w3 ⟨rfl,hb3⟩
 have L3:=L2.out.below hb3
 clear hb3 t02 t12 t22 o22 o32 o02 a02 a12 a22
 have t03:=cell_of_row _ _ 0 _ _ _ L3.t
 have t13:=cell_of_row _ _ 1 _ _ _ L3.t
 have t23:=cell_of_row _ _ 2 _ _ _ L3.t
 have o23:=cell_of_row _ _ 2 _ _ _ L3.o
 have o33:=cell_of_row _ _ 3 _ _ _ L3.o
 have o03:=cell_of_row _ _ 0 _ _ _ L3.o
 have a03:=cell_of_row _ _ 0 _ _ _ L3.a
 have a13:=cell_of_row _ _ 1 _ _ _ L3.a
 have a23:=cell_of_row _ _ 2 _ _ _ L3.a
 simp at t03 t13 t23 o23 o33 o03 a03 a13 a23
 have L3:=hid' L3
 have e1:(r1 == r1) = true:=by simp
 have e2:(r2 == r2) = true:=by simp
 go_wp2_with (first
  | (go_at_call 34;refine (num_any _ _).mono ?_;rintro e w4 ⟨rfl,rfl⟩)
  | (go_at_call 45;refine (HST.out g _ g0 (by exact L3.out.h) (by exact held_ref L3.out.own)).mono ?_;rintro e w5 ⟨rfl,hb5⟩;have HB5:=hid' hb5;clear hb5))
 go_ret
 exact ⟨rfl,L3.out.bel.trans HB5.out⟩
set_option maxRecDepth 100000 in
set_option maxHeartbeats 3200000 in
theorem labelled_13_no (B:Nat) (up ex:Int) (tv:Value) (ls:List (Int × Int)) (x a b c d:Int) (s:ByteArray) (w:World) (wu:(Lit.int .i64 up).wf = true) (wx:(Lit.int .i64 ex).wf = true)
  (hown:w.ownsRow B 46 2 tv ls.length (flat ls)) (hn:ls.length ≤ 100000) (hwf:∀ p ∈ ls,WfP p) (he:(Tab.offset up ex ls a).2 ≠ 0) :
  Calls Tryz.prog 26 #[.agg #[.int .i64 up,.int .i64 ex,tv],.agg #[.int .i64 13,.int .i64 x,.int .i64 a,.int .i64 b,.int .i64 c,.int .i64 d,.string s]] w fun e w' => e = .returned (.bool true) ∧ Below w.heap.size w w':=by
 have HHA:=hid' (handed_any up ex tv ls _ ((held_ref hown).below (((Below.refl w.heap.size w).alloc (Nat.le_refl _) (.cells #[.int .i64 up,.int .i64 ex,tv] 33)).alloc (by simp) (.cells #[.int .i64 13,.int .i64 x,.int .i64 a,.int .i64 b,.int .i64 c,.int .i64 d,.string s] 27))) hn)
 have HOW:=hid' hown
 have htv:∃ ao l cp,tv = .slice ao l cp:=by
  rcases hown.2 with ⟨h,_⟩ | ⟨g,cap,cur,h,_⟩
  ·exact ⟨_,_,_,h⟩
  ·exact ⟨_,_,_,h⟩
 obtain ⟨ao,tl,tcp,rfl⟩:=htv
 have HP:=hid' (fun (W:World) (av:Value) (h:Held W av ls) => smear_label_no av ls up ex a W wu wx h hn hwf he)
 have HR:=hid' (fun (W:World) (h:W.ownsRow B 46 2 (.slice ao tl tcp) ls.length (flat ls)) => ref_label_no B _ ls up ex a W wu wx h hn hwf he)
 generalize (Tab.offset up ex ls a).2 = r2 at *
 clear he
 have HST:=hid' (fun (g:Nat) (W:World) (hg:w.heap.size ≤ g) (h:Handed W g ls) (ht:Held W (.slice ao tl tcp) ls) => still_yes w.heap.size g up ex (.slice ao tl tcp) ls W hg h ht hn)
 clear hown wu wx hwf
 go_enter Tryz.func26,Tryz.ntmps26
 go_wp2_with fail
 refine HHA.out.mono ?_
 rintro e w1 ⟨g,hg,rfl,hH,hb⟩
 obtain ⟨L1,ra,rb⟩:=LW.start HOW.out hg hH hb
 have g0:=L1.g0
 have l1:=lt_of_heap ra
 have l2:=lt_of_heap rb
 have t01:=cell_of_row _ _ 0 _ _ _ ra
 have t11:=cell_of_row _ _ 1 _ _ _ ra
 have t21:=cell_of_row _ _ 2 _ _ _ ra
 have o01:=cell_of_row _ _ 0 _ _ _ rb
 have o21:=cell_of_row _ _ 2 _ _ _ rb
 have o31:=cell_of_row _ _ 3 _ _ _ rb
 simp at t01 t11 t21 o01 o21 o31
 clear hg hH hb HHA ra rb
 have L1:=hid' L1
 go_wp2_with fail
 refine (HP.out _ _ L1.out.h.held).mono ?_
 rintro e w2 ⟨rfl,hb2⟩
 have L2:=L1.out.below hb2
 clear hb2 t01 t11 t21 o01 o21 o31
 have t02:=cell_of_row _ _ 0 _ _ _ L2.t
 have t12:=cell_of_row _ _ 1 _ _ _ L2.t
 have t22:=cell_of_row _ _ 2 _ _ _ L2.t
 have o22:=cell_of_row _ _ 2 _ _ _ L2.o
 have o32:=cell_of_row _ _ 3 _ _ _ L2.o
 have o02:=cell_of_row _ _ 0 _ _ _ L2.o
 have a02:=cell_of_row _ _ 0 _ _ _ L2.a
 have a12:=cell_of_row _ _ 1 _ _ _ L2.a
 have a22:=cell_of_row _ _ 2 _ _ _ L2.a
 simp at t02 t12 t22 o22 o32 o02 a02 a12 a22
 have L2:=hid' L2
 go_wp2_with fail
 refine (HR.out w2 L2.out.own).mono ?_
 rintro e w3 ⟨rfl,hb3⟩
 have L3:=L2.out.below hb3
 clear hb3 t02 t12 t22 o22 o32 o02 a02 a12 a22
 have t03:=cell_of_row _ _ 0 _ _ _ L3.t
 have t13:=cell_of_row _ _ 1 _ _ _ L3.t
 have t23:=cell_of_row _ _ 2 _ _ _ L3.t
 have o23:=cell_of_row _ _ 2 _ _ _ L3.o
 have o33:=cell_of_row _ _ 3 _ _ _ L3.o
 have o03:=cell_of_row _ _ 0 _ _ _ L3.o
 have a03:=cell_of_row _ _ 0 _ _ _ L3.a
 have a13:=cell_of_row _ _ 1 _ _ _ L3.a
 have a23:=cell_of_row _ _ 2 _ _ _ L3.a
 simp at t03 t13 t23 o23 o33 o03 a03 a13 a23
 have L3:=hid' L3
 have e2:(r2 == r2) = true:=by simp
 go_wp2_with (first
  | (go_at_call 34;refine (num_any _ _).mono ?_;rintro e w4 ⟨rfl,rfl⟩)
  | (go_at_call 45;refine (HST.out g _ g0 (by exact L3.out.h) (by exact held_ref L3.out.own)).mono ?_;rintro e w5 ⟨rfl,hb5⟩;have HB5:=hid' hb5;clear hb5))
 go_ret
 exact ⟨rfl,L3.out.bel.trans HB5.out⟩
set_option maxRecDepth 100000 in
set_option maxHeartbeats 3200000 in
theorem labelled_13_yes (B:Nat) (up ex:Int) (tv:Value) (ls:List (Int × Int)) (x a b c d:Int) (s:ByteArray) (w:World) (wu:(Lit.int .i64 up).wf = true) (wx:(Lit.int .i64 ex).wf = true)
  (hown:w.ownsRow B 46 2 tv ls.length (flat ls)) (hn:ls.length ≤ 100000) (hwf:∀ p ∈ ls,WfP p) (he:(Tab.offset up ex ls a).2 = 0) (dd:Int) (hD:Tab.Day ls a dd) :
  Calls Tryz.prog 26 #[.agg #[.int .i64 up,.int .i64 ex,tv],.agg #[.int .i64 13,.int .i64 x,.int .i64 a,.int .i64 b,.int .i64 c,.int .i64 d,.string s]] w fun e w' => e = .returned (.bool true) ∧ Below w.heap.size w w':=by
 have HHA:=hid' (handed_any up ex tv ls _ ((held_ref hown).below (((Below.refl w.heap.size w).alloc (Nat.le_refl _) (.cells #[.int .i64 up,.int .i64 ex,tv] 33)).alloc (by simp) (.cells #[.int .i64 13,.int .i64 x,.int .i64 a,.int .i64 b,.int .i64 c,.int .i64 d,.string s] 27))) hn)
 have HOW:=hid' hown
 have htv:∃ ao l cp,tv = .slice ao l cp:=by
  rcases hown.2 with ⟨h,_⟩ | ⟨g,cap,cur,h,_⟩
  ·exact ⟨_,_,_,h⟩
  ·exact ⟨_,_,_,h⟩
 obtain ⟨ao,tl,tcp,rfl⟩:=htv
 have HP:=hid' (fun (W:World) (av:Value) (h:Held W av ls) => smear_label_yes av ls up ex a dd W wu wx h hn hwf he hD)
 have HR:=hid' (fun (W:World) (h:W.ownsRow B 46 2 (.slice ao tl tcp) ls.length (flat ls)) => ref_label_yes B _ ls up ex a dd W wu wx h hn hwf he hD)
 generalize a - Tab.begins ls dd = r2 at *
 clear he hD
 have HST:=hid' (fun (g:Nat) (W:World) (hg:w.heap.size ≤ g) (h:Handed W g ls) (ht:Held W (.slice ao tl tcp) ls) => still_yes w.heap.size g up ex (.slice ao tl tcp) ls W hg h ht hn)
 clear hown wu wx hwf
 go_enter Tryz.func26,Tryz.ntmps26
 go_wp2_with fail
 refine HHA.out.mono ?_
 rintro e w1 ⟨g,hg,rfl,hH,hb⟩
 obtain ⟨L1,ra,rb⟩:=LW.start HOW.out hg hH hb
 have g0:=L1.g0
 have l1:=lt_of_heap ra
 have l2:=lt_of_heap rb
 have t01:=cell_of_row _ _ 0 _ _ _ ra
 have t11:=cell_of_row _ _ 1 _ _ _ ra
 have t21:=cell_of_row _ _ 2 _ _ _ ra
 have o01:=cell_of_row _ _ 0 _ _ _ rb
 have o21:=cell_of_row _ _ 2 _ _ _ rb
 have o31:=cell_of_row _ _ 3 _ _ _ rb
 simp at t01 t11 t21 o01 o21 o31
 clear hg hH hb HHA ra rb
 have L1:=hid' L1
 go_wp2_with fail
 refine (HP.out _ _ L1.out.h.held).mono ?_
 rintro e w2 ⟨rfl,hb2⟩
 have L2:=L1.out.below hb2
 clear hb2 t01 t11 t21 o01 o21 o31
 have t02:=cell_of_row _ _ 0 _ _ _ L2.t
 have t12:=cell_of_row _ _ 1 _ _ _ L2.t
 have t22:=cell_of_row _ _ 2 _ _ _ L2.t
 have o22:=cell_of_row _ _ 2 _ _ _ L2.o
 have o32:=cell_of_row _ _ 3 _ _ _ L2.o
 have o02:=cell_of_row _ _ 0 _ _ _ L2.o
 have a02:=cell_of_row _ _ 0 _ _ _ L2.a
 have a12:=cell_of_row _ _ 1 _ _ _ L2.a
 have a22:=cell_of_row _ _ 2 _ _ _ L2.a
 simp at t02 t12 t22 o22 o32 o02 a02 a12 a22
 have L2:=hid' L2
 go_wp2_with fail
 refine (HR.out w2 L2.out.own).mono ?_
 rintro e w3 ⟨rfl,hb3⟩
 have L3:=L2.out.below hb3
 clear hb3 t02 t12 t22 o22 o32 o02 a02 a12 a22
 have t03:=cell_of_row _ _ 0 _ _ _ L3.t
 have t13:=cell_of_row _ _ 1 _ _ _ L3.t
 have t23:=cell_of_row _ _ 2 _ _ _ L3.t
 have o23:=cell_of_row _ _ 2 _ _ _ L3.o
 have o33:=cell_of_row _ _ 3 _ _ _ L3.o
 have o03:=cell_of_row _ _ 0 _ _ _ L3.o
 have a03:=cell_of_row _ _ 0 _ _ _ L3.a
 have a13:=cell_of_row _ _ 1 _ _ _ L3.a
 have a23:=cell_of_row _ _ 2 _ _ _ L3.a
 simp at t03 t13 t23 o23 o33 o03 a03 a13 a23
 have L3:=hid' L3
 have e1:(dd == dd) = true:=by simp
 have e2:(r2 == r2) = true:=by simp
 go_wp2_with (first
  | (go_at_call 34;refine (num_any _ _).mono ?_;rintro e w4 ⟨rfl,rfl⟩)
  | (go_at_call 45;refine (HST.out g _ g0 (by exact L3.out.h) (by exact held_ref L3.out.own)).mono ?_;rintro e w5 ⟨rfl,hb5⟩;have HB5:=hid' hb5;clear hb5))
 go_ret
 exact ⟨rfl,L3.out.bel.trans HB5.out⟩
theorem labelled_13 (B:Nat) (up ex:Int) (tv:Value) (ls:List (Int × Int)) (x a b c d:Int) (s:ByteArray) (w:World) (wu:(Lit.int .i64 up).wf = true) (wx:(Lit.int .i64 ex).wf = true)
  (hown:w.ownsRow B 46 2 tv ls.length (flat ls)) (hn:ls.length ≤ 100000) (hwf:∀ p ∈ ls,WfP p) :
  Calls Tryz.prog 26 #[.agg #[.int .i64 up,.int .i64 ex,tv],.agg #[.int .i64 13,.int .i64 x,.int .i64 a,.int .i64 b,.int .i64 c,.int .i64 d,.string s]] w fun e w' => e = .returned (.bool true) ∧ Below w.heap.size w w':=by
 by_cases he:(Tab.offset up ex ls a).2 = 0
 ·obtain ⟨hwh,_,hla⟩:=Tab.offset_ok he
  obtain ⟨dd,hD⟩:=(Tab.good_of_whole hwh).has_day a hla
  exact labelled_13_yes B up ex tv ls x a b c d s w wu wx hown hn hwf he dd hD
 ·exact labelled_13_no B up ex tv ls x a b c d s w wu wx hown hn hwf he
theorem labelled_all (B:Nat) (up ex:Int) (tv:Value) (ls:List (Int × Int)) (k x a b c d:Int) (s:ByteArray) (w:World) (wu:(Lit.int .i64 up).wf = true) (wx:(Lit.int .i64 ex).wf = true)
  (hown:w.ownsRow B 46 2 tv ls.length (flat ls)) (hn:ls.length ≤ 100000) (hwf:∀ p ∈ ls,WfP p) (hk:k = 12 ∨ k = 13 ∨ k = 14) :
  Calls Tryz.prog 26 #[.agg #[.int .i64 up,.int .i64 ex,tv],.agg #[.int .i64 k,.int .i64 x,.int .i64 a,.int .i64 b,.int .i64 c,.int .i64 d,.string s]] w fun e w' => e = .returned (.bool true) ∧ Below w.heap.size w w':=by
 rcases hk with rfl | rfl | rfl
 ·exact labelled_12 B up ex tv ls x a b c d s w wu wx hown hn hwf
 ·exact labelled_13 B up ex tv ls x a b c d s w wu wx hown hn hwf
 ·exact labelled_14 B up ex tv ls x a b c d s w wu wx hown hn hwf
set_option maxRecDepth 100000 in
set_option maxHeartbeats 1600000 in
theorem pure_labelled {X:Xs} (B bW n:Nat) (o:Op) (w:World) (hn:n ≤ 90000) (hI:Inv X B bW n w) (hk:o.kind = 12 ∨ o.kind = 13 ∨ o.kind = 14) :
  Calls Tryz.prog 17 #[.pointer (some ⟨bW,0,none⟩),.agg #[.int .i64 o.kind,.int .i64 o.x,.int .i64 o.a,.int .i64 o.b,.int .i64 o.c,.int .i64 o.d,.string o.s]] w fun e w' => e = .returned (.bool true) ∧ Below w.heap.size w w':=by
 obtain ⟨k,x,a,b,c,d,s⟩:=o
 simp only at *
 have HB0:=hid' ((Below.refl w.heap.size w).alloc (Nat.le_refl _) (.cells #[.int .i64 k,.int .i64 x,.int .i64 a,.int .i64 b,.int .i64 c,.int .i64 d,.string s] 27))
 obtain ⟨le,tv,lv,xv,F,ts,ls,up,ex,se,fr,hb,ht,hl,h1,h2,h3,h4⟩:=hI
 have HLA:=hid' (fun (W:World) (h:W.ownsRow B 46 2 lv ls.length (flat ls)) => labelled_all B up ex lv ls k x a b c d s W h3.up h3.ex h (by omega) h3.tab hk)
 have OW:=hid' (hl.alloc (.cells #[.int .i64 k,.int .i64 x,.int .i64 a,.int .i64 b,.int .i64 c,.int .i64 d,.string s] 27)).drew
 have hlt:=hb.lt
 have c1:=hb.cell 1
 have c2:=hb.cell 2
 have c3:=hb.cell 3
 simp at c1 c2 c3
 clear hb ht hl h3 h4
 rcases hk with rfl | rfl | rfl
 all_goals
  go_enter Tryz.func17,Tryz.ntmps17
  go_wp2_with fail
  go_region_with (go_at_call 26;refine (HLA.out _ (by exact OW.out)).mono ?_;rintro e w1 ⟨rfl,hb1⟩;have HB1:=hid' hb1;clear hb1)
  all_goals
   go_wp2
   go_ret
   exact ⟨rfl,HB0.out.drew.trans (HB1.out.mono (by exact HB0.out.size))⟩
theorem does_labelled {X:Xs} (o:Op) (hk:o.kind = 12 ∨ o.kind = 13 ∨ o.kind = 14) (B n:Nat) (wr:World) (hn:n ≤ 90000):Does X B B n o wr:=by
 refine does_pure (.inr (by omega)) (by omega) ?_
 intro w1 hI hB1 hb1
 refine (pure_labelled B B n o w1 hn hI hk).mono ?_
 rintro e w' ⟨rfl,hbb⟩
 exact ⟨rfl,(hI.below hbb).up (Nat.le_succ _),Keep.below hbb,hbb.mono hB1⟩
end Go.Proofs.YtmmkhodaljpjgaaGreatDoor
