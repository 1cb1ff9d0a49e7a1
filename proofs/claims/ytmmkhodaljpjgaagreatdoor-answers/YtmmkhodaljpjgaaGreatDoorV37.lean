import Derived.Test.YtmmkhodaljpjgaaGreatDoorV35
import Derived.Test.YtmmkhodaljpjgaaGreatDoorV36
set_option maxRecDepth 100000
set_option maxHeartbeats 6400000
namespace Go.Proofs.YtmmkhodaljpjgaaGreatDoor
open Go.RowKit
theorem printed_size (up ex:Int) (ls:List (Int × Int)):(Txt.printed up ex ls).1.size ≤ 16384:=by
 cases hwh:Tab.whole up ex ls with
 | false =>
  have e:Txt.printed up ex ls = (⟨#[]⟩,8):=by unfold Txt.printed;rw [if_pos hwh]
  rw [e];decide
 | true =>
  have e:Txt.printed up ex ls = (Txt.print up ex ls,0):=by unfold Txt.printed;rw [if_neg (by rw [hwh];simp)]
  have hG:=Tab.good_of_whole hwh
  obtain ⟨hu0,hux,hx0⟩:=Tab.whole_bd hwh
  have a:=Txt.prTo_size (u:=up) (x:=ex) (ls:=ls) (by omega) (by omega) (fun i => by have:=hG.fine.getD i;omega) ls.length
  have b:=Txt.hlTo_size (Txt.dgst up ex ls) 5
  have c:(ByteArray.mk #[10]).size = 1:=rfl
  have l:=hG.len
  rw [e]
  show (Txt.print up ex ls).size ≤ 16384
  unfold Txt.print Txt.hl
  rw [Txt.size_app,Txt.size_app]
  omega
theorem pure_print {X:Xs} (B bW n:Nat) (o:Op) (w:World) (hn:n ≤ 90000) (hI:Inv X B bW n w) (hB:B ≤ w.heap.size) (hT:Table w) (hP:Pows w) (hk:o.kind = 11) :
  Calls Tryz.prog 17 #[.pointer (some ⟨bW,0,none⟩),.agg #[.int .i64 o.kind,.int .i64 o.x,.int .i64 o.a,.int .i64 o.b,.int .i64 o.c,.int .i64 o.d,.string o.s]] w fun e w' => e = .returned (.bool true) ∧ Left X B bW n w w':=by
 obtain ⟨k,x,a,b,c,d,s⟩:=o
 simp only at *
 subst hk
 obtain ⟨i0,hi0,hz0,hz1,hz2⟩:=info_parts infoString
 obtain ⟨le,tv,lv,xv,F,ts,ls,up,ex,se,fr,hb,ht,hl,h1,h2,h3,h4⟩:=hI
 have HB0:=hid' ((Below.refl w.heap.size w).alloc (Nat.le_refl _) (.cells #[.int .i64 11,.int .i64 x,.int .i64 a,.int .i64 b,.int .i64 c,.int .i64 d,.string s] 27))
 have HPR:=hid' (fun (W:World) (h:W.ownsRow B 46 2 lv ls.length (flat ls)) (hT:Table W) (hP:Pows W) => printed_any B up ex lv ls W h3.up h3.ex h (by omega) h3.tab hT hP)
 have HSZ:=hid' (printed_size up ex ls)
 generalize (Txt.printed up ex ls).1 = u at *
 have HB:=hid' hb
 have HT:=hid' ht
 have HL:=hid' hl
 have H4:=hid' h4
 have HTB:=hid' hT
 have HPW:=hid' hP
 have hlt:=hb.lt
 have c1:=hb.cell 1
 have c2:=hb.cell 2
 have c3:=hb.cell 3
 simp at c1 c2 c3
 clear hb ht hl h4 hT hP
 go_enter Tryz.func17,Tryz.ntmps17
 go_wp2_with fail
 refine (HPR.out _ (own_down HL.out HB0.out) (HTB.out.below HB0.out) (HPW.out.below HB0.out)).mono ?_
 rintro e w1 ⟨rfl,hb1⟩
 have HB1:=hid' (HB0.out.trans (hb1.mono HB0.out.size))
 have hs1:=HB1.out.size
 have BL1:Blk bW tv up ex lv se fr xv w1:=(HB1.out.block _ hlt).trans HB.out
 have T1:=hid' (own_down HT.out HB1.out)
 have L1:=hid' (own_down HL.out HB1.out)
 have v0:=BL1.cell 0
 have fv:=BL1.free 0
 have hlt1:=BL1.lt
 simp at v0
 have BL:=hid' BL1
 clear hb1 BL1 c1 c2 c3
 have fz1:∀ o,(w1.alloc o).frozen? ⟨bW,0,none⟩ = false:=fun o => (BL.out.alloc o).free 0
 go_wp2_with (at_builtin;refine wpList_append_lies _ (by rfl) (.tmp 60) (.tmp 62) 30 (by rfl) B 9 i0 (.string ByteArray.empty) 1 16 Tryz.underlying30 hi0 hz0 hz1 hz2 rfl (by decide) tv ts.length (ts.map Value.string) (by rfl) (T1.out.alloc _) ⟨w1.heap.size,0,none⟩ 1 1 [.string u] (by rfl) (by rfl) (World.news_of_block (cs:=#[.string u]) (t:=9) (fr:=(0,0)) (heap_alloc_new w1 _)) (by simp [Value.oneCell']) (by decide) (by unfold maxLen;omega) (by omega) (by simp <;> omega) (w1.heap.size + 1) (by simp) ?_;intro g3 cap3 w3 own3 hg3 hat3 hlt3;have B3:=hid' ((BL.out.alloc (.cells #[.string u] 9)).grown hg3 (T1.out.alloc _) (by decide));have d3:=B3.out.cell 0;have f3:=B3.out.free 0;simp at d3;have OWN3:=hid' own3;have HG3:=hid' hg3;clear own3 hg3 hat3)
 go_ret
 exact ⟨rfl,text_left HSZ.out le h1 h2 h3 (T1.out.alloc _) (L1.out.alloc _) H4.out ((Keeps.below HB1.out).alloc _) ((HB1.out.mono hB).alloc (by omega) _) (by simp <;> omega) OWN3.out HG3.out B3.out⟩
theorem does_print {X:Xs} (w:World) (hT:Table w) (hP:Pows w) (o:Op) (hk:o.kind = 11) (B n:Nat) (wr:World) (hB:w.heap.size ≤ B) (hn:n ≤ 90000) (hb:Below w.heap.size w wr):Does X B B n o wr:=by
 refine does_pure (.inr (by omega)) (by omega) ?_
 intro w1 hI hB1 hb1
 refine (pure_print B B n o w1 hn hI hB1 (hT.below (hb.trans (hb1.mono hB))) (hP.below (hb.trans (hb1.mono hB))) hk).mono ?_
 rintro e w' ⟨rfl,h1,h2,h3⟩
 exact ⟨rfl,h1,h2.op,h3⟩
structure LW (w:World) (up ex:Int) (tv:Value) (ls:List (Int × Int)) (oc:Array Value) (b3 g B:Nat) (wx:World):Prop where
 t:wx.heap[w.heap.size]? = some (.cells #[.int .i64 up,.int .i64 ex,tv] 33 (0,0))
 o:wx.heap[w.heap.size + 1]? = some (.cells oc 27 (0,0))
 a:wx.heap[b3]? = some (.cells #[.int .i64 up,.int .i64 ex,.slice (some ⟨g,0,none⟩) ls.length (ls.length + 2)] 78 (0,0))
 h:Handed wx g ls
 own:wx.ownsRow B 46 2 tv ls.length (flat ls)
 bel:Below w.heap.size w wx
 g0:w.heap.size ≤ g
theorem LW.below {w wx wy:World} {up ex:Int} {tv:Value} {ls:List (Int × Int)} {oc:Array Value} {b3 g B:Nat} (h:LW w up ex tv ls oc b3 g B wx) (hb:Below wx.heap.size wx wy):LW w up ex tv ls oc b3 g B wy :=
 ⟨(hb.block _ (lt_of_heap h.t)).trans h.t,(hb.block _ (lt_of_heap h.o)).trans h.o,(hb.block _ (lt_of_heap h.a)).trans h.a,h.h.below hb,own_down h.own hb,h.bel.trans (hb.mono h.bel.size),h.g0⟩
theorem LW.start {w w1:World} {up ex:Int} {tv:Value} {ls:List (Int × Int)} {oc:Array Value} {g B:Nat} (hown:w.ownsRow B 46 2 tv ls.length (flat ls))
  (hg:((w.alloc (.cells #[.int .i64 up,.int .i64 ex,tv] 33)).alloc (.cells oc 27)).heap.size ≤ g) (hH:Handed w1 g ls)
  (hb:Below ((w.alloc (.cells #[.int .i64 up,.int .i64 ex,tv] 33)).alloc (.cells oc 27)).heap.size ((w.alloc (.cells #[.int .i64 up,.int .i64 ex,tv] 33)).alloc (.cells oc 27)) w1) :
  LW w up ex tv ls oc w1.heap.size g B (w1.alloc (.cells #[.int .i64 up,.int .i64 ex,.slice (some ⟨g,0,none⟩) ls.length (ls.length + 2)] 78)) ∧ w1.heap[w.heap.size]? = some (.cells #[.int .i64 up,.int .i64 ex,tv] 33 (0,0)) ∧ w1.heap[w.heap.size + 1]? = some (.cells oc 27 (0,0)):=by
 have b0:Below w.heap.size w ((w.alloc (.cells #[.int .i64 up,.int .i64 ex,tv] 33)).alloc (.cells oc 27)):=((Below.refl w.heap.size w).alloc (Nat.le_refl _) _).alloc (by simp) _
 have b2:=(Below.refl w1.heap.size w1).alloc (Nat.le_refl _) (.cells #[.int .i64 up,.int .i64 ex,.slice (some ⟨g,0,none⟩) ls.length (ls.length + 2)] 78)
 have r1:=heap_alloc2_old w (.cells #[.int .i64 up,.int .i64 ex,tv] 33) (.cells oc 27)
 have r2:=heap_alloc2_new w (.cells #[.int .i64 up,.int .i64 ex,tv] 33) (.cells oc 27)
 have r1':=(hb.block _ (lt_of_heap r1)).trans r1
 have r2':=(hb.block _ (lt_of_heap r2)).trans r2
 have bel1:=b0.trans (hb.mono b0.size)
 have hsz:=b0.size
 exact ⟨⟨(b2.block _ (lt_of_heap r1')).trans r1',(b2.block _ (lt_of_heap r2')).trans r2',heap_alloc_new _ _,hH.below b2,own_down hown (bel1.trans (b2.mono bel1.size)),bel1.trans (b2.mono bel1.size),by omega⟩,r1',r2'⟩
theorem labelled_12 (B:Nat) (up ex:Int) (tv:Value) (ls:List (Int × Int)) (x a b c d:Int) (s:ByteArray) (w:World) (wu:(Lit.int .i64 up).wf = true) (wx:(Lit.int .i64 ex).wf = true)
  (hown:w.ownsRow B 46 2 tv ls.length (flat ls)) (hn:ls.length ≤ 100000) (hwf:∀ p ∈ ls,WfP p) :
  Calls Tryz.prog 26 #[.agg #[.int .i64 up,.int .i64 ex,tv],.agg #[.int .i64 12,.int .i64 x,.int .i64 a,.int .i64 b,.int .i64 c,.int .i64 d,.string s]] w fun e w' => e = .returned (.bool true) ∧ Below w.heap.size w w':=by
 have HHA:=hid' (handed_any up ex tv ls _ ((held_ref hown).below (((Below.refl w.heap.size w).alloc (Nat.le_refl _) (.cells #[.int .i64 up,.int .i64 ex,tv] 33)).alloc (by simp) (.cells #[.int .i64 12,.int .i64 x,.int .i64 a,.int .i64 b,.int .i64 c,.int .i64 d,.string s] 27))) hn)
 have HOW:=hid' hown
 have htv:∃ ao l cp,tv = .slice ao l cp:=by
  rcases hown.2 with ⟨h,_⟩ | ⟨g,cap,cur,h,_⟩
  ·exact ⟨_,_,_,h⟩
  ·exact ⟨_,_,_,h⟩
 obtain ⟨ao,tl,tcp,rfl⟩:=htv
 have HP:=hid' (fun (W:World) (av:Value) (h:Held W av ls) => smear_offset av ls up ex a W wu wx h hn hwf)
 have HR:=hid' (fun (W:World) (h:W.ownsRow B 46 2 (.slice ao tl tcp) ls.length (flat ls)) => ref_offset B _ ls up ex a W wu wx h hn hwf)
 generalize hr:Tab.offset up ex ls a = r at *
 obtain ⟨r1,r2⟩:=r
 simp only at HP HR
 have HST:=hid' (fun (g:Nat) (W:World) (hg:w.heap.size ≤ g) (h:Handed W g ls) (ht:Held W (.slice ao tl tcp) ls) => still_yes w.heap.size g up ex (.slice ao tl tcp) ls W hg h ht hn)
 clear hown wu wx hwf
 go_enter Tryz.func26,Tryz.ntmps26
 go_wp2_with fail
 refine HHA.out.mono ?_
 rintro e w1 ⟨g,hg,rfl,hH,hb⟩
 obtain ⟨L1,ra,rb⟩:=LW.start HOW.out hg hH hb
 have g0:=L1.g0
 have l1:=lt_of_heap ra
 have l2:=lt_of_heap rb
 have t01:=cell_of_row _ _ 0 _ _ _ ra
 have t11:=cell_of_row _ _ 1 _ _ _ ra
 have t21:=cell_of_row _ _ 2 _ _ _ ra
 have o01:=cell_of_row _ _ 0 _ _ _ rb
 have o21:=cell_of_row _ _ 2 _ _ _ rb
 have o31:=cell_of_row _ _ 3 _ _ _ rb
 simp at t01 t11 t21 o01 o21 o31
 clear hg hH hb HHA ra rb
 have L1:=hid' L1
 go_wp2_with fail
 refine (HP.out _ _ L1.out.h.held).mono ?_
 rintro e w2 ⟨rfl,hb2⟩
 have L2:=L1.out.below hb2
 clear hb2 t01 t11 t21 o01 o21 o31
 have t02:=cell_of_row _ _ 0 _ _ _ L2.t
 have t12:=cell_of_row _ _ 1 _ _ _ L2.t
 have t22:=cell_of_row _ _ 2 _ _ _ L2.t
 have o22:=cell_of_row _ _ 2 _ _ _ L2.o
 have o32:=cell_of_row _ _ 3 _ _ _ L2.o
 have o02:=cell_of_row _ _ 0 _ _ _ L2.o
 have a02:=cell_of_row _ _ 0 _ _ _ L2.a
 have a12:=cell_of_row _ _ 1 _ _ _ L2.a
 have a22:=cell_of_row _ _ 2 _ _ _ L2.a
 simp at t02 t12 t22 o22 o32 o02 a02 a12 a22
 have L2:=hid' L2
 go_wp2_with fail
 refine (HR.out w2 L2.out.own).mono ?_
 rintro e w3 ⟨rfl,hb3⟩
 have L3:=L2.out.below hb3
 clear hb3 t02 t12 t22 o22 o32 o02 a02 a12 a22
 have t03:=cell_of_row _ _ 0 _ _ _ L3.t
 have t13:=cell_of_row _ _ 1 _ _ _ L3.t
 have t23:=cell_of_row _ _ 2 _ _ _ L3.t
 have o23:=cell_of_row _ _ 2 _ _ _ L3.o
 have o33:=cell_of_row _ _ 3 _ _ _ L3.o
 have o03:=cell_of_row _ _ 0 _ _ _ L3.o
 have a03:=cell_of_row _ _ 0 _ _ _ L3.a
 have a13:=cell_of_row _ _ 1 _ _ _ L3.a
 have a23:=cell_of_row _ _ 2 _ _ _ L3.a
 simp at t03 t13 t23 o23 o33 o03 a03 a13 a23
 have L3:=hid' L3
 have e1:(r1 == r1) = true:=by simp
 have e2:(r2 == r2) = true:=by simp
 go_wp2_with (first
  | (go_at_call 34;refine (num_any _ _).mono ?_;rintro e w4 ⟨rfl,rfl⟩)
  | (go_at_call 45;refine (HST.out g _ g0 (by exact L3.out.h) (by exact held_ref L3.out.own)).mono ?_;rintro e w5 ⟨rfl,hb5⟩;have HB5:=hid' hb5;clear hb5))
 go_ret
 exact ⟨rfl,L3.out.bel.trans HB5.out⟩
theorem labelled_14 (B:Nat) (up ex:Int) (tv:Value) (ls:List (Int × Int)) (x a b c d:Int) (s:ByteArray) (w:World) (wu:(Lit.int .i64 up).wf = true) (wx:(Lit.int .i64 ex).wf = true)
  (hown:w.ownsRow B 46 2 tv ls.length (flat ls)) (hn:ls.length ≤ 100000) (hwf:∀ p ∈ ls,WfP p) :
  Calls Tryz.prog 26 #[.agg #[.int .i64 up,.int .i64 ex,tv],.agg #[.int .i64 14,.int .i64 x,.int .i64 a,.int .i64 b,.int .i64 c,.int .i64 d,.string s]] w fun e w' => e = .returned (.bool true) ∧ Below w.heap.size w w':=by
 have HHA:=hid' (handed_any up ex tv ls _ ((held_ref hown).below (((Below.refl w.heap.size w).alloc (Nat.le_refl _) (.cells #[.int .i64 up,.int .i64 ex,tv] 33)).alloc (by simp) (.cells #[.int .i64 14,.int .i64 x,.int .i64 a,.int .i64 b,.int .i64 c,.int .i64 d,.string s] 27))) hn)
 have HOW:=hid' hown
 have htv:∃ ao l cp,tv = .slice ao l cp:=by
  rcases hown.2 with ⟨h,_⟩ | ⟨g,cap,cur,h,_⟩
  ·exact ⟨_,_,_,h⟩
  ·exact ⟨_,_,_,h⟩
 obtain ⟨ao,tl,tcp,rfl⟩:=htv
 have HP:=hid' (fun (W:World) (av:Value) (h:Held W av ls) => smear_second av ls up ex a b W wu wx h hn hwf)
 have HR:=hid' (fun (W:World) (h:W.ownsRow B 46 2 (.slice ao tl tcp) ls.length (flat ls)) => ref_second B _ ls up ex a b W wu wx h hn hwf)
 generalize hr:Tab.second up ex ls a b = r at *
 obtain ⟨r1,r2⟩:=r
 simp only at HP HR
 have HST:=hid' (fun (g:Nat) (W:World) (hg:w.heap.size ≤ g) (h:Handed W g ls) (ht:Held W (.slice ao tl tcp) ls) => still_yes w.heap.size g up ex (.slice ao tl tcp) ls W hg h ht hn)
 clear hown wu wx hwf
 go_enter Tryz.func26,Tryz.ntmps26
 go_wp2_with fail
 refine HHA.out.mono ?_
 rintro e w1 ⟨g,hg,rfl,hH,hb⟩
 obtain ⟨L1,ra,rb⟩:=LW.start HOW.out hg hH hb
 have g0:=L1.g0
 have l1:=lt_of_heap ra
 have l2:=lt_of_heap rb
 have t01:=cell_of_row _ _ 0 _ _ _ ra
 have t11:=cell_of_row _ _ 1 _ _ _ ra
 have t21:=cell_of_row _ _ 2 _ _ _ ra
 have o01:=cell_of_row _ _ 0 _ _ _ rb
 have o21:=cell_of_row _ _ 2 _ _ _ rb
 have o31:=cell_of_row _ _ 3 _ _ _ rb
 simp at t01 t11 t21 o01 o21 o31
 clear hg hH hb HHA ra rb
 have L1:=hid' L1
 go_wp2_with fail
 refine (HP.out _ _ L1.out.h.held).mono ?_
 rintro e w2 ⟨rfl,hb2⟩
 have L2:=L1.out.below hb2
 clear hb2 t01 t11 t21 o01 o21 o31
 have t02:=cell_of_row _ _ 0 _ _ _ L2.t
 have t12:=cell_of_row _ _ 1 _ _ _ L2.t
 have t22:=cell_of_row _ _ 2 _ _ _ L2.t
 have o22:=cell_of_row _ _ 2 _ _ _ L2.o
 have o32:=cell_of_row _ _ 3 _ _ _ L2.o
 have o02:=cell_of_row _ _ 0 _ _ _ L2.o
 have a02:=cell_of_row _ _ 0 _ _ _ L2.a
 have a12:=cell_of_row _ _ 1 _ _ _ L2.a
 have a22:=cell_of_row _ _ 2 _ _ _ L2.a
 simp at t02 t12 t22 o22 o32 o02 a02 a12 a22
 have L2:=hid' L2
 go_wp2_with fail
 refine (HR.out w2 L2.out.own).mono ?_
 rintro e w3 ⟨rfl,hb3⟩
 have L3:=L2.out.below hb3
 clear hb3 t02 t12 t22 o22 o32 o02 a02 a12 a22
 have t03:=cell_of_row _ _ 0 _ _ _ L3.t
 have t13:=cell_of_row _ _ 1 _ _ _ L3.t
 have t23:=cell_of_row _ _ 2 _ _ _ L3.t
 have o23:=cell_of_row _ _ 2 _ _ _ L3.o
 have o33:=cell_of_row _ _ 3 _ _ _ L3.o
 have o03:=cell_of_row _ _ 0 _ _ _ L3.o
 have a03:=cell_of_row _ _ 0 _ _ _ L3.a
 have a13:=cell_of_row _ _ 1 _ _ _ L3.a
 have a23:=cell_of_row _ _ 2 _ _ _ L3.a
 simp at t03 t13 t23 o23 o33 o03 a03 a13 a23
 have L3:=hid' L3
 have e1:(r1 == r1) = true:=by simp
 have e2:(r2 == r2) = true:=by simp
 go_wp2_with (first
  | (go_at_call 34;refine (num_any _ _).mono ?_;rintro e w4 ⟨rfl,rfl⟩)
  | (go_at_call 45;refine (HST.out g _ g0 (by exact L3.out.h) (by exact held_ref L3.out.own)).mono ?_;rintro e w5 ⟨rfl,hb5⟩;have HB5:=hid' hb5;clear hb5))
 go_ret
 exact ⟨rfl,L3.out.bel.trans HB5.out⟩
theorem labelled_13_no (B:Nat) (up ex:Int) (tv:Value) (ls:List (Int × Int)) (x a b c d:Int) (s:ByteArray) (w:World) (wu:(Lit.int .i64 up).wf = true) (wx:(Lit.int .i64 ex).wf = true)
  (hown:w.ownsRow B 46 2 tv ls.length (flat ls)) (hn:ls.length ≤ 100000) (hwf:∀ p ∈ ls,WfP p) (he:(Tab.offset up ex ls a).2 ≠ 0) :
  Calls Tryz.prog 26 #[.agg #[.int .i64 up,.int .i64 ex,tv],.agg #[.int .i64 13,.int .i64 x,.int .i64 a,.int .i64 b,.int .i64 c,.int .i64 d,.string s]] w fun e w' => e = .returned (.bool true) ∧ Below w.heap.size w w':=by
 have HHA:=hid' (handed_any up ex tv ls _ ((held_ref hown).below (((Below.refl w.heap.size w).alloc (Nat.le_refl _) (.cells #[.int .i64 up,.int .i64 ex,tv] 33)).alloc (by simp) (.cells #[.int .i64 13,.int .i64 x,.int .i64 a,.int .i64 b,.int .i64 c,.int .i64 d,.string s] 27))) hn)
 have HOW:=hid' hown
 have htv:∃ ao l cp,tv = .slice ao l cp:=by
  rcases hown.2 with ⟨h,_⟩ | ⟨g,cap,cur,h,_⟩
  ·exact ⟨_,_,_,h⟩
  ·exact ⟨_,_,_,h⟩
 obtain ⟨ao,tl,tcp,rfl⟩:=htv
 have HP:=hid' (fun (W:World) (av:Value) (h:Held W av ls) => smear_label_no av ls up ex a W wu wx h hn hwf he)
 have HR:=hid' (fun (W:World) (h:W.ownsRow B 46 2 (.slice ao tl tcp) ls.length (flat ls)) => ref_label_no B _ ls up ex a W wu wx h hn hwf he)
 generalize (Tab.offset up ex ls a).2 = r2 at *
 clear he
 have HST:=hid' (fun (g:Nat) (W:World) (hg:w.heap.size ≤ g) (h:Handed W g ls) (ht:Held W (.slice ao tl tcp) ls) => still_yes w.heap.size g up ex (.slice ao tl tcp) ls W hg h ht hn)
 clear hown wu wx hwf
 go_enter Tryz.func26,Tryz.ntmps26
 go_wp2_with fail
 refine HHA.out.mono ?_
 rintro e w1 ⟨g,hg,rfl,hH,hb⟩
 obtain ⟨L1,ra,rb⟩:=LW.start HOW.out hg hH hb
 have g0:=L1.g0
 have l1:=lt_of_heap ra
 have l2:=lt_of_heap rb
 have t01:=cell_of_row _ _ 0 _ _ _ ra
 have t11:=cell_of_row _ _ 1 _ _ _ ra
 have t21:=cell_of_row _ _ 2 _ _ _ ra
 have o01:=cell_of_row _ _ 0 _ _ _ rb
 have o21:=cell_of_row _ _ 2 _ _ _ rb
 have o31:=cell_of_row _ _ 3 _ _ _ rb
 simp at t01 t11 t21 o01 o21 o31
 clear hg hH hb HHA ra rb
 have L1:=hid' L1
 go_wp2_with fail
 refine (HP.out _ _ L1.out.h.held).mono ?_
 rintro e w2 ⟨rfl,hb2⟩
 have L2:=L1.out.below hb2
 clear hb2 t01 t11 t21 o01 o21 o31
 have t02:=cell_of_row _ _ 0 _ _ _ L2.t
 have t12:=cell_of_row _ _ 1 _ _ _ L2.t
 have t22:=cell_of_row _ _ 2 _ _ _ L2.t
 have o22:=cell_of_row _ _ 2 _ _ _ L2.o
 have o32:=cell_of_row _ _ 3 _ _ _ L2.o
 have o02:=cell_of_row _ _ 0 _ _ _ L2.o
 have a02:=cell_of_row _ _ 0 _ _ _ L2.a
 have a12:=cell_of_row _ _ 1 _ _ _ L2.a
 have a22:=cell_of_row _ _ 2 _ _ _ L2.a
 simp at t02 t12 t22 o22 o32 o02 a02 a12 a22
 have L2:=hid' L2
 go_wp2_with fail
 refine (HR.out w2 L2.out.own).mono ?_
 rintro e w3 ⟨rfl,hb3⟩
 have L3:=L2.out.below hb3
 clear hb3 t02 t12 t22 o22 o32 o02 a02 a12 a22
 have t03:=cell_of_row _ _ 0 _ _ _ L3.t
 have t13:=cell_of_row _ _ 1 _ _ _ L3.t
 have t23:=cell_of_row _ _ 2 _ _ _ L3.t
 have o23:=cell_of_row _ _ 2 _ _ _ L3.o
 have o33:=cell_of_row _ _ 3 _ _ _ L3.o
 have o03:=cell_of_row _ _ 0 _ _ _ L3.o
 have a03:=cell_of_row _ _ 0 _ _ _ L3.a
 have a13:=cell_of_row _ _ 1 _ _ _ L3.a
 have a23:=cell_of_row _ _ 2 _ _ _ L3.a
 simp at t03 t13 t23 o23 o33 o03 a03 a13 a23
 have L3:=hid' L3
 have e2:(r2 == r2) = true:=by simp
 go_wp2_with (first
  | (go_at_call 34;refine (num_any _ _).mono ?_;rintro e w4 ⟨rfl,rfl⟩)
  | (go_at_call 45;refine (HST.out g _ g0 (by exact L3.out.h) (by exact held_ref L3.out.own)).mono ?_;rintro e w5 ⟨rfl,hb5⟩;have HB5:=hid' hb5;clear hb5))
 go_ret
 exact ⟨rfl,L3.out.bel.trans HB5.out⟩
theorem labelled_13_yes (B:Nat) (up ex:Int) (tv:Value) (ls:List (Int × Int)) (x a b c d:Int) (s:ByteArray) (w:World) (wu:(Lit.int .i64 up).wf = true) (wx:(Lit.int .i64 ex).wf = true)
  (hown:w.ownsRow B 46 2 tv ls.length (flat ls)) (hn:ls.length ≤ 100000) (hwf:∀ p ∈ ls,WfP p) (he:(Tab.offset up ex ls a).2 = 0) (dd:Int) (hD:Tab.Day ls a dd) :
  Calls Tryz.prog 26 #[.agg #[.int .i64 up,.int .i64 ex,tv],.agg #[.int .i64 13,.int .i64 x,.int .i64 a,.int .i64 b,.int .i64 c,.int .i64 d,.string s]] w fun e w' => e = .returned (.bool true) ∧ Below w.heap.size w w':=by
 have HHA:=hid' (handed_any up ex tv ls _ ((held_ref hown).below (((Below.refl w.heap.size w).alloc (Nat.le_refl _) (.cells #[.int .i64 up,.int .i64 ex,tv] 33)).alloc (by simp) (.cells #[.int .i64 13,.int .i64 x,.int .i64 a,.int .i64 b,.int .i64 c,.int .i64 d,.string s] 27))) hn)
 have HOW:=hid' hown
 have htv:∃ ao l cp,tv = .slice ao l cp:=by
  rcases hown.2 with ⟨h,_⟩ | ⟨g,cap,cur,h,_⟩
  ·exact ⟨_,_,_,h⟩
  ·exact ⟨_,_,_,h⟩
 obtain ⟨ao,tl,tcp,rfl⟩:=htv
 have HP:=hid' (fun (W:World) (av:Value) (h:Held W av ls) => smear_label_yes av ls up ex a dd W wu wx h hn hwf he hD)
 have HR:=hid' (fun (W:World) (h:W.ownsRow B 46 2 (.slice ao tl tcp) ls.length (flat ls)) => ref_label_yes B _ ls up ex a dd W wu wx h hn hwf he hD)
 generalize a - Tab.begins ls dd = r2 at *
 clear he hD
 have HST:=hid' (fun (g:Nat) (W:World) (hg:w.heap.size ≤ g) (h:Handed W g ls) (ht:Held W (.slice ao tl tcp) ls) => still_yes w.heap.size g up ex (.slice ao tl tcp) ls W hg h ht hn)
 clear hown wu wx hwf
 go_enter Tryz.func26,Tryz.ntmps26
 go_wp2_with fail
 refine HHA.out.mono ?_
 rintro e w1 ⟨g,hg,rfl,hH,hb⟩
 obtain ⟨L1,ra,rb⟩:=LW.start HOW.out hg hH hb
 have g0:=L1.g0
 have l1:=lt_of_heap ra
 have l2:=lt_of_heap rb
 have t01:=cell_of_row _ _ 0 _ _ _ ra
 have t11:=cell_of_row _ _ 1 _ _ _ ra
 have t21:=cell_of_row _ _ 2 _ _ _ ra
 have o01:=cell_of_row _ _ 0 _ _ _ rb
 have o21:=cell_of_row _ _ 2 _ _ _ rb
 have o31:=cell_of_row _ _ 3 _ _ _ rb
 simp at t01 t11 t21 o01 o21 o31
 clear hg hH hb HHA ra rb
 have L1:=hid' L1
 go_wp2_with fail
 refine (HP.out _ _ L1.out.h.held).mono ?_
 rintro e w2 ⟨rfl,hb2⟩
 have L2:=L1.out.below hb2
 clear hb2 t01 t11 t21 o01 o21 o31
 have t02:=cell_of_row _ _ 0 _ _ _ L2.t
 have t12:=cell_of_row _ _ 1 _ _ _ L2.t
 have t22:=cell_of_row _ _ 2 _ _ _ L2.t
 have o22:=cell_of_row _ _ 2 _ _ _ L2.o
 have o32:=cell_of_row _ _ 3 _ _ _ L2.o
 have o02:=cell_of_row _ _ 0 _ _ _ L2.o
 have a02:=cell_of_row _ _ 0 _ _ _ L2.a
 have a12:=cell_of_row _ _ 1 _ _ _ L2.a
 have a22:=cell_of_row _ _ 2 _ _ _ L2.a
 simp at t02 t12 t22 o22 o32 o02 a02 a12 a22
 have L2:=hid' L2
 go_wp2_with fail
 refine (HR.out w2 L2.out.own).mono ?_
 rintro e w3 ⟨rfl,hb3⟩
 have L3:=L2.out.below hb3
 clear hb3 t02 t12 t22 o22 o32 o02 a02 a12 a22
 have t03:=cell_of_row _ _ 0 _ _ _ L3.t
 have t13:=cell_of_row _ _ 1 _ _ _ L3.t
 have t23:=cell_of_row _ _ 2 _ _ _ L3.t
 have o23:=cell_of_row _ _ 2 _ _ _ L3.o
 have o33:=cell_of_row _ _ 3 _ _ _ L3.o
 have o03:=cell_of_row _ _ 0 _ _ _ L3.o
 have a03:=cell_of_row _ _ 0 _ _ _ L3.a
 have a13:=cell_of_row _ _ 1 _ _ _ L3.a
 have a23:=cell_of_row _ _ 2 _ _ _ L3.a
 simp at t03 t13 t23 o23 o33 o03 a03 a13 a23
 have L3:=hid' L3
 have e1:(dd == dd) = true:=by simp
 have e2:(r2 == r2) = true:=by simp
 go_wp2_with (first
  | (go_at_call 34;refine (num_any _ _).mono ?_;rintro e w4 ⟨rfl,rfl⟩)
  | (go_at_call 45;refine (HST.out g _ g0 (by exact L3.out.h) (by exact held_ref L3.out.own)).mono ?_;rintro e w5 ⟨rfl,hb5⟩;have HB5:=hid' hb5;clear hb5))
 go_ret
 exact ⟨rfl,L3.out.bel.trans HB5.out⟩
end Go.Proofs.YtmmkhodaljpjgaaGreatDoor
namespace Go.Proofs.YtmmkhodaljpjgaaGreatDoor
open Go.RowKit
attribute [local go_sem ↓] Go.wp_at_zero Go.wp_at_succ
def Sv.chg (s:Sv) (c:Int):(Int × Int) × Bool:=if 0 < s.atN ∧ Tab.follows s.done s.atN (s.old + c) = true then ((s.atN,s.old + c),true) else ((0,0),false)
theorem load_pleap {w:World} {g:Nat} {cs:Array Value} (hg:w.heap[g]? = some (.cells cs 84 (0,0))) (hs:cs.size = 2):(loadVar 84 ⟨g,0,none⟩).run Tryz.prog w = .ok (.agg cs) w :=
 run_loadVar_row (P:=Tryz.prog) w g 84 84 cs (0,0) _ hg Tryz.underlying84 rfl (by rw [hs];kernel_rfl)
theorem nextOf_day {y m n:Int} (h:Cal.In y m n):nextOf y m = -1 ∨ (nextOf y m / 86400 * 86400 = nextOf y m ∧ 0 < nextOf y m ∧ nextOf y m ≤ 34712668800):=by
 have:=h.y1
 have:=h.y2
 have:=h.m1
 have:=h.m2
 have ys:=Cal.yb_succ y
 unfold nextOf
 split
 ·split
  ·exact .inl rfl
  ·right
   have a:=Cal.yb_bd (y + 1) (by omega) (by omega)
   have b:=Cal.cum_bd (y + 1) 1 (by omega) (by omega)
   have c:=Cal.cum_one (y + 1)
   have d:=Cal.yb_mono 1901 (y + 1) (by omega)
   have e:=Cal.yb_mono (y + 1) 2999 (by omega)
   have f:Cal.yb 1901 = 365:=by decide
   have g:Cal.yb 2999 = 401402:=by decide
   omega
 ·right
  have a:=Cal.yb_bd y (by omega) (by omega)
  have b:=Cal.cum_mono y 2 (m + 1) (by omega)
  have c:=Cal.cum_succ y 1 (by omega) (by omega)
  rw [show (1:Int) + 1 = 2 from rfl] at c
  have d:=Cal.cum_one y
  have e:=Cal.dim_bd y 1
  have f:=Cal.yb_mono y 2999 (by omega)
  have g:Cal.yb 2999 = 401402:=by decide
  have k:=Cal.cum_mono y (m + 1) 12 (by omega)
  have l:=Cal.cum_succ y 12 (by omega) (by omega)
  rw [show (12:Int) + 1 = 13 from rfl] at l
  have n:=Cal.cum_end y
  have o:=Cal.dim_bd y 12
  have p:=Cal.lp_01 y
  omega
theorem change_at (b:Nat) (s:Sv) (dv cv:Value) (op:Bool) (bs bf c:Int) (w:World) (h:PRow b s dv cv op bs bf w) (hM:s.Mid) (hN:s.Num) (hc:c = 1 ∨ c = -1) :
  Calls Tryz.prog 199 #[.pointer (some ⟨b,0,none⟩),.int .i64 s.utc,.int .i64 c] w fun e w' => e = .returned (.tuple #[.agg #[.int .i64 (s.chg c).1.1,.int .i64 (s.chg c).1.2],.bool (s.chg c).2]) ∧ Below w.heap.size w w':=by
 have can:=hM.can hN
 have u0:=can.u0
 have u1:=can.u1
 obtain ⟨y,m,hin⟩:=in_cal u0 u1
 have HCH:Hid (s.chg c = if 0 < s.atN ∧ Tab.follows s.done s.atN (s.old + c) = true then ((s.atN,s.old + c),true) else ((0,0),false)):=rfl
 have hat:s.atN = nextOf y m:=nextS_eq hin
 have NM:=hid' (fun W => next_month (s.utc / 86400) y m W hin)
 have hnd:nextD y m = if nextOf y m = -1 then (0,1) else (nextOf y m / 86400,0):=rfl
 have nod:=nextOf_day hin
 rw [← hat] at hnd nod
 have HP:=hid' h
 have lb:=h.lt
 have hpos:=hM.pos
 have hlen:=hM.fit.good.len
 rw [s.all_length] at hlen
 obtain ⟨gg,cap,hdv⟩:=own_some h.dd hpos
 subst hdv
 have LIE:=hid' (lies_of h.dd rfl)
 have lg:gg < w.heap.size:=(h.dd.lt _ rfl).2
 have HF:=hid' hM.doneFit.good.fine
 obtain ⟨k,hk⟩:∃ k,s.done.length = k + 1:=⟨s.done.length - 1,by omega⟩
 have kl:k < s.done.length:=by omega
 have hold:s.old = (s.done[k]'kl).2:=by
  unfold Sv.old;rw [hk,Nat.add_sub_cancel,getD_at k kl]
 have ob:=(HF.out _ (List.getElem_mem kl)).2
 have e1:=(LIE.out k kl).2
 rw [← hold] at ob e1
 have CF:=hid' (fun (W:World) (hl:Lies W gg s.done) (lg:gg < W.heap.size) (a0:0 ≤ s.atN) (a1:s.atN ≤ 34712668800) => can_follow gg cap s.done.length s.done s.atN (s.old + c) W (wf_at (by omega) (by omega)) (wf_at (by omega) (by omega)) (Nat.le_refl _) (by omega) hl lg (fun p hp => (HF.out p (List.mem_of_mem_take hp)).2))
 rw [List.take_length] at CF
 have c9:=h.c9
 generalize s.utc = u at *
 generalize s.atN = at' at *
 generalize s.old = od at *
 generalize s.chg c = r at *
 generalize Tab.follows s.done at' (od + c) = fo at *
 clear hold
 generalize hln:s.done.length = L at *
 have HL:=hid' hln
 have c1:-1 ≤ c:=by omega
 have c2:c ≤ 1:=by omega
 have hki:(0:Int) ≤ (k:Int):=by omega
 have hkn:(k:Int) < (L:Int):=by omega
 obtain ⟨hw1,hw2⟩:IntKind.i64.wrap ((L:Int) - 1) = (k:Int) ∧ wrap64 ((L:Int) - 1) = (k:Int):=⟨by rw [IntKind.wrap_i64];omega,by unfold wrap64;omega⟩
 have R0:=hid' (heap_alloc_new w (.cells #[.int .i64 0,.int .i64 0] 84))
 have B0:=hid' ((Below.refl w.heap.size w).alloc (Nat.le_refl _) (.cells #[.int .i64 0,.int .i64 0] 84))
 clear h hM hN can hin hc hat hk hln
 generalize nextD y m = nd at *
 obtain ⟨n1,n2⟩:=nd
 simp only at NM
 go_enter Tryz.func199,Tryz.ntmps199
 go_upto_region 1 with fail
 generalize hV:w.alloc (.cells #[.int .i64 0,.int .i64 0] 84) = V at *
 generalize hQ:w.heap.size = Q at *
 clear hV
 have PV:=hid' (HP.out.below (by rw [hQ];exact B0.out))
 have v9:=PV.out.c9
 have x0:=cell_of_row _ _ 0 _ _ _ R0.out
 have x1:=cell_of_row _ _ 1 _ _ _ R0.out
 have f0:=frozen_of_row _ _ 0 _ _ R0.out
 have f1:=frozen_of_row _ _ 1 _ _ R0.out
 have lv:=lt_of_heap R0.out
 have sv:=B0.out.size
 simp at x0 x1
 have g1:=(B0.out.cell (p:=⟨gg,k * 2 + 1,none⟩) (by simp only;omega)).trans e1
 clear c9 e1
 go_wp2_with fail
 refine (NM.out _).mono ?_
 rintro e w1 ⟨rfl,hw1e⟩
 subst w1
 by_cases hno:at' = -1
 ·rw [if_pos hno] at hnd
  obtain ⟨rfl,rfl⟩:=Prod.mk.inj hnd
  have H:Hid (r = ((0,0),false)):=by show _ = _;rw [HCH.out,if_neg (by omega)]
  clear nod HCH hno hnd
  go_wp2
  try simp only [Exit.inBlock,Exit.then]
  refine bodyPost_ret (results_row_tmp (p:=6) (u:=7) rfl _ _ Q #[.int .i64 0,.int .i64 0] rfl (load_pleap (two_row R0.out) rfl)) rfl ?_
  rw [H.out]
  exact ⟨rfl,by rw [hQ];exact (B0.out.setCell (p:=⟨Q,0,none⟩) (Nat.le_refl _) _).setCell (p:=⟨Q,1,none⟩) (Nat.le_refl _) _⟩
 ·rw [if_neg hno] at hnd
  obtain ⟨rfl,rfl⟩:=Prod.mk.inj hnd
  obtain ⟨a1,a2,a3⟩:at' / 86400 * 86400 = at' ∧ 0 < at' ∧ at' ≤ 34712668800:=by
   rcases nod with q | q
   ·exact absurd q hno
   ·exact q
  have HA:=hid' a1
  obtain ⟨hw3,hw4⟩:IntKind.i64.wrap (at' / 86400 * 86400) = at' ∧ wrap64 (at' / 86400 * 86400) = at':=⟨by rw [IntKind.wrap_i64];omega,by unfold wrap64;omega⟩
  clear nod hno hnd a1
  have BN:=hid' ((Below.refl V.heap.size V).alloc (Nat.le_refl _) (.cells #[.int .i64 at',.int .i64 (od + c)] 84))
  have RN:=hid' (heap_alloc_new V (.cells #[.int .i64 at',.int .i64 (od + c)] 84))
  go_upto_region 6 with fail
  generalize hW:V.alloc (.cells #[.int .i64 at',.int .i64 (od + c)] 84) = W at *
  generalize hE:V.heap.size = E at *
  clear hW
  have PW:=hid' (PV.out.below (by rw [hE];exact BN.out))
  have w9:=PW.out.c9
  have z0:=cell_of_row _ _ 0 _ _ _ RN.out
  have z1:=cell_of_row _ _ 1 _ _ _ RN.out
  simp at z0 z1
  have LW:=hid' ((LIE.out.below (by omega) (by rw [hQ];exact B0.out)).below (by omega) (by rw [hE];exact BN.out))
  have lgw:gg < W.heap.size:=by have:=BN.out.size;omega
  have SX:=hid' ((BN.out.block _ (by omega)).trans R0.out)
  clear v9 g1 x0 x1 f0 f1
  go_cut [53] from 12 (fun s53 wx => s53 = .bool (!fo) ∧ Below W.heap.size W wx)
  case first =>
   go_region_with (go_at_call 169;refine (CF.out _ (LW.out.below (by omega) (Below.refl _ _).drew) (by exact lgw) (by omega) (by omega)).mono ?_;rintro e w2 ⟨rfl,hb2⟩;have HB2:=hid' hb2;clear hb2)
   all_goals
    go_wp2_with fail
    go_meet
    case rel => exact ⟨rfl,(Below.refl _ _).drew.trans HB2.out⟩
  case rest =>
   obtain ⟨rfl,bel⟩:=hcut
   rename World => W1
   have lw:=BN.out.size
   have B1:=hid' ((B0.out.trans (BN.out.mono (by omega))).trans (bel.mono (by omega)))
   have SX1:=hid' ((bel.block _ (lt_of_heap SX.out)).trans SX.out)
   have SN1:=hid' ((bel.block _ (lt_of_heap RN.out)).trans RN.out)
   have x0:=cell_of_row _ _ 0 _ _ _ SX1.out
   have x1:=cell_of_row _ _ 1 _ _ _ SX1.out
   have f0:=frozen_of_row _ _ 0 _ _ SX1.out
   have f1:=frozen_of_row _ _ 1 _ _ SX1.out
   have z0:=cell_of_row _ _ 0 _ _ _ SN1.out
   have z1:=cell_of_row _ _ 1 _ _ _ SN1.out
   simp at x0 x1 z0 z1
   clear bel w9
   cases fo with
   | false =>
    have H:Hid (r = ((0,0),false)):=by show _ = _;rw [HCH.out,if_neg (by simp)]
    clear HCH
    go_wp2
    try simp only [Exit.inBlock,Exit.then]
    refine bodyPost_ret (results_row_tmp (p:=6) (u:=7) rfl _ _ Q #[.int .i64 0,.int .i64 0] rfl (load_pleap (two_row SX1.out) rfl)) rfl ?_
    rw [H.out]
    exact ⟨rfl,by rw [hQ];exact (B1.out.setCell (p:=⟨Q,0,none⟩) (Nat.le_refl _) _).setCell (p:=⟨Q,1,none⟩) (Nat.le_refl _) _⟩
   | true =>
    have H:Hid (r = ((at',od + c),true)):=by show _ = _;rw [HCH.out,if_pos ⟨a2,rfl⟩]
    clear HCH
    go_wp2
    try simp only [Exit.inBlock,Exit.then]
    refine bodyPost_ret (results_row_tmp (p:=6) (u:=7) rfl _ _ Q #[.int .i64 at',.int .i64 (od + c)] rfl (load_pleap (two_row SX1.out) rfl)) rfl ?_
    rw [H.out]
    exact ⟨rfl,by rw [hQ];exact (B1.out.setCell (p:=⟨Q,0,none⟩) (Nat.le_refl _) _).setCell (p:=⟨Q,1,none⟩) (Nat.le_refl _) _⟩
end Go.Proofs.YtmmkhodaljpjgaaGreatDoor
namespace Go.Proofs.YtmmkhodaljpjgaaGreatDoor
open Go.RowKit
theorem load_time {w:World} {g:Nat} {cs:Array Value} (hg:w.heap[g]? = some (.cells cs 35 (0,0))) (hs:cs.size = 2):(loadVar 35 ⟨g,0,none⟩).run Tryz.prog w = .ok (.agg cs) w :=
 run_loadVar_row (P:=Tryz.prog) w g 35 35 cs (0,0) _ hg Tryz.underlying35 rfl (by rw [hs];kernel_rfl)
theorem ref_served_no (b:Nat) (x:Sv) (dv bv cv hv:Value) (w:World) (hr:RSrv b x dv bv cv hv w) (hld:x.ld = false) :
  Calls Tryz.prog 56 #[.pointer (some ⟨b,0,none⟩)] w fun e w' => e = .returned (.tuple #[.agg #[.int .i64 0,.int .i64 0],.int .i64 3,.int .i64 8]) ∧ Below w.heap.size w w':=by
 have q5:=cell_of_row _ _ 5 _ _ _ hr.row
 have lb:=lt_of_heap hr.row
 simp at q5
 rw [hld] at q5
 have RN:=hid' (heap_alloc_new w (.cells #[.int .i64 0,.int .i64 0] 35))
 have BN:=hid' ((Below.refl w.heap.size w).alloc (Nat.le_refl _) (.cells #[.int .i64 0,.int .i64 0] 35))
 clear hr hld
 go_enter Tryz.func56,Tryz.ntmps56
 go_wp2
 try simp only [Exit.inBlock,Exit.then]
 first
  | (refine bodyPost_ret (results_row_tt (p:=2) (u:=3) (v:=4) rfl _ _ w.heap.size #[.int .i64 0,.int .i64 0] rfl (load_time RN.out rfl)) rfl ?_
    exact ⟨rfl,BN.out⟩)
  | (refine bodyPost_ret (results_row_tt (p:=2) (u:=3) (v:=4) rfl _ _ w.heap.size #[.int .i64 0,.int .i64 0] rfl (load_time (two_row RN.out) rfl)) rfl ?_
    exact ⟨rfl,(BN.out.setCell (p:=⟨w.heap.size,0,none⟩) (Nat.le_refl _) _).setCell (p:=⟨w.heap.size,1,none⟩) (Nat.le_refl _) _⟩)
theorem ref_served_step (b:Nat) (x:Sv) (dv bv cv hv:Value) (iv:Int) (w:World) (hr:RSrv b x dv bv cv hv w) (hld:x.ld = true) (hm:x.mode = 0) (hc:x.Can)
  (hi:∀ W,Below w.heap.size w W → Calls Tryz.prog 93 #[.pointer (some ⟨b,0,none⟩)] W fun e w' => e = .returned (.int .i64 iv) ∧ Below W.heap.size W w') :
  Calls Tryz.prog 56 #[.pointer (some ⟨b,0,none⟩)] w fun e w' => e = .returned (.tuple #[.agg #[.int .i64 x.utc,.int .i64 x.nf],.int .i64 iv,.int .i64 0]) ∧ Below w.heap.size w w':=by
 have HR:=hid' hr
 have HI:=hid' hi
 have HCan:=hid' hc
 have RN:=hid' (heap_alloc_new w (.cells #[.int .i64 0,.int .i64 0] 35))
 have BN:=hid' ((Below.refl w.heap.size w).alloc (Nat.le_refl _) (.cells #[.int .i64 0,.int .i64 0] 35))
 have q5:=cell_of_row _ _ 5 _ _ _ hr.row
 have q0:=cell_of_row _ _ 0 _ _ _ hr.row
 have lb:=lt_of_heap hr.row
 simp at q5 q0
 rw [hld] at q5
 rw [hm] at q0
 have UT:=hid' (fun (W:World) h => ref_utc b x dv bv cv hv W h HCan.out.fine (by have:=HCan.out.len;omega) HCan.out.hold HCan.out.n0 (by have:=HCan.out.n1;omega))
 clear hr hi hc hld hm
 generalize x.utc = u at *
 go_enter Tryz.func56,Tryz.ntmps56
 go_wp2_with fail
 refine (UT.out _ (HR.out.below BN.out)).mono ?_
 rintro e w1 ⟨rfl,m1,hw1⟩
 have B1:=hid' (show Below w.heap.size w w1 by rw [hw1];exact below_drewN BN.out m1)
 have RN1:Hid (w1.heap[w.heap.size]? = some (.cells #[.int .i64 0,.int .i64 0] 35 (0,0))):=by show _ = _;rw [hw1];exact RN.out
 clear hw1 UT q5 q0
 go_wp2_with fail
 refine (HI.out _ B1.out).mono ?_
 rintro e w2 ⟨rfl,hb2⟩
 have B2:=hid' (B1.out.trans (hb2.mono B1.out.size))
 have RN2:=hid' ((hb2.block _ (lt_of_heap RN1.out)).trans RN1.out)
 have R2:=hid' (HR.out.below B2.out)
 have q4:=cell_of_row _ _ 4 _ _ _ R2.out.row
 have t0:=cell_of_row _ _ 0 _ _ _ RN2.out
 have t1:=cell_of_row _ _ 1 _ _ _ RN2.out
 have f0:=frozen_of_row _ _ 0 _ _ RN2.out
 have f1:=frozen_of_row _ _ 1 _ _ RN2.out
 simp at q4 t0 t1
 clear hb2
 go_wp2
 try simp only [Exit.inBlock,Exit.then]
 refine bodyPost_ret (results_row_tt (p:=2) (u:=3) (v:=4) rfl _ _ w.heap.size #[.int .i64 u,.int .i64 x.nf] rfl (load_time (two_row RN2.out) rfl)) rfl ?_
 exact ⟨rfl,(B2.out.setCell (p:=⟨w.heap.size,0,none⟩) (Nat.le_refl _) _).setCell (p:=⟨w.heap.size,1,none⟩) (Nat.le_refl _) _⟩
end Go.Proofs.YtmmkhodaljpjgaaGreatDoor
namespace Go.Proofs.YtmmkhodaljpjgaaGreatDoor
open Go.RowKit
attribute [local go_sem ↓] Go.wp_at_zero Go.wp_at_succ
theorem RSrv.putH {b:Nat} {s:Sv} {dv bv cv:Value} {g n cap:Nat} {w:World} (h:RSrv b s dv bv cv (.slice (some ⟨g,0,none⟩) n cap) w) (hn:s.said.length = n) (k:Nat) (leap:Int) :
  RSrv b (s.says k leap) dv bv cv (.slice (some ⟨g,0,none⟩) n cap) ((((w.setCell ⟨g,k * 4,none⟩ (.bool true)).setCell ⟨g,k * 4 + 1,none⟩ (.int .i64 leap)).setCell ⟨g,k * 4 + 2,none⟩ (.int .i64 s.ns)).setCell ⟨g,k * 4 + 3,none⟩ (.int .i64 s.nf)):=by
 have ss:=h.ss
 rw [hn] at ss
 have d1:=own_put ss (k * 4) (.bool true)
 have d2:=own_put d1 (k * 4 + 1) (.int .i64 leap)
 have d3:=own_put d2 (k * 4 + 2) (.int .i64 s.ns)
 have d4:=own_put d3 (k * 4 + 3) (.int .i64 s.nf)
 rw [← flatH_set s.said k ⟨true,leap,s.ns,s.nf⟩] at d4
 have row:∀ {W:World} {xs:List Value},W.ownsRow 0 160 4 (.slice (some ⟨g,0,none⟩) n cap) n xs → ∃ cur,W.heap[g]? = some (.cells cur 160 (0,0)):=fun h => by
  rcases h.2 with ⟨h0,_⟩ | ⟨g',cap',cur,hv,_,hg,_⟩
  ·cases h0
  ·cases hv;exact ⟨_,hg⟩
 obtain ⟨q1,r1⟩:=row ss
 obtain ⟨q2,r2⟩:=row d1
 obtain ⟨q3,r3⟩:=row d2
 obtain ⟨q4,r4⟩:=row d3
 have hK:∀ t,160 ≠ t → Keep t w _:=fun t ht => ((((Keep.refl t w).setCell (p:=⟨g,k * 4,none⟩) r1 ht (.bool true)).setCell (p:=⟨g,k * 4 + 1,none⟩) r2 ht (.int .i64 leap)).setCell (p:=⟨g,k * 4 + 2,none⟩) r3 ht (.int .i64 s.ns)).setCell (p:=⟨g,k * 4 + 3,none⟩) r4 ht (.int .i64 s.nf)
 refine ⟨hK _ (by decide) _ _ _ h.row,own_keep h.dd (hK _ (by decide)),own_keep h.bb (hK _ (by decide)),own_keep h.cc (hK _ (by decide)),?_⟩
 show World.ownsRow _ 0 _ 4 _ (s.said.set k ⟨true,leap,s.ns,s.nf⟩).length _
 rw [List.length_set,hn]
 exact d4
theorem ref_hear (b:Nat) (x:Sv) (dv bv cv hv:Value) (src leap:Int) (w:World) (hr:RSrv b x dv bv cv hv w) (hl:x.said.length ≤ 100) (h1:x.done.length + x.com.length ≤ 1000) (h2:x.began.length + x.com.length ≤ 1000)
  (hc:∀ k lp,x.ld = true → (x.says k lp).begun.Can) :
  Calls Tryz.prog 67 #[.pointer (some ⟨b,0,none⟩),.int .i64 src,.int .i64 leap] w fun e w' => e = .returned (.int .i64 (x.hear src leap).1) ∧ RPost b (rFoot b dv bv cv hv) w (x.hear src leap).2 w':=by
 have HR:=hid' hr
 have HH:Hid (x.hear src leap = if src < 0 ∨ (x.said.length:Int) ≤ src then (13,x) else if leap < 0 ∨ 3 < leap then (14,x) else (0,(x.says src.toNat leap).weigh)):=rfl
 generalize x.hear src leap = ad at *
 have q12:=cell_of_row _ _ 12 _ _ _ hr.row
 have q3:=cell_of_row _ _ 3 _ _ _ hr.row
 have q4:=cell_of_row _ _ 4 _ _ _ hr.row
 obtain ⟨ha,hcp,hhv⟩:=own_slice hr.ss
 subst hhv
 simp at q12 q3 q4
 by_cases c1:src < 0
 ·have H:Hid (ad = (13,x)):=by show _ = _;rw [HH.out,if_pos (.inl c1)]
  clear hr hc
  go_enter Tryz.func67,Tryz.ntmps67
  go_wp2
  go_ret
  rw [H.out];exact ⟨rfl,HR.out.post⟩
 ·by_cases c2:(x.said.length:Int) ≤ src
  ·have H:Hid (ad = (13,x)):=by show _ = _;rw [HH.out,if_pos (.inr c2)]
   clear hr hc
   go_enter Tryz.func67,Tryz.ntmps67
   go_wp2
   go_ret
   rw [H.out];exact ⟨rfl,HR.out.post⟩
  ·by_cases c3:leap < 0
   ·have H:Hid (ad = (14,x)):=by show _ = _;rw [HH.out,if_neg (by omega),if_pos (.inl c3)]
    clear hr hc
    go_enter Tryz.func67,Tryz.ntmps67
    go_wp2
    go_ret
    rw [H.out];exact ⟨rfl,HR.out.post⟩
   ·by_cases c4:3 < leap
    ·have H:Hid (ad = (14,x)):=by show _ = _;rw [HH.out,if_neg (by omega),if_pos (.inr c4)]
     clear hr hc
     go_enter Tryz.func67,Tryz.ntmps67
     go_wp2
     go_ret
     rw [H.out];exact ⟨rfl,HR.out.post⟩
    ·have H:Hid (ad = (0,(x.says src.toNat leap).weigh)):=by show _ = _;rw [HH.out,if_neg (by omega),if_neg (by omega)]
     obtain ⟨k,rfl⟩:=Int.eq_ofNat_of_zero_le (show 0 ≤ src by omega)
     have hkl:k < x.said.length:=by omega
     obtain ⟨g,cap',hg⟩:=own_some hr.ss (show 0 < x.said.length by omega)
     obtain ⟨rfl,-,rfl⟩:=Value.slice.inj hg
     have a0:=(hr.ss.cellAt (k * 4 + 0) (by omega)).trans (flatH_at x.said k hkl 0 (by omega))
     have a1:=(hr.ss.cellAt (k * 4 + 1) (by omega)).trans (flatH_at x.said k hkl 1 (by omega))
     have a2:=(hr.ss.cellAt (k * 4 + 2) (by omega)).trans (flatH_at x.said k hkl 2 (by omega))
     have a3:=(hr.ss.cellAt (k * 4 + 3) (by omega)).trans (flatH_at x.said k hkl 3 (by omega))
     simp at a0 a1 a2 a3
     have f0:=own_free hr.ss (k * 4)
     have f1:=own_free hr.ss (k * 4 + 1)
     have f2:=own_free hr.ss (k * 4 + 2)
     have f3:=own_free hr.ss (k * 4 + 3)
     have PH:=hr.putH rfl k leap
     have O4:=hid' ((((((Off.refl (rFoot b dv bv cv (.slice (some ⟨g,0,none⟩) x.said.length hcp)) w).setCell (p:=⟨g,k * 4,none⟩) (fun _ => .inr (.inr (.inr (.inr rfl)))) (.bool true)).setCell (p:=⟨g,k * 4 + 1,none⟩) (fun _ => .inr (.inr (.inr (.inr rfl)))) (.int .i64 leap)).setCell (p:=⟨g,k * 4 + 2,none⟩) (fun _ => .inr (.inr (.inr (.inr rfl)))) (.int .i64 x.ns)).setCell (p:=⟨g,k * 4 + 3,none⟩) (fun _ => .inr (.inr (.inr (.inr rfl)))) (.int .i64 x.nf)).drew)
     have WG:=hid' (ref_weigh b (x.says k leap) dv bv cv _ _ (PH.below ((Below.refl _ _).drew)) h1 h2 (fun h => hc k leap h))
     rw [Int.toNat_natCast] at H
     have z0:(0:Int) ≤ (k:Int):=by omega
     have z1:(k:Int) < (x.said.length:Int):=by omega
     clear hr hc PH hg
     go_enter Tryz.func67,Tryz.ntmps67
     go_wp2_with fail
     go_region
     all_goals
      go_wp2_with fail
      refine WG.out.mono ?_
      rintro e w5 ⟨rfl,p5⟩
      have P5:=hid' p5
      clear p5
      go_wp2
      go_ret
      rw [H.out]
      exact ⟨rfl,rpost_then O4.out (fun _ e => .inl e) P5.out⟩
end Go.Proofs.YtmmkhodaljpjgaaGreatDoor
