import Derived.Test.YtmmkhodaljpjgaaGreatDoorV36
import Derived.Deep.Cut
import Derived.Deep.CutBlock
import Derived.Deep.CutRange
namespace Go.Proofs.YtmmkhodaljpjgaaGreatDoor
open Go.RowKit
attribute [local go_sem ↓] Go.wp_at_zero Go.wp_at_succ
theorem infoSrvPtr:(Tryz.prog.info? 40).map (fun i => (i.zero,i.size,i.bytes)) = some (some (.pointer none),1,8):=by kernel_rfl
theorem Blk.at6 {bW:Nat} {tv lv xs:Value} {up ex se fr:Int} {w:World} (h:Blk bW tv up ex lv se fr xs w) (v:Value):Blk bW tv up ex lv se fr v (w.setCell ⟨bW,6,none⟩ v):=by
 unfold Blk at *;rw [heap_setCell_same _ _ _ _ _ _ h];simp
theorem inv_add {P:Nat → Sv → (Nat → Prop) → World → Prop} (hP:PLaw P) {B bW n:Nat} {w w1 w3:World} {tv lv xv:Value} {F:Nat → Prop} {ts:List ByteArray} {ls:List (Int × Int)} {up ex se fr:Int} {L:List Rc} {r:Rc} {gg cap:Nat} (le:B ≤ bW) (hb:Blk bW tv up ex lv se fr xv w) (ht:w.ownsRow B 9 1 tv ts.length (ts.map Value.string))
  (hl:w.ownsRow B 46 2 lv ls.length (flat ls)) (h1:ts.length ≤ n) (h2:ls.length ≤ n + 40) (h3:Nums ts ls up ex se fr) (h4:Many P B n F xv L w) (h5:∀ k,F k → lv.ownBlock ≠ some k) (hB:B ≤ w.heap.size) (b1:Below w.heap.size w w1) (hr:r.Ok P 0 w1) (hf:∀ k,r.F k → w.heap.size ≤ k)
  (own3:w3.ownsRow B 40 1 (.slice (some ⟨gg,0,none⟩) (L.length + 1) cap) (L.length + 1) (L.map Rc.ptr ++ [r.ptr])) (hg:w1.grownBy w3 xv.ownBlock) (hat:xv.ownBlock = some gg ∨ w1.heap.size ≤ gg) :
  Inv (srvXs P hP B) B bW (n + 1) (w3.setCell ⟨bW,6,none⟩ (.slice (some ⟨gg,0,none⟩) (L.length + 1) cap)) ∧ Keep 27 w (w3.setCell ⟨bW,6,none⟩ (.slice (some ⟨gg,0,none⟩) (L.length + 1) cap)) ∧ Below B w (w3.setCell ⟨bW,6,none⟩ (.slice (some ⟨gg,0,none⟩) (L.length + 1) cap)):=by
 have x1:w1.ownsRow B 40 1 xv L.length (L.map Rc.ptr):=own_down h4.own b1
 have bw1:Blk bW tv up ex lv se fr xv w1:=(b1.block _ hb.lt).trans hb
 have bw3:=bw1.grown hg x1 (by decide)
 have t3:=own_grown (own_down ht b1) hg x1 (by decide)
 have l3:=own_grown (own_down hl b1) hg x1 (by decide)
 obtain ⟨F',L',mn,ff⟩:=h4.add hP b1 (hr.up (Nat.zero_le (n + 1))) hf hg own3 (fun k e => by
  obtain rfl:gg = k:=by simpa [Value.ownBlock] using e
  exact hat) (Nat.lt_succ_self n) hB
 have bel3:Below B w w3:=(b1.mono hB).grown hg (by have:=b1.size;omega) (own_ge x1)
 refine ⟨⟨le,tv,lv,_,F',ts,ls,up,ex,se,fr,bw3.at6 _,bw3.own t3 (by decide) 6 _,bw3.own l3 (by decide) 6 _,by omega,by omega,h3,⟨⟨L',mn.keep hP (fun k e => ?_)⟩,fun k e q => ?_⟩⟩,((Keep.below b1).grown hg x1 (by decide)).setCell (p:=⟨bW,6,none⟩) bw3 (by decide) _,bel3.setCell le _⟩
 ·obtain ⟨cs,ty,fr',hh,a,_⟩:=mn.typ hP k e
  refine heap_setCell_other _ _ _ _ (fun q => ?_)
  simp only at q
  subst q
  rw [bw3] at hh
  cases hh
  exact a rfl
 ·obtain ⟨cs,f,hh⟩:=own_typ hl q
  have:=lt_of_heap hh
  rcases ff k e with a | a
  ·exact h5 k a q
  ·omega
set_option maxRecDepth 100000 in
set_option maxHeartbeats 6400000 in
theorem pure_made15 {P:Nat → Sv → (Nat → Prop) → World → Prop} (hP:PLaw P) (B bW n:Nat) (o:Op) (w:World) (hn:n ≤ 90000) (hI:Inv (srvXs P hP B) B bW n w) (hB:B ≤ w.heap.size) (hk:o.kind = 15)
  (hM:∀ W s f,Calls Tryz.prog 27 #[.int .i64 0,.int .i64 0,.int .i64 o.c,.int .i64 o.d,.agg #[.int .i64 s,.int .i64 f]] W fun e w' => MadeP P W e w') :
  Calls Tryz.prog 17 #[.pointer (some ⟨bW,0,none⟩),.agg #[.int .i64 o.kind,.int .i64 o.x,.int .i64 o.a,.int .i64 o.b,.int .i64 o.c,.int .i64 o.d,.string o.s]] w fun e w' => e = .returned (.bool true) ∧ Inv (srvXs P hP B) B bW (n + 1) w' ∧ Keep 27 w w' ∧ Below B w w':=by
 obtain ⟨k,x,a,b,c,d,s⟩:=o
 simp only at *
 subst hk
 obtain ⟨i0,hi0,hz0,hz1,hz2⟩:=info_parts infoSrvPtr
 have HI:=hid' hI
 obtain ⟨le,tv,lv,xv,F,ts,ls,up,ex,se,fr,hb,ht,hl,h1,h2,h3,⟨L,h4⟩,h5⟩:=hI
 have HB0:=hid' ((Below.refl w.heap.size w).alloc (Nat.le_refl _) (.cells #[.int .i64 15,.int .i64 x,.int .i64 a,.int .i64 b,.int .i64 c,.int .i64 d,.string s] 27))
 have HMM:=hid' (fun W => hM W se fr)
 have HB:=hid' hb
 have HT:=hid' ht
 have HL:=hid' hl
 have H4:=hid' h4
 have H5:=hid' h5
 have hlt:=hb.lt
 have c4:=hb.cell 4
 have c5:=hb.cell 5
 simp at c4 c5
 have hll:=h4.len
 clear hb ht hl h4 h5 hM
 go_enter Tryz.func17,Tryz.ntmps17
 go_upto_region 26 with fail
 have RO:=hid' (heap_alloc_new w (.cells #[.int .i64 15,.int .i64 x,.int .i64 a,.int .i64 b,.int .i64 c,.int .i64 d,.string s] 27))
 have lq:=lt_of_heap RO.out
 have m2:=cell_of_row _ _ 2 _ _ _ RO.out
 have m3:=cell_of_row _ _ 3 _ _ _ RO.out
 have m4:=cell_of_row _ _ 4 _ _ _ RO.out
 have m5:=cell_of_row _ _ 5 _ _ _ RO.out
 simp only [List.getElem?_toArray,List.getElem?_cons_succ,List.getElem?_cons_zero] at m2 m3 m4 m5
 have lw:=Nat.lt_of_lt_of_le hlt HB0.out.size
 have v4:=(HB0.out.cell (p:=⟨bW,4,none⟩) hlt).trans c4
 have v5:=(HB0.out.cell (p:=⟨bW,5,none⟩) hlt).trans c5
 generalize hQ:w.heap.size = Q at *
 generalize hV:w.alloc (.cells #[.int .i64 15,.int .i64 x,.int .i64 a,.int .i64 b,.int .i64 c,.int .i64 d,.string s] 27) = V at *
 have QV:Q ≤ V.heap.size:=by rw [← hQ];exact HB0.out.size
 go_cut [5,11] from 12 (fun s5 s11 wx => s5 = .bool true ∧ Below Q w wx ∧ (s11 = .pointer none ∨ ∃ r:Rc,r.Ok P 0 wx ∧ (∀ k,r.F k → Q ≤ k) ∧ s11 = .pointer (some ⟨r.bc,0,none⟩)))
 case first =>
  clear hQ hV c4 c5 HB HT HL H4 H5 HI h1 h2 h3 hll
  go_region_held3 (fun w' => w'.cell? ⟨Q,4,none⟩ = some (.int .i64 c) ∧ w'.cell? ⟨Q,5,none⟩ = some (.int .i64 d) ∧ w'.cell? ⟨bW,4,none⟩ = some (.int .i64 se) ∧ w'.cell? ⟨bW,5,none⟩ = some (.int .i64 fr)) (go_keep)
   (first
    | (go_at_call 27;refine (HMM.out _).mono ?_;rintro e w1 ⟨pv,rfl,hb1,hm1⟩;have n2:=(hb1.cell (p:=⟨Q,2,none⟩) (by exact lq)).trans m2;have n3:=(hb1.cell (p:=⟨Q,3,none⟩) (by exact lq)).trans m3;have n4:=(hb1.cell (p:=⟨Q,4,none⟩) (by exact lq)).trans m4;have n5:=(hb1.cell (p:=⟨Q,5,none⟩) (by exact lq)).trans m5;have y4:=(hb1.cell (p:=⟨bW,4,none⟩) (by exact lw)).trans v4;have y5:=(hb1.cell (p:=⟨bW,5,none⟩) (by exact lw)).trans v5;have B1:=hid' (HB0.out.drew.trans (hb1.mono (by exact QV)));have M1:=hid' hm1;clear hb1 hm1))
  all_goals
   go_wp2_with fail
   go_meet
   case rel =>
    refine ⟨rfl,B1.out,?_⟩
    rcases M1.out with h | ⟨r,rok,rf,h⟩
    ·exact .inl h
    ·exact .inr ⟨r,rok,fun k e => Nat.le_trans (by exact QV) (rf k e),h⟩
 case rest =>
  obtain ⟨rfl,b1,mm⟩:=hcut
  rename World => w1
  clear m2 m3 m4 m5 v4 v5 lq lw RO HB0 HMM QV
  subst hQ
  have B1:=hid' b1
  clear b1 c4 c5 hV
  rcases mm with rfl | ⟨r,rok,rf,rfl⟩
  ·go_wp2
   go_ret
   exact ⟨rfl,(HI.out.below B1.out).up (Nat.le_succ _),Keep.below B1.out,B1.out.mono hB⟩
  ·have ROK:=hid' rok
   have RF:=hid' rf
   have X1:=hid' (own_down H4.out.own B1.out)
   have BL:=hid' (show Blk bW tv up ex lv se fr xv w1 from (B1.out.block _ hlt).trans HB.out)
   have v6:=BL.out.cell 6
   have hlt1:=BL.out.lt
   have hs1:=B1.out.size
   simp at v6
   obtain ⟨xa,xcp,hxv⟩:=own_slice X1.out
   subst hxv
   have fz1:∀ o,(w1.alloc o).frozen? ⟨bW,6,none⟩ = false:=fun o => (BL.out.alloc o).free 6
   clear rok rf
   go_wp2_with (at_builtin;refine wpList_append_lies _ (by rfl) (.tmp 116) (.tmp 118) 36 (by rfl) B 40 i0 (.pointer none) 1 8 Tryz.underlying36 hi0 hz0 hz1 hz2 rfl (by decide) (.slice xa L.length xcp) L.length (L.map Rc.ptr) (by rfl) (X1.out.alloc _) ⟨w1.heap.size,0,none⟩ 1 1 [.pointer (some ⟨r.bc,0,none⟩)] (by rfl) (by rfl) (World.news_of_block (cs:=#[.pointer (some ⟨r.bc,0,none⟩)]) (t:=40) (fr:=(0,0)) (heap_alloc_new w1 _)) (by simp [Value.oneCell']) (by decide) (by unfold maxLen;omega) (by omega) (by simp <;> omega) (w1.heap.size + 1) (by simp) ?_;intro g3 cap3 w3 own3 hg3 hat3 hlt3;have B3:=hid' ((BL.out.alloc (.cells #[.pointer (some ⟨r.bc,0,none⟩)] 40)).grown hg3 (X1.out.alloc _) (by decide));have d3:=B3.out.cell 6;have f3:=B3.out.free 6;simp at d3;have OWN3:=hid' own3;have HG3:=hid' hg3;have HAT3:=hid' hat3;clear own3 hg3 hat3)
   go_ret
   have BA:=(Below.refl w1.heap.size w1).alloc (Nat.le_refl _) (.cells #[.pointer (some ⟨r.bc,0,none⟩)] 40)
   exact ⟨rfl,inv_add hP le HB.out HT.out HL.out h1 h2 h3 H4.out H5.out hB (B1.out.trans (BA.mono hs1)) (ROK.out.keep hP (fun k e => BA.block k (ROK.out.low hP k e))) RF.out OWN3.out HG3.out (by
    rcases HAT3.out with q | q
    ·exact .inl q
    ·exact .inr (by simp <;> omega))⟩
set_option maxRecDepth 100000 in
set_option maxHeartbeats 6400000 in
theorem pure_made16 {P:Nat → Sv → (Nat → Prop) → World → Prop} (hP:PLaw P) (B bW n:Nat) (o:Op) (w:World) (hn:n ≤ 90000) (hI:Inv (srvXs P hP B) B bW n w) (hB:B ≤ w.heap.size) (hk:o.kind = 16)
  (hM:∀ W s f,Calls Tryz.prog 27 #[.int .i64 o.a,.int .i64 o.b,.int .i64 o.c,.int .i64 o.d,.agg #[.int .i64 s,.int .i64 f]] W fun e w' => MadeP P W e w') :
  Calls Tryz.prog 17 #[.pointer (some ⟨bW,0,none⟩),.agg #[.int .i64 o.kind,.int .i64 o.x,.int .i64 o.a,.int .i64 o.b,.int .i64 o.c,.int .i64 o.d,.string o.s]] w fun e w' => e = .returned (.bool true) ∧ Inv (srvXs P hP B) B bW (n + 1) w' ∧ Keep 27 w w' ∧ Below B w w':=by
 obtain ⟨k,x,a,b,c,d,s⟩:=o
 simp only at *
 subst hk
 obtain ⟨i0,hi0,hz0,hz1,hz2⟩:=info_parts infoSrvPtr
 have HI:=hid' hI
 obtain ⟨le,tv,lv,xv,F,ts,ls,up,ex,se,fr,hb,ht,hl,h1,h2,h3,⟨L,h4⟩,h5⟩:=hI
 have HB0:=hid' ((Below.refl w.heap.size w).alloc (Nat.le_refl _) (.cells #[.int .i64 16,.int .i64 x,.int .i64 a,.int .i64 b,.int .i64 c,.int .i64 d,.string s] 27))
 have HMM:=hid' (fun W => hM W se fr)
 have HB:=hid' hb
 have HT:=hid' ht
 have HL:=hid' hl
 have H4:=hid' h4
 have H5:=hid' h5
 have hlt:=hb.lt
 have c4:=hb.cell 4
 have c5:=hb.cell 5
 simp at c4 c5
 have hll:=h4.len
 clear hb ht hl h4 h5 hM
 go_enter Tryz.func17,Tryz.ntmps17
 go_upto_region 27 with fail
 have RO:=hid' (heap_alloc_new w (.cells #[.int .i64 16,.int .i64 x,.int .i64 a,.int .i64 b,.int .i64 c,.int .i64 d,.string s] 27))
 have lq:=lt_of_heap RO.out
 have m2:=cell_of_row _ _ 2 _ _ _ RO.out
 have m3:=cell_of_row _ _ 3 _ _ _ RO.out
 have m4:=cell_of_row _ _ 4 _ _ _ RO.out
 have m5:=cell_of_row _ _ 5 _ _ _ RO.out
 simp only [List.getElem?_toArray,List.getElem?_cons_succ,List.getElem?_cons_zero] at m2 m3 m4 m5
 have lw:=Nat.lt_of_lt_of_le hlt HB0.out.size
 have v4:=(HB0.out.cell (p:=⟨bW,4,none⟩) hlt).trans c4
 have v5:=(HB0.out.cell (p:=⟨bW,5,none⟩) hlt).trans c5
 generalize hQ:w.heap.size = Q at *
 generalize hV:w.alloc (.cells #[.int .i64 16,.int .i64 x,.int .i64 a,.int .i64 b,.int .i64 c,.int .i64 d,.string s] 27) = V at *
 have QV:Q ≤ V.heap.size:=by rw [← hQ];exact HB0.out.size
 go_cut [5,11] from 12 (fun s5 s11 wx => s5 = .bool true ∧ Below Q w wx ∧ (s11 = .pointer none ∨ ∃ r:Rc,r.Ok P 0 wx ∧ (∀ k,r.F k → Q ≤ k) ∧ s11 = .pointer (some ⟨r.bc,0,none⟩)))
 case first =>
  clear hQ hV c4 c5 HB HT HL H4 H5 HI h1 h2 h3 hll
  go_region_held3 (fun w' => w'.cell? ⟨Q,2,none⟩ = some (.int .i64 a) ∧ w'.cell? ⟨Q,3,none⟩ = some (.int .i64 b) ∧ w'.cell? ⟨Q,4,none⟩ = some (.int .i64 c) ∧ w'.cell? ⟨Q,5,none⟩ = some (.int .i64 d) ∧ w'.cell? ⟨bW,4,none⟩ = some (.int .i64 se) ∧ w'.cell? ⟨bW,5,none⟩ = some (.int .i64 fr)) (go_keep)
   (first
    | (go_at_call 27;refine (HMM.out _).mono ?_;rintro e w1 ⟨pv,rfl,hb1,hm1⟩;have n2:=(hb1.cell (p:=⟨Q,2,none⟩) (by exact lq)).trans m2;have n3:=(hb1.cell (p:=⟨Q,3,none⟩) (by exact lq)).trans m3;have n4:=(hb1.cell (p:=⟨Q,4,none⟩) (by exact lq)).trans m4;have n5:=(hb1.cell (p:=⟨Q,5,none⟩) (by exact lq)).trans m5;have y4:=(hb1.cell (p:=⟨bW,4,none⟩) (by exact lw)).trans v4;have y5:=(hb1.cell (p:=⟨bW,5,none⟩) (by exact lw)).trans v5;have B1:=hid' (HB0.out.drew.trans (hb1.mono (by exact QV)));have M1:=hid' hm1;clear hb1 hm1))
  all_goals
   go_wp2_with fail
   go_meet
   case rel =>
    refine ⟨rfl,B1.out,?_⟩
    rcases M1.out with h | ⟨r,rok,rf,h⟩
    ·exact .inl h
    ·exact .inr ⟨r,rok,fun k e => Nat.le_trans (by exact QV) (rf k e),h⟩
 case rest =>
  obtain ⟨rfl,b1,mm⟩:=hcut
  rename World => w1
  clear m2 m3 m4 m5 v4 v5 lq lw RO HB0 HMM QV
  subst hQ
  have B1:=hid' b1
  clear b1 c4 c5 hV
  rcases mm with rfl | ⟨r,rok,rf,rfl⟩
  ·go_wp2
   go_ret
   exact ⟨rfl,(HI.out.below B1.out).up (Nat.le_succ _),Keep.below B1.out,B1.out.mono hB⟩
  ·have ROK:=hid' rok
   have RF:=hid' rf
   have X1:=hid' (own_down H4.out.own B1.out)
   have BL:=hid' (show Blk bW tv up ex lv se fr xv w1 from (B1.out.block _ hlt).trans HB.out)
   have v6:=BL.out.cell 6
   have hlt1:=BL.out.lt
   have hs1:=B1.out.size
   simp at v6
   obtain ⟨xa,xcp,hxv⟩:=own_slice X1.out
   subst hxv
   have fz1:∀ o,(w1.alloc o).frozen? ⟨bW,6,none⟩ = false:=fun o => (BL.out.alloc o).free 6
   clear rok rf
   go_wp2_with (at_builtin;refine wpList_append_lies _ (by rfl) (.tmp 116) (.tmp 118) 36 (by rfl) B 40 i0 (.pointer none) 1 8 Tryz.underlying36 hi0 hz0 hz1 hz2 rfl (by decide) (.slice xa L.length xcp) L.length (L.map Rc.ptr) (by rfl) (X1.out.alloc _) ⟨w1.heap.size,0,none⟩ 1 1 [.pointer (some ⟨r.bc,0,none⟩)] (by rfl) (by rfl) (World.news_of_block (cs:=#[.pointer (some ⟨r.bc,0,none⟩)]) (t:=40) (fr:=(0,0)) (heap_alloc_new w1 _)) (by simp [Value.oneCell']) (by decide) (by unfold maxLen;omega) (by omega) (by simp <;> omega) (w1.heap.size + 1) (by simp) ?_;intro g3 cap3 w3 own3 hg3 hat3 hlt3;have B3:=hid' ((BL.out.alloc (.cells #[.pointer (some ⟨r.bc,0,none⟩)] 40)).grown hg3 (X1.out.alloc _) (by decide));have d3:=B3.out.cell 6;have f3:=B3.out.free 6;simp at d3;have OWN3:=hid' own3;have HG3:=hid' hg3;have HAT3:=hid' hat3;clear own3 hg3 hat3)
   go_ret
   have BA:=(Below.refl w1.heap.size w1).alloc (Nat.le_refl _) (.cells #[.pointer (some ⟨r.bc,0,none⟩)] 40)
   exact ⟨rfl,inv_add hP le HB.out HT.out HL.out h1 h2 h3 H4.out H5.out hB (B1.out.trans (BA.mono hs1)) (ROK.out.keep hP (fun k e => BA.block k (ROK.out.low hP k e))) RF.out OWN3.out HG3.out (by
    rcases HAT3.out with q | q
    ·exact .inl q
    ·exact .inr (by simp <;> omega))⟩
theorem does_made15 {P:Nat → Sv → (Nat → Prop) → World → Prop} (hP:PLaw P) {B n:Nat} {o:Op} {w:World} (hn:n ≤ 90000) (hk:o.kind = 15)
  (hM:∀ W s f,Calls Tryz.prog 27 #[.int .i64 0,.int .i64 0,.int .i64 o.c,.int .i64 o.d,.agg #[.int .i64 s,.int .i64 f]] W fun e w' => MadeP P W e w'):Does (srvXs P hP B) B B n o w :=
 does_pure (.inr (by omega)) (by omega) (fun w1 hI hB _ => pure_made15 hP B B n o w1 hn hI hB hk hM)
theorem does_made16 {P:Nat → Sv → (Nat → Prop) → World → Prop} (hP:PLaw P) {B n:Nat} {o:Op} {w:World} (hn:n ≤ 90000) (hk:o.kind = 16)
  (hM:∀ W s f,Calls Tryz.prog 27 #[.int .i64 o.a,.int .i64 o.b,.int .i64 o.c,.int .i64 o.d,.agg #[.int .i64 s,.int .i64 f]] W fun e w' => MadeP P W e w'):Does (srvXs P hP B) B B n o w :=
 does_pure (.inr (by omega)) (by omega) (fun w1 hI hB _ => pure_made16 hP B B n o w1 hn hI hB hk hM)
end Go.Proofs.YtmmkhodaljpjgaaGreatDoor
namespace Go.Proofs.YtmmkhodaljpjgaaGreatDoor
open Go.RowKit
attribute [local go_sem ↓] Go.wp_at_zero Go.wp_at_succ
set_option maxRecDepth 100000 in
set_option maxHeartbeats 6400000 in
theorem turns_load {P:Nat → Sv → (Nat → Prop) → World → Prop} (hP:PLaw P) (bc bx by' br:Nat) (hv:Value) (m:Int) (hs:List Vw) (s s':Sv) (Fx Fy Fr Fv:Nat → Prop) (x a b c d ev nv:Int) (so t:ByteArray) (w:World) (G:World → Prop)
  (h:CS P bc bx by' br hv m hs s s s Fx Fy Fr Fv w) (hx:PLoads P t s s' ev nv G) (hg:∀ W,Off (AllF Fx Fy Fr Fv) w W → G W)
  (hrf:∀ dv bv cv rh W,RSrv br s dv bv cv rh W → Calls Tryz.prog 65 #[.pointer (some ⟨br,0,none⟩),.string t] W fun e w' => e = .returned (.tuple #[.int .i64 ev,.int .i64 nv]) ∧ RPost br (rFoot br dv bv cv rh) W s' w')
  (hsee:∀ F W,P bx s' F W → Shows bx s' W) (l1:s'.done.length ≤ 900) (l2:s'.com.length ≤ 900) (l3:hs.length ≤ 900000) (m0:0 ≤ m) (m1:m ≤ 10000000000) :
  Calls Tryz.prog 31 #[.pointer (some ⟨bc,0,none⟩),.agg #[.int .i64 18,.int .i64 x,.int .i64 a,.int .i64 b,.int .i64 c,.int .i64 d,.string so],.string t] w fun e w' => e = .returned (.bool true) ∧ TurnP P bc bx by' br hs.length m s' (AllF Fx Fy Fr Fv) w w':=by
 have B0:=hid' ((Below.refl w.heap.size w).alloc (Nat.le_refl _) (.cells #[.int .i64 18,.int .i64 x,.int .i64 a,.int .i64 b,.int .i64 c,.int .i64 d,.string so] 27))
 have R0:=hid' (heap_alloc_new w (.cells #[.int .i64 18,.int .i64 x,.int .i64 a,.int .i64 b,.int .i64 c,.int .i64 d,.string so] 27))
 have H0:=hid' (h.below hP B0.out)
 have LX:Hid (∀ k,Fx k ∨ Fy k ∨ Fr k → (AllF Fx Fy Fr Fv k ∨ w.heap.size ≤ k) ∧ k ≠ w.heap.size):=fun k e => by
  rcases e with e | e | e
  ·obtain ⟨_,_,_,hh,_⟩:=hP.low h.x k e;have:=lt_of_heap hh;exact ⟨.inl (.inl e),by omega⟩
  ·obtain ⟨_,_,_,hh,_⟩:=hP.low h.y k e;have:=lt_of_heap hh;exact ⟨.inl (.inr (.inl e)),by omega⟩
  ·have:=h.rlow k e;exact ⟨.inl (.inr (.inr (.inl e))),by omega⟩
 have HX:=hid' hx
 have HG:=hid' hg
 have HRF:=hid' hrf
 have HSEE:=hid' hsee
 clear h hx hrf hsee hg
 go_enter Tryz.func31,Tryz.ntmps31
 go_upto_region 13 with fail
 generalize hV:w.alloc (.cells #[.int .i64 18,.int .i64 x,.int .i64 a,.int .i64 b,.int .i64 c,.int .i64 d,.string so] 27) = V at *
 clear hV
 have c0:=cell_of_row _ _ 0 _ _ _ H0.out.c
 simp at c0
 go_wp2_with fail
 refine (HX.out bx Fx _ H0.out.x (HG.out _ (Off.of_below B0.out))).mono ?_
 rintro e w1 ⟨rfl,F1,p1,o1,f1⟩
 have M1:=hid' (mid_x hP H0.out R0.out (Off.of_below B0.out) LX.out p1 o1 f1)
 clear p1 o1 f1 c0
 obtain ⟨Fx1,Fy1,Fr1,cs1,op1,of1,ff1⟩:=M1.out
 have CS1:=hid' cs1
 have OP1:=hid' op1
 have OF1:=hid' of1
 have FF1:=hid' ff1
 have c1:=cell_of_row _ _ 1 _ _ _ cs1.c
 simp at c1
 clear cs1 op1 of1 ff1 M1
 go_wp2_with fail
 refine (HX.out by' Fy1 _ CS1.out.y (HG.out _ OF1.out)).mono ?_
 rintro e w2 ⟨rfl,F2,p1,o1,f1⟩
 have M2:=hid' (mid_y hP CS1.out OP1.out OF1.out FF1.out p1 o1 f1)
 clear p1 o1 f1 c1
 obtain ⟨Fx2,Fy2,Fr2,cs2,op2,of2,ff2⟩:=M2.out
 have CS2:=hid' cs2
 have OP2:=hid' op2
 have OF2:=hid' of2
 have FF2:=hid' ff2
 have c2:=cell_of_row _ _ 2 _ _ _ cs2.c
 simp at c2
 obtain ⟨rdv,rbv,rcv,rrh,rr2,re2⟩:=cs2.r
 have RR2:=hid' rr2
 clear cs2 op2 of2 ff2 M2 rr2 re2
 go_wp2_with fail
 refine (HRF.out rdv rbv rcv rrh _ RR2.out).mono ?_
 rintro e W3 ⟨rfl,p1⟩
 have P1:=hid' p1
 clear p1 c2
 have M3:Mid3 P bc bx by' br w.heap.size hv m hs s' s' s' (AllF Fx Fy Fr Fv) Fv #[.int .i64 18,.int .i64 x,.int .i64 a,.int .i64 b,.int .i64 c,.int .i64 d,.string so] w W3:=mid_r hP CS2.out OP2.out OF2.out FF2.out (fun dv bv cv rh q => by
  obtain ⟨rfl,rfl,rfl,rfl⟩:=q.uniq RR2.out
  exact P1.out)
 obtain ⟨Fx3,Fy3,Fr3,cs3,op3,of3,ff3⟩:=M3
 have CS3:=hid' cs3
 have OF3:=hid' of3
 have FF3:=hid' ff3
 have c3:=cell_of_row _ _ 0 _ _ _ cs3.c
 simp at c3
 obtain ⟨sdv,sbv,scv,srh,sr3,se3⟩:=cs3.r
 have RD:=hid' (reads_any bc bx by' br bx hv sdv sbv scv srh m hs s' W3 cs3.c cs3.hh cs3.ok sr3 (HSEE.out _ _ cs3.x) l1 l2 l3 m0 m1)
 clear cs3 op3 of3 ff3 sr3 se3
 have e1:(ev == ev) = true:=by simp
 have e0:(nv == nv) = true:=by simp
 go_wp2_with fail
 refine RD.out.mono ?_
 rintro e w5 ⟨rfl,rp⟩
 have RP:=hid' rp
 clear rp RD c3
 go_wp2_with (go_at_call 34;refine (num_any _ _).mono ?_;rintro e w6 ⟨rfl,rfl⟩)
 go_ret
 obtain ⟨hv',v1,v2,F',cs5,of5,ff5⟩:=CS3.out.read hP RP.out
 have sz3:=OF3.out.size
 refine ⟨rfl,hv',hs ++ [v1,v2],Fx3,Fy3,Fr3,F',cs5,by simp,OF3.out.trans of5 (fun k hk e => .inr (.inr (.inr e))),fun k e => ?_⟩
 rcases e with e | e | e | e
 ·exact (FF3.out k (.inl e)).1
 ·exact (FF3.out k (.inr (.inl e))).1
 ·exact (FF3.out k (.inr (.inr e))).1
 ·rcases ff5 k e with c | c
  ·exact .inl (.inr (.inr (.inr c)))
  ·exact .inr (by omega)
set_option maxRecDepth 100000 in
set_option maxHeartbeats 1600000 in
theorem does_load {P:Nat → Sv → (Nat → Prop) → World → Prop} (hP:PLaw P) (bc bx by' br:Nat) (hv:Value) (m:Int) (hs:List Vw) (s s':Sv) (Fx Fy Fr Fv:Nat → Prop) (x a b c d ev nv:Int) (so t:ByteArray) (w:World) (G:World → Prop)
  (h:CS P bc bx by' br hv m hs s s s Fx Fy Fr Fv w) (hx:PLoads P t s s' ev nv G) (hg:∀ W,Off (AllF Fx Fy Fr Fv) w W → G W)
  (hrf:∀ dv bv cv rh W,RSrv br s dv bv cv rh W → Calls Tryz.prog 65 #[.pointer (some ⟨br,0,none⟩),.string t] W fun e w' => e = .returned (.tuple #[.int .i64 ev,.int .i64 nv]) ∧ RPost br (rFoot br dv bv cv rh) W s' w')
  (hsee:∀ F W,P bx s' F W → Shows bx s' W) (l1:s'.done.length ≤ 900) (l2:s'.com.length ≤ 900) (l3:hs.length ≤ 900000) (m0:0 ≤ m) (m1:m ≤ 10000000000) :
  Calls Tryz.prog 20 #[.pointer (some ⟨bc,0,none⟩),.agg #[.int .i64 18,.int .i64 x,.int .i64 a,.int .i64 b,.int .i64 c,.int .i64 d,.string so],.string t] w fun e w' => e = .returned (.bool true) ∧ TurnP P bc bx by' br hs.length m s' (AllF Fx Fy Fr Fv) w w':=by
 have B0:=hid' ((Below.refl w.heap.size w).alloc (Nat.le_refl _) (.cells #[.int .i64 18,.int .i64 x,.int .i64 a,.int .i64 b,.int .i64 c,.int .i64 d,.string so] 27))
 have T:=hid' (turns_load hP bc bx by' br hv m hs s s' Fx Fy Fr Fv x a b c d ev nv so t _ G (h.below hP B0.out) hx (fun W o => hg W ((Off.of_below B0.out).trans o (fun _ _ e => e))) hrf hsee l1 l2 l3 m0 m1)
 clear h hx hrf hsee hg
 go_enter Tryz.func20,Tryz.ntmps20
 go_wp2_with fail
 refine T.out.mono ?_
 rintro e w1 ⟨rfl,p1⟩
 have P1:=hid' p1
 clear p1 T
 go_wp2
 go_ret
 exact ⟨rfl,P1.out.from B0.out⟩
end Go.Proofs.YtmmkhodaljpjgaaGreatDoor
