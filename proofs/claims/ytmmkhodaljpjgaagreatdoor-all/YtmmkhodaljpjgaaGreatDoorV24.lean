import Derived.Test.YtmmkhodaljpjgaaGreatDoorV15
import Derived.Deep.Cut
import Derived.Deep.CutBlock
import Derived.Deep.CutRange
namespace Go.Proofs.YtmmkhodaljpjgaaGreatDoor
open Go.RowKit
attribute [local go_sem ↓] Go.wp_at_zero Go.wp_at_succ
def lenOf:Option Value → Nat
 | some (.slice _ n _) => n
 | _ => 0
def lenAt (b j:Nat) (w:World):Nat:=lenOf (w.cell? ⟨b,j,none⟩)
theorem RSrv.len {b:Nat} {s:Sv} {dv bv cv hv:Value} {w:World} (h:RSrv b s dv bv cv hv w):lenAt b 10 w = s.com.length:=by
 obtain ⟨ao,cap,hc⟩:=own_slice h.cc
 unfold lenAt
 rw [cell_of_row _ _ 10 _ _ _ h.row,hc];rfl
structure Beg (x y:Sv):Prop where
 eq:y.begun = x.begun
 ns:y.ns = x.ns
 nf:y.nf = x.nf
 d:y.done.length + y.com.length ≤ 1000
 b:y.began.length + y.com.length ≤ 1000
theorem Beg.one {x y:Sv} (h:Beg x y) (c:Cm) (r:List Cm) (hc:y.com = c :: r) (hl:tLater c.bs c.bf y.ns y.nf = false):Beg x (y.one c r):=by
 have h1:=h.d
 have h2:=h.b
 rw [hc] at h1 h2
 refine ⟨(y.begun_one c r hc hl).symm.trans h.eq,h.ns,h.nf,?_,?_⟩
 ·show (y.done ++ [(c.a,c.o)]).length + r.length ≤ 1000
  simp at h1 ⊢;omega
 ·show (y.began ++ [(c.bs,c.bf)]).length + r.length ≤ 1000
  simp at h2 ⊢;omega
theorem rpost_D {b:Nat} {F:Nat → Prop} {w W w2:World} {y:Sv} {dv bv cv hv dv':Value} {L:List (Int × Int)} (hr:RSrv b y dv bv cv hv W) (ho:Off F w W) (hf:∀ k,rFoot b dv bv cv hv k → F k ∨ w.heap.size ≤ k)
  (hg:W.grownBy w2 dv.ownBlock) (own:w2.ownsRow 0 46 2 dv' L.length (flat L)) (hat:∀ k,dv'.ownBlock = some k → dv.ownBlock = some k ∨ w.heap.size ≤ k):RPost b F w { y with done:=L } (w2.setCell ⟨b,8,none⟩ dv'):=by
 refine ⟨dv',bv,cv,hv,hr.putD hg own,(ho.grown hg (fun k e hk => ?_)).setCell (fun hk => ?_) _,fun k e => ?_⟩
 ·rcases hf k (.inr (.inl e)) with h | h
  ·exact h
  ·omega
 ·rcases hf b (.inl rfl) with h | h
  ·exact h
  ·simp only at hk;omega
 ·rcases e with e | e | e | e | e
  ·exact hf k (.inl e)
  ·rcases hat k e with h | h
   ·exact hf k (.inr (.inl h))
   ·exact .inr h
  ·exact hf k (.inr (.inr (.inl e)))
  ·exact hf k (.inr (.inr (.inr (.inl e))))
  ·exact hf k (.inr (.inr (.inr (.inr e))))
theorem rpost_B {b:Nat} {F:Nat → Prop} {w W w2:World} {y:Sv} {dv bv cv hv bv':Value} {L:List (Int × Int)} (hr:RSrv b y dv bv cv hv W) (ho:Off F w W) (hf:∀ k,rFoot b dv bv cv hv k → F k ∨ w.heap.size ≤ k)
  (hg:W.grownBy w2 bv.ownBlock) (own:w2.ownsRow 0 35 2 bv' L.length (flat L)) (hat:∀ k,bv'.ownBlock = some k → bv.ownBlock = some k ∨ w.heap.size ≤ k):RPost b F w { y with began:=L } (w2.setCell ⟨b,9,none⟩ bv'):=by
 refine ⟨dv,bv',cv,hv,hr.putB hg own,(ho.grown hg (fun k e hk => ?_)).setCell (fun hk => ?_) _,fun k e => ?_⟩
 ·rcases hf k (.inr (.inr (.inl e))) with h | h
  ·exact h
  ·omega
 ·rcases hf b (.inl rfl) with h | h
  ·exact h
  ·simp only at hk;omega
 ·rcases e with e | e | e | e | e
  ·exact hf k (.inl e)
  ·exact hf k (.inr (.inl e))
  ·rcases hat k e with h | h
   ·exact hf k (.inr (.inr (.inl h)))
   ·exact .inr h
  ·exact hf k (.inr (.inr (.inr (.inl e))))
  ·exact hf k (.inr (.inr (.inr (.inr e))))
theorem rpost_C {b:Nat} {F:Nat → Prop} {w W:World} {y:Sv} {dv bv cv hv cv':Value} {L:List Cm} (hr:RSrv b y dv bv cv hv W) (ho:Off F w W) (hf:∀ k,rFoot b dv bv cv hv k → F k ∨ w.heap.size ≤ k)
  (own:W.ownsRow 0 123 5 cv' L.length (flatC L)) (hat:∀ k,cv'.ownBlock = some k → cv.ownBlock = some k ∨ w.heap.size ≤ k):RPost b F w { y with com:=L } (W.setCell ⟨b,10,none⟩ cv'):=by
 refine ⟨dv,bv,cv',hv,hr.putC own,ho.setCell (fun hk => ?_) _,fun k e => ?_⟩
 ·rcases hf b (.inl rfl) with h | h
  ·exact h
  ·simp only at hk;omega
 ·rcases e with e | e | e | e | e
  ·exact hf k (.inl e)
  ·exact hf k (.inr (.inl e))
  ·exact hf k (.inr (.inr (.inl e)))
  ·rcases hat k e with h | h
   ·exact hf k (.inr (.inr (.inr (.inl h))))
   ·exact .inr h
  ·exact hf k (.inr (.inr (.inr (.inr e))))
set_option maxRecDepth 100000 in
set_option maxHeartbeats 6400000 in
theorem ref_begun (b:Nat) (x:Sv) (dv bv cv hv:Value) (w:World) (hr:RSrv b x dv bv cv hv w) (h1:x.done.length + x.com.length ≤ 1000) (h2:x.began.length + x.com.length ≤ 1000) :
  Calls Tryz.prog 149 #[.pointer (some ⟨b,0,none⟩)] w fun e w' => e = .returned (.tuple #[]) ∧ RPost b (rFoot b dv bv cv hv) w x.begun w':=by
 have HP0:=hid' hr.post
 have HB0:Hid (Beg x x):=⟨rfl,rfl,rfl,h1,h2⟩
 generalize rFoot b dv bv cv hv = F at *
 clear hr h1 h2
 go_enter Tryz.func149,Tryz.ntmps149
 go_wp2_with fail
 go_loopw [2,3,4] (fun _ _ _ wr => ∃ y:Sv,Beg x y ∧ RPost b F w y wr) (fun _ _ _ wr => lenAt b 10 wr)
 case atStart => exact ⟨x,HB0.out,HP0.out⟩
 case round =>
  obtain ⟨y,hy,dv,bv,cv,hv,hr,off,foot⟩:=hrel
  have HY:=hid' hy
  have HR:=hid' hr
  have HO:=hid' off
  have HF:=hid' foot
  have hlen:=hr.len
  have yd:=hy.d
  have yb:=hy.b
  clear hy off foot
  obtain ⟨mode,win,fresh,ns,nf,ld,up,ex,done,began,com,ref,said⟩:=y
  simp only at hlen yd yb
  have q10:=cell_of_row _ _ 10 _ _ _ hr.row
  have q3:=cell_of_row _ _ 3 _ _ _ hr.row
  have q4:=cell_of_row _ _ 4 _ _ _ hr.row
  have lb:=lt_of_heap hr.row
  obtain ⟨ao,cap,hcv⟩:=own_slice hr.cc
  subst hcv
  simp at q10 q3 q4
  cases com with
  | nil =>
   clear hr
   go_wp2
   go_end0
   refine ⟨rfl,?_⟩
   have e:=HY.out.eq
   rw [Sv.begun_end _ rfl] at e
   rw [← e]
   exact ⟨_,_,_,_,HR.out,HO.out,HF.out⟩
  | cons c r =>
   obtain ⟨g,cap',hg⟩:=own_some hr.cc (show 0 < (c :: r).length by simp)
   obtain ⟨rfl,_,rfl⟩:=Value.slice.inj hg
   have a0:=(hr.cc.cellAt 0 (by simp)).trans (flatC_at (c :: r) 0 (by simp) 0 (by omega))
   have a1:=(hr.cc.cellAt 1 (by simp;omega)).trans (flatC_at (c :: r) 0 (by simp) 1 (by omega))
   have a2:=(hr.cc.cellAt 2 (by simp;omega)).trans (flatC_at (c :: r) 0 (by simp) 2 (by omega))
   have a3:=(hr.cc.cellAt 3 (by simp;omega)).trans (flatC_at (c :: r) 0 (by simp) 3 (by omega))
   have a4:=(hr.cc.cellAt 4 (by simp;omega)).trans (flatC_at (c :: r) 0 (by simp) 4 (by omega))
   have lg:=(hr.cc.lt _ rfl).2
   have hcap:(c :: r).length ≤ cap:=by
    rcases hr.cc.2 with ⟨h,_⟩ | ⟨g',cap',cur,h,_,_,h2,_⟩
    ·cases h
    ·cases h;exact h2
   obtain ⟨ca,co,cbs,cbf,cvo⟩:=c
   simp [Cm.cells] at a0 a1 a2 a3 a4
   generalize hL:r.length = rl at *
   have hcl:(⟨ca,co,cbs,cbf,cvo⟩ :: r:List Cm).length = rl + 1:=by simp [hL]
   simp only [hcl] at q10 hcap hlen yd yb
   have z0:(0:Int) < ((rl + 1:Nat):Int):=by omega
   clear hr hg
   have HLA:=hid' (fun W => ref_later cbs cbf ns nf W)
   obtain ⟨lt,hlt⟩:∃ lt,tLater cbs cbf ns nf = lt:=⟨_,rfl⟩
   rw [hlt] at HLA
   have HLT:=hid' hlt
   clear hlt
   have BA:=hid' ((Below.refl wr.heap.size wr).alloc (Nat.le_refl _) (.cells #[.int .i64 ca,.int .i64 co,.int .i64 cbs,.int .i64 cbf,.bool cvo] 123))
   have RA:=hid' (heap_alloc_new wr (.cells #[.int .i64 ca,.int .i64 co,.int .i64 cbs,.int .i64 cbf,.bool cvo] 123))
   go_upto_region 2 with fail
   go_cut [2,3] from 5 (fun s2 s3 wx => s2 = .pointer (some ⟨wr.heap.size,0,none⟩) ∧ s3 = .bool lt ∧ Below wr.heap.size wr wx ∧ wx.heap[wr.heap.size]? = some (.cells #[.int .i64 ca,.int .i64 co,.int .i64 cbs,.int .i64 cbf,.bool cvo] 123 (0,0)))
   case first =>
    go_region_with (go_at_call 140;refine (HLA.out _).mono ?_;rintro e w1 ⟨rfl,hb1⟩;have HB1:=hid' hb1;clear hb1)
    all_goals
     go_wp2_with fail
     go_meet
     case rel => exact ⟨rfl,rfl,BA.out.drew.trans (HB1.out.mono (by exact BA.out.size)),(HB1.out.block _ (by simp)).trans RA.out⟩
   case rest =>
    obtain ⟨rfl,rfl,bel,crow⟩:=hcut
    rename World => W1
    have R1:=hid' (HR.out.below bel)
    have O1:=hid' (HO.out.then bel)
    have CR:=hid' crow
    have ls:=bel.size
    have hs1:=lt_of_heap crow
    clear bel a0 a1 a2 a3 a4 q10 q3 q4
    cases lt with
    | true =>
     go_wp2
     go_returns
     refine ⟨rfl,?_⟩
     have e:=HY.out.eq
     rw [Sv.begun_stop _ ⟨ca,co,cbs,cbf,cvo⟩ r rfl HLT.out] at e
     rw [← e]
     exact ⟨_,_,_,_,R1.out,O1.out,HF.out⟩
    | false =>
     obtain ⟨i0,hi0,hz0,hz1,hz2⟩:=info_parts infoLeap
     have q8:=cell_of_row _ _ 8 _ _ _ R1.out.row
     have f8:=frozen_of_row _ _ 8 _ _ R1.out.row
     have d0:=cell_of_row _ _ 0 _ _ _ crow
     have d1:=cell_of_row _ _ 1 _ _ _ crow
     have lb1:=lt_of_heap R1.out.row
     simp at q8 d0 d1
     have fz:∀ o,(W1.alloc o).frozen? ⟨b,8,none⟩ = false:=fun o => frozen_of_row _ _ 8 _ _ ((Keep.refl _ W1).alloc o _ _ _ R1.out.row)
     obtain ⟨da,dcp,hdv⟩:=own_slice R1.out.dd
     subst hdv
     simp only at q8
     go_upto_region 4 with fail
     go_cut [2,4] from 5 (fun s2 _ wx => s2 = .pointer (some ⟨wr.heap.size,0,none⟩) ∧ RPost b F w ⟨mode,win,fresh,ns,nf,ld,up,ex,done ++ [(ca,co)],began,⟨ca,co,cbs,cbf,cvo⟩ :: r,ref,said⟩ wx ∧ wx.heap[wr.heap.size]? = some (.cells #[.int .i64 ca,.int .i64 co,.int .i64 cbs,.int .i64 cbf,.bool cvo] 123 (0,0)))
     case first =>
      go_region_law ((refine step_append_lies _ ?_ (.tmp 29) (.tmp 35) 31 ?_ 0 46 i0 (.agg #[.int .i64 0,.int .i64 0]) 2 16 Tryz.underlying31 hi0 hz0 hz1 hz2 rfl (by decide) (.slice da done.length dcp) done.length (flat done) ?_ ?_ ⟨W1.heap.size,0,none⟩ 1 1 [.int .i64 ca,.int .i64 co] ?_ ?_ ?_ ?_ ?_ ?_ ?_ ?_ (W1.heap.size + 1) ?_ ?_;exact rfl;exact rfl;exact rfl;exact (R1.out.dd.alloc _).drew;exact rfl;exact rfl;exact (World.news_of_block (cs:=#[.int .i64 ca,.int .i64 co]) (t:=46) (fr:=(0,0)) (heap_alloc_new W1 _));(simp [Value.oneCell']);decide;(unfold maxLen;omega);omega;omega;(simp);intro gg cap6 w6 own6 hg6 hat6 hlt6;have S6:=hid' (grown_heap (w:=(W1.alloc (.cells #[.int .i64 ca,.int .i64 co] 46)).drew) (t:=119) hg6 (R1.out.dd.alloc _).drew ((Keep.refl _ W1).alloc _ _ _ _ R1.out.row) (by decide));have C6:=hid' (grown_heap (w:=(W1.alloc (.cells #[.int .i64 ca,.int .i64 co] 46)).drew) (t:=123) hg6 (R1.out.dd.alloc _).drew ((Keep.refl _ W1).alloc _ _ _ _ CR.out) (by decide));have c68:=cell_of_row _ _ 8 _ _ _ S6.out;have f68:=frozen_of_row _ _ 8 _ _ S6.out;(simp at c68);have OWN6:=hid' own6;have HG6:=hid' hg6;have HAT6:=hid' hat6;clear own6 hg6 hat6))
      all_goals
       go_wp2_with fail
       go_meet
       case rel =>
        refine ⟨rfl,rpost_D (W:=(W1.alloc (.cells #[.int .i64 ca,.int .i64 co] 46)).drew) (R1.out.below ((Below.refl _ _).alloc (Nat.le_refl _) _).drew) ((O1.out.alloc _).drew) HF.out HG6.out (by rw [flat_append,List.length_append];exact OWN6.out) (fun k e => ?_),?_⟩
        ·obtain rfl:gg = k:=by simpa [Value.ownBlock] using e
         rcases HAT6.out with h | h
         ·exact .inl h
         ·exact .inr (by have:=O1.out.size;omega)
        ·rw [heap_setCell_other _ _ _ _ (by simp only;omega)];exact C6.out
     case rest =>
      obtain ⟨rfl,post4,crow4⟩:=hcut
      rename World => W2
      obtain ⟨dv4,bv4,cv4,hv4,r4,o4,ft4⟩:=post4
      have R4:=hid' r4
      have O4:=hid' o4
      have F4:=hid' ft4
      have CR4:=hid' crow4
      clear r4 o4 ft4 q8 f8 d0 d1 fz lb1 hs1 ls
      obtain ⟨j0,hj0,hy0,hy1,hy2⟩:=info_parts infoRTime
      have q9:=cell_of_row _ _ 9 _ _ _ R4.out.row
      have f9:=frozen_of_row _ _ 9 _ _ R4.out.row
      have d2:=cell_of_row _ _ 2 _ _ _ crow4
      have d3:=cell_of_row _ _ 3 _ _ _ crow4
      have lb1:=lt_of_heap R4.out.row
      have hs1:=lt_of_heap crow4
      simp at q9 d2 d3
      have fz:∀ o,(W2.alloc o).frozen? ⟨b,9,none⟩ = false:=fun o => frozen_of_row _ _ 9 _ _ ((Keep.refl _ W2).alloc o _ _ _ R4.out.row)
      obtain ⟨ba,bcp,hbv⟩:=own_slice R4.out.bb
      subst hbv
      simp only at q9
      clear crow4
      go_upto_region 5 with fail
      go_cut [2,4] from 5 (fun s2 _ wx => s2 = .pointer (some ⟨wr.heap.size,0,none⟩) ∧ RPost b F w ⟨mode,win,fresh,ns,nf,ld,up,ex,done ++ [(ca,co)],began ++ [(cbs,cbf)],⟨ca,co,cbs,cbf,cvo⟩ :: r,ref,said⟩ wx)
      case first =>
       go_region_law ((refine step_append_lies _ ?_ (.tmp 43) (.tmp 46) 115 ?_ 0 35 j0 (.agg #[.int .i64 0,.int .i64 0]) 2 16 Tryz.underlying115 hj0 hy0 hy1 hy2 rfl (by decide) (.slice ba began.length bcp) began.length (flat began) ?_ ?_ ⟨W2.heap.size,0,none⟩ 1 1 [.int .i64 cbs,.int .i64 cbf] ?_ ?_ ?_ ?_ ?_ ?_ ?_ ?_ (W2.heap.size + 1) ?_ ?_;exact rfl;exact rfl;exact rfl;exact (R4.out.bb.alloc _).drew;exact rfl;exact rfl;exact (World.news_of_block (cs:=#[.int .i64 cbs,.int .i64 cbf]) (t:=35) (fr:=(0,0)) (heap_alloc_new W2 _));(simp [Value.oneCell']);decide;(unfold maxLen;omega);omega;omega;(simp);intro gg cap6 w6 own6 hg6 hat6 hlt6;have S6:=hid' (grown_heap (w:=(W2.alloc (.cells #[.int .i64 cbs,.int .i64 cbf] 35)).drew) (t:=119) hg6 (R4.out.bb.alloc _).drew ((Keep.refl _ W2).alloc _ _ _ _ R4.out.row) (by decide));have c69:=cell_of_row _ _ 9 _ _ _ S6.out;have f69:=frozen_of_row _ _ 9 _ _ S6.out;(simp at c69);have OWN6:=hid' own6;have HG6:=hid' hg6;have HAT6:=hid' hat6;clear own6 hg6 hat6))
       all_goals
        go_wp2_with fail
        go_meet
        case rel =>
         refine ⟨rfl,rpost_B (W:=(W2.alloc (.cells #[.int .i64 cbs,.int .i64 cbf] 35)).drew) (R4.out.below ((Below.refl _ _).alloc (Nat.le_refl _) _).drew) ((O4.out.alloc _).drew) F4.out HG6.out (by rw [flat_append,List.length_append];exact OWN6.out) (fun k e => ?_)⟩
         obtain rfl:gg = k:=by simpa [Value.ownBlock] using e
         rcases HAT6.out with h | h
         ·exact .inl h
         ·exact .inr (by have:=O4.out.size;omega)
      case rest =>
       obtain ⟨rfl,post5⟩:=hcut
       rename World => W3
       obtain ⟨dv5,bv5,cv5,hv5,r5,o5,ft5⟩:=post5
       have R5:=hid' r5
       have O5:=hid' o5
       have F5:=hid' ft5
       clear r5 o5 ft5 q9 f9 d2 d3 fz lb1 hs1
       obtain ⟨k0,hk0,hx0,hx1,hx2⟩:=info_parts infoRComing
       have q10:=cell_of_row _ _ 10 _ _ _ R5.out.row
       have lb1:=lt_of_heap R5.out.row
       have OC:=R5.out.cc
       obtain ⟨g5,cap5,hcv⟩:=own_some OC (show 0 < (⟨ca,co,cbs,cbf,cvo⟩ :: r:List Cm).length by simp)
       subst hcv
       have hcap5:rl + 1 ≤ cap5:=by
        rcases OC.2 with ⟨h,_⟩ | ⟨g',cap',cur,h,_,_,h2,_⟩
        ·cases h
        ·cases h;simpa [hL] using h2
       simp only [hcl] at q10
       simp at q10
       have tr:=tail_run g5 (rl + 1) cap5 (by omega)
       simp only [Nat.add_sub_cancel] at tr
       have NW:∀ (j:Nat) (u:Value),(flatC r)[j]? = some u → W3.cell? ((if cap5 = 1 then (⟨g5,0,none⟩:Addr) else ⟨g5,5,none⟩).add j) = some u:=by
        intro j u hj
        have hj':j < (flatC r).length:=by
         by_cases c:j < (flatC r).length
         ·exact c
         ·rw [List.getElem?_eq_none (by omega)] at hj;cases hj
        rw [flatC_length] at hj'
        have c1:¬ cap5 = 1:=by omega
        rw [if_neg c1]
        have:=OC.cellAt (5 + j) (by simp;omega)
        have e:(flatC (⟨ca,co,cbs,cbf,cvo⟩ :: r))[5 + j]? = (flatC r)[j]?:=by
         rw [show 5 + j = j + 1 + 1 + 1 + 1 + 1 from by omega];simp [flatC]
        rw [e,hj] at this
        have hadd:(⟨g5,5,none⟩:Addr).add j = ⟨g5,5 + j,none⟩:=by unfold Addr.add;split <;> simp_all
        rw [hadd];exact this
       have HNW:=hid' NW
       generalize (if cap5 = 1 then (⟨g5,0,none⟩:Addr) else ⟨g5,5,none⟩) = ad at *
       clear NW OC
       go_wp2_with (at_builtin;refine wpList_append_own _ (by rfl) (.tmp 50) (.tmp 55) 116 (by rfl) W3.heap.size 123 k0 (.agg #[.int .i64 0,.int .i64 0,.int .i64 0,.int .i64 0,.bool false]) 5 40 Tryz.underlying116 hk0 hx0 hx1 hx2 rfl (by decide) (.slice none 0 0) 0 [] (by rfl) (World.ownsRow_nil _ _ _ _) ad rl (cap5 - 1) (flatC r) (by rfl) (by rw [flatC_length,hL]) HNW.out (flatC_one r) (by unfold maxLen;omega) (by omega) (Nat.le_refl _) ?_;intro v7 w7 own7 hg7 hnil7;obtain ⟨a7,p7,rfl⟩:=own_slice own7;have S7:=hid' (grown_heap (t:=119) hg7 (World.ownsRow_nil _ 0 123 5) R5.out.row (by decide));have c710:=cell_of_row _ _ 10 _ _ _ S7.out;have f710:=frozen_of_row _ _ 10 _ _ S7.out;(simp at c710);have OWN7:=hid' own7;have HG7:=hid' hg7;clear own7 hg7 hnil7)
       go_roundw
       case rel =>
        refine ⟨Sv.one ⟨mode,win,fresh,ns,nf,ld,up,ex,done,began,⟨ca,co,cbs,cbf,cvo⟩ :: r,ref,said⟩ ⟨ca,co,cbs,cbf,cvo⟩ r,HY.out.one _ r rfl HLT.out,?_⟩
        have bl7:Below W3.heap.size W3 w7:=(Below.refl _ _).grown HG7.out (Nat.le_refl _) (fun k e => by simp [Value.ownBlock] at e)
        have o7:=OWN7.out
        simp only [Nat.zero_add,List.nil_append] at o7
        exact rpost_C (y:=⟨mode,win,fresh,ns,nf,ld,up,ex,done ++ [(ca,co)],began ++ [(cbs,cbf)],⟨ca,co,cbs,cbf,cvo⟩ :: r,ref,said⟩) (L:=r) (R5.out.below bl7) (O5.out.then bl7) F5.out (by rw [hL];simpa using ownW o7 (Nat.zero_le _)) (fun k e => .inr (by have:=own_ge o7 k (by simpa using e);have:=O5.out.size;omega))
       case measure =>
        have hq:lenAt b 10 (w7.setCell ⟨b,10,none⟩ (.slice a7 (0 + rl) p7)) = rl:=by
         unfold lenAt
         rw [cell_of_row _ _ 10 _ _ _ (heap_setCell_same _ _ _ _ _ _ S7.out)];simp [lenOf]
        simp only [hlen]
        first | omega | (simp at hq ⊢;omega)
end Go.Proofs.YtmmkhodaljpjgaaGreatDoor
