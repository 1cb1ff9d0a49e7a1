import Derived.Test.YtmmkhodaljpjgaaGreatDoorV32
import Derived.Deep.QuietTactic
import Derived.BigQuiet
import Derived.OwnWalk
import Derived.Deep.RegionHeld3
set_option maxRecDepth 100000
set_option maxHeartbeats 6400000
namespace Go.Proofs.YtmmkhodaljpjgaaGreatDoor
open Go.RowKit
attribute [local go_sem ↓] Go.wp_at_zero Go.wp_at_succ
theorem in_bd {y m n:Int} (h:Cal.In y m n):0 ≤ n ∧ n < 401767:=by
 have a:=h.year
 have b:=Cal.yb_mono 1900 y h.y1
 have c:=Cal.yb_mono (y + 1) 3000 (by have:=h.y2;omega)
 rw [Cal.yb_first] at b
 rw [Cal.yb_last] at c
 omega
def nextD (y m:Int):Int × Int:=if nextOf y m = -1 then (0,1) else (nextOf y m / 86400,0)
theorem next_month (n y m:Int) (w:World) (hi:Cal.In y m n) :
  Calls Tryz.prog 210 #[.int .i64 n] w fun e w' => e = .returned (.tuple #[.int .i64 (nextD y m).1,.int .i64 (nextD y m).2]) ∧ w' = w:=by
 obtain ⟨h0,h1⟩:=in_bd hi
 have y1:=hi.y1
 have y2:=hi.y2
 have m1:=hi.m1
 have m2:=hi.m2
 have HI:=hid' hi
 have HN:Hid (nextD y m = if nextOf y m = -1 then (0,1) else (nextOf y m / 86400,0)):=rfl
 generalize nextD y m = nd at *
 clear hi
 go_enter Tryz.func210,Tryz.ntmps210
 go_wp2_with fail
 refine (civil_yes n _ h0 h1).mono ?_
 rintro e w' ⟨⟨y',m',rfl,hi'⟩,rfl⟩
 obtain ⟨ey,em⟩:=hi'.only HI.out
 subst ey em
 clear hi'
 by_cases c:m' = 12
 ·have e12:(m' == 12) = true:=beq_iff_eq.2 c
  by_cases d:y' = 2999
  ·have H:Hid (nd = (0,1)):=by
    show _ = _
    rw [HN.out,if_pos]
    unfold nextOf;rw [if_pos c,if_pos d]
   have DN:=hid' (fun W => day_no (y' + 1) 1 1 W (.inr (.inl (by omega))))
   clear c d HN
   go_wp2_with fail
   refine (DN.out _).mono ?_
   rintro e w2 ⟨rfl,rfl⟩
   go_wp2
   go_ret2
   exact ⟨by rw [H.out];rfl,rfl⟩
  ·have yb:=Cal.yb_bd (y' + 1) (by omega) (by omega)
   have cb:=Cal.cum_bd (y' + 1) 1 (by omega) (by omega)
   have H:Hid (nd = (Cal.yb (y' + 1) + Cal.cum (y' + 1) 1 + 1 - 1,0)):=by
    show _ = _
    have e:nextOf y' m' = (Cal.yb (y' + 1) + Cal.cum (y' + 1) 1) * 86400:=by unfold nextOf;rw [if_pos c,if_neg d]
    rw [HN.out,if_neg (by rw [e];omega),e]
    exact Prod.ext (by simp only;omega) rfl
   have DY:=hid' (fun W => day_yes (y' + 1) 1 1 W (by omega) (by omega) (by omega) (by omega) (by omega) (by have:=Cal.dim_bd (y' + 1) 1;omega))
   generalize Cal.yb (y' + 1) + Cal.cum (y' + 1) 1 + 1 - 1 = r at *
   clear c d HN yb cb
   go_wp2_with fail
   refine (DY.out _).mono ?_
   rintro e w2 ⟨rfl,rfl⟩
   go_wp2
   go_ret2
   exact ⟨by rw [H.out];rfl,rfl⟩
 ·have e12:(m' == 12) = false:=by rw [beq_eq_false_iff_ne];exact c
  have yb:=Cal.yb_bd y' (by omega) (by omega)
  have cb:=Cal.cum_bd y' (m' + 1) (by omega) (by omega)
  have H:Hid (nd = (Cal.yb y' + Cal.cum y' (m' + 1) + 1 - 1,0)):=by
   show _ = _
   have e:nextOf y' m' = (Cal.yb y' + Cal.cum y' (m' + 1)) * 86400:=by unfold nextOf;rw [if_neg c]
   rw [HN.out,if_neg (by rw [e];omega),e]
   exact Prod.ext (by simp only;omega) rfl
  have DY:=hid' (fun W => day_yes y' (m' + 1) 1 W (by omega) (by omega) (by omega) (by omega) (by omega) (by have:=Cal.dim_bd y' (m' + 1);omega))
  generalize Cal.yb y' + Cal.cum y' (m' + 1) + 1 - 1 = r at *
  clear HN yb cb
  go_wp2_with fail
  refine (DY.out _).mono ?_
  rintro e w2 ⟨rfl,rfl⟩
  go_wp2
  go_ret2
  exact ⟨by rw [H.out];rfl,rfl⟩
theorem un_smeared (b:Nat) (s:Sv) (dv cv:Value) (op:Bool) (bs bf:Int) (w:World) (h:PRow b s dv cv op bs bf w) (hM:s.Mid) (hN:s.Num) :
  Calls Tryz.prog 139 #[.pointer (some ⟨b,0,none⟩)] w fun e w' => e = .returned (.agg #[.int .i64 s.utc,.int .i64 s.nf]) ∧ Below w.heap.size w w':=by
 obtain ⟨t0,t1,t2,t3⟩:=hN.t'
 have HP:=hid' h
 have lb:=h.lt
 have hpos:=hM.pos
 have g:=hM.fit.good.len
 rw [s.all_length] at g
 obtain ⟨gg,cap,hdv⟩:=own_some h.dd hpos
 subst hdv
 have LIE:=hid' (lies_of h.dd rfl)
 have lg:gg < w.heap.size:=(h.dd.lt _ rfl).2
 have l:=hM.doneFit.lastAt_le s.ns hM.firstD
 have HF:=hid' hM.doneFit.good.fine
 obtain ⟨k,hk⟩:∃ k:Nat,Tab.lastAt s.done s.ns s.done.length = (k:Int):=⟨(Tab.lastAt s.done s.ns s.done.length).toNat,by omega⟩
 have kl:k < s.done.length:=by omega
 have hu:s.utc = s.ns - (s.done[k]'kl).2:=by
  unfold Sv.utc;rw [hk,Int.toNat_natCast,getD_at k kl]
 have c4:=h.c4
 have c5:=h.c5
 have c9:=h.c9
 have e1:=(LIE.out k kl).2
 have pb:=(HF.out _ (List.getElem_mem kl)).2
 have HU:=hid' hu
 generalize s.done[k]'kl = p at *
 obtain ⟨pa,po⟩:=p
 simp only at e1 pb HU
 have HO:=hid' (fun (W:World) (hl:Lies W gg s.done) => holder_any gg cap s.done.length s.done s.ns W rfl hl HF.out (by omega))
 rw [hk] at HO
 generalize s.utc = u at *
 have B0:=hid' (((Below.refl w.heap.size w).alloc (Nat.le_refl _) (.cells #[.int .i64 0,.int .i64 0] 98)).alloc (by simp) (.cells #[.int .i64 s.ns,.int .i64 s.nf] 98))
 have R0:=hid' (heap_alloc2_old w (.cells #[.int .i64 0,.int .i64 0] 98) (.cells #[.int .i64 s.ns,.int .i64 s.nf] 98))
 have R1:=hid' (heap_alloc2_new w (.cells #[.int .i64 0,.int .i64 0] 98) (.cells #[.int .i64 s.ns,.int .i64 s.nf] 98))
 have hki:(0:Int) ≤ (k:Int):=by omega
 have hkn:(k:Int) < (s.done.length:Int):=by omega
 clear h hM hN hu l hk g
 go_enter Tryz.func139,Tryz.ntmps139
 go_upto_region 2 with fail
 generalize hV:(w.alloc (.cells #[.int .i64 0,.int .i64 0] 98)).alloc (.cells #[.int .i64 s.ns,.int .i64 s.nf] 98) = V at *
 generalize hQ:w.heap.size = Q at *
 clear hV
 have PV:=hid' (HP.out.below (by rw [hQ];exact B0.out))
 have v4:=PV.out.c4
 have v9:=PV.out.c9
 have d0:=cell_of_row _ _ 0 _ _ _ R1.out
 have d1:=cell_of_row _ _ 1 _ _ _ R1.out
 have x0:=cell_of_row _ _ 0 _ _ _ R0.out
 have x1:=cell_of_row _ _ 1 _ _ _ R0.out
 have f0:=frozen_of_row _ _ 0 _ _ R0.out
 have f1:=frozen_of_row _ _ 1 _ _ R0.out
 have y0:=frozen_of_row _ _ 0 _ _ R1.out
 have y1:=frozen_of_row _ _ 1 _ _ R1.out
 have g1:=(B0.out.cell (p:=⟨gg,k * 2 + 1,none⟩) (by simp only;omega)).trans e1
 have lv:=lt_of_heap R1.out
 simp at d0 d1 x0 x1
 have LV:=hid' (LIE.out.below (by omega) (by rw [hQ];exact B0.out))
 have n1:b ≠ Q + 1:=by omega
 have n2:Q + 1 ≠ b:=by omega
 have n3:gg ≠ Q + 1:=by omega
 have n4:Q + 1 ≠ gg:=by omega
 clear c4 c5 c9 e1
 go_quiet (first | (go_at_call 130;refine Calls.quiet_of_same (HO.out _ LV.out)))
 go_wp2_with fail
 have DB:=hid' (below_drewN (Below.refl V.heap.size V) nq)
 generalize hW:V.drewN nq = W at *
 clear hW
 have PW:=hid' (PV.out.below DB.out)
 have w4:=PW.out.c4
 have w9:=PW.out.c9
 have lbv:=PV.out.lt
 have d0:=(DB.out.cell (p:=⟨Q + 1,0,none⟩) lv).trans d0
 have d1:=(DB.out.cell (p:=⟨Q + 1,1,none⟩) lv).trans d1
 have S0:=hid' ((DB.out.block _ (lt_of_heap R0.out)).trans R0.out)
 have S1:=hid' ((DB.out.block _ (lt_of_heap R1.out)).trans R1.out)
 have x0:=cell_of_row _ _ 0 _ _ _ S0.out
 have x1:=cell_of_row _ _ 1 _ _ _ S0.out
 have f0:=frozen_of_row _ _ 0 _ _ S0.out
 have f1:=frozen_of_row _ _ 1 _ _ S0.out
 have y0:=frozen_of_row _ _ 0 _ _ S1.out
 have y1:=frozen_of_row _ _ 1 _ _ S1.out
 have g1:=(DB.out.cell (p:=⟨gg,k * 2 + 1,none⟩) (by simp only;omega)).trans g1
 have BW:=hid' (B0.out.trans (DB.out.mono (by have:=B0.out.size;omega)))
 simp at x0 x1
 go_region_with (fail)
 all_goals
  go_wp2
  try simp only [Exit.inBlock,Exit.then]
  refine bodyPost_ret (results_cell_row rfl _ _ Q 98 #[.int .i64 (s.ns - po),.int .i64 s.nf] (0,0) _ rfl (two_row ((heap_setCell_other _ _ _ _ (by show Q ≠ Q + 1;omega)).trans S0.out)) Tryz.underlying98 rfl (by kernel_rfl)) rfl ?_
  exact ⟨ret_agg2 HU.out.symm rfl,by rw [hQ];exact (((BW.out.setCell (p:=⟨Q + 1,0,none⟩) (by simp only;omega) _).setCell (p:=⟨Q,0,none⟩) (Nat.le_refl _) _).setCell (p:=⟨Q,1,none⟩) (Nat.le_refl _) _).drew⟩
end Go.Proofs.YtmmkhodaljpjgaaGreatDoor
namespace Go.Proofs.YtmmkhodaljpjgaaGreatDoor
open Go.RowKit
structure Hand (w:World) (g n:Nat) (ls:List (Int × Int)) (j:Nat) (cs:Array Value):Prop where
 row:w.heap[g]? = some (.cells cs 84 (0,0))
 size:cs.size = (n + 2) * 2
 fill:∀ i (_:i < j) (h:i < ls.length),cs[i * 2]? = some (.int .i64 ls[i].1) ∧ cs[i * 2 + 1]? = some (.int .i64 ls[i].2)
def Handed (w:World) (g:Nat) (ls:List (Int × Int)):Prop:=∃ cs,Hand w g ls.length ls ls.length cs ∧ cs[ls.length * 2]? = some (.int .i64 (-7)) ∧ cs[(ls.length + 1) * 2]? = some (.int .i64 (-7))
theorem set_same {cs:Array Value} {a:Nat} {v:Value} (h:a < cs.size):(cs.setIfInBounds a v)[a]? = some v:=by
 rw [Array.getElem?_setIfInBounds];simp [h]
theorem set_other {cs:Array Value} {a b:Nat} {v:Value} (h:a ≠ b):(cs.setIfInBounds a v)[b]? = cs[b]?:=by
 rw [Array.getElem?_setIfInBounds];simp [h]
theorem Hand.put {w:World} {g n j:Nat} {ls:List (Int × Int)} {cs:Array Value} (h:Hand w g n ls j cs) (hj:j < n) (hl:j < ls.length) :
  ∃ cs',Hand ((w.setCell ⟨g,j * 2,none⟩ (.int .i64 ls[j].1)).setCell ⟨g,j * 2 + 1,none⟩ (.int .i64 ls[j].2)) g n ls (j + 1) cs':=by
 have e1:=heap_setCell_same _ g (j * 2) _ _ (.int .i64 ls[j].1) h.row
 have e2:=heap_setCell_same _ g (j * 2 + 1) _ _ (.int .i64 ls[j].2) e1
 have hz:=h.size
 refine ⟨_,e2,by simp [hz],fun i hi hil => ?_⟩
 by_cases e:i = j
 ·subst e
  exact ⟨by rw [set_other (by omega),set_same (by omega)],by rw [set_same (by simp;omega)]⟩
 ·have:=h.fill i (by omega) hil
  exact ⟨by rw [set_other (by omega),set_other (by omega)];exact this.1,by rw [set_other (by omega),set_other (by omega)];exact this.2⟩
theorem Hand.cell {w:World} {g n j:Nat} {ls:List (Int × Int)} {cs:Array Value} (h:Hand w g n ls j cs) (k:Nat) (hk:k < (n + 2) * 2):∃ v,w.cell? ⟨g,k,none⟩ = some v:=by
 rw [cell_of_row _ _ k _ _ _ h.row,Array.getElem?_eq_getElem (by rw [h.size];exact hk)];exact ⟨_,rfl⟩
theorem Hand.free {w:World} {g n j:Nat} {ls:List (Int × Int)} {cs:Array Value} (h:Hand w g n ls j cs) (k:Nat):w.frozen? ⟨g,k,none⟩ = false:=frozen_of_row _ _ k _ _ h.row
theorem Handed.held {w:World} {g:Nat} {ls:List (Int × Int)} (h:Handed w g ls):Held w (.slice (some ⟨g,0,none⟩) ls.length (ls.length + 2)) ls:=by
 obtain ⟨cs,hh,_,_⟩:=h
 by_cases h0:0 < ls.length
 ·exact .inr ⟨h0,g,_,rfl,by omega,lt_of_heap hh.row,fun i hi => ⟨by rw [cell_of_row _ _ _ _ _ _ hh.row];exact (hh.fill i hi hi).1,by rw [cell_of_row _ _ _ _ _ _ hh.row];exact (hh.fill i hi hi).2⟩⟩
 ·have e:ls = []:=List.eq_nil_of_length_eq_zero (by omega)
  subst e;exact .inl ⟨rfl,_,_,rfl⟩
theorem Handed.below {w w':World} {g:Nat} {ls:List (Int × Int)} (h:Handed w g ls) (hb:Below w.heap.size w w'):Handed w' g ls:=by
 obtain ⟨cs,hh,a,b⟩:=h
 exact ⟨cs,⟨(hb.block _ (lt_of_heap hh.row)).trans hh.row,hh.size,hh.fill⟩,a,b⟩
theorem infoApi2:(Tryz.prog.info? 84).map (fun i => (i.zero,i.size,i.bytes)) = some (some (.agg #[.int .i64 0,.int .i64 0]),2,16):=by kernel_rfl
def HandSaid (w:World) (up ex:Int) (ls:List (Int × Int)) (e:Ending) (w':World):Prop:=∃ g,w.heap.size ≤ g ∧ e = .returned (.agg #[.int .i64 up,.int .i64 ex,.slice (some ⟨g,0,none⟩) ls.length (ls.length + 2)]) ∧ Handed w' g ls ∧ Below w.heap.size w w'
theorem handed_any (up ex:Int) (tv:Value) (ls:List (Int × Int)) (w:World) (hT:Held w tv ls) (hn:ls.length ≤ 100000) :
  Calls Tryz.prog 43 #[.agg #[.int .i64 up,.int .i64 ex,tv]] w fun e w' => HandSaid w up ex ls e w':=by
 obtain ⟨i0,hi0,hz0,hz1,hz2⟩:=info_parts infoApi2
 obtain ⟨ta,tc,htv⟩:∃ ao c,tv = .slice ao ls.length c:=by
  rcases hT with ⟨rfl,ao,c,rfl⟩ | ⟨_,g,c,rfl,_⟩
  ·exact ⟨_,_,rfl⟩
  ·exact ⟨_,_,rfl⟩
 have HT:=hid' hT
 have B1:=hid' (((Below.refl w.heap.size w).alloc (Nat.le_refl _) (.cells #[.int .i64 up,.int .i64 ex,tv] 33)).alloc (by simp) (.cells #[.int .i64 0,.int .i64 0,.slice none 0 0] 78))
 have R1:=hid' (heap_alloc2_old w (.cells #[.int .i64 up,.int .i64 ex,tv] 33) (.cells #[.int .i64 0,.int .i64 0,.slice none 0 0] 78))
 have R2:=hid' (heap_alloc2_new w (.cells #[.int .i64 up,.int .i64 ex,tv] 33) (.cells #[.int .i64 0,.int .i64 0,.slice none 0 0] 78))
 have hsz:((w.alloc (.cells #[.int .i64 up,.int .i64 ex,tv] 33)).alloc (.cells #[.int .i64 0,.int .i64 0,.slice none 0 0] 78)).heap.size = w.heap.size + 1 + 1:=by simp
 have HSZ:=hid' hsz
 clear hT hsz
 subst htv
 generalize hk:ls.length = k at *
 go_enter Tryz.func43,Tryz.ntmps43
 go_wp2_with (first
  | (at_make;refine wpList_make_full _ rfl _ _ 76 rfl (w.heap.size + 1 + 1) 84 i0 (.agg #[.int .i64 0,.int .i64 0]) 2 Tryz.underlying76 hi0 hz0 hz1 .i64 .i64 _ _ (k + 2) rfl rfl (by simp) (by simp) (by rw [hz2];omega) (by unfold maxLen;omega) (by rw [HSZ.out];exact Nat.le_refl _) ?_;intro W hown hgr;have HOWN:=hid' hown;have HGR:=hid' hgr;clear hown hgr))
 have hH:∃ cs,Hand W (w.heap.size + 1 + 1) k ls 0 cs:=by
  rcases HOWN.out.2 with ⟨h,_⟩ | ⟨g,cap,cur,h,_,hh,_,_,hcs,_⟩
  ·cases h
  ·cases h
   rw [HSZ.out] at hh
   exact ⟨cur,hh,hcs,fun i hi _ => by omega⟩
 have RW1:=hid' ((HGR.out.block _ (lt_of_heap R1.out) (by simp)).trans R1.out)
 have RW2:=hid' ((HGR.out.block _ (lt_of_heap R2.out) (by simp)).trans R2.out)
 have BW:=hid' (B1.out.grown HGR.out (by rw [HSZ.out];omega) (fun k hk => by cases hk))
 have HHH:=hid' hH
 clear hH HOWN HGR R1 R2 B1 HSZ hi0 hz0 hz1 hz2
 go_loopw [5] (fun i wr => ∃ (j:Nat) (cs:Array Value),j ≤ k ∧ i = .int .i64 j ∧ Hand wr (w.heap.size + 1 + 1) k ls j cs ∧ wr.heap[w.heap.size]? = some (.cells #[.int .i64 up,.int .i64 ex,.slice ta k tc] 33 (0,0)) ∧ wr.heap[w.heap.size + 1]? = some (.cells #[.int .i64 0,.int .i64 0,.slice none 0 0] 78 (0,0)) ∧ Below w.heap.size w wr) (fun i _ => k - (intOf i).toNat)
 case atStart =>
  obtain ⟨cs,h⟩:=HHH.out
  exact ⟨0,cs,by omega,rfl,h,RW1.out,RW2.out,BW.out⟩
 case round =>
  clear HHH RW1 RW2 BW
  obtain ⟨j,cs,hj,rfl,hh,r1,r2,bw⟩:=hrel
  have q0:=cell_of_row _ _ 0 _ _ _ r1
  have q1:=cell_of_row _ _ 1 _ _ _ r1
  have q2:=cell_of_row _ _ 2 _ _ _ r1
  simp at q0 q1 q2
  by_cases hlt:j < k
  ·obtain ⟨gt,tcap,htv,htc,hgl,hli⟩:∃ g cap,Value.slice ta k tc = .slice (some ⟨g,0,none⟩) ls.length cap ∧ ls.length ≤ cap ∧ g < w.heap.size ∧ Lies w g ls:=by
    rcases HT.out with ⟨e,_⟩ | ⟨_,g,cap,e,a,b,c⟩
    ·subst e;simp at hk;omega
    ·exact ⟨g,cap,e,a,b,c⟩
   rw [hk] at htv
   obtain ⟨rfl,_,rfl⟩:=Value.slice.inj htv
   have hjl:j < ls.length:=by omega
   have c0:=(bw.cell (p:=⟨gt,j * 2,none⟩) hgl).trans (hli j hjl).1
   have c1:=(bw.cell (p:=⟨gt,j * 2 + 1,none⟩) hgl).trans (hli j hjl).2
   obtain ⟨o0,p0⟩:=hh.cell (j * 2) (by omega)
   obtain ⟨o1,p1⟩:=hh.cell (j * 2 + 1) (by omega)
   have f0:=hh.free (j * 2)
   have f1:=hh.free (j * 2 + 1)
   have HPUT:=hid' (hh.put hlt hjl)
   have hle:w.heap.size ≤ w.heap.size + 1 + 1:=by omega
   have bw2:=(bw.setCell (p:=⟨w.heap.size + 1 + 1,j * 2,none⟩) hle (.int .i64 ls[j].1)).setCell (p:=⟨w.heap.size + 1 + 1,j * 2 + 1,none⟩) hle (.int .i64 ls[j].2)
   have k1:=(bw2.cell (p:=⟨gt,j * 2,none⟩) hgl).trans (hli j hjl).1
   have k2:=(bw2.cell (p:=⟨gt,j * 2 + 1,none⟩) hgl).trans (hli j hjl).2
   have rr1:((wr.setCell ⟨w.heap.size + 1 + 1,j * 2,none⟩ (.int .i64 ls[j].1)).setCell ⟨w.heap.size + 1 + 1,j * 2 + 1,none⟩ (.int .i64 ls[j].2)).heap[w.heap.size]? = _:=(heap_setCell_other _ _ _ _ (by simp;try omega)).trans ((heap_setCell_other _ _ _ _ (by simp;try omega)).trans r1)
   have rr2:((wr.setCell ⟨w.heap.size + 1 + 1,j * 2,none⟩ (.int .i64 ls[j].1)).setCell ⟨w.heap.size + 1 + 1,j * 2 + 1,none⟩ (.int .i64 ls[j].2)).heap[w.heap.size + 1]? = _:=(heap_setCell_other _ _ _ _ (by simp;try omega)).trans ((heap_setCell_other _ _ _ _ (by simp;try omega)).trans r2)
   have k0:=cell_of_row _ _ 2 _ _ _ rr1
   simp at k0
   have R1:=hid' rr1
   have R2:=hid' rr2
   have BW:=hid' bw2
   have ne1:¬ gt = w.heap.size + 1 + 1:=by omega
   have ne2:¬ w.heap.size = w.heap.size + 1 + 1:=by omega
   have z0:(0:Int) ≤ (j:Int):=by omega
   have z1:(j:Int) < (k:Int):=by omega
   have z2:(j:Int) < (k:Int) + 2:=by omega
   clear htv hli hh r1 r2 bw HT hle bw2 rr1 rr2
   generalize ls[j] = p at *
   obtain ⟨pa,po⟩:=p
   simp only at c0 c1 k0 k1 k2
   clear hjl
   go_wp2_with fail
   go_region_held3 (fun w' => w'.cell? ⟨w.heap.size,2,none⟩ = some (.slice (some ⟨gt,0,none⟩) k tc) ∧ w'.cell? ⟨gt,j * 2,none⟩ = some (.int .i64 pa) ∧ w'.cell? ⟨gt,j * 2 + 1,none⟩ = some (.int .i64 po)) (go_keep) (fail)
   all_goals
    go_wp2
    go_roundw
    case rel =>
     obtain ⟨cs',h'⟩:=HPUT.out
     exact ⟨j + 1,cs',by omega,by go_num,⟨h'.row,h'.size,h'.fill⟩,R1.out,R2.out,BW.out.drew⟩
    case measure => simp [intOf];omega
  ·have ej:j = k:=by omega
   have hnl:¬ (j:Int) < (k:Int):=by omega
   obtain ⟨o0,p0⟩:=hh.cell (k * 2) (by omega)
   obtain ⟨o1,p1⟩:=hh.cell (k * 2 + 1) (by omega)
   obtain ⟨o2,p2⟩:=hh.cell ((k + 1) * 2) (by omega)
   obtain ⟨o3,p3⟩:=hh.cell ((k + 1) * 2 + 1) (by omega)
   have f0:=hh.free (k * 2)
   have f1:=hh.free (k * 2 + 1)
   have f2:=hh.free ((k + 1) * 2)
   have f3:=hh.free ((k + 1) * 2 + 1)
   have HE:Hid (∃ cs',((((wr.setCell ⟨w.heap.size + 1 + 1,k * 2,none⟩ (.int .i64 (-7))).setCell ⟨w.heap.size + 1 + 1,k * 2 + 1,none⟩ (.int .i64 0)).setCell ⟨w.heap.size + 1 + 1,(k + 1) * 2,none⟩ (.int .i64 (-7))).setCell ⟨w.heap.size + 1 + 1,(k + 1) * 2 + 1,none⟩ (.int .i64 0)).heap[w.heap.size + 1 + 1]? = some (.cells cs' 84 (0,0)) ∧ cs'.size = (k + 2) * 2 ∧ (∀ i (_:i < k) (h:i < ls.length),cs'[i * 2]? = some (.int .i64 ls[i].1) ∧ cs'[i * 2 + 1]? = some (.int .i64 ls[i].2)) ∧ cs'[k * 2]? = some (.int .i64 (-7)) ∧ cs'[(k + 1) * 2]? = some (.int .i64 (-7))):=by
    have e1:=heap_setCell_same _ (w.heap.size + 1 + 1) (k * 2) _ _ (.int .i64 (-7)) hh.row
    have e2:=heap_setCell_same _ (w.heap.size + 1 + 1) (k * 2 + 1) _ _ (.int .i64 0) e1
    have e3:=heap_setCell_same _ (w.heap.size + 1 + 1) ((k + 1) * 2) _ _ (.int .i64 (-7)) e2
    have e4:=heap_setCell_same _ (w.heap.size + 1 + 1) ((k + 1) * 2 + 1) _ _ (.int .i64 0) e3
    have hz:=hh.size
    refine ⟨_,e4,by simp [hz],fun i hi hil => ?_,?_,?_⟩
    ·have:=hh.fill i (by omega) hil
     exact ⟨by rw [set_other (by omega),set_other (by omega),set_other (by omega),set_other (by omega)];exact this.1,by rw [set_other (by omega),set_other (by omega),set_other (by omega),set_other (by omega)];exact this.2⟩
    ·rw [set_other (by omega),set_other (by omega),set_other (by omega),set_same (by omega)]
    ·rw [set_other (by omega),set_same (by simp;omega)]
   have hx1:((((wr.setCell ⟨w.heap.size + 1 + 1,k * 2,none⟩ (.int .i64 (-7))).setCell ⟨w.heap.size + 1 + 1,k * 2 + 1,none⟩ (.int .i64 0)).setCell ⟨w.heap.size + 1 + 1,(k + 1) * 2,none⟩ (.int .i64 (-7))).setCell ⟨w.heap.size + 1 + 1,(k + 1) * 2 + 1,none⟩ (.int .i64 0)).heap[w.heap.size]? = _ :=
    (heap_setCell_other _ _ _ _ (by simp;try omega)).trans ((heap_setCell_other _ _ _ _ (by simp;try omega)).trans ((heap_setCell_other _ _ _ _ (by simp;try omega)).trans ((heap_setCell_other _ _ _ _ (by simp;try omega)).trans r1)))
   have hx2:((((wr.setCell ⟨w.heap.size + 1 + 1,k * 2,none⟩ (.int .i64 (-7))).setCell ⟨w.heap.size + 1 + 1,k * 2 + 1,none⟩ (.int .i64 0)).setCell ⟨w.heap.size + 1 + 1,(k + 1) * 2,none⟩ (.int .i64 (-7))).setCell ⟨w.heap.size + 1 + 1,(k + 1) * 2 + 1,none⟩ (.int .i64 0)).heap[w.heap.size + 1]? = _ :=
    (heap_setCell_other _ _ _ _ (by simp;try omega)).trans ((heap_setCell_other _ _ _ _ (by simp;try omega)).trans ((heap_setCell_other _ _ _ _ (by simp;try omega)).trans ((heap_setCell_other _ _ _ _ (by simp;try omega)).trans r2)))
   have hle:w.heap.size ≤ w.heap.size + 1 + 1:=by omega
   have hx3:=(((bw.setCell (p:=⟨w.heap.size + 1 + 1,k * 2,none⟩) hle (.int .i64 (-7))).setCell (p:=⟨w.heap.size + 1 + 1,k * 2 + 1,none⟩) hle (.int .i64 0)).setCell (p:=⟨w.heap.size + 1 + 1,(k + 1) * 2,none⟩) hle (.int .i64 (-7))).setCell (p:=⟨w.heap.size + 1 + 1,(k + 1) * 2 + 1,none⟩) hle (.int .i64 0)
   have X1:=hid' hx1
   have X2:=hid' hx2
   have X3:=hid' hx3
   clear hx1 hx2 hx3 hle hh r1 r2 bw ej HT
   go_upto_region 9 with fail
   generalize (((wr.setCell ⟨w.heap.size + 1 + 1,k * 2,none⟩ (.int .i64 (-7))).setCell ⟨w.heap.size + 1 + 1,k * 2 + 1,none⟩ (.int .i64 0)).setCell ⟨w.heap.size + 1 + 1,(k + 1) * 2,none⟩ (.int .i64 (-7))).setCell ⟨w.heap.size + 1 + 1,(k + 1) * 2 + 1,none⟩ (.int .i64 0) = V at *
   clear q0 q1 q2 p0 p1 p2 p3 f0 f1 f2 f3
   have q0:=cell_of_row _ _ 0 _ _ _ X1.out
   have q1:=cell_of_row _ _ 1 _ _ _ X1.out
   have y0:=cell_of_row _ _ 0 _ _ _ X2.out
   have y1:=cell_of_row _ _ 1 _ _ _ X2.out
   have y2:=cell_of_row _ _ 2 _ _ _ X2.out
   simp at q0 q1 y0 y1 y2
   have x0:=frozen_of_row _ _ 0 _ _ X2.out
   have x1:=frozen_of_row _ _ 1 _ _ X2.out
   have x2:=frozen_of_row _ _ 2 _ _ X2.out
   have hsl:=fun W => head_run (w.heap.size + 1 + 1) (k + 2) (k + 2) k (by omega) W
   go_region
   all_goals
    go_wp2
    have rowE:=zero3_row (x:=.int .i64 up) (y:=.int .i64 ex) (z:=.slice (some ⟨w.heap.size + 1 + 1,0,none⟩) k (k + 2)) X2.out
    refine bodyPost_ret (results_cell_row rfl _ _ (w.heap.size + 1) 78 #[.int .i64 up,.int .i64 ex,.slice (some ⟨w.heap.size + 1 + 1,0,none⟩) k (k + 2)] (0,0) _ rfl rowE Tryz.underlying78 rfl (by kernel_rfl)) rfl ?_
    refine ⟨w.heap.size + 1 + 1,by omega,by rw [hk],?_,(below3 X3.out (by omega)).drew⟩
    obtain ⟨cs',e1,e2,e3,e4,e5⟩:=HE.out
    refine ⟨cs',⟨?_,by rw [hk];exact e2,fun i hi hl => e3 i (by omega) hl⟩,by rw [hk];exact e4,by rw [hk];exact e5⟩
    exact (heap_setCell_other _ _ _ _ (by simp)).trans ((heap_setCell_other _ _ _ _ (by simp)).trans ((heap_setCell_other _ _ _ _ (by simp)).trans e1))
end Go.Proofs.YtmmkhodaljpjgaaGreatDoor
namespace Go.Proofs.YtmmkhodaljpjgaaGreatDoor
open Go.RowKit
attribute [local go_sem ↓] Go.wp_at_zero Go.wp_at_succ
theorem PRow.putD {b:Nat} {s:Sv} {dv cv dv':Value} {op:Bool} {bs bf:Int} {w w1:World} {L:List (Int × Int)} (h:PRow b s dv cv op bs bf w) (hg:w.grownBy w1 dv.ownBlock) (ho:w1.ownsRow 0 84 2 dv' L.length (flat L)) :
  PRow b { s with done:=L } dv' cv op bs bf (w1.setCell ⟨b,9,none⟩ dv'):=by
 have row:=grown_heap (t:=157) hg h.dd h.row (by decide)
 have kc:=own_grown h.cc hg h.dd (by decide)
 refine ⟨?_,own_set (p:=⟨b,9,none⟩) ho row (by decide) _,own_set (p:=⟨b,9,none⟩) kc row (by decide) _,h.sl⟩
 rw [heap_setCell_same _ _ _ _ _ _ row];rfl
theorem PRow.putO {b:Nat} {s:Sv} {dv cv:Value} {op:Bool} {bs bf x y:Int} {w:World} (h:PRow b s dv cv op bs bf w):PRow b s dv cv true x y (((w.setCell ⟨b,44,none⟩ (.bool true)).setCell ⟨b,45,none⟩ (.int .i64 x)).setCell ⟨b,46,none⟩ (.int .i64 y)):=by
 have r0:=h.row
 have r1:=heap_setCell_same _ _ 44 _ _ (.bool true) r0
 have r2:=heap_setCell_same _ _ 45 _ _ (.int .i64 x) r1
 have ow:∀ {B e size n:Nat} {v:Value} {xs:List Value},w.ownsRow B e size v n xs → 157 ≠ e → (((w.setCell ⟨b,44,none⟩ (.bool true)).setCell ⟨b,45,none⟩ (.int .i64 x)).setCell ⟨b,46,none⟩ (.int .i64 y)).ownsRow B e size v n xs:=fun o he =>
  own_set (p:=⟨b,46,none⟩) (own_set (p:=⟨b,45,none⟩) (own_set (p:=⟨b,44,none⟩) o r0 he _) r1 he _) r2 he _
 refine ⟨?_,ow h.dd (by decide),ow h.cc (by decide),h.sl⟩
 rw [heap_setCell_same _ _ _ _ _ _ r2];rfl
def BegP (b:Nat) (s:Sv) (dv cv:Value) (a o x y:Int) (w w':World):Prop:=∃ dv',PRow b { s with done:=s.done ++ [(a,o)] } dv' cv true x y w' ∧ Off (pFoot b dv cv) w w' ∧ ∀ k,dv'.ownBlock = some k → dv.ownBlock = some k ∨ w.heap.size ≤ k
theorem let_begin (b:Nat) (s:Sv) (dv cv:Value) (op:Bool) (bs bf a o x y:Int) (v:Bool) (w:World) (h:PRow b s dv cv op bs bf w) (hl:s.done.length ≤ 900) :
  Calls Tryz.prog 197 #[.pointer (some ⟨b,0,none⟩),.agg #[.int .i64 a,.int .i64 o,.int .i64 x,.int .i64 y,.bool v]] w fun e w' => e = .returned (.tuple #[]) ∧ BegP b s dv cv a o x y w w':=by
 obtain ⟨i0,hi0,hz0,hz1,hz2⟩:=info_parts infoALeap
 have B0:=hid' ((Below.refl w.heap.size w).alloc (Nat.le_refl _) (.cells #[.int .i64 a,.int .i64 o,.int .i64 x,.int .i64 y,.bool v] 121))
 have R0:=hid' (heap_alloc_new w (.cells #[.int .i64 a,.int .i64 o,.int .i64 x,.int .i64 y,.bool v] 121))
 have P0:=hid' (h.below B0.out)
 have lb0:=lt_of_heap h.row
 obtain ⟨da,dcp,hdv⟩:=own_slice h.dd
 subst hdv
 clear h
 go_enter Tryz.func197,Tryz.ntmps197
 go_upto_region 1 with fail
 have O0:=hid' (Off.of_below (F:=pFoot b (.slice da s.done.length dcp) cv) B0.out)
 have hq0:b ≠ w.heap.size:=by omega
 have ls:=B0.out.size
 generalize hV:w.alloc (.cells #[.int .i64 a,.int .i64 o,.int .i64 x,.int .i64 y,.bool v] 121) = V at *
 generalize hQ:w.heap.size = Q at *
 clear hV
 have q7:=P0.out.c9
 have f7:=frozen_of_row _ _ 9 _ _ P0.out.row
 have d0:=cell_of_row _ _ 0 _ _ _ R0.out
 have d1:=cell_of_row _ _ 1 _ _ _ R0.out
 have lb:=lt_of_heap P0.out.row
 have lq:=lt_of_heap R0.out
 simp at d0 d1
 have fz:∀ o,(V.alloc o).frozen? ⟨b,9,none⟩ = false:=fun o => frozen_of_row _ _ 9 _ _ ((Keep.refl _ V).alloc o _ _ _ P0.out.row)
 go_cut [3] from 4 (fun s3 wx => s3 = .pointer (some ⟨Q,0,none⟩) ∧ wx.heap[Q]? = some (.cells #[.int .i64 a,.int .i64 o,.int .i64 x,.int .i64 y,.bool v] 121 (0,0)) ∧ ∃ dv',PRow b { s with done:=s.done ++ [(a,o)] } dv' cv op bs bf wx ∧ Off (pFoot b (.slice da s.done.length dcp) cv) w wx ∧ ∀ k,dv'.ownBlock = some k → (Value.slice da s.done.length dcp).ownBlock = some k ∨ Q ≤ k)
 case first =>
  go_region_law ((refine step_append_lies _ ?_ (.tmp 9) (.tmp 15) 76 ?_ 0 84 i0 (.agg #[.int .i64 0,.int .i64 0]) 2 16 Tryz.underlying76 hi0 hz0 hz1 hz2 rfl (by decide) (.slice da s.done.length dcp) s.done.length (flat s.done) ?_ ?_ ⟨V.heap.size,0,none⟩ 1 1 [.int .i64 a,.int .i64 o] ?_ ?_ ?_ ?_ ?_ ?_ ?_ ?_ (V.heap.size + 1) ?_ ?_;exact rfl;exact rfl;exact rfl;exact (P0.out.dd.alloc _).drew;exact rfl;exact rfl;exact (World.news_of_block (cs:=#[.int .i64 a,.int .i64 o]) (t:=84) (fr:=(0,0)) (heap_alloc_new V _));(simp [Value.oneCell']);decide;(unfold maxLen;omega);omega;omega;(simp);intro gg cap6 w6 own6 hg6 hat6 hlt6;have S6:=hid' (grown_heap (w:=(V.alloc (.cells #[.int .i64 a,.int .i64 o] 84)).drew) (t:=157) hg6 (P0.out.dd.alloc _).drew ((Keep.refl _ V).alloc _ _ _ _ P0.out.row) (by decide));have C6:=hid' (grown_heap (w:=(V.alloc (.cells #[.int .i64 a,.int .i64 o] 84)).drew) (t:=121) hg6 (P0.out.dd.alloc _).drew ((Keep.refl _ V).alloc _ _ _ _ R0.out) (by decide));have c67:w6.cell? ⟨b,9,none⟩ = some (.slice da s.done.length dcp):=cell_of_row _ _ 9 _ _ _ S6.out;have f67:=frozen_of_row _ _ 9 _ _ S6.out;have OWN6:=hid' own6;have HG6:=hid' hg6;have HAT6:=hid' hat6;clear own6 hg6 hat6))
  all_goals
   go_wp2_with fail
   go_meet
   case rel =>
    have ba6:=((Below.refl V.heap.size V).alloc (Nat.le_refl _) (.cells #[.int .i64 a,.int .i64 o] 84)).drew
    refine ⟨rfl,?_,_,(P0.out.below ba6).putD (L:=s.done ++ [(a,o)]) (by exact HG6.out) (by rw [flat_append,List.length_append];exact OWN6.out),?_,fun k e => ?_⟩
    ·rw [heap_setCell_other _ _ _ _ (by simp only;omega)];exact C6.out
    ·refine ((O0.out.then ba6).grown (by exact HG6.out) (fun k e _ => .inr (.inl e))).setCell (fun _ => .inl rfl) _
    ·obtain rfl:gg = k:=by simpa [Value.ownBlock] using e
     rcases HAT6.out with q | q
     ·exact .inl q
     ·exact .inr (by omega)
 case rest =>
  obtain ⟨rfl,crow,dv',pr,off,hat⟩:=hcut
  rename World => W2
  have PR:=hid' pr
  have OF:=hid' off
  have HA:=hid' hat
  have e2:=cell_of_row _ _ 2 _ _ _ crow
  have e3:=cell_of_row _ _ 3 _ _ _ crow
  have g10:=pr.c44
  have g11:=pr.c45
  have g12:=pr.c46
  have f10:=frozen_of_row _ _ 44 _ _ pr.row
  have f11:=frozen_of_row _ _ 45 _ _ pr.row
  have f12:=frozen_of_row _ _ 46 _ _ pr.row
  simp at e2 e3
  have hq1:Q ≠ b:=fun q => hq0 q.symm
  clear pr off hat crow q7 f7 d0 d1 fz
  go_wp2
  go_end0
  refine ⟨rfl,dv',PR.out.putO,((OF.out.setCell (p:=⟨b,44,none⟩) (fun _ => .inl rfl) _).setCell (p:=⟨b,45,none⟩) (fun _ => .inl rfl) _).setCell (p:=⟨b,46,none⟩) (fun _ => .inl rfl) _,fun k e => ?_⟩
  rw [hQ]
  exact HA.out k e
end Go.Proofs.YtmmkhodaljpjgaaGreatDoor
namespace Go.Proofs.YtmmkhodaljpjgaaGreatDoor
open Go.RowKit
theorem still_yes (B g:Nat) (up ex:Int) (tv:Value) (ls:List (Int × Int)) (w:World) (hg:B ≤ g) (hH:Handed w g ls) (hT:Held w tv ls) (hn:ls.length ≤ 100000) :
  Calls Tryz.prog 45 #[.agg #[.int .i64 up,.int .i64 ex,.slice (some ⟨g,0,none⟩) ls.length (ls.length + 2)],.agg #[.int .i64 up,.int .i64 ex,tv]] w fun e w' => e = .returned (.bool true) ∧ Below B w w':=by
 obtain ⟨ta,tc,rfl⟩:∃ ao c,tv = .slice ao ls.length c:=by
  rcases hT with ⟨rfl,ao,c,rfl⟩ | ⟨_,g,c,rfl,_⟩
  ·exact ⟨_,_,rfl⟩
  ·exact ⟨_,_,rfl⟩
 have hgl:g < w.heap.size:=by obtain ⟨cs,hh,_⟩:=hH;exact lt_of_heap hh.row
 have B1:=hid' (((Below.refl w.heap.size w).alloc (Nat.le_refl _) (.cells #[.int .i64 up,.int .i64 ex,.slice (some ⟨g,0,none⟩) ls.length (ls.length + 2)] 78)).alloc (by simp) (.cells #[.int .i64 up,.int .i64 ex,.slice ta ls.length tc] 33))
 have R1:=hid' (heap_alloc2_old w (.cells #[.int .i64 up,.int .i64 ex,.slice (some ⟨g,0,none⟩) ls.length (ls.length + 2)] 78) (.cells #[.int .i64 up,.int .i64 ex,.slice ta ls.length tc] 33))
 have R2:=hid' (heap_alloc2_new w (.cells #[.int .i64 up,.int .i64 ex,.slice (some ⟨g,0,none⟩) ls.length (ls.length + 2)] 78) (.cells #[.int .i64 up,.int .i64 ex,.slice ta ls.length tc] 33))
 have HSM:=hid' (same_yes up ex _ _ ls _ (hH.held.below B1.out) (hT.below B1.out) hn)
 have HH:=hid' (hH.below B1.out)
 clear hH hT
 generalize hk:ls.length = k at *
 go_enter Tryz.func45,Tryz.ntmps45
 go_wp2_with fail
 refine HSM.out.mono ?_
 rintro e W ⟨rfl,hb⟩
 obtain ⟨cs,hh,s1,s2⟩:=HH.out.below hb
 rw [hk] at hh s1 s2
 have r1:=(hb.block _ (lt_of_heap R1.out)).trans R1.out
 have bw:=hid' (B1.out.trans (hb.mono B1.out.size))
 have q2:=cell_of_row _ _ 2 _ _ _ r1
 simp at q2
 have c0:W.cell? ⟨g,k * 2,none⟩ = some (.int .i64 (-7)):=by rw [cell_of_row _ _ _ _ _ _ hh.row];exact s1
 have c1:W.cell? ⟨g,(k + 1) * 2,none⟩ = some (.int .i64 (-7)):=by rw [cell_of_row _ _ _ _ _ _ hh.row];exact s2
 have HROW:=hid' (⟨cs,hh.row,hh.size⟩:∃ cs,W.heap[g]? = some (.cells cs 84 (0,0)) ∧ cs.size = (k + 2) * 2)
 have hsl:=fun V => head_run g k (k + 2) (k + 2) (by omega) V
 have hk2:(((k + 2:Nat):Int)) = (k:Int) + 2:=by omega
 rw [hk2] at hsl
 have BW:=hid' (show Below B w W from bw.out.mono (by omega))
 clear hh s1 s2 r1 hb HH HSM R1 R2 B1 hk2 bw
 go_wp2_with fail
 go_loopw [9] (fun i wr => ∃ (j:Nat) (cs:Array Value),j ≤ k ∧ i = .int .i64 j ∧ wr.heap[g]? = some (.cells cs 84 (0,0)) ∧ cs.size = (k + 2) * 2 ∧ Below B w wr) (fun i _ => k - (intOf i).toNat)
 case atStart =>
  obtain ⟨cs,h,hz⟩:=HROW.out
  exact ⟨0,cs,by omega,rfl,h,hz,BW.out⟩
 case round =>
  clear HROW BW c0 c1 q2
  obtain ⟨j,cs,hj,rfl,hrow,hz,hb⟩:=hrel
  by_cases hlt:j < k
  ·obtain ⟨o0,p0⟩:∃ v,wr.cell? ⟨g,j * 2,none⟩ = some v:=by rw [cell_of_row _ _ (j * 2) _ _ _ hrow,Array.getElem?_eq_getElem (by omega)];exact ⟨_,rfl⟩
   obtain ⟨o1,p1⟩:∃ v,wr.cell? ⟨g,j * 2 + 1,none⟩ = some v:=by rw [cell_of_row _ _ (j * 2 + 1) _ _ _ hrow,Array.getElem?_eq_getElem (by omega)];exact ⟨_,rfl⟩
   have f0:=frozen_of_row _ _ (j * 2) _ _ hrow
   have f1:=frozen_of_row _ _ (j * 2 + 1) _ _ hrow
   have e1:=heap_setCell_same _ g (j * 2) _ _ (.int .i64 (-7)) hrow
   have e2:=hid' (heap_setCell_same _ g (j * 2 + 1) _ _ (.int .i64 0) e1)
   have hb2:=hid' ((hb.setCell (p:=⟨g,j * 2,none⟩) hg (.int .i64 (-7))).setCell (p:=⟨g,j * 2 + 1,none⟩) hg (.int .i64 0))
   have HZ:=hid' hz
   clear hrow e1 hb hz
   go_wp2
   go_roundw
   case rel => exact ⟨j + 1,_,by omega,by go_num,e2.out,by simp [HZ.out],hb2.out⟩
   case measure => simp [intOf];omega
  ·have hnl:¬ (j:Int) < (k:Int):=by omega
   have HB:=hid' hb
   clear hrow hb
   go_wp2
   go_ret
   exact ⟨rfl,HB.out⟩
end Go.Proofs.YtmmkhodaljpjgaaGreatDoor
