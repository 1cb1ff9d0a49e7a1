import Derived.Test.YtmmkhodaljpjgaaGreatDoorV36
namespace Go.Proofs.YtmmkhodaljpjgaaGreatDoor
open Go.RowKit
attribute [local go_sem ↓] Go.wp_at_zero Go.wp_at_succ
set_option maxRecDepth 100000 in
set_option maxHeartbeats 6400000 in
theorem turns_hear {P:Nat → Sv → (Nat → Prop) → World → Prop} (hP:PLaw P) (bc bx by' br:Nat) (hv:Value) (m:Int) (hs:List Vw) (s s':Sv) (Fx Fy Fr Fv:Nat → Prop) (x a b c d ev:Int) (so t:ByteArray) (w:World)
  (h:CS P bc bx by' br hv m hs s s s Fx Fy Fr Fv w) (hx:PDoes P 66 (fun q => #[.pointer (some ⟨q,0,none⟩),.int .i64 a,.int .i64 b]) s s' ev (fun _ => True))
  (hrf:∀ dv bv cv rh W,RSrv br s dv bv cv rh W → Calls Tryz.prog 67 #[.pointer (some ⟨br,0,none⟩),.int .i64 a,.int .i64 b] W fun e w' => e = .returned (.int .i64 ev) ∧ RPost br (rFoot br dv bv cv rh) W s' w')
  (hsee:∀ F W,P bx s' F W → Shows bx s' W) (l1:s'.done.length ≤ 900) (l2:s'.com.length ≤ 900) (l3:hs.length ≤ 900000) (m0:0 ≤ m) (m1:m ≤ 10000000000) :
  Calls Tryz.prog 31 #[.pointer (some ⟨bc,0,none⟩),.agg #[.int .i64 20,.int .i64 x,.int .i64 a,.int .i64 b,.int .i64 c,.int .i64 d,.string so],.string t] w fun e w' => e = .returned (.bool true) ∧ TurnP P bc bx by' br hs.length m s' (AllF Fx Fy Fr Fv) w w':=by
 have B0:=hid' ((Below.refl w.heap.size w).alloc (Nat.le_refl _) (.cells #[.int .i64 20,.int .i64 x,.int .i64 a,.int .i64 b,.int .i64 c,.int .i64 d,.string so] 27))
 have R0:=hid' (heap_alloc_new w (.cells #[.int .i64 20,.int .i64 x,.int .i64 a,.int .i64 b,.int .i64 c,.int .i64 d,.string so] 27))
 have H0:=hid' (h.below hP B0.out)
 have LX:Hid (∀ k,Fx k ∨ Fy k ∨ Fr k → (AllF Fx Fy Fr Fv k ∨ w.heap.size ≤ k) ∧ k ≠ w.heap.size):=fun k e => by
  rcases e with e | e | e
  ·obtain ⟨_,_,_,hh,_⟩:=hP.low h.x k e;have:=lt_of_heap hh;exact ⟨.inl (.inl e),by omega⟩
  ·obtain ⟨_,_,_,hh,_⟩:=hP.low h.y k e;have:=lt_of_heap hh;exact ⟨.inl (.inr (.inl e)),by omega⟩
  ·have:=h.rlow k e;exact ⟨.inl (.inr (.inr (.inl e))),by omega⟩
 have HX:Hid (∀ q F W,P q s F W → Calls Tryz.prog 66 #[.pointer (some ⟨q,0,none⟩),.int .i64 a,.int .i64 b] W fun e w' => e = .returned (.int .i64 ev) ∧ ∃ F',P q s' F' w' ∧ Off F W w' ∧ ∀ k,F' k → F k ∨ W.heap.size ≤ k):=fun q F W h => hx q F W h trivial
 have HRF:=hid' hrf
 have HSEE:=hid' hsee
 clear h hx hrf hsee
 go_enter Tryz.func31,Tryz.ntmps31
 go_upto_region 17 with fail
 generalize hV:w.alloc (.cells #[.int .i64 20,.int .i64 x,.int .i64 a,.int .i64 b,.int .i64 c,.int .i64 d,.string so] 27) = V at *
 clear hV
 have c0:=cell_of_row _ _ 0 _ _ _ H0.out.c
 have o2:=cell_of_row _ _ 2 _ _ _ R0.out
 have o3:=cell_of_row _ _ 3 _ _ _ R0.out
 simp at c0 o2 o3
 go_cut [7] from 14 (fun s7 wx => s7 = .int .i64 ev ∧ Mid3 P bc bx by' br w.heap.size hv m hs s' s s (AllF Fx Fy Fr Fv) Fv #[.int .i64 20,.int .i64 x,.int .i64 a,.int .i64 b,.int .i64 c,.int .i64 d,.string so] w wx)
 case first =>
  go_region_with (go_at_call 66;refine (HX.out bx Fx _ (by exact hP.keep H0.out.x (fun _ _ => rfl))).mono ?_;rintro e w1 ⟨rfl,F',p1,o1,f1⟩;have P1:=hid' p1;have O1:=hid' o1;have F1:=hid' f1;clear p1 o1 f1)
  all_goals
   go_wp2_with fail
   go_meet
   case rel => exact ⟨rfl,mid_x hP (H0.out.below hP (Below.refl _ _).drew) R0.out (Off.of_below B0.out.drew) LX.out P1.out O1.out F1.out⟩
 case rest =>
  obtain ⟨rfl,Fx1,Fy1,Fr1,cs1,op1,of1,ff1⟩:=hcut
  rename World => W1
  have CS1:=hid' cs1
  have OP1:=hid' op1
  have OF1:=hid' of1
  have FF1:=hid' ff1
  clear c0 o2 o3
  have c1:=cell_of_row _ _ 1 _ _ _ cs1.c
  have o2:=cell_of_row _ _ 2 _ _ _ op1
  have o3:=cell_of_row _ _ 3 _ _ _ op1
  simp at c1 o2 o3
  clear cs1 op1 of1 ff1
  go_upto_region 18 with fail
  go_cut [8] from 14 (fun s8 wx => s8 = .int .i64 ev ∧ Mid3 P bc bx by' br w.heap.size hv m hs s' s' s (AllF Fx Fy Fr Fv) Fv #[.int .i64 20,.int .i64 x,.int .i64 a,.int .i64 b,.int .i64 c,.int .i64 d,.string so] w wx)
  case first =>
   go_region_with (go_at_call 66;refine (HX.out by' Fy1 _ (by exact hP.keep CS1.out.y (fun _ _ => rfl))).mono ?_;rintro e w1 ⟨rfl,F',p1,o1,f1⟩;have P1:=hid' p1;have O1:=hid' o1;have F1:=hid' f1;clear p1 o1 f1)
   all_goals
    go_wp2_with fail
    go_meet
    case rel => exact ⟨rfl,mid_y hP (CS1.out.below hP (Below.refl _ _).drew) OP1.out OF1.out.drew FF1.out P1.out O1.out F1.out⟩
  case rest =>
   obtain ⟨rfl,Fx2,Fy2,Fr2,cs2,op2,of2,ff2⟩:=hcut
   rename World => W2
   have CS2:=hid' cs2
   have OP2:=hid' op2
   have OF2:=hid' of2
   have FF2:=hid' ff2
   clear c1 o2 o3
   have c2:=cell_of_row _ _ 2 _ _ _ cs2.c
   have o2:=cell_of_row _ _ 2 _ _ _ op2
   have o3:=cell_of_row _ _ 3 _ _ _ op2
   simp at c2 o2 o3
   obtain ⟨rdv,rbv,rcv,rrh,rr2,re2⟩:=cs2.r
   have RR2:=hid' rr2
   clear cs2 op2 of2 ff2 rr2 re2
   go_upto_region 19 with fail
   go_region_with (go_at_call 67;refine (HRF.out rdv rbv rcv rrh _ (by exact RR2.out.below (Below.refl _ _).drew)).mono ?_;rintro e W3 ⟨rfl,p1⟩;have P1:=hid' p1;clear p1)
   all_goals
    have M3:Mid3 P bc bx by' br w.heap.size hv m hs s' s' s' (AllF Fx Fy Fr Fv) Fv #[.int .i64 20,.int .i64 x,.int .i64 a,.int .i64 b,.int .i64 c,.int .i64 d,.string so] w W3:=mid_r hP (CS2.out.below hP (Below.refl _ _).drew) OP2.out OF2.out.drew FF2.out (fun dv bv cv rh q => by
     obtain ⟨rfl,rfl,rfl,rfl⟩:=q.uniq (RR2.out.below (Below.refl _ _).drew)
     exact P1.out)
    obtain ⟨Fx3,Fy3,Fr3,cs3,op3,of3,ff3⟩:=M3
    have CS3:=hid' cs3
    have OF3:=hid' of3
    have FF3:=hid' ff3
    clear c2 o2 o3
    have c3:=cell_of_row _ _ 0 _ _ _ cs3.c
    simp at c3
    obtain ⟨sdv,sbv,scv,srh,sr3,se3⟩:=cs3.r
    have RD:=hid' (reads_any bc bx by' br bx hv sdv sbv scv srh m hs s' W3 cs3.c cs3.hh cs3.ok sr3 (HSEE.out _ _ cs3.x) l1 l2 l3 m0 m1)
    clear cs3 op3 of3 ff3 sr3 se3
    have e1:(ev == ev) = true:=by simp
    have e0:((0:Int) == 0) = true:=rfl
    go_wp2_with fail
    refine RD.out.mono ?_
    rintro e w5 ⟨rfl,rp⟩
    have RP:=hid' rp
    clear rp RD c3
    go_wp2_with (go_at_call 34;refine (num_any _ _).mono ?_;rintro e w6 ⟨rfl,rfl⟩)
    go_ret
    obtain ⟨hv',v1,v2,F',cs5,of5,ff5⟩:=CS3.out.read hP RP.out
    have sz3:=OF3.out.size
    refine ⟨rfl,hv',hs ++ [v1,v2],Fx3,Fy3,Fr3,F',cs5,by simp,OF3.out.trans of5 (fun k hk e => .inr (.inr (.inr e))),fun k e => ?_⟩
    rcases e with e | e | e | e
    ·exact (FF3.out k (.inl e)).1
    ·exact (FF3.out k (.inr (.inl e))).1
    ·exact (FF3.out k (.inr (.inr e))).1
    ·rcases ff5 k e with c | c
     ·exact .inl (.inr (.inr (.inr c)))
     ·exact .inr (by omega)
set_option maxRecDepth 100000 in
set_option maxHeartbeats 1600000 in
theorem does_hear {P:Nat → Sv → (Nat → Prop) → World → Prop} (hP:PLaw P) (bc bx by' br:Nat) (hv:Value) (m:Int) (hs:List Vw) (s s':Sv) (Fx Fy Fr Fv:Nat → Prop) (x a b c d ev:Int) (so t:ByteArray) (w:World)
  (h:CS P bc bx by' br hv m hs s s s Fx Fy Fr Fv w) (hx:PDoes P 66 (fun q => #[.pointer (some ⟨q,0,none⟩),.int .i64 a,.int .i64 b]) s s' ev (fun _ => True))
  (hrf:∀ dv bv cv rh W,RSrv br s dv bv cv rh W → Calls Tryz.prog 67 #[.pointer (some ⟨br,0,none⟩),.int .i64 a,.int .i64 b] W fun e w' => e = .returned (.int .i64 ev) ∧ RPost br (rFoot br dv bv cv rh) W s' w')
  (hsee:∀ F W,P bx s' F W → Shows bx s' W) (l1:s'.done.length ≤ 900) (l2:s'.com.length ≤ 900) (l3:hs.length ≤ 900000) (m0:0 ≤ m) (m1:m ≤ 10000000000) :
  Calls Tryz.prog 20 #[.pointer (some ⟨bc,0,none⟩),.agg #[.int .i64 20,.int .i64 x,.int .i64 a,.int .i64 b,.int .i64 c,.int .i64 d,.string so],.string t] w fun e w' => e = .returned (.bool true) ∧ TurnP P bc bx by' br hs.length m s' (AllF Fx Fy Fr Fv) w w':=by
 have B0:=hid' ((Below.refl w.heap.size w).alloc (Nat.le_refl _) (.cells #[.int .i64 20,.int .i64 x,.int .i64 a,.int .i64 b,.int .i64 c,.int .i64 d,.string so] 27))
 have T:=hid' (turns_hear hP bc bx by' br hv m hs s s' Fx Fy Fr Fv x a b c d ev so t _ (h.below hP B0.out) hx hrf hsee l1 l2 l3 m0 m1)
 clear h hx hrf hsee
 go_enter Tryz.func20,Tryz.ntmps20
 go_wp2_with fail
 refine T.out.mono ?_
 rintro e w1 ⟨rfl,p1⟩
 have P1:=hid' p1
 clear p1 T
 go_wp2
 go_ret
 exact ⟨rfl,P1.out.from B0.out⟩
end Go.Proofs.YtmmkhodaljpjgaaGreatDoor
namespace Go.Proofs.YtmmkhodaljpjgaaGreatDoor
open Go.RowKit
set_option maxRecDepth 100000 in
set_option maxHeartbeats 1600000 in
theorem served_yes (bc bx by' br b:Nat) (hv:Value) (m ts tf li er:Int) (w:World)
  (hc:w.heap[bc]? = some (.cells #[.pointer (some ⟨bx,0,none⟩),.pointer (some ⟨by',0,none⟩),.pointer (some ⟨br,0,none⟩),hv,.int .i64 m] 60 (0,0)))
  (hN:Tells 55 b ts tf li er w) (hS:∀ W,Below w.heap.size w W → Tells 56 br ts tf li er W) :
  Calls Tryz.prog 28 #[.pointer (some ⟨bc,0,none⟩),.pointer (some ⟨b,0,none⟩)] w fun e w' => e = .returned (.bool true) ∧ Below w.heap.size w w':=by
 have HC:=hid' hc
 have HN:=hid' hN
 have HS:=hid' hS
 clear hc hN hS
 go_enter Tryz.func28,Tryz.ntmps28
 go_wp2_with fail
 refine Calls.mono HN.out ?_
 rintro e w1 ⟨rfl,hb1⟩
 have a1:=(Below.refl w1.heap.size w1).alloc (Nat.le_refl _) (.cells #[.int .i64 ts,.int .i64 tf] 98)
 have B1:=hid' (hb1.trans (a1.mono hb1.size))
 have T1:=hid' (heap_alloc_new w1 (.cells #[.int .i64 ts,.int .i64 tf] 98))
 have C1:=(hb1.block _ (lt_of_heap HC.out)).trans HC.out
 have c2:=cell_of_row _ _ 2 _ _ _ C1
 have lc:=lt_of_heap C1
 simp at c2
 clear hb1 a1 C1
 go_wp2_with fail
 refine Calls.mono (HS.out _ B1.out) ?_
 rintro e w2 ⟨rfl,hb2⟩
 have B2:=hid' (B1.out.trans (hb2.mono B1.out.size))
 have T2:=(hb2.block _ (lt_of_heap T1.out)).trans T1.out
 have t0:=cell_of_row _ _ 0 _ _ _ T2
 have t1:=cell_of_row _ _ 1 _ _ _ T2
 have lt2:=lt_of_heap T2
 simp at t0 t1
 clear hb2 T2 c2
 have e0:(ts == ts) = true:=by simp
 have e1:(tf == tf) = true:=by simp
 have e2:(li == li) = true:=by simp
 have e3:(er == er) = true:=by simp
 go_wp2_with (go_at_call 34;refine (num_any _ _).mono ?_;rintro e w5 ⟨rfl,rfl⟩)
 go_ret
 exact ⟨rfl,B2.out.alloc B2.out.size _⟩
end Go.Proofs.YtmmkhodaljpjgaaGreatDoor
