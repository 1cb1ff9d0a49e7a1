import Derived.Test.YtmmkhodaljpjgaaGreatDoorV18
import Derived.Deep.QuietTactic
import Derived.BigQuiet
import Derived.Deep.RegionLaw
import Derived.BigRegion
set_option maxRecDepth 100000
set_option maxHeartbeats 6400000
namespace Go.Proofs.YtmmkhodaljpjgaaGreatDoor
open Go.RowKit
theorem ref_opens (b:Nat) (x:Sv) (dv bv cv hv:Value) (t:Int) (w:World) (hr:RSrv b x dv bv cv hv w) (h0:0 ≤ x.win) (h1:x.win ≤ 1000000) (t0:0 ≤ t) (t1:t ≤ 1000000000000) :
  Calls Tryz.prog 112 #[.pointer (some ⟨b,0,none⟩),.int .i64 t] w fun e w' => e = .returned (.agg #[.int .i64 (x.opens t).1,.int .i64 (x.opens t).2]) ∧ Below w.heap.size w w':=by
 obtain ⟨mode,win,fresh,ns,nf,ld,up,ex,done,began,com,ref,said⟩:=x
 have q1:=cell_of_row _ _ 1 _ _ _ hr.row
 have q3:=cell_of_row _ _ 3 _ _ _ hr.row
 have q4:=cell_of_row _ _ 4 _ _ _ hr.row
 have lb:=lt_of_heap hr.row
 simp at q1 q3 q4
 simp only at h0 h1
 clear hr
 have HLA:=hid' (fun W => ref_later ns nf (t - win / 2) 0 W)
 have HOP:Hid (Sv.opens ⟨mode,win,fresh,ns,nf,ld,up,ex,done,began,com,ref,said⟩ t = if tLater ns nf (t - win / 2) 0 = true then (ns,nf) else (t - win / 2,0)):=rfl
 generalize Sv.opens ⟨mode,win,fresh,ns,nf,ld,up,ex,done,began,com,ref,said⟩ t = r at *
 generalize tLater ns nf (t - win / 2) 0 = lt at *
 have HB0:=hid' (((Below.refl w.heap.size w).alloc (Nat.le_refl _) (.cells #[.int .i64 0,.int .i64 0] 35)).alloc (by simp) (.cells #[.int .i64 (t - win / 2),.int .i64 0] 35)).drew
 have HR0:=hid' (heap_alloc2_old w (.cells #[.int .i64 0,.int .i64 0] 35) (.cells #[.int .i64 (t - win / 2),.int .i64 0] 35))
 have HR1:=hid' (heap_alloc2_new w (.cells #[.int .i64 0,.int .i64 0] 35) (.cells #[.int .i64 (t - win / 2),.int .i64 0] 35))
 go_enter Tryz.func112,Tryz.ntmps112
 go_wp2_with fail
 go_region_with (go_at_call 140;refine (HLA.out _).mono ?_;rintro e w1 ⟨rfl,hb1⟩;have HB1:=hid' (HB0.out.trans (hb1.mono (by exact HB0.out.size)));have a0:=(hb1.block _ (by simp <;> omega)).trans HR0.out;have a1:=(hb1.block _ (by simp <;> omega)).trans HR1.out;have HA0:=hid' a0;have HA1:=hid' a1;clear hb1 a0 a1)
 all_goals
  have x0:=cell_of_row _ _ 0 _ _ _ HA0.out
  have x1:=cell_of_row _ _ 1 _ _ _ HA0.out
  have f0:=frozen_of_row _ _ 0 _ _ HA0.out
  have f1:=frozen_of_row _ _ 1 _ _ HA0.out
  have y0:=cell_of_row _ _ 0 _ _ _ HA1.out
  have y1:=cell_of_row _ _ 1 _ _ _ HA1.out
  have p3:=(HB1.out.cell (p:=⟨b,3,none⟩) lb).trans q3
  have p4:=(HB1.out.cell (p:=⟨b,4,none⟩) lb).trans q4
  simp at x0 x1 y0 y1
  clear q1 q3 q4
  cases lt with
  | true =>
   have H:Hid (r = (ns,nf)):=HOP.out
   go_wp2
   try simp only [Exit.inBlock,Exit.then]
   refine bodyPost_ret (results_cell_row rfl _ _ w.heap.size 35 #[.int .i64 ns,.int .i64 nf] (0,0) _ rfl (two_row HA0.out) Tryz.underlying35 rfl (by kernel_rfl)) rfl ?_
   exact ⟨ret_agg2 (by rw [H.out]) (by rw [H.out]),(HB1.out.setCell (p:=⟨w.heap.size,0,none⟩) (Nat.le_refl _) _).setCell (p:=⟨w.heap.size,1,none⟩) (Nat.le_refl _) _⟩
  | false =>
   have H:Hid (r = (t - win / 2,0)):=HOP.out
   go_wp2
   try simp only [Exit.inBlock,Exit.then]
   refine bodyPost_ret (results_cell_row rfl _ _ w.heap.size 35 #[.int .i64 (t - win / 2),.int .i64 0] (0,0) _ rfl (two_row HA0.out) Tryz.underlying35 rfl (by kernel_rfl)) rfl ?_
   exact ⟨ret_agg2 (by rw [H.out]) (by rw [H.out]),(HB1.out.setCell (p:=⟨w.heap.size,0,none⟩) (Nat.le_refl _) _).setCell (p:=⟨w.heap.size,1,none⟩) (Nat.le_refl _) _⟩
theorem ref_utc (b:Nat) (x:Sv) (dv bv cv hv:Value) (w:World) (hr:RSrv b x dv bv cv hv w) (hf:Fine x.done) (hl:x.done.length ≤ 1000) (h0:0 ≤ Tab.lastAt x.done x.ns x.done.length) (n0:0 ≤ x.ns) (n1:x.ns ≤ 1000000000000) :
  Calls Tryz.prog 92 #[.pointer (some ⟨b,0,none⟩)] w fun e w' => e = .returned (.int .i64 x.utc) ∧ ∃ m,w' = w.drewN m:=by
 obtain ⟨mode,win,fresh,ns,nf,ld,up,ex,done,began,com,ref,said⟩:=x
 simp only at hf hl h0 n0 n1
 have q3:=cell_of_row _ _ 3 _ _ _ hr.row
 have q8:=cell_of_row _ _ 8 _ _ _ hr.row
 have hlb:=Tab.lastAt_bd done ns done.length
 have hpos:0 < done.length:=by omega
 obtain ⟨g,cap,hdv⟩:=own_some hr.dd hpos
 subst hdv
 have HL:=hid' (lies_of hr.dd rfl)
 simp at q3 q8
 obtain ⟨k,hk⟩:∃ k:Nat,Tab.lastAt done ns done.length = (k:Int):=⟨(Tab.lastAt done ns done.length).toNat,by omega⟩
 have hkl:k < done.length:=by omega
 have HAT:∀ w1,Lies w1 g done → Hid (Calls Tryz.prog 83 #[.slice (some ⟨g,0,none⟩) done.length cap,.int .i64 ns] w1 fun e w' => e = .returned (.int .i64 (k:Int)) ∧ w' = w1):=fun w1 h => by rw [← hk];exact ref_at g cap done.length done ns w1 rfl h hf (by omega)
 have H:Hid (Sv.utc ⟨mode,win,fresh,ns,nf,ld,up,ex,done,began,com,ref,said⟩ = ns - done[k].2):=by
  show ns - (done.getD (Tab.lastAt done ns done.length).toNat (0,0)).2 = _
  rw [hk,Int.toNat_natCast,getD_at k hkl]
 have a1:=(HL.out k hkl).2
 have fk:=(hf _ (List.getElem_mem hkl)).2
 have HA:=hid' (fun m:Nat => HAT (w.drewN m) HL.out)
 generalize Sv.utc ⟨mode,win,fresh,ns,nf,ld,up,ex,done,began,com,ref,said⟩ = r at *
 generalize done[k] = p at *
 obtain ⟨pa,po⟩:=p
 simp only at a1 fk H
 have z0:(0:Int) ≤ (k:Int):=by omega
 have z1:(k:Int) < (done.length:Int):=by omega
 clear hr hf hk hlb HAT h0
 go_enter Tryz.func92,Tryz.ntmps92
 go_wp2_with fail
 go_quiet (first | (go_at_call 83;exact Calls.quiet_of_same (HA.out _).out))
 go_wp2_with fail
 go_quiet (fail)
 go_wp2
 go_ret
 exact ⟨ret_int H.out.symm,_,World.drewN_drewN _ _ _⟩
end Go.Proofs.YtmmkhodaljpjgaaGreatDoor
namespace Go.Proofs.YtmmkhodaljpjgaaGreatDoor
open Go.RowKit
attribute [local go_sem ↓] Go.wp_at_zero Go.wp_at_succ
theorem infoRComing:(Tryz.prog.info? 123).map (fun i => (i.zero,i.size,i.bytes)) = some (some (.agg #[.int .i64 0,.int .i64 0,.int .i64 0,.int .i64 0,.bool false]),5,40):=by kernel_rfl
theorem infoRTime:(Tryz.prog.info? 35).map (fun i => (i.zero,i.size,i.bytes)) = some (some (.agg #[.int .i64 0,.int .i64 0]),2,16):=by kernel_rfl
def RPost (b:Nat) (F:Nat → Prop) (w:World) (s:Sv) (w':World):Prop:=∃ dv bv cv hv,RSrv b s dv bv cv hv w' ∧ Off F w w' ∧ ∀ k,rFoot b dv bv cv hv k → F k ∨ w.heap.size ≤ k
theorem RSrv.post {b:Nat} {s:Sv} {dv bv cv hv:Value} {w:World} (h:RSrv b s dv bv cv hv w):RPost b (rFoot b dv bv cv hv) w s w:=⟨dv,bv,cv,hv,h,Off.refl _ w,fun _ e => .inl e⟩
theorem RPost.below {b:Nat} {F:Nat → Prop} {s:Sv} {w w' w'':World} (h:RPost b F w s w') (hb:Below w'.heap.size w' w''):RPost b F w s w'':=by
 obtain ⟨dv,bv,cv,hv,r,o,f⟩:=h
 exact ⟨dv,bv,cv,hv,r.below hb,o.then hb,f⟩
theorem RSrv.putD {b:Nat} {s:Sv} {dv bv cv hv dv':Value} {w w1:World} {L:List (Int × Int)} (h:RSrv b s dv bv cv hv w) (hg:w.grownBy w1 dv.ownBlock) (ho:w1.ownsRow 0 46 2 dv' L.length (flat L)) :
  RSrv b { s with done:=L } dv' bv cv hv (w1.setCell ⟨b,8,none⟩ dv'):=by
 have row:=grown_heap (t:=119) hg h.dd h.row (by decide)
 have kb:=own_grown h.bb hg h.dd (by decide)
 have kc:=own_grown h.cc hg h.dd (by decide)
 have ks:=own_grown h.ss hg h.dd (by decide)
 refine ⟨?_,own_set (p:=⟨b,8,none⟩) ho row (by decide) _,own_set (p:=⟨b,8,none⟩) kb row (by decide) _,own_set (p:=⟨b,8,none⟩) kc row (by decide) _,own_set (p:=⟨b,8,none⟩) ks row (by decide) _⟩
 rw [heap_setCell_same _ _ _ _ _ _ row];rfl
theorem RSrv.putB {b:Nat} {s:Sv} {dv bv cv hv bv':Value} {w w1:World} {L:List (Int × Int)} (h:RSrv b s dv bv cv hv w) (hg:w.grownBy w1 bv.ownBlock) (ho:w1.ownsRow 0 35 2 bv' L.length (flat L)) :
  RSrv b { s with began:=L } dv bv' cv hv (w1.setCell ⟨b,9,none⟩ bv'):=by
 have row:=grown_heap (t:=119) hg h.bb h.row (by decide)
 have kb:=own_grown h.dd hg h.bb (by decide)
 have kc:=own_grown h.cc hg h.bb (by decide)
 have ks:=own_grown h.ss hg h.bb (by decide)
 refine ⟨?_,own_set (p:=⟨b,9,none⟩) kb row (by decide) _,own_set (p:=⟨b,9,none⟩) ho row (by decide) _,own_set (p:=⟨b,9,none⟩) kc row (by decide) _,own_set (p:=⟨b,9,none⟩) ks row (by decide) _⟩
 rw [heap_setCell_same _ _ _ _ _ _ row];rfl
theorem RSrv.putC {b:Nat} {s:Sv} {dv bv cv hv cv':Value} {w:World} {L:List Cm} (h:RSrv b s dv bv cv hv w) (ho:w.ownsRow 0 123 5 cv' L.length (flatC L)) :
  RSrv b { s with com:=L } dv bv cv' hv (w.setCell ⟨b,10,none⟩ cv'):=by
 have row:=h.row
 refine ⟨?_,own_set (p:=⟨b,10,none⟩) h.dd row (by decide) _,own_set (p:=⟨b,10,none⟩) h.bb row (by decide) _,own_set (p:=⟨b,10,none⟩) ho row (by decide) _,own_set (p:=⟨b,10,none⟩) h.ss row (by decide) _⟩
 rw [heap_setCell_same _ _ _ _ _ _ row];rfl
theorem coming_size:∀ w:World,(sizeOf (Tryz.prog.elem 116)).run Tryz.prog w = .ok 5 w:=fun _ => by kernel_rfl
theorem tail_run (g n cap:Nat) (h:1 ≤ n) (w:World) :
  (Instr.slice 116 (.slice (some ⟨g,0,none⟩) n cap) (some (.int .i64 1)) none none).run Tryz.prog w = .ok (.slice (some (if cap = 1 then ⟨g,0,none⟩ else ⟨g,5,none⟩)) (n - 1) (cap - 1)) w:=by
 rw [run_slice_l (P:=Tryz.prog) w 116 (some ⟨g,0,none⟩) n cap (by kernel_rfl) .i64 1 (by omega) (by omega),coming_size]
 by_cases c:cap = 1
 ·simp [sliced,Result.andThen,c]
 ·simp [sliced,Addr.add,Result.andThen,c]
end Go.Proofs.YtmmkhodaljpjgaaGreatDoor
namespace Go.Proofs.YtmmkhodaljpjgaaGreatDoor
open Go.RowKit
theorem twelve (V:World) (a c d:UInt8):(convert 44 9 (.slice (some ⟨V.heap.size,0,none⟩) 12 12)).run Tryz.prog ((V.alloc (.cells #[.int .u8 (a.toNat:Int),.int .u8 (c.toNat:Int),.int .u8 (d.toNat:Int),.int .u8 236,.int .u8 0,.int .u8 0,.int .u8 0,.int .u8 0,.int .u8 0,.int .u8 0,.int .u8 0,.int .u8 0] 5)).drew) = .ok (.string ⟨#[a,c,d,236,0,0,0,0,0,0,0,0]⟩) ((V.alloc (.cells #[.int .u8 (a.toNat:Int),.int .u8 (c.toNat:Int),.int .u8 (d.toNat:Int),.int .u8 236,.int .u8 0,.int .u8 0,.int .u8 0,.int .u8 0,.int .u8 0,.int .u8 0,.int .u8 0,.int .u8 0] 5)).drew):=by
 refine bytes_back (t:=[a,c,d,236,0,0,0,0,0,0,0,0]) (cap:=12) (n:=12) (heap_alloc_new V _) ⟨by simp,fun j hj => ?_⟩ rfl 1
 have h:j = 0 ∨ j = 1 ∨ j = 2 ∨ j = 3 ∨ j = 4 ∨ j = 5 ∨ j = 6 ∨ j = 7 ∨ j = 8 ∨ j = 9 ∨ j = 10 ∨ j = 11:=by simp at hj;omega
 rcases h with rfl | rfl | rfl | rfl | rfl | rfl | rfl | rfl | rfl | rfl | rfl | rfl <;> rfl
theorem ref_answer_no (b:Nat) (p:ByteArray) (w:World) (hs:p.size ≤ 1000000) (ha:Txt.asks p = false):Ans 58 b p ⟨#[]⟩ 14 w:=by
 have HA:=hid' (ref_asks p w hs)
 rw [ha] at HA
 unfold Ans
 go_enter Tryz.func58,Tryz.ntmps58
 go_wp2_with fail
 refine HA.out.mono ?_
 rintro e w1 ⟨rfl,b1⟩
 have B1:=hid' b1
 clear b1 HA
 go_wp2
 go_ret2
 exact ⟨rfl,B1.out⟩
theorem ref_answer_yes (b:Nat) (p:ByteArray) (ts tf li er:Int) (w:World) (hs:p.size ≤ 1000000) (ha:Txt.asks p = true) (hT:∀ W,Below w.heap.size w W → Tells 56 b ts tf li er W)
  (hl:li = 0 ∨ li = 1 ∨ li = 2 ∨ li = 3) (s0:0 ≤ ts) (s1:ts ≤ 1000000000000) (f0:0 ≤ tf) (f1:tf ≤ 1000000000000):Ans 58 b p (ansB li p (er == 0) ts tf) 0 w:=by
 have HA:=hid' (ref_asks p w hs)
 rw [ha] at HA
 have HT:=hid' hT
 have hz:48 ≤ p.size:=by
  have h:=ha
  unfold Txt.asks at h
  simp only [Bool.and_eq_true,decide_eq_true_eq] at h
  exact h.1.1.1.1.1
 have l0:0 < p.size:=by omega
 have l2:2 < p.size:=by omega
 clear hT ha
 unfold Ans
 go_enter Tryz.func58,Tryz.ntmps58
 go_wp2_with fail
 refine HA.out.mono ?_
 rintro e w1 ⟨rfl,b1⟩
 have B1:=hid' b1
 clear b1 HA
 go_wp2_with fail
 refine Calls.mono (HT.out _ B1.out) ?_
 rintro e w2 ⟨rfl,b2⟩
 have a2:=(Below.refl w2.heap.size w2).alloc (Nat.le_refl _) (.cells #[.int .i64 ts,.int .i64 tf] 35)
 have B2:=hid' (B1.out.trans ((b2.trans (a2.mono b2.size)).mono B1.out.size))
 have T2:=hid' (heap_alloc_new w2 (.cells #[.int .i64 ts,.int .i64 tf] 35))
 clear b2 a2
 have FO:=first_bits li p l0 hl
 obtain ⟨Fi,hF⟩:∃ Fi:Int,((first8 li p).toNat:Int) = Fi:=⟨_,rfl⟩
 rw [hF] at FO
 have fb:0 ≤ Fi ∧ Fi < 256:=by have:=(first8 li p).toNat_lt;omega
 have h2:byteOf (Txt.byte p 2) = p[2]'l2:=by
  rw [Txt.byte_at p 2 l2]
  unfold byteOf
  have:=(p[2]'l2).toNat_lt
  rw [Int.emod_eq_of_lt (by omega) (by omega)]
  simp
 have HR:Hid (ansB li p (er == 0) ts tf = ByteArray.mk #[first8 li p,if er == 0 then 1 else 0,p[2]'l2,236,0,0,0,0,0,0,0,0] ++ (if er == 0 then ByteArray.mk #[76,69,65,80] else ByteArray.mk #[73,78,73,84]) ++ ⟨(four ts ++ four tf).toArray⟩ ++ p.extract 40 48 ++ ⟨(four ts ++ four tf).toArray⟩ ++ ⟨(four ts ++ four tf).toArray⟩):=by
  show ansB _ _ _ _ _ = _
  unfold ansB;rw [h2]
 have ST:=hid' (fun W => ref_stamp ts tf W s0 s1 f0 f1)
 have zs:(ByteArray.mk (four ts ++ four tf).toArray).size = 8:=rfl
 generalize ByteArray.mk (four ts ++ four tf).toArray = st at *
 have ze:(p.extract 40 48).size = 8:=by rw [ByteArray.size_extract];omega
 have y0:=cell_of_row _ _ 0 _ _ _ T2.out
 have y1:=cell_of_row _ _ 1 _ _ _ T2.out
 simp at y0 y1
 have i2:(2:Int) < (p.size:Int):=by omega
 have i48:(48:Int) ≤ (p.size:Int):=by omega
 have i40:(40:Int) ≤ (p.size:Int):=by omega
 have hlb:0 ≤ li ∧ li ≤ 3:=by omega
 clear h2 hl
 go_wp2_with fail
 refine (ST.out _).mono ?_
 rintro e V ⟨rfl,b3⟩
 have B3:=hid' (B2.out.trans (b3.mono B2.out.size))
 clear b3 ST y0 y1
 by_cases ce:er = 0
 ·have ne:(er != 0) = false:=by rw [bne_eq_false_iff_eq];exact ce
  have be:(er == 0) = true:=beq_iff_eq.2 ce
  rw [be] at HR
  clear ce
  ·skip
   have TW:=twelve V (first8 li p) 1 (p[2]'l2)
   rw [hF,show (((1:UInt8).toNat:Nat):Int) = 1 from rfl] at TW
   go_wp2_with fail
   go_region
   all_goals
    go_wp2
    go_ret2
    exact ⟨by (first | rw [HR.out] | rw [be,HR.out]);rfl,(B3.out.alloc B3.out.size _).drew⟩
 ·have ne:(er != 0) = true:=bne_iff_ne.2 ce
  have be:(er == 0) = false:=beq_eq_false_iff_ne.2 ce
  rw [be] at HR
  clear ce
  ·skip
   have TW:=twelve V (first8 li p) 0 (p[2]'l2)
   rw [hF,show (((0:UInt8).toNat:Nat):Int) = 0 from rfl] at TW
   go_wp2_with fail
   go_region
   all_goals
    go_wp2
    go_ret2
    exact ⟨by (first | rw [HR.out] | rw [be,HR.out]);rfl,(B3.out.alloc B3.out.size _).drew⟩
end Go.Proofs.YtmmkhodaljpjgaaGreatDoor
