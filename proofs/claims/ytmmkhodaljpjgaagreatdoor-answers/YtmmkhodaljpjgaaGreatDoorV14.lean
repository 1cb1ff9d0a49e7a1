import Derived.Test.YtmmkhodaljpjgaaGreatDoorV11
import Derived.Test.YtmmkhodaljpjgaaGreatDoorV13
import Derived.Deep.QuietTactic
import Derived.BigQuiet
namespace Go.Proofs.YtmmkhodaljpjgaaGreatDoor
open Go.RowKit
structure RSrv (b:Nat) (s:Sv) (dv bv cv hv:Value) (w:World):Prop where
 row:w.heap[b]? = some (.cells #[.int .i64 s.mode,.int .i64 s.win,.int .i64 s.fresh,.int .i64 s.ns,.int .i64 s.nf,.bool s.ld,.int .i64 s.up,.int .i64 s.ex,dv,bv,cv,.int .i64 s.ref,hv] 119 (0,0))
 dd:w.ownsRow 0 46 2 dv s.done.length (flat s.done)
 bb:w.ownsRow 0 35 2 bv s.began.length (flat s.began)
 cc:w.ownsRow 0 123 5 cv s.com.length (flatC s.com)
 ss:w.ownsRow 0 160 4 hv s.said.length (flatH s.said)
def rFoot (b:Nat) (dv bv cv hv:Value) (k:Nat):Prop:=k = b ∨ dv.ownBlock = some k ∨ bv.ownBlock = some k ∨ cv.ownBlock = some k ∨ hv.ownBlock = some k
theorem RSrv.keep {b:Nat} {s:Sv} {dv bv cv hv:Value} {w w':World} (h:RSrv b s dv bv cv hv w) (hk:∀ k,rFoot b dv bv cv hv k → w'.heap[k]? = w.heap[k]?):RSrv b s dv bv cv hv w' :=
 ⟨(hk b (.inl rfl)).trans h.row,own_same h.dd (fun k e => hk k (.inr (.inl e))),own_same h.bb (fun k e => hk k (.inr (.inr (.inl e)))),own_same h.cc (fun k e => hk k (.inr (.inr (.inr (.inl e))))),own_same h.ss (fun k e => hk k (.inr (.inr (.inr (.inr e)))))⟩
theorem RSrv.typ {b:Nat} {s:Sv} {dv bv cv hv:Value} {w:World} (h:RSrv b s dv bv cv hv w) {k:Nat} (hk:rFoot b dv bv cv hv k):∃ cs e fr,w.heap[k]? = some (.cells cs e fr) ∧ 38 ≠ e ∧ 9 ≠ e:=by
 rcases hk with rfl | e | e | e | e
 ·exact ⟨_,_,_,h.row,by decide,by decide⟩
 ·obtain ⟨cs,fr,hh⟩:=own_typ h.dd e;exact ⟨_,_,_,hh,by decide,by decide⟩
 ·obtain ⟨cs,fr,hh⟩:=own_typ h.bb e;exact ⟨_,_,_,hh,by decide,by decide⟩
 ·obtain ⟨cs,fr,hh⟩:=own_typ h.cc e;exact ⟨_,_,_,hh,by decide,by decide⟩
 ·obtain ⟨cs,fr,hh⟩:=own_typ h.ss e;exact ⟨_,_,_,hh,by decide,by decide⟩
theorem RSrv.below {b:Nat} {s:Sv} {dv bv cv hv:Value} {w w':World} (h:RSrv b s dv bv cv hv w) (hb:Below w.heap.size w w'):RSrv b s dv bv cv hv w' :=
 h.keep fun k hk => by obtain ⟨cs,e,fr,hh,_⟩:=h.typ hk;exact hb.block k (lt_of_heap hh)
structure VwOk (w:World) (v:Vw):Prop where
 d:Marks w 84 2 v.d v.m v.b
 c:Marks w 121 5 v.c v.m v.b
 m0:0 ≤ v.m
 m1:v.m ≤ 100000000000
 b0:0 ≤ v.b
 b1:v.b ≤ 100000000000
def vwFoot (v:Vw) (k:Nat):Prop:=vFoot v.d k ∨ vFoot v.c k
theorem VwOk.keep {w w':World} {v:Vw} (h:VwOk w v) (hk:∀ k,vwFoot v k → w'.heap[k]? = w.heap[k]?):VwOk w' v :=
 ⟨h.d.keep (fun k e => hk k (.inl e)),h.c.keep (fun k e => hk k (.inr e)),h.m0,h.m1,h.b0,h.b1⟩
theorem VwOk.typ {w:World} {v:Vw} (h:VwOk w v) {k:Nat} (hk:vwFoot v k):(∃ cs fr,w.heap[k]? = some (.cells cs 84 fr)) ∨ ∃ cs fr,w.heap[k]? = some (.cells cs 121 fr):=by
 rcases hk with e | e
 ·exact .inl (h.d.typ e)
 ·exact .inr (h.c.typ e)
theorem VwOk.below {w w':World} {v:Vw} (h:VwOk w v) (hb:Below w.heap.size w w'):VwOk w' v :=
 h.keep fun k hk => by
  rcases h.typ hk with ⟨cs,fr,hh⟩ | ⟨cs,fr,hh⟩
  ·exact hb.block k (lt_of_heap hh)
  ·exact hb.block k (lt_of_heap hh)
def ReadP (w w':World) (bc bx by' br:Nat) (hv:Value) (m:Int) (hs:List Vw):Prop:=∃ (hv':Value) (v1 v2:Vw),
 w'.heap[bc]? = some (.cells #[.pointer (some ⟨bx,0,none⟩),.pointer (some ⟨by',0,none⟩),.pointer (some ⟨br,0,none⟩),hv',.int .i64 (m + 2000)] 60 (0,0)) ∧
 w'.ownsRow 0 126 4 hv' (hs ++ [v1,v2]).length (flatV (hs ++ [v1,v2])) ∧ (∀ v ∈ hs ++ [v1,v2],VwOk w' v) ∧
 Off (fun k => k = bc ∨ hv.ownBlock = some k) w w' ∧ (∀ k,hv'.ownBlock = some k → hv.ownBlock = some k ∨ w.heap.size ≤ k) ∧ (∀ k,vwFoot v1 k ∨ vwFoot v2 k → w.heap.size ≤ k)
theorem vFoot_own {v:Value} {k:Nat} (h:vFoot v k):v.ownBlock = some k:=by
 obtain ⟨n,cap,_,rfl⟩:=h;rfl
theorem readP_of {w w1 w2 w':World} {bc bx by' br:Nat} {hv dv cv:Value} {m:Int} {hs:List Vw} {ls:List (Int × Int)} {cs:List Cm} (hb:Below w.heap.size w w2) (hM:MarkedP w2 w' bc bx by' br hv dv cv m hs)
  (hc:w.heap[bc]? = some (.cells #[.pointer (some ⟨bx,0,none⟩),.pointer (some ⟨by',0,none⟩),.pointer (some ⟨br,0,none⟩),hv,.int .i64 m] 60 (0,0))) (hh:w.ownsRow 0 126 4 hv hs.length (flatV hs))
  (hall:∀ v ∈ hs,VwOk w v) (od:w1.ownsRow w.heap.size 84 2 dv ls.length (flat ls)) (oc:w1.ownsRow w.heap.size 121 5 cv cs.length (flatC cs)) (m0:0 ≤ m) (m1:m ≤ 10000000000):ReadP w w' bc bx by' br hv m hs:=by
 obtain ⟨hv',dv',cv',r1,r2,k1,k2,k3,k4,off,b1,b2,b3⟩:=hM
 have gd:=own_ge od
 have gc:=own_ge oc
 have sz:=hb.size
 have off2:Off (fun k => k = bc ∨ hv.ownBlock = some k) w w':=(Off.of_below hb).trans off (fun k hk h => by
  rcases h with h | h | h | h
  ·exact .inl h
  ·exact .inr h
  ·have:=gd k h;omega
  ·have:=gc k h;omega)
 have old:∀ v ∈ hs,VwOk w' v:=fun v hv => (hall v hv).keep (fun k hk => by
  refine off2.block k ?_ ?_
  ·rcases (hall v hv).typ hk with ⟨cs,fr,h⟩ | ⟨cs,fr,h⟩
   ·exact lt_of_heap h
   ·exact lt_of_heap h
  ·rintro (rfl | h)
   ·rcases (hall v hv).typ hk with ⟨cs,fr,h⟩ | ⟨cs,fr,h⟩
    ·rw [hc] at h;simp at h
    ·rw [hc] at h;simp at h
   ·obtain ⟨cs',fr',h'⟩:=own_typ hh h
    rcases (hall v hv).typ hk with ⟨cs,fr,h⟩ | ⟨cs,fr,h⟩
    ·rw [h'] at h;simp at h
    ·rw [h'] at h;simp at h)
 refine ⟨hv',⟨dv,cv,m,0⟩,⟨dv',cv',m,m + 1000⟩,r1,by simpa using r2,?_,off2,fun k e => ?_,fun k e => ?_⟩
 ·intro v hv
  simp at hv
  rcases hv with hv | rfl | rfl
  ·exact old v hv
  ·exact ⟨k1,k2,m0,by show m ≤ _;omega,by show (0:Int) ≤ 0;omega,by show (0:Int) ≤ _;omega⟩
  ·exact ⟨k3,k4,m0,by show m ≤ _;omega,by show 0 ≤ m + 1000;omega,by show m + 1000 ≤ _;omega⟩
 ·rcases b1 k e with h | h
  ·exact .inl h
  ·exact .inr (by omega)
 ·rcases e with (e | e) | (e | e)
  ·exact gd k (vFoot_own e)
  ·exact gc k (vFoot_own e)
  ·rcases b2 k (vFoot_own e) with h | h
   ·exact gd k h
   ·omega
  ·rcases b3 k (vFoot_own e) with h | h
   ·exact gc k h
   ·omega
theorem readP_below {w w' w'':World} {bc bx by' br:Nat} {hv:Value} {m:Int} {hs:List Vw} (h:ReadP w w' bc bx by' br hv m hs) (hb:Below w'.heap.size w' w''):ReadP w w'' bc bx by' br hv m hs:=by
 obtain ⟨hv',v1,v2,c3,o3,ok3,off,b1,b2⟩:=h
 exact ⟨hv',v1,v2,(hb.block _ (lt_of_heap c3)).trans c3,own_down o3 hb,fun v hv => (ok3 v hv).below hb,off.then hb,b1,b2⟩
set_option maxRecDepth 100000 in
set_option maxHeartbeats 6400000 in
theorem reads_any (bc bx by' br b:Nat) (hv rd rb rc rh:Value) (m:Int) (hs:List Vw) (s:Sv) (w:World)
  (hc:w.heap[bc]? = some (.cells #[.pointer (some ⟨bx,0,none⟩),.pointer (some ⟨by',0,none⟩),.pointer (some ⟨br,0,none⟩),hv,.int .i64 m] 60 (0,0)))
  (hh:w.ownsRow 0 126 4 hv hs.length (flatV hs)) (hall:∀ v ∈ hs,VwOk w v) (hr:RSrv br s rd rb rc rh w) (hsee:Shows b s w)
  (h1:s.done.length ≤ 900) (h2:s.com.length ≤ 900) (h3:hs.length ≤ 900000) (m0:0 ≤ m) (m1:m ≤ 10000000000) :
  Calls Tryz.prog 30 #[.pointer (some ⟨bc,0,none⟩),.pointer (some ⟨b,0,none⟩)] w fun e w' => e = .returned (.bool true) ∧ ReadP w w' bc bx by' br hv m hs:=by
 have HC:=hid' hc
 have HH:=hid' hh
 have HALL:=hid' hall
 have HR:=hid' hr
 have HS:=hid' hsee
 clear hc hh hall hr hsee
 obtain ⟨mode,win,fresh,ns,nf,ld,up,ex,done,began,com,ref,said⟩:=s
 simp only at h1 h2
 go_enter Tryz.func30,Tryz.ntmps30
 go_wp2_with fail
 refine HS.out.mono ?_
 rintro e w1 ⟨dv,cv,rfl,od,oc,hb1⟩
 simp only at od oc
 obtain ⟨da,dc,rfl⟩:=own_slice od
 obtain ⟨ca,cc,rfl⟩:=own_slice oc
 have OD:=hid' od
 have OC:=hid' oc
 have R1:=hid' (HR.out.below hb1)
 have C1:=hid' ((hb1.block _ (lt_of_heap HC.out)).trans HC.out)
 have a1:=(Below.refl w1.heap.size w1).alloc (Nat.le_refl _) (.cells #[.int .i64 ns,.int .i64 nf,.bool ld,.int .i64 up,.int .i64 ex,.slice da done.length dc,.slice ca com.length cc,.int .i64 ref] 113)
 have B1:=hid' (hb1.trans (a1.mono hb1.size))
 have R2:=hid' (R1.out.below a1)
 have C2:=hid' ((a1.block _ (lt_of_heap C1.out)).trans C1.out)
 have D2:=hid' (own_down od a1)
 have M2:=hid' (own_down oc a1)
 have S2:=hid' (heap_alloc_new w1 (.cells #[.int .i64 ns,.int .i64 nf,.bool ld,.int .i64 up,.int .i64 ex,.slice da done.length dc,.slice ca com.length cc,.int .i64 ref] 113))
 have c12:=cell_of_row _ _ 2 _ _ _ C1.out
 have lc1:=lt_of_heap C1.out
 simp at c12
 clear od oc hb1 a1 HS
 go_wp2_with fail
 generalize hV:w1.alloc (.cells #[.int .i64 ns,.int .i64 nf,.bool ld,.int .i64 up,.int .i64 ex,.slice da done.length dc,.slice ca com.length cc,.int .i64 ref] 113) = V at *
 clear hV c12 lc1
 have s0:=cell_of_row _ _ 0 _ _ _ S2.out
 have s1:=cell_of_row _ _ 1 _ _ _ S2.out
 have s2:=cell_of_row _ _ 2 _ _ _ S2.out
 have s3:=cell_of_row _ _ 3 _ _ _ S2.out
 have s4:=cell_of_row _ _ 4 _ _ _ S2.out
 have s5:=cell_of_row _ _ 5 _ _ _ S2.out
 have s6:=cell_of_row _ _ 6 _ _ _ S2.out
 have s7:=cell_of_row _ _ 7 _ _ _ S2.out
 have q3:=cell_of_row _ _ 3 _ _ _ R2.out.row
 have q4:=cell_of_row _ _ 4 _ _ _ R2.out.row
 have q5:=cell_of_row _ _ 5 _ _ _ R2.out.row
 have q6:=cell_of_row _ _ 6 _ _ _ R2.out.row
 have q7:=cell_of_row _ _ 7 _ _ _ R2.out.row
 have q8:=cell_of_row _ _ 8 _ _ _ R2.out.row
 have q10:=cell_of_row _ _ 10 _ _ _ R2.out.row
 have q11:=cell_of_row _ _ 11 _ _ _ R2.out.row
 obtain ⟨ra,rcp,hrd⟩:=own_slice R2.out.dd
 obtain ⟨ka,kcp,hrc⟩:=own_slice R2.out.cc
 subst hrd hrc
 simp at s0 s1 s2 s3 s4 s5 s6 s7 q3 q4 q5 q6 q7 q8 q10 q11
 have n0:(ns != ns) = false:=by simp
 have n1:(nf != nf) = false:=by simp
 have n2:(ld != ld) = false:=by simp
 have n3:(up != up) = false:=by simp
 have n4:(ex != ex) = false:=by simp
 have n5:(ref != ref) = false:=by simp
 have n6:((done.length:Int) != (done.length:Int)) = false:=by simp
 have n7:((com.length:Int) != (com.length:Int)) = false:=by simp
 go_quiet (fail)
 go_wp2_with fail
 go_quiet (fail)
 go_wp2_with fail
 clear n0 n1 n2 n3 n4 n5 n6 n7 q3 q4 q5 q6 q7 q11
 go_loopw [7,8] (fun ok i wr => ∃ k mm:Nat,k ≤ done.length ∧ i = .int .i64 k ∧ ok = .bool true ∧ wr = V.drewN mm) (fun _ i _ => done.length - (intOf i).toNat)
 case atStart => exact ⟨0,_,by omega,rfl,rfl,by rw [World.drewN_drewN]⟩
 case round =>
  obtain ⟨k,mm,hk,rfl,rfl,hwr⟩:=hrel
  have t5:wr.cell? ⟨w1.heap.size,5,none⟩ = some (.slice da done.length dc):=by rw [hwr];exact s5
  have t8:wr.cell? ⟨br,8,none⟩ = some (.slice ra done.length rcp):=by rw [hwr];exact q8
  by_cases hlt:k < done.length
  ·obtain ⟨g,cap1,e1⟩:=own_some D2.out (by omega)
   obtain ⟨rfl,_,rfl⟩:=Value.slice.inj e1
   obtain ⟨g',cap2,e2⟩:=own_some R2.out.dd (show 0 < done.length by omega)
   obtain ⟨rfl,_,rfl⟩:=Value.slice.inj e2
   have a0:wr.cell? ⟨g,k * 2,none⟩ = some (.int .i64 done[k].1):=by rw [hwr];exact (D2.out.cellAt (k * 2) (by omega)).trans (flat_at0 _ k hlt)
   have a1:wr.cell? ⟨g,k * 2 + 1,none⟩ = some (.int .i64 done[k].2):=by rw [hwr];exact (D2.out.cellAt (k * 2 + 1) (by omega)).trans (flat_at1 _ k hlt)
   have b0:wr.cell? ⟨g',k * 2,none⟩ = some (.int .i64 done[k].1):=by rw [hwr];exact (R2.out.dd.cellAt (k * 2) (by omega)).trans (flat_at0 _ k hlt)
   have b1:wr.cell? ⟨g',k * 2 + 1,none⟩ = some (.int .i64 done[k].2):=by rw [hwr];exact (R2.out.dd.cellAt (k * 2 + 1) (by omega)).trans (flat_at1 _ k hlt)
   have HWR:=hid' hwr
   generalize done[k] = p at *
   obtain ⟨pa,po⟩:=p
   simp only at a0 a1 b0 b1
   have z0:(0:Int) ≤ (k:Int):=by omega
   have z1:(k:Int) < (done.length:Int):=by omega
   have g0:(pa == pa) = true:=by simp
   have g1:(po == po) = true:=by simp
   clear hwr s0 s1 s2 s3 s4 s5 s6 s7 q8 q10 e1 e2
   go_wp2_with fail
   go_quiet (fail)
   go_wp2
   go_roundw
   case rel => exact ⟨k + 1,mm + nq,by omega,by go_num,rfl,by rw [HWR.out,World.drewN_drewN]⟩
   case measure => simp [intOf];omega
  ·have hnl:¬ (k:Int) < (done.length:Int):=by omega
   have HBV:Hid (Below V.heap.size V wr):=by rw [hwr];exact below_drewN (Below.refl _ _) mm
   clear hwr s0 s1 s2 s3 s4 s5 s6 s7 q8 q10
   go_wp2_with fail
   go_loopw [7,9,10,11] (fun ok i _ _ wr => ∃ k:Nat,k ≤ com.length ∧ i = .int .i64 k ∧ ok = .bool true ∧ Below V.heap.size V wr) (fun _ i _ _ _ => com.length - (intOf i).toNat)
   case atStart => exact ⟨0,by omega,rfl,rfl,HBV.out⟩
   case round =>
    obtain ⟨k,hk,rfl,rfl,hb⟩:=hrel
    clear t5 t8
    have srow:=(hb.block _ (lt_of_heap S2.out)).trans S2.out
    have t6:=cell_of_row _ _ 6 _ _ _ srow
    have rr:=R2.out.below hb
    have t10:=cell_of_row _ _ 10 _ _ _ rr.row
    have ls1:=lt_of_heap srow
    have lbr:=lt_of_heap rr.row
    simp at t6 t10
    have HB:=hid' hb
    by_cases hlt:k < com.length
    ·obtain ⟨g,cap1,e1⟩:=own_some M2.out (by omega)
     obtain ⟨rfl,_,rfl⟩:=Value.slice.inj e1
     obtain ⟨g',cap2,e2⟩:=own_some R2.out.cc (show 0 < com.length by omega)
     obtain ⟨rfl,_,rfl⟩:=Value.slice.inj e2
     have MM:=own_down M2.out hb
     have lg1:=(MM.lt _ rfl).2
     have lg2:=(rr.cc.lt _ rfl).2
     have a0:=(MM.cellAt (k * 5 + 0) (by omega)).trans (flatC_at com k hlt 0 (by omega))
     have a1:=(MM.cellAt (k * 5 + 1) (by omega)).trans (flatC_at com k hlt 1 (by omega))
     have a2:=(MM.cellAt (k * 5 + 2) (by omega)).trans (flatC_at com k hlt 2 (by omega))
     have a3:=(MM.cellAt (k * 5 + 3) (by omega)).trans (flatC_at com k hlt 3 (by omega))
     have a4:=(MM.cellAt (k * 5 + 4) (by omega)).trans (flatC_at com k hlt 4 (by omega))
     have b0:=(rr.cc.cellAt (k * 5 + 0) (by omega)).trans (flatC_at com k hlt 0 (by omega))
     have b1:=(rr.cc.cellAt (k * 5 + 1) (by omega)).trans (flatC_at com k hlt 1 (by omega))
     have b2:=(rr.cc.cellAt (k * 5 + 2) (by omega)).trans (flatC_at com k hlt 2 (by omega))
     have b3:=(rr.cc.cellAt (k * 5 + 3) (by omega)).trans (flatC_at com k hlt 3 (by omega))
     have b4:=(rr.cc.cellAt (k * 5 + 4) (by omega)).trans (flatC_at com k hlt 4 (by omega))
     generalize com[k] = p at *
     obtain ⟨pa,po,ps,pf,pv⟩:=p
     simp [Cm.cells] at a0 a1 a2 a3 a4 b0 b1 b2 b3 b4
     have z0:(0:Int) ≤ (k:Int):=by omega
     have z1:(k:Int) < (com.length:Int):=by omega
     have g0:(pa == pa) = true:=by simp
     have g1:(po == po) = true:=by simp
     have g2:(ps == ps) = true:=by simp
     have g3:(pf == pf) = true:=by simp
     have g4:(pv == pv) = true:=by simp
     have BB:=hid' ((hb.alloc hb.size (.cells #[.int .i64 pa,.int .i64 po,.int .i64 ps,.int .i64 pf,.bool pv] 121)).alloc (by simp;have:=hb.size;omega) (.cells #[.int .i64 pa,.int .i64 po,.int .i64 ps,.int .i64 pf,.bool pv] 123))
     clear hb srow rr MM e1 e2
     go_wp2
     go_roundw
     case rel => exact ⟨k + 1,by omega,by go_num,rfl,BB.out⟩
     case measure => simp [intOf];omega
    ·have hnl:¬ (k:Int) < (com.length:Int):=by omega
     clear hb rr
     have t0:=cell_of_row _ _ 0 _ _ _ srow
     have t1:=cell_of_row _ _ 1 _ _ _ srow
     have t2:=cell_of_row _ _ 2 _ _ _ srow
     have t3:=cell_of_row _ _ 3 _ _ _ srow
     have t4:=cell_of_row _ _ 4 _ _ _ srow
     have t5:=cell_of_row _ _ 5 _ _ _ srow
     have t7:=cell_of_row _ _ 7 _ _ _ srow
     simp at t0 t1 t2 t3 t4 t5 t7
     clear srow
     have B3:=hid' (B1.out.trans (HB.out.mono B1.out.size))
     go_wp2_with fail
     refine (marked_any bc bx by' br hv _ _ m ns nf up ex ref ld hs done com wr ((HB.out.block _ (lt_of_heap C2.out)).trans C2.out) (own_down HH.out B3.out) (ownW (own_down D2.out HB.out) (Nat.zero_le _)) (ownW (own_down M2.out HB.out) (Nat.zero_le _)) h1 h2 (by omega) m0 m1).mono ?_
     rintro e w3 ⟨rfl,hM⟩
     have hRP:=readP_of B3.out hM HC.out HH.out HALL.out OD.out OC.out m0 m1
     have HRP:=hid' hRP
     obtain ⟨hv',v1,v2,c3,o3,ok3,_,_,_⟩:=hRP
     clear hM t0 t1 t2 t3 t4 t5 t6 t7 t10 ls1 lbr
     have hl3:(hs ++ [v1,v2]).length = hs.length + 2:=by simp
     generalize hs ++ [v1,v2] = H at *
     have C3:=hid' c3
     have O3:=hid' o3
     have K3:=hid' ok3
     clear c3 o3 ok3
     go_wp2_with fail
     go_loopw [7,12,13] (fun ok i _ wr => ∃ k:Nat,k ≤ H.length ∧ i = .int .i64 k ∧ ok = .bool true ∧ Below w3.heap.size w3 wr) (fun _ i _ _ => H.length - (intOf i).toNat)
     case atStart => exact ⟨0,by omega,rfl,rfl,Below.refl _ _⟩
     case round =>
      obtain ⟨k,hk,rfl,rfl,hb⟩:=hrel
      have crow:=(hb.block _ (lt_of_heap C3.out)).trans C3.out
      have t3:=cell_of_row _ _ 3 _ _ _ crow
      simp at t3
      have OO:=own_down O3.out hb
      obtain ⟨ao,hcp,hhv⟩:=own_slice OO
      subst hhv
      have HB4:=hid' hb
      clear crow
      by_cases hlt:k < H.length
      ·obtain ⟨g,cap1,e1⟩:=own_some OO (by omega)
       obtain ⟨rfl,_,rfl⟩:=Value.slice.inj e1
       have a0:=(OO.cellAt (k * 4 + 0) (by omega)).trans (flatV_at H k hlt 0 (by omega))
       have a1:=(OO.cellAt (k * 4 + 1) (by omega)).trans (flatV_at H k hlt 1 (by omega))
       have a2:=(OO.cellAt (k * 4 + 2) (by omega)).trans (flatV_at H k hlt 2 (by omega))
       have a3:=(OO.cellAt (k * 4 + 3) (by omega)).trans (flatV_at H k hlt 3 (by omega))
       have hok:=(K3.out _ (List.getElem_mem hlt)).below hb
       generalize H[k] = v at *
       obtain ⟨vd,vc,vm,vb⟩:=v
       simp at a0 a1 a2 a3
       have UN:=hid' (unchanged_yes vd vc vm vb wr hok.d hok.c hok.m0 hok.m1 hok.b0 hok.b1)
       have z0:(0:Int) ≤ (k:Int):=by omega
       have z1:(k:Int) < (H.length:Int):=by omega
       clear hok OO e1 hb
       go_wp2_with fail
       refine UN.out.mono ?_
       rintro e w5 ⟨rfl,hb5⟩
       have HB5:=hid' (HB4.out.trans (hb5.mono HB4.out.size))
       clear hb5 UN
       go_wp2
       go_roundw
       case rel => exact ⟨k + 1,by omega,by go_num,rfl,HB5.out⟩
       case measure => simp [intOf];omega
      ·have hnl:¬ (k:Int) < (H.length:Int):=by omega
       clear hb OO
       go_wp2
       go_ret
       exact ⟨rfl,readP_below HRP.out HB4.out⟩
end Go.Proofs.YtmmkhodaljpjgaaGreatDoor
