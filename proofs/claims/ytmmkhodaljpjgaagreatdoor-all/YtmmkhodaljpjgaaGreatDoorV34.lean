import Derived.Test.YtmmkhodaljpjgaaGreatDoorV33
namespace Go.Proofs.YtmmkhodaljpjgaaGreatDoor
open Go.RowKit
def PullP (U D:Nat) (w:World) (e:Ending) (w':World):Prop:=∃ v1 v2,e = .returned (.tuple #[v1,v2]) ∧ Num w.heap.size v1 (digs U) w' ∧ Num w.heap.size v2 (digs D) w' ∧ Below w.heap.size w w'
theorem Num.up {B C:Nat} {v:Value} {l:List Int} {w:World} (h:Num B v l w) (hc:C ≤ B):Num C v l w:=by
 refine ⟨h.1,?_⟩
 rcases h.2 with h | ⟨g,cap,cur,e,a,b⟩
 ·exact .inl h
 ·exact .inr ⟨g,cap,cur,e,by omega,b⟩
set_option maxRecDepth 100000 in
set_option maxHeartbeats 6400000 in
theorem ref_pull (b:Nat) (x:Sv) (dv bv cv hv:Value) (n:Int) (w:World) (hr:RSrv b x dv bv cv hv w) (ok:PullOk x.win n) :
  Calls Tryz.prog 96 #[.pointer (some ⟨b,0,none⟩),.int .i64 n] w fun e w' => PullP (pullU x.mode x.win n).toNat (pullD x.mode x.win).toNat w e w':=by
 have HR:=hid' hr
 have q0:=cell_of_row _ _ 0 _ _ _ hr.row
 have q1:=cell_of_row _ _ 1 _ _ _ hr.row
 simp at q0 q1
 have hxX:=ok.x
 have hxI:=ok.i
 have hxR:=ok.r
 have hxIX:=ok.ix
 have ⟨wl0,wl1,n0,n1⟩:=ok
 have HU:=hid' (ok.u x.mode)
 have n2:n < 2597596220620800:=by omega
 have EU:Hid (pullU x.mode x.win n = if x.mode = 1 then n else gZ (pI x.win n) * pX x.win + (gZ (pI x.win n + 1) - gZ (pI x.win n)) * pR x.win n):=rfl
 have ED:Hid (pullD x.mode x.win = if x.mode = 1 then x.win else pX x.win):=rfl
 generalize pullU x.mode x.win n = U at *
 generalize pullD x.mode x.win = D at *
 generalize x.mode = mode at *
 clear hr ok
 by_cases c:mode = 1
 ·subst c
  obtain ⟨N,hN⟩:∃ N:Nat,n = N:=⟨n.toNat,by omega⟩
  obtain ⟨M,hM⟩:∃ M:Nat,x.win = M:=⟨x.win.toNat,by omega⟩
  rw [hM] at q1 wl0 wl1 hxX
  have E1:Hid (U.toNat = N):=by show _ = _;rw [EU.out,if_pos rfl,hN];rfl
  have E2:Hid (D.toNat = M):=by show _ = _;rw [ED.out,if_pos rfl,hM];rfl
  subst hN
  clear EU ED HU hxI hxR hxIX n1 hM
  go_enter Tryz.func96,Tryz.ntmps96
  go_wp2_with fail
  refine (ref_nat N (by omega) w).mono ?_
  rintro e w1 ⟨v1,rfl,m1,b1⟩
  have M1:=hid' m1
  have B1:=hid' b1
  have p1:=(b1.cell (p:=⟨b,1,none⟩) (lt_of_heap HR.out.row)).trans q1
  clear q0 q1 m1 b1
  go_wp2_with fail
  refine (ref_nat M (by omega) w1).mono ?_
  rintro e w2 ⟨v2,rfl,m2,b2⟩
  have M2:=hid' m2
  have B2:=hid' b2
  clear m2 b2
  go_wp2
  go_ret2
  refine ⟨v1,v2,rfl,?_,?_,B1.out.trans (B2.out.mono B1.out.size)⟩
  ·rw [E1.out];exact M1.out.below B2.out
  ·rw [E2.out];exact M2.out.up B1.out.size
 ·have ne:(mode == 1) = false:=beq_eq_false_iff_ne.2 c
  rw [if_neg c] at EU ED
  have hXe:x.win * 4294967296 = pX x.win:=rfl
  have hIe:1024 * n / pX x.win = pI x.win n:=rfl
  have hRe:1024 * n - pI x.win n * pX x.win = pR x.win n:=rfl
  have gi:=gZ_bd (i:=pI x.win n) hxI.1 (by omega)
  have gj:=gZ_bd (i:=pI x.win n + 1) (by omega) (by omega)
  have gl:=gZ_le_succ hxI.1 hxI.2
  have CI:=hid' (fun W => ref_curve (pI x.win n) W hxI.1 (by omega))
  have CJ:=hid' (fun W => ref_curve (pI x.win n + 1) W (by omega) (by omega))
  obtain ⟨iw,hiw⟩:∃ iw,pI x.win n * x.win = iw:=⟨_,rfl⟩
  have hiw2:iw * 4294967296 = pI x.win n * pX x.win:=by rw [← hiw,← hXe];grind
  obtain ⟨X,hX⟩:∃ X:Nat,pX x.win = X:=⟨(pX x.win).toNat,by omega⟩
  obtain ⟨H,hH⟩:∃ H:Nat,gZ (pI x.win n) = H:=⟨(gZ (pI x.win n)).toNat,by omega⟩
  obtain ⟨J,hJ⟩:∃ J:Nat,gZ (pI x.win n + 1) = J:=⟨(gZ (pI x.win n + 1)).toNat,by omega⟩
  obtain ⟨R,hRR⟩:∃ R:Nat,pR x.win n = R:=⟨(pR x.win n).toNat,by omega⟩
  rw [hH] at gi gl CI EU
  rw [hJ] at gj gl CJ EU
  rw [hRR] at hxR hRe EU
  rw [hX] at hxX hXe hIe hRe hxR hiw2 hxIX EU ED
  generalize pI x.win n = i at *
  obtain ⟨iX,hiX⟩:∃ iX,i * (X:Int) = iX:=⟨_,rfl⟩
  rw [hiX] at hRe hiw2 hxIX
  have hRe2:1024 * n - iw * 4294967296 = (R:Int):=by omega
  obtain ⟨K,hK⟩:∃ K:Nat,(J:Int) - (H:Int) = K:=⟨J - H,by omega⟩
  have hw2:=hid' wl0
  have E1:Hid (U.toNat = H * X + K * R):=by
   show _ = _
   rw [EU.out,hK,← Int.natCast_mul,← Int.natCast_mul,← Int.natCast_add];rfl
  have E2:Hid (D.toNat = X):=by show _ = _;rw [ED.out];rfl
  generalize x.win = W at *
  have k1:K ≤ 4294967296:=by omega
  have x1:(X:Int) ≤ 2597596220620800:=hxX.2
  have iw0:0 ≤ iw ∧ iw ≤ 1000000000:=by omega
  have z0:¬ (X:Int) = 0:=by omega
  have z1:((X:Int) == 0) = false:=beq_eq_false_iff_ne.2 z0
  have z2:0 ≤ 1024 * n:=by omega
  clear EU ED HU hiX hRe hiw2 hxIX hX c
  have lX:(digs X).length ≤ 4:=digs_length (by omega)
  have lH:(digs H).length ≤ 3:=digs_length (by omega)
  have lK:(digs K).length ≤ 3:=digs_length (by omega)
  have lR:(digs R).length ≤ 4:=digs_length (by omega)
  have lHX:(digs (H * X)).length ≤ 7:=digs_length (k:=3 + 4) (by
   have h1:H < 10000 ^ 3:=by omega
   have h2:X < 10000 ^ 4:=by omega
   rw [Nat.pow_add];exact Nat.mul_lt_mul'' h1 h2)
  have lKR:(digs (K * R)).length ≤ 7:=digs_length (k:=3 + 4) (by
   have h1:K < 10000 ^ 3:=by omega
   have h2:R < 10000 ^ 4:=by omega
   rw [Nat.pow_add];exact Nat.mul_lt_mul'' h1 h2)
  have lS:(digs (H * X + K * R)).length ≤ 8:=digs_length (by
   have h1:H * X < 10000 ^ 3 * 10000 ^ 4:=Nat.mul_lt_mul'' (by omega) (by omega)
   have h2:K * R < 10000 ^ 3 * 10000 ^ 4:=Nat.mul_lt_mul'' (by omega) (by omega)
   omega)
  have LL:=hid' (And.intro lX (And.intro lH (And.intro lK (And.intro lR (And.intro lHX (And.intro lKR lS))))))
  clear lX lH lK lR lHX lKR lS
  go_enter Tryz.func96,Tryz.ntmps96
  go_wp2_with fail
  refine (ref_nat X (by omega) w).mono ?_
  rintro e w1 ⟨v1,rfl,m1,b1⟩
  have M1:=hid' m1
  have B1:=hid' b1
  have p1:=(b1.cell (p:=⟨b,1,none⟩) (lt_of_heap HR.out.row)).trans q1
  clear q0 q1 m1 b1
  go_wp2_with fail
  refine (CI.out _).mono ?_
  rintro e _ ⟨rfl,rfl⟩
  go_wp2_with fail
  refine (CJ.out _).mono ?_
  rintro e _ ⟨rfl,rfl⟩
  go_wp2_with fail
  refine (ref_nat H (by omega) _).mono ?_
  rintro e w2 ⟨v2,rfl,m2,b2⟩
  have M2:=hid' m2
  have B2:=hid' (B1.out.trans (b2.mono B1.out.size))
  have b2':=hid' b2
  clear m2 b2
  go_wp2_with fail
  refine (ref_nat K (by omega) w2).mono ?_
  rintro e w3 ⟨v3,rfl,m3,b3⟩
  have M3:=hid' m3
  have B3:=hid' (B2.out.trans (b3.mono B2.out.size))
  have b3':=hid' b3
  clear m3 b3
  go_wp2_with fail
  refine (ref_nat R (by omega) w3).mono ?_
  rintro e w4 ⟨v4,rfl,m4,b4⟩
  have M4:=hid' m4
  have B4:=hid' (B3.out.trans (b4.mono B3.out.size))
  have b4':=hid' b4
  clear m4 b4
  go_wp2_with fail
  refine (ref_times _ _ H X v2 v1 w4 ((M2.out.below b3'.out).below b4'.out) (((M1.out.below b2'.out).below b3'.out).below b4'.out) (by have:=LL.out;omega) (by have:=LL.out;omega)).mono ?_
  rintro e w5 ⟨v5,rfl,m5,b5⟩
  have M5:=hid' m5
  have B5:=hid' (B4.out.trans (b5.mono B4.out.size))
  have b5':=hid' b5
  clear m5 b5
  go_wp2_with fail
  refine (ref_times _ _ K R v3 v4 w5 ((M3.out.below b4'.out).below b5'.out) (M4.out.below b5'.out) (by have:=LL.out;omega) (by have:=LL.out;omega)).mono ?_
  rintro e w6 ⟨v6,rfl,m6,b6⟩
  have M6:=hid' m6
  have B6:=hid' (B5.out.trans (b6.mono B5.out.size))
  have b6':=hid' b6
  clear m6 b6
  go_wp2_with fail
  refine (ref_plus _ _ (H * X) (K * R) v5 v6 w6 (M5.out.below b6'.out) M6.out (by have:=LL.out;omega) (by have:=LL.out;omega) (by have:=LL.out;omega)).mono ?_
  rintro e w7 ⟨v7,rfl,m7,b7⟩
  have M7:=hid' m7
  have B7:=hid' (B6.out.trans (b7.mono B6.out.size))
  have b7':=hid' b7
  clear m7 b7
  go_wp2
  go_ret2
  refine ⟨v7,v1,rfl,?_,?_,B7.out⟩
  ·rw [E1.out];exact M7.out.up B6.out.size
  ·rw [E2.out];exact (((((M1.out.below b2'.out).below b3'.out).below b4'.out).below b5'.out).below b6'.out).below b7'.out
theorem sum_on {ns po nf:Int} {Q:Nat} (n0:0 ≤ ns) (n1:ns ≤ 34000000000) (hp:0 ≤ po ∧ po ≤ 200) (hf:0 ≤ nf ∧ nf < 4294967296) (hq:Q ≤ 4294967296) (W:World) :
  Calls Tryz.prog 101 #[.agg #[.int .i64 (ns - po),.int .i64 nf],.agg #[.int .i64 0,.int .i64 (Q:Int)]] W fun e w' => e = .returned (.agg #[.int .i64 (tSum (ns - po) nf 0 (Q:Int)).1,.int .i64 (tSum (ns - po) nf 0 (Q:Int)).2]) ∧ Below W.heap.size W w' :=
 ref_sum (ns - po) nf 0 (Q:Int) W (by omega) (by omega) (by omega) (by omega) (by omega) (by omega) (by omega) (by omega)
theorem sum_back {ns po nf:Int} {Q:Nat} (n0:0 ≤ ns) (n1:ns ≤ 34000000000) (hp:0 ≤ po ∧ po ≤ 200) (hf:0 ≤ nf ∧ nf < 4294967296) (hq:Q ≤ 4294967296) (W:World) :
  Calls Tryz.prog 101 #[.agg #[.int .i64 (ns - po - 1),.int .i64 nf],.agg #[.int .i64 0,.int .i64 (4294967296 - (Q:Int))]] W fun e w' => e = .returned (.agg #[.int .i64 (tSum (ns - po - 1) nf 0 (4294967296 - (Q:Int))).1,.int .i64 (tSum (ns - po - 1) nf 0 (4294967296 - (Q:Int))).2]) ∧ Below W.heap.size W w' :=
 ref_sum (ns - po - 1) nf 0 (4294967296 - (Q:Int)) W (by omega) (by omega) (by omega) (by omega) (by omega) (by omega) (by omega) (by omega)
theorem up_le {U D Q:Nat} (hq:Q = U / D) (u1:U ≤ 4294967296 * D):(if Q * D < U then Q + 1 else Q) ≤ 4294967296:=by
 have h1:Q ≤ 4294967296:=by rw [hq];exact Nat.div_le_of_le_mul (by rw [Nat.mul_comm];exact u1)
 split
 ·rename_i h
  by_cases c:Q = 4294967296
  ·rw [c] at h;omega
  ·omega
 ·exact h1
theorem wrap_pred (k j:Nat) (h:k = j + 1) (hk:k ≤ 900):IntKind.i64.wrap ((k:Int) - 1) = (j:Int) ∧ wrap64 ((k:Int) - 1) = (j:Int) ∧ wrap64 (j:Int) = (j:Int) ∧ IntKind.i64.wrap (j:Int) = (j:Int):=by
 refine ⟨?_,?_,?_,?_⟩
 ·rw [IntKind.wrap_i64];omega
 ·unfold wrap64;omega
 ·unfold wrap64;omega
 ·rw [IntKind.wrap_i64];omega
set_option maxRecDepth 100000 in
set_option maxHeartbeats 6400000 in
theorem ref_served_in (b:Nat) (x:Sv) (dv bv cv hv:Value) (k:Nat) (w:World) (hr:RSrv b x dv bv cv hv w) (hld:x.ld = true) (hm:x.mode ≠ 0) (hc:x.Can) (hb:x.BegOk) (hw:x.WinAt k) (h1:1 ≤ k) (hk:k < x.done.length) (ok:PullOk x.win (x.gap k)) (hf:0 ≤ x.nf ∧ x.nf < 4294967296) :
  Calls Tryz.prog 56 #[.pointer (some ⟨b,0,none⟩)] w fun e w' => e = .returned (.tuple #[.agg #[.int .i64 (x.smeared k).1,.int .i64 (x.smeared k).2],.int .i64 0,.int .i64 0]) ∧ Below w.heap.size w w':=by
 obtain ⟨j,hj⟩:∃ j:Nat,k = j + 1:=⟨k - 1,by omega⟩
 have hjd:j < x.done.length:=by omega
 have hj1:(k:Int) - 1 = (j:Int):=by omega
 have hj2:k - 1 = j:=by omega
 have hpos:0 < x.done.length:=by omega
 have zj0:(0:Int) ≤ (j:Int):=by omega
 have zk0:(0:Int) ≤ (k:Int):=by omega
 have nlt:¬ (k:Int) < 0:=by omega
 have HR:=hid' hr
 have HCan:=hid' hc
 have RN:=hid' (heap_alloc_new w (.cells #[.int .i64 0,.int .i64 0] 35))
 have BN:=hid' ((Below.refl w.heap.size w).alloc (Nat.le_refl _) (.cells #[.int .i64 0,.int .i64 0] 35))
 have q5:=cell_of_row _ _ 5 _ _ _ hr.row
 have q0:=cell_of_row _ _ 0 _ _ _ hr.row
 have lb:=lt_of_heap hr.row
 simp at q5 q0
 rw [hld] at q5
 have nm:(x.mode == 0) = false:=beq_eq_false_iff_ne.2 hm
 have WI:=hid' (fun (W:World) h => ref_window b x dv bv cv hv (k:Int) W h (by have:=HCan.out.len;omega) hb hw)
 have PU:=hid' (fun (W:World) h => ref_pull b x dv bv cv hv (x.gap k) W h ok)
 have ob:=ok.u x.mode
 have hkb:k < x.began.length:=by rw [hb.len];exact hk
 have hbo:=hb.ok _ (List.getElem_mem hkb)
 have fo:=(HCan.out.fine _ (List.getElem_mem hk)).2
 have fp:=(HCan.out.fine _ (List.getElem_mem (show k - 1 < x.done.length by omega))).2
 have eb:x.began.getD k (0,0) = x.began[k]:=getD_at k hkb
 have ed:x.done.getD k (0,0) = x.done[k]:=getD_at k hk
 have ep:x.done.getD (k - 1) (0,0) = x.done[k - 1]:=getD_at (k - 1) (by omega)
 have HS:Hid (x.smeared k = if (x.done.getD k (0,0)).2 < (x.done.getD (k - 1) (0,0)).2 then tSum (x.ns - (x.done.getD (k - 1) (0,0)).2) x.nf 0 (x.pulled k) else tSum (x.ns - (x.done.getD (k - 1) (0,0)).2 - 1) x.nf 0 (4294967296 - (x.pulledUp k:Int))):=rfl
 have HQ:Hid (x.pulled k = (pullU x.mode x.win (x.gap k)).toNat / (pullD x.mode x.win).toNat):=rfl
 have HQ2:Hid (x.pulledUp k = if x.pulled k * (pullD x.mode x.win).toNat < (pullU x.mode x.win (x.gap k)).toNat then x.pulled k + 1 else x.pulled k):=rfl
 have HG:Hid (x.gap k = (x.ns - (x.began.getD k (0,0)).1) * 4294967296 + x.nf - (x.began.getD k (0,0)).2):=rfl
 rw [ed,ep] at HS
 rw [eb] at HG
 have g0:=ok.n0
 have g1:=ok.n1
 have hX:=ok.x
 generalize x.smeared k = sm at *
 generalize x.pulledUp k = QU at *
 generalize x.pulled k = Q at *
 obtain ⟨U,hU⟩:∃ U,(pullU x.mode x.win (x.gap k)).toNat = U:=⟨_,rfl⟩
 obtain ⟨D,hD⟩:∃ D,(pullD x.mode x.win).toNat = D:=⟨_,rfl⟩
 rw [hU,hD] at HQ HQ2
 simp only [hU,hD] at PU
 have u1:U ≤ 4294967296 * D:=by omega
 have d0:0 < D:=by omega
 have d1:D ≤ 2597596220620800:=by omega
 clear hU hD ob
 generalize x.gap k = G at *
 have n0:=HCan.out.n0
 have n1:=HCan.out.n1
 obtain ⟨gd,dcp,hdv⟩:=own_some hr.dd hpos
 obtain ⟨gb,bcp,hbv⟩:=own_some hr.bb (Nat.lt_of_le_of_lt (Nat.zero_le _) hkb)
 subst hdv hbv
 simp only [hj2] at HS fp
 have cd1:=hid' ((hr.dd.cellAt (k * 2 + 1) (by clear u1;omega)).trans (flat_at1 x.done k hk))
 have cd2:=hid' ((hr.dd.cellAt (j * 2 + 1) (by clear u1;omega)).trans (flat_at1 x.done j hjd))
 have cb0:=hid' ((hr.bb.cellAt (k * 2) (by clear u1;omega)).trans (flat_at0 x.began k hkb))
 have cb1:=hid' ((hr.bb.cellAt (k * 2 + 1) (by clear u1;omega)).trans (flat_at1 x.began k hkb))
 have lgd:=(hr.dd.lt _ rfl).2
 have lgb:=(hr.bb.lt _ rfl).2
 obtain ⟨L,hL⟩:∃ L,x.done.length = L:=⟨_,rfl⟩
 have hLb:x.began.length = L:=hb.len.trans hL
 have hkL:k < L:=hL ▸ hk
 have zk1:(k:Int) < (L:Int):=Int.ofNat_lt.2 hkL
 have zj1:(j:Int) < (L:Int):=Int.ofNat_lt.2 (hL ▸ hjd)
 have HL:=hid' hL
 have HLb:=hid' hLb
 have hcl:L ≤ 900:=hL ▸ HCan.out.len
 obtain ⟨hwk,hwk2,hwk3,hwk4⟩:=wrap_pred k j hj (Nat.le_of_lt (Nat.lt_of_lt_of_le hkL hcl))
 generalize x.began[k] = bp at *
 generalize x.done[k] = dp at *
 generalize x.done[j]'hjd = pp at *
 obtain ⟨bs,bf⟩:=bp
 obtain ⟨da,co⟩:=dp
 obtain ⟨pa,po⟩:=pp
 simp only at HS HG hbo fo fp cd1 cd2 cb0 cb1
 obtain ⟨mode,win,fresh,ns,nf,ld,up,ex,done,began,com,ref,said⟩:=x
 simp only at *
 have GA:=hid' (fun W => ref_gap bs bf ns nf W (by have:=HG.out;omega) (by have:=HG.out;omega) (by omega) (by omega) (by omega) (by omega))
 rw [← HG.out] at GA
 have gN:0 ≤ G ∧ G ≤ 2597596220620800:=by omega
 have hq:Q ≤ 4294967296:=by rw [HQ.out];exact Nat.div_le_of_le_mul (by rw [Nat.mul_comm];exact u1)
 have hqu:QU ≤ 4294967296:=by rw [HQ2.out];exact up_le HQ.out u1
 have ns1:=HCan.out.n1
 have hwn:IntKind.i64.wrap (ns - po) = ns - po:=by rw [IntKind.wrap_i64];omega
 clear hr hc hld hm hb hw ok HG HCan hL hLb hk hkb eb ed ep hj hj2 n1 g0 g1 hX h1
 go_enter Tryz.func56,Tryz.ntmps56
 generalize hQQ:bodyPost Tryz.prog _ _ = QQ
 have HQQ:=hid' hQQ
 clear hQQ
 go_wp2_with fail
 refine (WI.out _ (HR.out.below BN.out)).mono ?_
 rintro e w1 ⟨rfl,hb1⟩
 have B1:=hid' (BN.out.trans (hb1.mono BN.out.size))
 have RN1:=hid' ((hb1.block _ (lt_of_heap RN.out)).trans RN.out)
 have R1:=hid' (HR.out.below B1.out)
 have q3:=cell_of_row _ _ 3 _ _ _ R1.out.row
 have q4:=cell_of_row _ _ 4 _ _ _ R1.out.row
 have q8:=cell_of_row _ _ 8 _ _ _ R1.out.row
 have c2:=(B1.out.cell (p:=⟨gd,j * 2 + 1,none⟩) lgd).trans cd2.out
 have lg1:gd < w1.heap.size:=by have:=B1.out.size;omega
 have lb1:b < w1.heap.size:=by have:=B1.out.size;omega
 simp at q3 q4 q8
 rw [HL.out] at q8
 have ne1:¬ b = w1.heap.size:=by omega
 have ne2:¬ gd = w1.heap.size:=by omega
 have ne3:¬ w1.heap.size = b:=by omega
 have ne4:¬ w1.heap.size = gd:=by omega
 clear hb1 q5 q0 WI RN BN
 go_upto_region 10 with fail
 go_cut [8] from 17 (fun s8 wx => TimeAt w1 (ns - po) nf s8 wx)
 case first =>
  go_region_held3 (fun w' => w'.cell? ⟨b,3,none⟩ = some (.int .i64 ns) ∧ w'.cell? ⟨b,4,none⟩ = some (.int .i64 nf) ∧ w'.cell? ⟨b,8,none⟩ = some (.slice (some ⟨gd,0,none⟩) L dcp) ∧ w'.cell? ⟨gd,j * 2 + 1,none⟩ = some (.int .i64 po)) (go_keep) (fail)
  all_goals
   go_wp2_with fail
   go_meet
   case rel =>
    refine ⟨_,rfl,?_,?_⟩
    ·first
      | exact ((Below.refl _ _).drew).alloc (Nat.le_refl _) _
      | exact (((Below.refl _ _).alloc (Nat.le_refl _) _).drew.setCell (p:=⟨w1.heap.size,0,none⟩) (Nat.le_refl _) _).setCell (p:=⟨w1.heap.size,1,none⟩) (Nat.le_refl _) _
    ·first
      | exact heap_alloc_new _ _
      | exact two_row (heap_alloc_new w1 _)
 case rest =>
  obtain ⟨tq,rfl,bel,row⟩:=hcut
  rename World => W1
  have B2:=hid' (B1.out.trans (bel.mono B1.out.size))
  have R2:=hid' (HR.out.below B2.out)
  have RN2:=hid' ((bel.block _ (lt_of_heap RN1.out)).trans RN1.out)
  have RT2:=hid' row
  clear q3 q4 q8 c2 lg1 lb1 ne1 ne2 ne3 ne4 bel row R1 RN1
  have q3:=cell_of_row _ _ 3 _ _ _ R2.out.row
  have q4:=cell_of_row _ _ 4 _ _ _ R2.out.row
  have q9:=cell_of_row _ _ 9 _ _ _ R2.out.row
  have e0:=(B2.out.cell (p:=⟨gb,k * 2,none⟩) lgb).trans cb0.out
  have e1:=(B2.out.cell (p:=⟨gb,k * 2 + 1,none⟩) lgb).trans cb1.out
  simp at q3 q4 q9
  rw [HLb.out] at q9
  go_upto_region 11 with fail
  go_cut [9] from 17 (fun s9 wx => s9 = .int .i64 G ∧ Below W1.heap.size W1 wx)
  case first =>
   have lB:b < W1.heap.size:=by have:=B2.out.size;omega
   have lG:gb < W1.heap.size:=by have:=B2.out.size;omega
   go_region_held3 (fun w' => w'.cell? ⟨b,3,none⟩ = some (.int .i64 ns) ∧ w'.cell? ⟨b,4,none⟩ = some (.int .i64 nf) ∧ w'.cell? ⟨b,9,none⟩ = some (.slice (some ⟨gb,0,none⟩) L bcp) ∧ w'.cell? ⟨gb,k * 2,none⟩ = some (.int .i64 bs) ∧ w'.cell? ⟨gb,k * 2 + 1,none⟩ = some (.int .i64 bf)) (go_keep)
    (first | (go_at_call 95;refine (GA.out _).mono ?_;rintro e w2 ⟨rfl,hb2⟩;have HB2:=hid' hb2;have n3:w2.cell? ⟨b,3,none⟩ = some (.int .i64 ns):=(hb2.cell (p:=⟨b,3,none⟩) (by exact lB)).trans q3;have n4:w2.cell? ⟨b,4,none⟩ = some (.int .i64 nf):=(hb2.cell (p:=⟨b,4,none⟩) (by exact lB)).trans q4;have n9:w2.cell? ⟨b,9,none⟩ = some (.slice (some ⟨gb,0,none⟩) L bcp):=(hb2.cell (p:=⟨b,9,none⟩) (by exact lB)).trans q9;have m0:w2.cell? ⟨gb,k * 2,none⟩ = some (.int .i64 bs):=(hb2.cell (p:=⟨gb,k * 2,none⟩) (by exact lG)).trans e0;have m1:w2.cell? ⟨gb,k * 2 + 1,none⟩ = some (.int .i64 bf):=(hb2.cell (p:=⟨gb,k * 2 + 1,none⟩) (by exact lG)).trans e1;clear hb2))
   all_goals
    go_wp2_with fail
    go_meet
    case rel => exact ⟨rfl,(Below.refl _ _).drew.trans HB2.out⟩
  case rest =>
   obtain ⟨rfl,bel⟩:=hcut
   rename World => W2
   have B3:=hid' (B2.out.trans (bel.mono B2.out.size))
   have R3:=hid' (HR.out.below B3.out)
   have RN3:=hid' ((bel.block _ (lt_of_heap RN2.out)).trans RN2.out)
   have RT3:=hid' ((bel.block _ (lt_of_heap RT2.out)).trans RT2.out)
   clear q3 q4 q9 e0 e1 bel R2 RN2 RT2
   have lD:(digs D).length ≤ 4:=digs_length (by omega)
   have lU:(digs U).length ≤ 8:=digs_length (by omega)
   have lQ:(digs Q).length ≤ 3:=digs_length (by omega)
   have lQD:(digs (Q * D)).length ≤ 8:=digs_length (by
    have h1:Q * D ≤ U:=by rw [HQ.out];exact Nat.div_mul_le_self U D
    omega)
   have LL:=hid' (And.intro lD (And.intro lU (And.intro lQ lQD)))
   have ulow:U < 2 ^ 33 * D:=by omega
   have HUL:=hid' ulow
   clear lD lU lQ lQD ulow u1
   go_wp2_with fail
   refine (PU.out _ R3.out).mono ?_
   rintro e w4 ⟨v1,v2,rfl,n1,n2,b4⟩
   have N1:=hid' n1
   have N2:=hid' n2
   have B4:=hid' (B3.out.trans (b4.mono B3.out.size))
   have b4':=hid' b4
   clear n1 n2 b4
   go_wp2_with fail
   refine (ref_whole _ _ U D v1 v2 w4 N1.out N2.out HUL.out (by have:=LL.out;omega) (by have:=LL.out;omega)).mono ?_
   rintro e w5 ⟨rfl,b5⟩
   have B5:=hid' (B4.out.trans (b5.mono B4.out.size))
   have b5':=hid' b5
   clear b5
   rw [← HQ.out]
   go_wp2_with fail
   refine (ref_nat Q (by omega) w5).mono ?_
   rintro e w6 ⟨v6,rfl,n6,b6⟩
   have N6:=hid' n6
   have B6:=hid' (B5.out.trans (b6.mono B5.out.size))
   have b6':=hid' b6
   clear n6 b6
   go_wp2_with fail
   refine (ref_times _ _ Q D v6 v2 w6 N6.out ((N2.out.below b5'.out).below b6'.out) (by have:=LL.out;omega) (by have:=LL.out;omega)).mono ?_
   rintro e w7 ⟨v7,rfl,n7,b7⟩
   have N7:=hid' n7
   have B7:=hid' (B6.out.trans (b7.mono B6.out.size))
   have b7':=hid' b7
   clear n7 b7
   go_wp2_with fail
   refine (ref_above _ _ U (Q * D) v1 v7 w7 (((N1.out.below b5'.out).below b6'.out).below b7'.out) N7.out (by have:=LL.out;omega) (by have:=LL.out;omega)).mono ?_
   rintro e w8 ⟨rfl,b8⟩
   have B8:=hid' (B7.out.trans (b8.mono B7.out.size))
   have BB:=hid' ((((b4'.out.trans (b5'.out.mono b4'.out.size)).trans (b6'.out.mono (Nat.le_trans b4'.out.size b5'.out.size))).trans (b7'.out.mono (Nat.le_trans (Nat.le_trans b4'.out.size b5'.out.size) b6'.out.size))).trans (b8.mono (Nat.le_trans (Nat.le_trans (Nat.le_trans b4'.out.size b5'.out.size) b6'.out.size) b7'.out.size)))
   have R8:=hid' (HR.out.below B8.out)
   have RN8:=hid' ((BB.out.block _ (lt_of_heap RN3.out)).trans RN3.out)
   have RT8:=hid' ((BB.out.block _ (lt_of_heap RT3.out)).trans RT3.out)
   clear b8 N1 N2 N6 N7 b4' b5' b6' b7' BB LL PU RT3 RN3
   have q8:=cell_of_row _ _ 8 _ _ _ R8.out.row
   have c1:=(B8.out.cell (p:=⟨gd,k * 2 + 1,none⟩) lgd).trans cd1.out
   have c2:=(B8.out.cell (p:=⟨gd,j * 2 + 1,none⟩) lgd).trans cd2.out
   have t0:=cell_of_row _ _ 0 _ _ _ RN8.out
   have t1:=cell_of_row _ _ 1 _ _ _ RN8.out
   have f0:=frozen_of_row _ _ 0 _ _ RN8.out
   have f1:=frozen_of_row _ _ 1 _ _ RN8.out
   have y0:=cell_of_row _ _ 0 _ _ _ RT8.out
   have y1:=cell_of_row _ _ 1 _ _ _ RT8.out
   simp at q8 t0 t1 y0 y1
   rw [HL.out] at q8
   by_cases cs:co < po
   ·have HSM:=hid' HS.out
    rw [if_pos cs] at HSM
    have SU:=hid' (sum_on n0 ns1 fp hf hq)
    generalize tSum (ns - po) nf 0 (Q:Int) = tm at *
    obtain ⟨ts,tf⟩:=tm
    simp only at SU
    clear HS HQ HQ2
    go_wp2_with fail
    go_quiet (fail)
    have B8v:=hid' (below_drewN B8.out nq)
    have RNv:Hid ((w8.drewN nq).heap[w.heap.size]? = some (.cells #[.int .i64 0,.int .i64 0] 35 (0,0))):=RN8.out
    have RTv:Hid ((w8.drewN nq).heap[tq]? = some (.cells #[.int .i64 (ns - po),.int .i64 nf] 35 (0,0))):=RT8.out
    clear q8 c1 c2 t0 t1 f0 f1 y0 y1 RN8 RT8 R8 B8
    generalize w8.drewN nq = V8 at *
    have y0:=cell_of_row _ _ 0 _ _ _ RTv.out
    have y1:=cell_of_row _ _ 1 _ _ _ RTv.out
    have lq:=lt_of_heap RTv.out
    simp at y0 y1
    go_wp2_with fail
    refine (SU.out _).mono ?_
    rintro e w9 ⟨rfl,b9⟩
    have B9:=hid' (B8v.out.trans (b9.mono (by exact B8v.out.size)))
    have RN9:=hid' ((b9.block _ (by exact lt_of_heap RNv.out)).trans RNv.out)
    have u0:=cell_of_row _ _ 0 _ _ _ RN9.out
    have u1:=cell_of_row _ _ 1 _ _ _ RN9.out
    have g0:=frozen_of_row _ _ 0 _ _ RN9.out
    have g1:=frozen_of_row _ _ 1 _ _ RN9.out
    simp at u0 u1
    clear b9 SU y0 y1
    go_wp2
    try simp only [Exit.inBlock,Exit.then]
    rw [← HQQ.out]
    refine bodyPost_ret (results_row_tt (p:=2) (u:=3) (v:=4) rfl _ _ w.heap.size #[.int .i64 ts,.int .i64 tf] rfl (load_time (two_row RN9.out) rfl)) rfl ?_
    exact ⟨by rw [HSM.out];rfl,(B9.out.setCell (p:=⟨w.heap.size,0,none⟩) (Nat.le_refl _) _).setCell (p:=⟨w.heap.size,1,none⟩) (Nat.le_refl _) _⟩
   ·have HSM:=hid' HS.out
    rw [if_neg cs] at HSM
    have SU:=hid' (sum_back n0 ns1 fp hf hqu)
    generalize tSum (ns - po - 1) nf 0 (4294967296 - (QU:Int)) = tm at *
    obtain ⟨ts,tf⟩:=tm
    simp only at SU
    have HQ3:=hid' HQ2.out
    clear HS HQ HQ2
    by_cases cm:Q * D < U
    ·have hdec:decide (Q * D < U) = true:=decide_eq_true cm
     rw [if_pos cm] at HQ3
     have hq3:(Q:Int) + 1 = (QU:Int):=by rw [HQ3.out];rfl
     clear HQ3 cm
     go_wp2_with fail
     go_quiet (fail)
     have B8v:=hid' (below_drewN B8.out nq)
     have RNv:Hid ((w8.drewN nq).heap[w.heap.size]? = some (.cells #[.int .i64 0,.int .i64 0] 35 (0,0))):=RN8.out
     have RTv:Hid ((w8.drewN nq).heap[tq]? = some (.cells #[.int .i64 (ns - po),.int .i64 nf] 35 (0,0))):=RT8.out
     clear q8 c1 c2 t0 t1 f0 f1 y0 y1 RN8 RT8 R8 B8
     generalize w8.drewN nq = V8 at *
     have y0:=cell_of_row _ _ 0 _ _ _ RTv.out
     have y1:=cell_of_row _ _ 1 _ _ _ RTv.out
     have lq:=lt_of_heap RTv.out
     simp at y0 y1
     go_wp2_with fail
     refine (SU.out _).mono ?_
     rintro e w9 ⟨rfl,b9⟩
     have B9:=hid' ((B8v.out.alloc B8v.out.size _).trans (b9.mono (by exact (B8v.out.alloc B8v.out.size _).size)))
     have RN9:=hid' ((b9.block _ (by exact lt_of_heap ((Below.heap_alloc _ _ _ (lt_of_heap RNv.out)).trans RNv.out))).trans ((Below.heap_alloc _ _ _ (lt_of_heap RNv.out)).trans RNv.out))
     have u0:=cell_of_row _ _ 0 _ _ _ RN9.out
     have u1:=cell_of_row _ _ 1 _ _ _ RN9.out
     have g0:=frozen_of_row _ _ 0 _ _ RN9.out
     have g1:=frozen_of_row _ _ 1 _ _ RN9.out
     simp at u0 u1
     clear b9 SU y0 y1
     go_wp2
     try simp only [Exit.inBlock,Exit.then]
     rw [← HQQ.out]
     refine bodyPost_ret (results_row_tt (p:=2) (u:=3) (v:=4) rfl _ _ w.heap.size #[.int .i64 ts,.int .i64 tf] rfl (load_time (two_row RN9.out) rfl)) rfl ?_
     exact ⟨by rw [HSM.out];rfl,(B9.out.setCell (p:=⟨w.heap.size,0,none⟩) (Nat.le_refl _) _).setCell (p:=⟨w.heap.size,1,none⟩) (Nat.le_refl _) _⟩
    ·have hdec:decide (Q * D < U) = false:=decide_eq_false cm
     rw [if_neg cm] at HQ3
     have hq3:=HQ3.out
     subst hq3
     clear HQ3 cm
     go_wp2_with fail
     go_quiet (fail)
     have B8v:=hid' (below_drewN B8.out nq)
     have RNv:Hid ((w8.drewN nq).heap[w.heap.size]? = some (.cells #[.int .i64 0,.int .i64 0] 35 (0,0))):=RN8.out
     have RTv:Hid ((w8.drewN nq).heap[tq]? = some (.cells #[.int .i64 (ns - po),.int .i64 nf] 35 (0,0))):=RT8.out
     clear q8 c1 c2 t0 t1 f0 f1 y0 y1 RN8 RT8 R8 B8
     generalize w8.drewN nq = V8 at *
     have y0:=cell_of_row _ _ 0 _ _ _ RTv.out
     have y1:=cell_of_row _ _ 1 _ _ _ RTv.out
     have lq:=lt_of_heap RTv.out
     simp at y0 y1
     go_wp2_with fail
     refine (SU.out _).mono ?_
     rintro e w9 ⟨rfl,b9⟩
     have B9:=hid' ((B8v.out.alloc B8v.out.size _).trans (b9.mono (by exact (B8v.out.alloc B8v.out.size _).size)))
     have RN9:=hid' ((b9.block _ (by exact lt_of_heap ((Below.heap_alloc _ _ _ (lt_of_heap RNv.out)).trans RNv.out))).trans ((Below.heap_alloc _ _ _ (lt_of_heap RNv.out)).trans RNv.out))
     have u0:=cell_of_row _ _ 0 _ _ _ RN9.out
     have u1:=cell_of_row _ _ 1 _ _ _ RN9.out
     have g0:=frozen_of_row _ _ 0 _ _ RN9.out
     have g1:=frozen_of_row _ _ 1 _ _ RN9.out
     simp at u0 u1
     clear b9 SU y0 y1
     go_wp2
     try simp only [Exit.inBlock,Exit.then]
     rw [← HQQ.out]
     refine bodyPost_ret (results_row_tt (p:=2) (u:=3) (v:=4) rfl _ _ w.heap.size #[.int .i64 ts,.int .i64 tf] rfl (load_time (two_row RN9.out) rfl)) rfl ?_
     exact ⟨by rw [HSM.out];rfl,(B9.out.setCell (p:=⟨w.heap.size,0,none⟩) (Nat.le_refl _) _).setCell (p:=⟨w.heap.size,1,none⟩) (Nat.le_refl _) _⟩
end Go.Proofs.YtmmkhodaljpjgaaGreatDoor
