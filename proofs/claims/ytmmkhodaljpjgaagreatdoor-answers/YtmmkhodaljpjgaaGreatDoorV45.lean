import Derived.Test.YtmmkhodaljpjgaaGreatDoorV43
import Derived.Deep.RegionHeld3
import Derived.Deep.Cut
import Derived.Deep.CutBlock
set_option maxRecDepth 100000
set_option maxHeartbeats 6400000
namespace Go.Proofs.YtmmkhodaljpjgaaGreatDoor
open Go.RowKit
attribute [local go_sem ↓] Go.wp_at_zero Go.wp_at_succ
def Sv.wide (x:Sv):Prop:=2 ≤ x.done.length ∧ x.till (x.done.length - 1) = true
structure Sv.Told (x:Sv) (ts tf li er:Int):Prop where
 no:x.ld = false → ts = 0 ∧ tf = 0 ∧ li = 3 ∧ er = 8
 step:x.ld = true → x.mode = 0 → ts = x.utc ∧ tf = x.nf ∧ li = x.ind (x.utc / 86400) ∧ er = 0
 out:x.ld = true → x.mode ≠ 0 → ¬ x.wide → ts = x.utc ∧ tf = x.nf ∧ li = 0 ∧ er = 0
 in':x.ld = true → x.mode ≠ 0 → x.wide → ts = (x.smeared (x.done.length - 1)).1 ∧ tf = (x.smeared (x.done.length - 1)).2 ∧ li = 0 ∧ er = 0
theorem Sv.Inv.open_iff {x:Sv} (h:x.Inv) (hl:x.ld = true) {op:Bool} {bs bf:Int} (ho:Opn x op bs bf):(op = true ∧ (gone x.ns x.nf bs bf).1 < x.win) ↔ x.wide:=by
 have m:=h.mid hl
 obtain ⟨t0,t1,t2,t3⟩:=h.num.t'
 have p:=m.pos
 have last:=m.bg (x.done.length - 1) (by omega)
 unfold Sv.wide
 cases op with
 | false =>
  refine ⟨fun e => (by cases e.1),fun e => ?_⟩
  have q:=ho.2 rfl (x.done.length - 1) (by rw [m.bl];omega)
  have e2:=e.2
  rw [Sv.till_eq _ last.f0 last.f1] at e2
  have:=of_decide_eq_true e2
  omega
 | true =>
  obtain ⟨l2,eb⟩:=ho.1 rfl
  rw [m.bl] at l2 eb
  rw [eb] at last
  have g:=gone_till (s:=x.ns) (f:=x.nf) (z:=bs) (g:=bf) (k:=x.win) t2 t3 last.f0 last.f1
  have tl:x.till (x.done.length - 1) = decide ((gone x.ns x.nf bs bf).1 < x.win):=by
   unfold Sv.till;rw [eb];exact g
  rw [tl,decide_eq_true_eq]
  exact ⟨fun e => ⟨l2,e.2⟩,fun e => ⟨rfl,e.2⟩⟩
theorem Sv.Inv.begin_bd {x:Sv} (h:x.Inv) (hl:x.ld = true) {bs bf:Int} (ho:Opn x true bs bf):0 ≤ bf ∧ bf < 4294967296 ∧ (bs < x.ns ∨ (bs = x.ns ∧ bf ≤ x.nf)) ∧ -1000000 ≤ bs ∧ x.gap (x.done.length - 1) = (x.ns - bs) * 4294967296 + x.nf - bf ∧ 2 ≤ x.done.length:=by
 have m:=h.mid hl
 have w:=h.num.win
 obtain ⟨l2,eb⟩:=ho.1 rfl
 rw [m.bl] at l2 eb
 have last:=m.bg (x.done.length - 1) (by omega)
 have wb:=m.fit.when_bd (x.done.length - 1) (by rw [x.all_length];omega)
 have bd:=m.fit.bd (x.done.length - 1) (by rw [x.all_length];omega)
 rw [eb] at last
 have:=last.lo
 refine ⟨last.f0,last.f1,last.now,by simp only at this;omega,?_,l2⟩
 unfold Sv.gap
 rw [eb]
def OpenP (s:Sv) (w:World) (e:Ending) (w':World):Prop:=(∃ n o,e = .returned (.tuple #[.int .i64 n,.bool o]) ∧ (o = true ↔ s.wide) ∧ (o = true → n = s.gap (s.done.length - 1))) ∧ Below w.heap.size w w'
theorem open_for (b:Nat) (s:Sv) (dv cv:Value) (op:Bool) (bs bf:Int) (w:World) (h:PRow b s dv cv op bs bf w) (ho:Opn s op bs bf) (hI:s.Inv) (hl:s.ld = true) :
  Calls Tryz.prog 137 #[.pointer (some ⟨b,0,none⟩)] w fun e w' => OpenP s w e w':=by
 have HP:=hid' h
 have HIF:=hid' (hI.open_iff hl ho)
 have win:=hI.num.win
 obtain ⟨t0,t1,t2,t3⟩:=hI.num.t'
 have c44:=h.c44
 have lb:=h.lt
 cases op with
 | false =>
  clear h ho hI
  go_enter Tryz.func137,Tryz.ntmps137
  go_wp2
  go_ret2
  exact ⟨⟨_,_,rfl,⟨fun q => (by cases q),fun q => (by cases (HIF.out.2 q).1)⟩,fun q => (by cases q)⟩,Below.refl _ _⟩
 | true =>
  obtain ⟨g0,g1,gn,gb,gg,g2⟩:=hI.begin_bd hl ho
  have GO:=hid' (fun W => clk_gone s.ns s.nf bs bf W (by omega) (by omega) (by omega) (by omega) t2 t3 g0 g1)
  have gbd:=gone_bd (s:=s.ns) (f:=s.nf) (z:=bs) (g:=bf) t2 t3 g0 g1 gn
  have HGG:Hid ((gone s.ns s.nf bs bf).1 * 4294967296 + (gone s.ns s.nf bs bf).2 = s.gap (s.done.length - 1)):=by show _ = _;rw [gone_gap,gg]
  have c4:=h.c4
  have c5:=h.c5
  have c45:=h.c45
  have c46:=h.c46
  have c1:=h.c1
  generalize gone s.ns s.nf bs bf = gt at *
  obtain ⟨ga,gf⟩:=gt
  simp only at GO gbd HIF HGG
  obtain ⟨a0,a1,a2,a3⟩:=gbd
  have hne1:¬ b = w.heap.size:=by omega
  have hne2:¬ w.heap.size = b:=by omega
  clear h ho hI gn gg
  go_enter Tryz.func137,Tryz.ntmps137
  go_upto_region 3 with fail
  go_cut [4] from 5 (fun s4 wx => ∃ q,s4 = .pointer (some ⟨q,0,none⟩) ∧ Below w.heap.size w wx ∧ wx.heap[q]? = some (.cells #[.int .i64 ga,.int .i64 gf] 98 (0,0)))
  case first =>
   go_region_held3 (fun w' => w'.cell? ⟨b,4,none⟩ = some (.int .i64 s.ns) ∧ w'.cell? ⟨b,5,none⟩ = some (.int .i64 s.nf) ∧ w'.cell? ⟨b,45,none⟩ = some (.int .i64 bs) ∧ w'.cell? ⟨b,46,none⟩ = some (.int .i64 bf)) (first | go_keep | assumption) (first | (go_at_call 176;refine (GO.out _).mono ?_;rintro e w1 ⟨rfl,hb1⟩;(try (have hrow:=(hb1.block w.heap.size (by exact Nat.lt_of_lt_of_eq (Nat.lt_succ_self _) (alloc_sz w (.cells #[.int .i64 0,.int .i64 0] 98)).symm)).trans (heap_alloc_new w.drew (.cells #[.int .i64 0,.int .i64 0] 98));have z0:=cell_of_row _ _ 0 _ _ _ hrow;have z1:=cell_of_row _ _ 1 _ _ _ hrow;have zf0:=frozen_of_row _ _ 0 _ _ hrow;have zf1:=frozen_of_row _ _ 1 _ _ hrow;simp at z0 z1;have HROW:=hid' hrow;clear hrow));have m4:=hb1.cell (p:=⟨b,4,none⟩) (by first | exact lb | exact Nat.lt_of_lt_of_le lb (Nat.le_of_lt (Nat.lt_of_lt_of_eq (Nat.lt_succ_self _) (alloc_sz w (.cells #[.int .i64 0,.int .i64 0] 98)).symm)));have m5:=hb1.cell (p:=⟨b,5,none⟩) (by first | exact lb | exact Nat.lt_of_lt_of_le lb (Nat.le_of_lt (Nat.lt_of_lt_of_eq (Nat.lt_succ_self _) (alloc_sz w (.cells #[.int .i64 0,.int .i64 0] 98)).symm)));have m45:=hb1.cell (p:=⟨b,45,none⟩) (by first | exact lb | exact Nat.lt_of_lt_of_le lb (Nat.le_of_lt (Nat.lt_of_lt_of_eq (Nat.lt_succ_self _) (alloc_sz w (.cells #[.int .i64 0,.int .i64 0] 98)).symm)));have m46:=hb1.cell (p:=⟨b,46,none⟩) (by first | exact lb | exact Nat.lt_of_lt_of_le lb (Nat.le_of_lt (Nat.lt_of_lt_of_eq (Nat.lt_succ_self _) (alloc_sz w (.cells #[.int .i64 0,.int .i64 0] 98)).symm)));have hs1:=hb1.size;have HB1:=hid' hb1;clear hb1))
   all_goals
    go_wp2_with fail
    go_meet
    case rel =>
     first
      | exact ⟨_,rfl,((Below.refl _ _).drew.trans HB1.out).alloc (by exact HB1.out.size) _,by exact heap_alloc_new _ _⟩
      | exact ⟨_,rfl,((((Below.refl w.heap.size w).drew.alloc (Nat.le_refl _) (.cells #[.int .i64 0,.int .i64 0] 98)).trans (HB1.out.mono (by exact Nat.le_of_lt (Nat.lt_of_lt_of_eq (Nat.lt_succ_self _) (alloc_sz w (.cells #[.int .i64 0,.int .i64 0] 98)).symm)))).setCell (p:=⟨w.heap.size,0,none⟩) (Nat.le_refl _) _).setCell (p:=⟨w.heap.size,1,none⟩) (Nat.le_refl _) _,by exact two_row HROW.out⟩
  case rest =>
   obtain ⟨q,rfl,bel,qrow⟩:=hcut
   rename World => W1
   have B1:=hid' bel
   have P1:=hid' (HP.out.below bel)
   have d1:=P1.out.c1
   have o0:=cell_of_row _ _ 0 _ _ _ qrow
   have o1:=cell_of_row _ _ 1 _ _ _ qrow
   simp at o0 o1
   clear bel qrow c44 c4 c5 c45 c46 c1
   by_cases hw:ga < s.win
   ·go_upto_region 4 with fail
    go_quiet (fail)
    go_wp2
    go_ret2
    exact ⟨⟨_,_,rfl,⟨fun _ => (by first | exact HIF.out.1 ⟨rfl,hw⟩ | exact HIF.out.1 ⟨trivial,hw⟩),fun _ => rfl⟩,fun _ => HGG.out⟩,below_drewN B1.out _⟩
   ·go_upto_region 4 with fail
    go_quiet (fail)
    go_wp2
    go_ret2
    exact ⟨⟨_,_,rfl,⟨fun q => (by cases q),fun q => (by have:=(HIF.out.2 q).2;omega)⟩,fun q => (by cases q)⟩,below_drewN B1.out _⟩
theorem srv_smeared (b:Nat) (s:Sv) (dv cv:Value) (op:Bool) (bs bf:Int) (w:World) (h:PRow b s dv cv op bs bf w) (hI:s.Inv) (hl:s.ld = true) (hm:s.mode ≠ 0) (hw:s.wide) :
  Calls Tryz.prog 138 #[.pointer (some ⟨b,0,none⟩),.int .i64 (s.gap (s.done.length - 1))] w fun e w' => e = .returned (.agg #[.int .i64 (s.smeared (s.done.length - 1)).1,.int .i64 (s.smeared (s.done.length - 1)).2]) ∧ Below w.heap.size w w':=by
 obtain ⟨t0,t1,t2,t3⟩:=hI.num.t'
 have hM:=hI.mid hl
 obtain ⟨l2,ht⟩:=hw
 have ok:=hI.pullOk hl (s.done.length - 1) (by omega) ht
 have hmd:s.mode = 1 ∨ s.mode = 2:=by
  rcases hI.num.mode with ⟨q,_⟩ | ⟨q,_⟩
  ·exact absurd q hm
  ·exact q
 have hse:=Sv.smeared_eq ok t2 t3
 have pu:=Sv.pq_bd ok true
 have pd:=Sv.pq_bd ok false
 have PL:=hid' (fun (up:Bool) (W:World) (hb:Below w.heap.size w W) => p_pull b s dv cv op bs bf (s.gap (s.done.length - 1)) up W (h.below hb) ok hmd)
 have PLT:=hid' (fun (W:World) (hb:Below w.heap.size w W) => PL.out true W hb)
 have PLF:=hid' (fun (W:World) (hb:Below w.heap.size w W) => PL.out false W hb)
 have epq:∀ up,quo (pullU s.mode s.win (s.gap (s.done.length - 1))) (pullD s.mode s.win) up = s.pq (s.done.length - 1) up:=fun _ => rfl
 simp only [epq] at PLT PLF
 clear PL
 have hlen:=hM.fit.good.len
 rw [s.all_length] at hlen
 have hG:=hM.doneFit.good
 obtain ⟨k,hk⟩:∃ k,s.done.length = k + 2:=⟨s.done.length - 2,by omega⟩
 obtain ⟨g,cap,hdv⟩:=own_some h.dd (by omega)
 subst hdv
 have lie:=lies_of h.dd rfl
 have k1:k + 1 < s.done.length:=by omega
 have k0:k < s.done.length:=by omega
 have e1:=(lie (k + 1) k1).2
 have e0:=(lie k k0).2
 have lg:g < w.heap.size:=(h.dd.lt _ rfl).2
 have f0:=(hG.fine _ (List.getElem_mem k0)).2
 have f1:=(hG.fine _ (List.getElem_mem k1)).2
 have hst:=hG.off k (by omega)
 rw [show s.done.length - 1 = k + 1 from by omega] at hse ⊢
 rw [show s.done.length - 1 = k + 1 from by omega] at pu pd PLT PLF
 rw [Nat.add_sub_cancel,getD_at (k + 1) k1,getD_at k k0] at hse
 rw [getD_at (k + 1) k1,getD_at k k0] at hst
 have HSE:=hid' hse
 generalize (s.done[k + 1]'k1).2 = o1 at *
 generalize (s.done[k]'k0).2 = o0 at *
 generalize s.pq (k + 1) true = pt at *
 generalize s.pq (k + 1) false = pf at *
 generalize s.gap (k + 1) = gp at *
 generalize s.smeared (k + 1) = r at *
 obtain ⟨pu0,pu1⟩:=pu
 obtain ⟨pd0,pd1⟩:=pd
 obtain ⟨np,hnp⟩:∃ np,np = -pt:=⟨_,rfl⟩
 have hnw:IntKind.i64.wrap (-pt) = np:=by rw [IntKind.wrap_i64];omega
 have hnw2:wrap64 (-pt) = np:=by unfold wrap64;omega
 have np0:-4294967296 ≤ np:=by omega
 have np1:np ≤ 4294967296:=by omega
 rw [← hnp] at HSE
 have MU:=hid' (fun W => clk_moved (s.ns - o0) s.nf np W (by omega) (by omega) t2 t3 np0 np1)
 have MD:=hid' (fun W => clk_moved (s.ns - o0) s.nf pf W (by omega) (by omega) t2 t3 (by omega) (by omega))
 generalize moved (s.ns - o0) s.nf np = mu at *
 generalize moved (s.ns - o0) s.nf pf = md at *
 have HP:=hid' h
 have lb:=h.lt
 have B0:=hid' ((Below.refl w.heap.size w).alloc (Nat.le_refl _) (.cells #[.int .i64 0,.int .i64 0] 98))
 have R0:=hid' (heap_alloc_new w (.cells #[.int .i64 0,.int .i64 0] 98))
 generalize hL:s.done.length = L at *
 obtain ⟨x1,x2,x3,x4⟩:IntKind.i64.wrap ((L:Int) - 1) = ((k + 1:Nat):Int) ∧ wrap64 ((L:Int) - 1) = ((k + 1:Nat):Int) ∧ IntKind.i64.wrap (((k + 1:Nat):Int) - 1) = (k:Int) ∧ wrap64 (((k + 1:Nat):Int) - 1) = (k:Int):=⟨by rw [IntKind.wrap_i64];omega,by unfold wrap64;omega,by rw [IntKind.wrap_i64];omega,by unfold wrap64;omega⟩
 have z1:(1:Int) ≤ ((k + 1:Nat):Int):=by omega
 have z2:((k + 1:Nat):Int) < (L:Int):=by omega
 have z3:(0:Int) ≤ (k:Int):=by omega
 have z4:(k:Int) < (L:Int):=by omega
 have z5:(0:Int) ≤ ((k + 1:Nat):Int):=by omega
 clear h hI hM ok hse epq hG lie hk hm hmd ht l2 hL hnp
 generalize hK:k + 1 = K at *
 have z6:¬ (K:Int) < 1:=by omega
 clear hK
 go_enter Tryz.func138,Tryz.ntmps138
 go_upto_region 1 with fail
 generalize hV:w.alloc (.cells #[.int .i64 0,.int .i64 0] 98) = V at *
 generalize hQ:w.heap.size = Q at *
 clear hV
 have PV:=hid' (HP.out.below (by rw [hQ];exact B0.out))
 have c9:=PV.out.c9
 have c4:=PV.out.c4
 have c5:=PV.out.c5
 have y1:=(B0.out.cell (p:=⟨g,K * 2 + 1,none⟩) (by simp only;omega)).trans e1
 have y0:=(B0.out.cell (p:=⟨g,k * 2 + 1,none⟩) (by simp only;omega)).trans e0
 have lv:=lt_of_heap R0.out
 have sv:=B0.out.size
 clear e0 e1
 go_upto_region 7 with fail
 have BN:=hid' ((Below.refl V.heap.size V).alloc (Nat.le_refl _) (.cells #[.int .i64 (s.ns - o0),.int .i64 s.nf] 98))
 have RN:=hid' (heap_alloc_new V (.cells #[.int .i64 (s.ns - o0),.int .i64 s.nf] 98))
 generalize hW:V.alloc (.cells #[.int .i64 (s.ns - o0),.int .i64 s.nf] 98) = W at *
 generalize hE:V.heap.size = E at *
 clear hW
 have PW:=hid' (PV.out.below (by rw [hE];exact BN.out))
 have c9:=PW.out.c9
 have y1:=(BN.out.cell (p:=⟨g,K * 2 + 1,none⟩) (by simp only;omega)).trans y1
 have RQ:=hid' ((BN.out.block _ (by omega)).trans R0.out)
 have lqw:=lt_of_heap RQ.out
 have d0:=cell_of_row _ _ 0 _ _ _ RN.out
 have d1:=cell_of_row _ _ 1 _ _ _ RN.out
 simp at d0 d1
 have BW:=hid' (show Below Q w W from B0.out.trans (BN.out.mono (by omega)))
 clear c4 c5 y0
 by_cases c:o0 < o1
 ·have H:Hid (r = mu):=by show _ = _;rw [HSE.out,if_neg (by omega)]
  clear HSE
  go_upto_region 8 with fail
  go_region_with (first | (go_at_call 178;refine (PLT.out _ (by exact BW.out.drew)).mono ?_;rintro e w1 ⟨rfl,hw⟩;subst w1) | (go_at_call 177;refine (MU.out _).mono ?_;rintro e w2 ⟨rfl,hb2⟩;have Q2:=hid' ((hb2.block Q (by exact lqw)).trans RQ.out);have n0:=cell_of_row _ _ 0 _ _ _ Q2.out;have n1:=cell_of_row _ _ 1 _ _ _ Q2.out;have nf0:=frozen_of_row _ _ 0 _ _ Q2.out;have nf1:=frozen_of_row _ _ 1 _ _ Q2.out;simp at n0 n1;have B2:=hid' (BW.out.drew.trans (hb2.mono (by have:=BW.out.size;rw [← hQ];exact this)));clear hb2))
  all_goals
   go_wp2
   try simp only [Exit.inBlock,Exit.then]
   refine bodyPost_ret (results_cell_row rfl _ _ Q 98 #[.int .i64 mu.1,.int .i64 mu.2] (0,0) _ rfl (two_row Q2.out) Tryz.underlying98 rfl (by kernel_rfl)) rfl ?_
   rw [H.out]
   exact ⟨rfl,by rw [hQ];exact (B2.out.setCell (p:=⟨Q,0,none⟩) (by simp only;omega) _).setCell (p:=⟨Q,1,none⟩) (by simp only;omega) _⟩
 ·have H:Hid (r = md):=by show _ = _;rw [HSE.out,if_pos (by omega)]
  clear HSE
  go_upto_region 9 with fail
  go_region_with (first | (go_at_call 178;refine (PLF.out _ (by exact BW.out.drew)).mono ?_;rintro e w1 ⟨rfl,hw⟩;subst w1) | (go_at_call 177;refine (MD.out _).mono ?_;rintro e w2 ⟨rfl,hb2⟩;have Q2:=hid' ((hb2.block Q (by exact lqw)).trans RQ.out);have n0:=cell_of_row _ _ 0 _ _ _ Q2.out;have n1:=cell_of_row _ _ 1 _ _ _ Q2.out;have nf0:=frozen_of_row _ _ 0 _ _ Q2.out;have nf1:=frozen_of_row _ _ 1 _ _ Q2.out;simp at n0 n1;have B2:=hid' (BW.out.drew.trans (hb2.mono (by have:=BW.out.size;rw [← hQ];exact this)));clear hb2))
  all_goals
   go_wp2
   try simp only [Exit.inBlock,Exit.then]
   refine bodyPost_ret (results_cell_row rfl _ _ Q 98 #[.int .i64 md.1,.int .i64 md.2] (0,0) _ rfl (two_row Q2.out) Tryz.underlying98 rfl (by kernel_rfl)) rfl ?_
   rw [H.out]
   exact ⟨rfl,by rw [hQ];exact (B2.out.setCell (p:=⟨Q,0,none⟩) (by simp only;omega) _).setCell (p:=⟨Q,1,none⟩) (by simp only;omega) _⟩
theorem srv_now (b:Nat) (s:Sv) (dv cv:Value) (op:Bool) (bs bf ts tf li er:Int) (w:World) (h:PRow b s dv cv op bs bf w) (ho:Opn s op bs bf) (hI:s.Inv) (hT:s.Told ts tf li er) :
  Calls Tryz.prog 91 #[.pointer (some ⟨b,0,none⟩)] w fun e w' => e = .returned (.tuple #[.agg #[.int .i64 ts,.int .i64 tf],.int .i64 li,.int .i64 er]) ∧ Below w.heap.size w w':=by
 have HP:=hid' h
 have c6:=h.c6
 have B0:=hid' ((Below.refl w.heap.size w).alloc (Nat.le_refl _) (.cells #[.int .i64 0,.int .i64 0] 98))
 have R0:=hid' (heap_alloc_new w (.cells #[.int .i64 0,.int .i64 0] 98))
 have lb:=h.lt
 cases hld:s.ld with
 | false =>
  obtain ⟨rfl,rfl,rfl,rfl⟩:=hT.no hld
  rw [hld] at c6
  clear h ho hI hT hld
  go_enter Tryz.func91,Tryz.ntmps91
  go_wp2
  try simp only [Exit.inBlock,Exit.then]
  first
   | (refine bodyPost_ret (results_row_tt (p:=2) (u:=3) (v:=4) rfl _ _ w.heap.size #[.int .i64 0,.int .i64 0] rfl (load_ptime R0.out rfl)) rfl ?_
     exact ⟨rfl,B0.out⟩)
   | (refine bodyPost_ret (results_row_tt (p:=2) (u:=3) (v:=4) rfl _ _ w.heap.size #[.int .i64 0,.int .i64 0] rfl (load_ptime (two_row R0.out) rfl)) rfl ?_
     exact ⟨rfl,(B0.out.setCell (p:=⟨w.heap.size,0,none⟩) (Nat.le_refl _) _).setCell (p:=⟨w.heap.size,1,none⟩) (Nat.le_refl _) _⟩)
 | true =>
  rw [hld] at c6
  have hM:=hI.mid hld
  have IN:Hid (∀ W,Below w.heap.size w W → Calls Tryz.prog 136 #[.pointer (some ⟨b,0,none⟩)] W fun e w' => e = .returned (.int .i64 li) ∧ Below W.heap.size W w'):=fun W hb => by
   by_cases hm:s.mode = 0
   ·obtain ⟨k,hk⟩:=hI.indOk hld hm
    rw [(hT.step hld hm).2.2.1]
    exact srv_indicator b s dv cv op bs bf k W (h.below hb) hI hm hk
   ·have e:li = 0:=by
     by_cases q:s.wide
     ·exact (hT.in' hld hm q).2.2.1
     ·exact (hT.out hld hm q).2.2.1
    rw [e]
    exact srv_indicator_no b s dv cv op bs bf W (h.below hb) hm
  have OF:=hid' (fun (W:World) (hb:Below w.heap.size w W) => open_for b s dv cv op bs bf W (h.below hb) ho hI hld)
  have US:=hid' (fun (W:World) (hb:Below w.heap.size w W) => un_smeared b s dv cv op bs bf W (h.below hb) hM hI.num)
  have SM:=hid' (fun (W:World) (hb:Below w.heap.size w W) (hm:s.mode ≠ 0) (hw:s.wide) => srv_smeared b s dv cv op bs bf W (h.below hb) hI hld hm hw)
  have HT:=hid' hT
  have H0:Hid (s.wide → s.mode ≠ 0):=fun hw hm => by
   have wz:s.win = 0:=by
    rcases hI.num.mode with ⟨_,a⟩ | ⟨a,_⟩
    ·exact a
    ·omega
   have l2:=hw.1
   have last:=hM.bg (s.done.length - 1) (by omega)
   have ht:=hw.2
   rw [Sv.till_eq _ last.f0 last.f1,wz] at ht
   have q:=of_decide_eq_true ht
   have:=last.now
   omega
  have E0:Hid (er = 0):=by
   show er = 0
   by_cases hm:s.mode = 0
   ·exact (hT.step hld hm).2.2.2
   ·by_cases q:s.wide
    ·exact (hT.in' hld hm q).2.2.2
    ·exact (hT.out hld hm q).2.2.2
  clear h ho hI hT hM
  go_enter Tryz.func91,Tryz.ntmps91
  go_upto_region 1 with fail
  generalize hV:w.alloc (.cells #[.int .i64 0,.int .i64 0] 98) = V at *
  clear hV
  have c6:=(B0.out.cell (p:=⟨b,6,none⟩) lb).trans c6
  go_wp2_with fail
  refine (IN.out _ B0.out).mono ?_
  rintro e w1 ⟨rfl,hb1⟩
  have B1:=hid' (B0.out.trans (hb1.mono B0.out.size))
  have R1:=hid' ((hb1.block _ (lt_of_heap R0.out)).trans R0.out)
  clear hb1 IN c6
  go_wp2_with fail
  refine (OF.out _ B1.out).mono ?_
  rintro e w2 ⟨⟨n,o,rfl,ho1,ho2⟩,hb2⟩
  have B2:=hid' (B1.out.trans (hb2.mono B1.out.size))
  have R2:=hid' ((hb2.block _ (lt_of_heap R1.out)).trans R1.out)
  clear hb2 OF
  cases o with
  | true =>
   have hw:=ho1.1 rfl
   have hm:=H0.out hw
   have q1:=(HT.out.in' hld hm hw).1
   have q2:=(HT.out.in' hld hm hw).2.1
   have en:=ho2 rfl
   subst en
   have SMW:=hid' (SM.out _ B2.out hm hw)
   rw [← q1,← q2] at SMW
   clear ho1 ho2 hw hm q1 q2 SM hld
   go_wp2_with fail
   refine SMW.out.mono ?_
   rintro e w3 ⟨rfl,hb3⟩
   have B3:=hid' (B2.out.trans (hb3.mono B2.out.size))
   have R3:=hid' ((hb3.block _ (lt_of_heap R2.out)).trans R2.out)
   have n0:=cell_of_row _ _ 0 _ _ _ R3.out
   have n1:=cell_of_row _ _ 1 _ _ _ R3.out
   have nf0:=frozen_of_row _ _ 0 _ _ R3.out
   have nf1:=frozen_of_row _ _ 1 _ _ R3.out
   simp at n0 n1
   clear hb3 SMW
   go_wp2
   try simp only [Exit.inBlock,Exit.then]
   refine bodyPost_ret (results_row_tt (p:=2) (u:=3) (v:=4) rfl _ _ w.heap.size #[.int .i64 ts,.int .i64 tf] rfl (load_ptime (two_row R3.out) rfl)) rfl ?_
   rw [E0.out]
   exact ⟨rfl,(B3.out.setCell (p:=⟨w.heap.size,0,none⟩) (Nat.le_refl _) _).setCell (p:=⟨w.heap.size,1,none⟩) (Nat.le_refl _) _⟩
  | false =>
   have hw:¬ s.wide:=fun q => by cases ho1.2 q
   have hu:ts = s.utc ∧ tf = s.nf:=by
    by_cases hm:s.mode = 0
    ·have q:=HT.out.step hld hm;exact ⟨q.1,q.2.1⟩
    ·have q:=HT.out.out hld hm hw;exact ⟨q.1,q.2.1⟩
   have USW:=hid' (US.out _ B2.out)
   rw [← hu.1,← hu.2] at USW
   clear ho1 ho2 hw hu US hld
   go_wp2_with fail
   refine USW.out.mono ?_
   rintro e w3 ⟨rfl,hb3⟩
   have B3:=hid' (B2.out.trans (hb3.mono B2.out.size))
   have R3:=hid' ((hb3.block _ (lt_of_heap R2.out)).trans R2.out)
   have n0:=cell_of_row _ _ 0 _ _ _ R3.out
   have n1:=cell_of_row _ _ 1 _ _ _ R3.out
   have nf0:=frozen_of_row _ _ 0 _ _ R3.out
   have nf1:=frozen_of_row _ _ 1 _ _ R3.out
   simp at n0 n1
   clear hb3 USW
   go_wp2
   try simp only [Exit.inBlock,Exit.then]
   refine bodyPost_ret (results_row_tt (p:=2) (u:=3) (v:=4) rfl _ _ w.heap.size #[.int .i64 ts,.int .i64 tf] rfl (load_ptime (two_row R3.out) rfl)) rfl ?_
   rw [E0.out]
   exact ⟨rfl,(B3.out.setCell (p:=⟨w.heap.size,0,none⟩) (Nat.le_refl _) _).setCell (p:=⟨w.heap.size,1,none⟩) (Nat.le_refl _) _⟩
theorem p_now (b:Nat) (s:Sv) (F:Nat → Prop) (ts tf li er:Int) (w:World) (h:PS b s F w) (hI:s.Inv) (hT:s.Told ts tf li er):Tells 55 b ts tf li er w:=by
 obtain ⟨dv,cv,op,bs,bf,r,o,_⟩:=h
 have B0:=hid' ((Below.refl w.heap.size w).alloc (Nat.le_refl _) (.cells #[.int .i64 0,.int .i64 0] 98))
 have R0:=hid' (heap_alloc_new w (.cells #[.int .i64 0,.int .i64 0] 98))
 have SA:=hid' (srv_now b s dv cv op bs bf ts tf li er _ (r.below B0.out) o hI hT)
 clear r o hI hT
 unfold Tells
 go_enter Tryz.func55,Tryz.ntmps55
 go_wp2_with fail
 refine SA.out.mono ?_
 rintro e w1 ⟨rfl,hb1⟩
 have R1:=hid' ((hb1.block _ (lt_of_heap R0.out)).trans R0.out)
 have B1:=hid' (B0.out.trans (hb1.mono B0.out.size))
 have n0:=cell_of_row _ _ 0 _ _ _ R1.out
 have n1:=cell_of_row _ _ 1 _ _ _ R1.out
 have nf0:=frozen_of_row _ _ 0 _ _ R1.out
 have nf1:=frozen_of_row _ _ 1 _ _ R1.out
 simp at n0 n1
 clear hb1 SA
 go_wp2
 try simp only [Exit.inBlock,Exit.then]
 refine bodyPost_ret (results_row_tt (p:=2) (u:=3) (v:=4) rfl _ _ w.heap.size #[.int .i64 ts,.int .i64 tf] rfl (load_ptime (two_row R1.out) rfl)) rfl ?_
 exact ⟨rfl,(B1.out.setCell (p:=⟨w.heap.size,0,none⟩) (Nat.le_refl _) _).setCell (p:=⟨w.heap.size,1,none⟩) (Nat.le_refl _) _⟩
end Go.Proofs.YtmmkhodaljpjgaaGreatDoor
namespace Go.Proofs.YtmmkhodaljpjgaaGreatDoor
open Go.RowKit
theorem first_bits' (li:Int) (p:ByteArray) (l0:0 < p.size) (hl:li = 0 ∨ li = 1 ∨ li = 2 ∨ li = 3):bits BinOp.or IntKind.u8 (bits BinOp.or IntKind.u8 (li * 64) (((p[0]'l0).toNat:Int) / 8 % 8 * 8)) 4 = ((first8 li p).toNat:Int):=by
 rw [first_or' _ _ hl]
 unfold first8
 rw [byteOf_val,Txt.byte_at p 0 l0]
 have:=(p[0]'l0).toNat_lt
 omega
theorem mk_app (a b:List UInt8):ByteArray.mk (a ++ b).toArray = ByteArray.mk a.toArray ++ ByteArray.mk b.toArray:=by
 apply ByteArray.ext
 simp
theorem p_ans (p:ByteArray) (li ts tf:Int) (tab:Bool) (w:World) (hz:48 ≤ p.size) (hz2:p.size ≤ 300) (hl:li = 0 ∨ li = 1 ∨ li = 2 ∨ li = 3) :
  Calls Tryz.prog 145 #[.string p,.int .i64 li,.bool tab,.agg #[.int .i64 ts,.int .i64 tf]] w fun e w' => e = .returned (.string (ansB li p tab ts tf)) ∧ Below w.heap.size w w':=by
 have l0:0 < p.size:=by omega
 have l2:2 < p.size:=by omega
 have FO:=first_bits' li p l0 hl
 have PV:=hid' (fun W => p_version (p[0]'l0) W)
 obtain ⟨Fi,hF⟩:∃ Fi:Int,((first8 li p).toNat:Int) = Fi:=⟨_,rfl⟩
 rw [hF] at FO
 have fb:0 ≤ Fi ∧ Fi < 256:=by have:=(first8 li p).toNat_lt;omega
 have h2:byteOf (Txt.byte p 2) = p[2]'l2:=by
  rw [Txt.byte_at p 2 l2]
  unfold byteOf
  have:=(p[2]'l2).toNat_lt
  rw [Int.emod_eq_of_lt (by omega) (by omega)]
  simp
 have HR:Hid (ansB li p tab ts tf = ByteArray.mk #[first8 li p,if tab then 1 else 0,p[2]'l2,236,0,0,0,0,0,0,0,0] ++ (if tab then ByteArray.mk #[76,69,65,80] else ByteArray.mk #[73,78,73,84]) ++ ⟨(four ts ++ four tf).toArray⟩ ++ p.extract 40 48 ++ ⟨(four ts ++ four tf).toArray⟩ ++ ⟨(four ts ++ four tf).toArray⟩):=by
  show ansB _ _ _ _ _ = _
  unfold ansB;rw [h2]
 have B0:=hid' ((Below.refl w.heap.size w).alloc (Nat.le_refl _) (.cells #[.int .i64 ts,.int .i64 tf] 98))
 have R0:=hid' (heap_alloc_new w (.cells #[.int .i64 ts,.int .i64 tf] 98))
 have i2:(2:Int) < (p.size:Int):=by omega
 have i48:(48:Int) ≤ (p.size:Int):=by omega
 have i40:(40:Int) ≤ (p.size:Int):=by omega
 have z1:¬ (p.size:Int) < 48:=by omega
 have hlb:0 ≤ li ∧ li ≤ 3:=by omega
 have vb:0 ≤ ((p[0]'l0).toNat:Int) / 8 % 8 ∧ ((p[0]'l0).toNat:Int) / 8 % 8 < 8:=by omega
 generalize ((p[0]'l0).toNat:Int) / 8 % 8 = ve at *
 have bb2:=(p[2]'l2).toNat_lt
 have SA:Hid (ByteArray.mk (four ts ++ four tf).toArray = ByteArray.mk (four ts).toArray ++ ByteArray.mk (four tf).toArray):=mk_app _ _
 rw [SA.out] at HR
 have P1:=hid' (fun W => p_four ts W)
 have P2:=hid' (fun W => p_four tf W)
 have za:(ByteArray.mk (four ts).toArray).size = 4:=rfl
 have zb:(ByteArray.mk (four tf).toArray).size = 4:=rfl
 generalize ByteArray.mk (four ts).toArray = a4 at *
 generalize ByteArray.mk (four tf).toArray = b4 at *
 have ze:(p.extract 40 48).size = 8:=by rw [ByteArray.size_extract];omega
 have sV:(w.alloc (.cells #[.int .i64 ts,.int .i64 tf] 98)).heap.size = w.heap.size + 1:=by simp
 clear h2 hl SA
 cases tab with
 | false =>
  have TW:=four_back (w.alloc (.cells #[.int .i64 ts,.int .i64 tf] 98)) (first8 li p) 0 (p[2]'l2) 236 Fi 0 ((p[2]'l2).toNat:Int) 236 hF.symm rfl rfl rfl
  rw [sV] at TW
  have BV:=hid' (B0.out.alloc B0.out.size (.cells #[.int .u8 Fi,.int .u8 0,.int .u8 ((p[2]'l2).toNat:Int),.int .u8 236] 5))
  have RV:=hid' ((((Below.refl _ (w.alloc (.cells #[.int .i64 ts,.int .i64 tf] 98))).alloc (Nat.le_refl _) (.cells #[.int .u8 Fi,.int .u8 0,.int .u8 ((p[2]'l2).toNat:Int),.int .u8 236] 5)).block _ (lt_of_heap R0.out)).trans R0.out)
  clear sV B0 R0
  go_enter Tryz.func145,Tryz.ntmps145
  go_wp2_with (go_at_call 179;refine (PV.out _).mono ?_;rintro e w1 ⟨rfl,rfl⟩)
  clear TW FO PV
  obtain ⟨V,hV⟩:∃ V,(w.alloc (.cells #[.int .i64 ts,.int .i64 tf] 98)).alloc (.cells #[.int .u8 Fi,.int .u8 0,.int .u8 ((p[2]'l2).toNat:Int),.int .u8 236] 5) = V:=⟨_,rfl⟩
  rw [hV] at BV RV
  rw [hV]
  clear hV
  have y0:=cell_of_row _ _ 0 _ _ _ RV.out
  have y1:=cell_of_row _ _ 1 _ _ _ RV.out
  simp at y0 y1
  have lV:=lt_of_heap RV.out
  go_region_held3 (fun w' => w'.cell? ⟨w.heap.size,0,none⟩ = some (.int .i64 ts) ∧ w'.cell? ⟨w.heap.size,1,none⟩ = some (.int .i64 tf)) (first | go_keep | assumption)
   (first
    | (go_at_call_of 181 (Value.int .i64 ts);refine (P1.out _).mono ?_;rintro e w8 ⟨rfl,hb8⟩;have HB8:=hid' hb8;have m0:=hb8.cell (p:=⟨w.heap.size,0,none⟩) lV;have m1:=hb8.cell (p:=⟨w.heap.size,1,none⟩) lV;have lV8:=Nat.lt_of_lt_of_le lV hb8.size;clear hb8)
    | (go_at_call_of 181 (Value.int .i64 tf);refine (P2.out _).mono ?_;rintro e w9 ⟨rfl,hb9⟩;have HB9:=hid' hb9;have m2:=hb9.cell (p:=⟨w.heap.size,0,none⟩) lV8;have m3:=hb9.cell (p:=⟨w.heap.size,1,none⟩) lV8;clear hb9))
  all_goals
   go_wp2
   go_ret
   exact ⟨by rw [HR.out];rfl,(BV.out.drew.trans (HB8.out.mono BV.out.drew.size)).trans (HB9.out.mono (Nat.le_of_lt lV8))⟩
 | true =>
  have TW:=four_back (w.alloc (.cells #[.int .i64 ts,.int .i64 tf] 98)) (first8 li p) 1 (p[2]'l2) 236 Fi 1 ((p[2]'l2).toNat:Int) 236 hF.symm rfl rfl rfl
  rw [sV] at TW
  have BV:=hid' (B0.out.alloc B0.out.size (.cells #[.int .u8 Fi,.int .u8 1,.int .u8 ((p[2]'l2).toNat:Int),.int .u8 236] 5))
  have RV:=hid' ((((Below.refl _ (w.alloc (.cells #[.int .i64 ts,.int .i64 tf] 98))).alloc (Nat.le_refl _) (.cells #[.int .u8 Fi,.int .u8 1,.int .u8 ((p[2]'l2).toNat:Int),.int .u8 236] 5)).block _ (lt_of_heap R0.out)).trans R0.out)
  clear sV B0 R0
  go_enter Tryz.func145,Tryz.ntmps145
  go_wp2_with (go_at_call 179;refine (PV.out _).mono ?_;rintro e w1 ⟨rfl,rfl⟩)
  clear TW FO PV
  obtain ⟨V,hV⟩:∃ V,(w.alloc (.cells #[.int .i64 ts,.int .i64 tf] 98)).alloc (.cells #[.int .u8 Fi,.int .u8 1,.int .u8 ((p[2]'l2).toNat:Int),.int .u8 236] 5) = V:=⟨_,rfl⟩
  rw [hV] at BV RV
  rw [hV]
  clear hV
  have y0:=cell_of_row _ _ 0 _ _ _ RV.out
  have y1:=cell_of_row _ _ 1 _ _ _ RV.out
  simp at y0 y1
  have lV:=lt_of_heap RV.out
  go_region_held3 (fun w' => w'.cell? ⟨w.heap.size,0,none⟩ = some (.int .i64 ts) ∧ w'.cell? ⟨w.heap.size,1,none⟩ = some (.int .i64 tf)) (first | go_keep | assumption)
   (first
    | (go_at_call_of 181 (Value.int .i64 ts);refine (P1.out _).mono ?_;rintro e w8 ⟨rfl,hb8⟩;have HB8:=hid' hb8;have m0:=hb8.cell (p:=⟨w.heap.size,0,none⟩) lV;have m1:=hb8.cell (p:=⟨w.heap.size,1,none⟩) lV;have lV8:=Nat.lt_of_lt_of_le lV hb8.size;clear hb8)
    | (go_at_call_of 181 (Value.int .i64 tf);refine (P2.out _).mono ?_;rintro e w9 ⟨rfl,hb9⟩;have HB9:=hid' hb9;have m2:=hb9.cell (p:=⟨w.heap.size,0,none⟩) lV8;have m3:=hb9.cell (p:=⟨w.heap.size,1,none⟩) lV8;clear hb9))
  all_goals
   go_wp2
   go_ret
   exact ⟨by rw [HR.out];rfl,(BV.out.drew.trans (HB8.out.mono BV.out.drew.size)).trans (HB9.out.mono (Nat.le_of_lt lV8))⟩
theorem srv_answer_no (b:Nat) (p:ByteArray) (w:World) (hs:p.size ≤ 1000000) (ha:Txt.asks p = false) :
  Calls Tryz.prog 102 #[.pointer (some ⟨b,0,none⟩),.string p] w fun e w' => e = .returned (.tuple #[.string ⟨#[]⟩,.int .i64 14]) ∧ Below w.heap.size w w':=by
 have HA:=p_clients p w hs
 rw [ha] at HA
 have HA:=hid' HA
 go_enter Tryz.func102,Tryz.ntmps102
 go_wp2_with fail
 refine HA.out.mono ?_
 rintro e w1 ⟨rfl,b1⟩
 have B1:=hid' b1
 clear b1 HA
 go_wp2
 go_ret2
 exact ⟨rfl,B1.out⟩
theorem srv_answer_yes (b:Nat) (p:ByteArray) (ts tf li er:Int) (w:World) (hs:p.size ≤ 1000000) (ha:Txt.asks p = true) (hN:∀ W,Below w.heap.size w W → Tells 91 b ts tf li er W) (hl:li = 0 ∨ li = 1 ∨ li = 2 ∨ li = 3) :
  Calls Tryz.prog 102 #[.pointer (some ⟨b,0,none⟩),.string p] w fun e w' => e = .returned (.tuple #[.string (ansB li p (er == 0) ts tf),.int .i64 0]) ∧ Below w.heap.size w w':=by
 have HA:=p_clients p w hs
 rw [ha] at HA
 have HA:=hid' HA
 have hz:48 ≤ p.size ∧ p.size ≤ 300:=by
  have h:=ha
  unfold Txt.asks at h
  simp only [Bool.and_eq_true,decide_eq_true_eq] at h
  exact ⟨h.1.1.1.1.1,h.1.1.1.1.2⟩
 have PA:=hid' (fun W => p_ans p li ts tf (er == 0) W hz.1 hz.2 hl)
 have HN:=hid' hN
 clear hN ha hz hl
 generalize ansB li p (er == 0) ts tf = res at *
 go_enter Tryz.func102,Tryz.ntmps102
 go_wp2_with fail
 refine HA.out.mono ?_
 rintro e w1 ⟨rfl,b1⟩
 have B1:=hid' b1
 clear b1 HA
 go_wp2_with fail
 refine Calls.mono (HN.out _ B1.out) ?_
 rintro e w2 ⟨rfl,b2⟩
 have a2:=(Below.refl w2.heap.size w2).alloc (Nat.le_refl _) (.cells #[.int .i64 ts,.int .i64 tf] 98)
 have B2:=hid' (B1.out.trans ((b2.trans (a2.mono b2.size)).mono B1.out.size))
 have T2:=hid' (heap_alloc_new w2 (.cells #[.int .i64 ts,.int .i64 tf] 98))
 clear b2 a2 HN
 go_wp2_with fail
 refine (PA.out _).mono ?_
 rintro e w3 ⟨rfl,b3⟩
 have B3:=hid' (B2.out.trans (b3.mono B2.out.size))
 clear b3 PA
 go_wp2
 go_ret2
 exact ⟨rfl,B3.out⟩
theorem p_answer_no (b:Nat) (p:ByteArray) (s:Sv) (F:Nat → Prop) (w:World) (h:PS b s F w) (hs:p.size ≤ 1000000) (ha:Txt.asks p = false):Ans 57 b p ⟨#[]⟩ 14 w:=by
 obtain ⟨dv,cv,op,bs,bf,r,o,_⟩:=h
 have SA:=hid' (srv_answer_no b p w hs ha)
 clear o ha
 unfold Ans
 go_enter Tryz.func57,Tryz.ntmps57
 go_wp2_with fail
 refine SA.out.mono ?_
 rintro e w1 ⟨rfl,hb1⟩
 have B1:=hid' hb1
 clear hb1 SA
 go_wp2
 go_ret2
 exact ⟨rfl,B1.out⟩
theorem p_answer_yes (b:Nat) (p:ByteArray) (s:Sv) (F:Nat → Prop) (ts tf li er:Int) (w:World) (h:PS b s F w) (hI:s.Inv) (hT:s.Told ts tf li er) (hs:p.size ≤ 1000000) (ha:Txt.asks p = true) (hl:li = 0 ∨ li = 1 ∨ li = 2 ∨ li = 3):Ans 57 b p (ansB li p (er == 0) ts tf) 0 w:=by
 obtain ⟨dv,cv,op,bs,bf,r,o,_⟩:=h
 have SA:=hid' (srv_answer_yes b p ts tf li er w hs ha (fun W hb => srv_now b s dv cv op bs bf ts tf li er W (r.below hb) o hI hT) hl)
 clear o hI hT ha hl
 unfold Ans
 generalize ansB li p (er == 0) ts tf = res at *
 go_enter Tryz.func57,Tryz.ntmps57
 go_wp2_with fail
 refine SA.out.mono ?_
 rintro e w1 ⟨rfl,hb1⟩
 have B1:=hid' hb1
 clear hb1 SA
 go_wp2
 go_ret2
 exact ⟨rfl,B1.out⟩
end Go.Proofs.YtmmkhodaljpjgaaGreatDoor
