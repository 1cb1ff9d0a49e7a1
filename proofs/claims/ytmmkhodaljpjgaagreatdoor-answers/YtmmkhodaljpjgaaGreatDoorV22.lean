import Derived.Test.YtmmkhodaljpjgaaGreatDoorV20
namespace Go.Proofs.YtmmkhodaljpjgaaGreatDoor
open Go.RowKit
attribute [local go_sem ↓] Go.wp_at_zero Go.wp_at_succ
set_option maxRecDepth 100000 in
set_option maxHeartbeats 6400000 in
theorem srv_advance (b:Nat) (s:Sv) (dv cv:Value) (op:Bool) (bs bf x y:Int) (w:World) (h:PRow b s dv cv op bs bf w) (ho:Opn s op bs bf) (hI:s.Inv) :
  Calls Tryz.prog 107 #[.pointer (some ⟨b,0,none⟩),.agg #[.int .i64 x,.int .i64 y]] w fun e w' => e = .returned (.int .i64 (s.adv x y).1) ∧ PPost b (pFoot b dv cv) w (s.adv x y).2 w':=by
 have B0:=hid' ((Below.refl w.heap.size w).alloc (Nat.le_refl _) (.cells #[.int .i64 x,.int .i64 y] 98))
 have R0:=hid' (heap_alloc_new w (.cells #[.int .i64 x,.int .i64 y] 98))
 have P0:=hid' (h.below B0.out)
 have SU:=hid' (fun W => clk_sum s.ns s.nf x y W hI.num.t)
 have HCS:Hid (clkSum s.ns s.nf x y = if isT x y = false then ((0,0),false) else if isT (tSum s.ns s.nf x y).1 (tSum s.ns s.nf x y).2 = false then ((0,0),false) else (tSum s.ns s.nf x y,true)):=rfl
 have HAD:Hid (s.adv x y = if isT x y = false then (9,s) else if isT (tSum s.ns s.nf x y).1 (tSum s.ns s.nf x y).2 = false then (9,s) else (0,(s.at' (tSum s.ns s.nf x y).1 (tSum s.ns s.nf x y).2).weigh)):=rfl
 have HLT:=hid' (fun h => tSum_later (a:=s.ns) (b:=s.nf) (s:=x) (f:=y) h hI.num.t)
 have HI:=hid' hI
 have HO:=hid' ho
 have HP:=hid' h
 generalize s.adv x y = ad at *
 generalize clkSum s.ns s.nf x y = cs at *
 obtain ⟨⟨c1,c2⟩,ok⟩:=cs
 simp only at SU
 clear h ho hI
 go_enter Tryz.func107,Tryz.ntmps107
 go_upto_region 1 with fail
 generalize hV:w.alloc (.cells #[.int .i64 x,.int .i64 y] 98) = V at *
 generalize hQ:w.heap.size = Q at *
 clear hV
 have q2:=P0.out.c4
 have q3:=P0.out.c5
 have d0:=cell_of_row _ _ 0 _ _ _ R0.out
 have d1:=cell_of_row _ _ 1 _ _ _ R0.out
 have lb:=lt_of_heap P0.out.row
 have lq:=lt_of_heap R0.out
 simp at d0 d1
 go_cut [5,6] from 7 (fun s5 s6 wx => s6 = .bool ok ∧ ∃ q,s5 = .pointer (some ⟨q,0,none⟩) ∧ Below V.heap.size V wx ∧ wx.heap[q]? = some (.cells #[.int .i64 c1,.int .i64 c2] 98 (0,0)))
 case first =>
  go_region_with (go_at_call 147;refine (SU.out _).mono ?_;rintro e w1 ⟨rfl,hb1⟩;(try (have hrow:=(hb1.block V.heap.size (by exact Nat.lt_of_lt_of_eq (Nat.lt_succ_self _) (alloc_sz V (.cells #[.int .i64 0,.int .i64 0] 98)).symm)).trans (heap_alloc_new V.drew (.cells #[.int .i64 0,.int .i64 0] 98));have z0:=cell_of_row _ _ 0 _ _ _ hrow;have z1:=cell_of_row _ _ 1 _ _ _ hrow;have zf0:=frozen_of_row _ _ 0 _ _ hrow;have zf1:=frozen_of_row _ _ 1 _ _ hrow;simp at z0 z1;have HROW:=hid' hrow;clear hrow));have HB1:=hid' hb1;clear hb1)
  all_goals
   go_wp2_with fail
   go_meet
   case rel =>
    first
     | exact ⟨rfl,_,rfl,((Below.refl _ _).drew.trans HB1.out).alloc (by exact HB1.out.size) _,by exact heap_alloc_new _ _⟩
     | exact ⟨rfl,_,rfl,((((Below.refl V.heap.size V).drew.alloc (Nat.le_refl _) (.cells #[.int .i64 0,.int .i64 0] 98)).trans (HB1.out.mono (by exact Nat.le_of_lt (Nat.lt_of_lt_of_eq (Nat.lt_succ_self _) (alloc_sz V (.cells #[.int .i64 0,.int .i64 0] 98)).symm)))).setCell (p:=⟨V.heap.size,0,none⟩) (Nat.le_refl _) _).setCell (p:=⟨V.heap.size,1,none⟩) (Nat.le_refl _) _,by exact two_row HROW.out⟩
 case rest =>
  obtain ⟨rfl,q,rfl,bel,qrow⟩:=hcut
  rename World => W1
  have BW:=hid' (B0.out.trans (bel.mono (by have:=B0.out.size;omega)))
  have P1:=hid' (P0.out.below bel)
  have QR:=hid' qrow
  clear bel q2 q3 d0 d1
  cases ok with
  | false =>
   have hne:Hid (ad = (9,s)):=by
    show _ = _
    rw [HAD.out]
    by_cases z1:isT x y = false
    ·rw [if_pos z1]
    ·rw [if_neg z1]
     by_cases z2:isT (tSum s.ns s.nf x y).1 (tSum s.ns s.nf x y).2 = false
     ·rw [if_pos z2]
     ·have:=HCS.out
      rw [if_neg z1,if_neg z2] at this
      cases this
   clear qrow
   go_wp2
   go_ret
   rw [hne.out]
   exact ⟨rfl,pFoot b dv cv,⟨dv,cv,op,bs,bf,P1.out,HO.out,fun k => Iff.rfl⟩,Off.of_below (by rw [hQ];exact BW.out),fun k e => .inl e⟩
  | true =>
   have hyes:Hid (tLater s.ns s.nf c1 c2 = false ∧ isT c1 c2 = true ∧ ad = (0,(s.at' c1 c2).weigh)):=by
    show _ ∧ _
    by_cases z1:isT x y = false
    ·have:=HCS.out
     rw [if_pos z1] at this
     cases this
    ·by_cases z2:isT (tSum s.ns s.nf x y).1 (tSum s.ns s.nf x y).2 = false
     ·have:=HCS.out
      rw [if_neg z1,if_pos z2] at this
      cases this
     ·have e:=HCS.out
      rw [if_neg z1,if_neg z2] at e
      have ea:=HAD.out
      rw [if_neg z1,if_neg z2] at ea
      have l:=HLT.out (by simpa using z1)
      have t:=z2
      have e':tSum s.ns s.nf x y = (c1,c2):=(Prod.mk.inj e).1.symm
      rw [e'] at ea l t
      exact ⟨l,by simpa using t,ea⟩
   have o0:=cell_of_row _ _ 0 _ _ _ qrow
   have o1:=cell_of_row _ _ 1 _ _ _ qrow
   have g2:=P1.out.c4
   have g3:=P1.out.c5
   have f2:=frozen_of_row _ _ 4 _ _ P1.out.row
   have f3:=frozen_of_row _ _ 5 _ _ P1.out.row
   simp at o0 o1
   have ne1:q ≠ b:=fun e => by
    have h1:=QR.out
    rw [e,P1.out.row] at h1
    simp at h1
   have ne2:b ≠ q:=fun e => ne1 e.symm
   have P2:=hid' (P1.out.putN c1 c2)
   have LA:=hid' (look_around b (s.at' c1 c2) dv cv op bs bf _ P2.out (HO.out.at' hyes.out.1) (HI.out.num.at' hyes.out.2.1) (fun e => (HI.out.mid e).at' c1 c2 hyes.out.1) (fun e => by have:=HI.out.ex e;exact ⟨by show 0 ≤ s.ex;omega,by show s.ex ≤ _;omega⟩))
   clear qrow
   go_wp2_with fail
   refine LA.out.mono ?_
   rintro e w5 ⟨rfl,F5,pr,of,ff⟩
   have PR:=hid' pr
   have OF:=hid' of
   have FF:=hid' ff
   clear pr of ff LA
   go_wp2
   go_ret
   rw [hyes.out.2.2]
   have O1:Off (pFoot b dv cv) w ((W1.setCell ⟨b,4,none⟩ (.int .i64 c1)).setCell ⟨b,5,none⟩ (.int .i64 c2)):=((Off.of_below (by rw [hQ];exact BW.out)).setCell (p:=⟨b,4,none⟩) (fun _ => .inl rfl) _).setCell (p:=⟨b,5,none⟩) (fun _ => .inl rfl) _
   have sz1:=O1.size
   refine ⟨rfl,F5,PR.out,O1.trans OF.out (fun k _ e => e),fun k e => ?_⟩
   rcases FF.out k e with z | z
   ·exact .inl z
   ·exact .inr (by omega)
set_option maxRecDepth 100000 in
theorem p_advance (s:Sv) (x y:Int) (hI:s.Inv):PDoes PS 62 (fun q => #[.pointer (some ⟨q,0,none⟩),.agg #[.int .i64 x,.int .i64 y]]) s (s.adv x y).2 (s.adv x y).1 (fun _ => True):=by
 intro b F w hp _
 obtain ⟨dv,cv,op,bs,bf,r,o,f⟩:=hp
 have B0:=hid' ((Below.refl w.heap.size w).alloc (Nat.le_refl _) (.cells #[.int .i64 x,.int .i64 y] 98))
 have SA:=hid' (fun (W:World) (hb:Below (w.alloc (.cells #[.int .i64 x,.int .i64 y] 98)).heap.size (w.alloc (.cells #[.int .i64 x,.int .i64 y] 98)) W) => srv_advance b s dv cv op bs bf x y W ((r.below B0.out).below hb) o hI)
 have HF:=hid' f
 clear r o f hI
 go_enter Tryz.func62,Tryz.ntmps62
 go_wp2_with fail
 go_region_with (go_at_call 107;refine (SA.out _ (by exact (Below.refl _ _).drew)).mono ?_;rintro e w1 ⟨rfl,F',ps,of,ff⟩;have PSH:=hid' ps;have OF:=hid' of;have FF:=hid' ff;clear ps of ff)
 all_goals
  go_wp2
  go_ret
  have sz:=B0.out.size
  refine ⟨rfl,F',PSH.out,(Off.of_below B0.out.drew).trans OF.out (fun k _ e => (HF.out k).2 e),fun k e => ?_⟩
  rcases FF.out k e with z | z
  ·exact .inl ((HF.out k).2 z)
  ·exact .inr (Nat.le_trans sz z)
end Go.Proofs.YtmmkhodaljpjgaaGreatDoor
namespace Go.Proofs.YtmmkhodaljpjgaaGreatDoor
open Go.RowKit
attribute [local go_sem ↓] Go.wp_at_zero Go.wp_at_succ
set_option maxRecDepth 100000 in
set_option maxHeartbeats 6400000 in
theorem srv_hear (b:Nat) (s:Sv) (dv cv:Value) (op:Bool) (bs bf src leap:Int) (w:World) (h:PRow b s dv cv op bs bf w) (ho:Opn s op bs bf) (hI:s.Inv) :
  Calls Tryz.prog 113 #[.pointer (some ⟨b,0,none⟩),.int .i64 src,.int .i64 leap] w fun e w' => e = .returned (.int .i64 (s.hear src leap).1) ∧ PPost b (pFoot b dv cv) w (s.hear src leap).2 w':=by
 have HP:=hid' h
 have HO:=hid' ho
 have HI:=hid' hI
 have HH:Hid (s.hear src leap = if src < 0 ∨ (s.said.length:Int) ≤ src then (13,s) else if leap < 0 ∨ 3 < leap then (14,s) else (0,(s.says src.toNat leap).weigh)):=rfl
 have c2:=h.c2
 have sl:=h.sl
 have VI:=hid' (fun W => v_is leap W)
 generalize s.hear src leap = ad at *
 clear h ho hI
 by_cases a1:src < 0
 ·have H:Hid (ad = (13,s)):=by show _ = _;rw [HH.out,if_pos (.inl a1)]
  go_enter Tryz.func113,Tryz.ntmps113
  go_wp2
  go_ret
  rw [H.out]
  exact ⟨rfl,DueP.post ⟨dv,cv,op,bs,bf,HP.out,HO.out,Off.refl _ _,fun j q => .inl q⟩⟩
 ·by_cases a2:(s.said.length:Int) ≤ src
  ·have H:Hid (ad = (13,s)):=by show _ = _;rw [HH.out,if_pos (.inr a2)]
   go_enter Tryz.func113,Tryz.ntmps113
   go_wp2
   go_ret
   rw [H.out]
   exact ⟨rfl,DueP.post ⟨dv,cv,op,bs,bf,HP.out,HO.out,Off.refl _ _,fun j q => .inl q⟩⟩
  ·by_cases a3:0 ≤ leap ∧ leap ≤ 3
   ·obtain ⟨k,rfl⟩:∃ k:Nat,src = (k:Int):=⟨src.toNat,by omega⟩
    have hk:k < s.said.length:=by omega
    have e1:(decide (0 ≤ leap) && decide (leap ≤ 3)) = true:=by rw [decide_eq_true a3.1,decide_eq_true a3.2];rfl
    rw [e1] at VI
    have H:Hid (ad = (0,(s.says k leap).weigh)):=by show _ = _;rw [HH.out,if_neg (by omega),if_neg (by omega),Int.toNat_natCast]
    have VH:=hid' (fun (W:World) (hb:Below w.heap.size w W) => v_hear b s dv cv op bs bf leap k W (HP.out.below hb) hk)
    have c4:=HP.out.c4
    have c5:=HP.out.c5
    have HSN:=hid' (Sv.says_num HI.out.num k leap a3.1 a3.2)
    clear HH a1 a3 e1
    go_enter Tryz.func113,Tryz.ntmps113
    go_wp2_with fail
    refine (VI.out _).mono ?_
    rintro e w1 ⟨rfl,hw1⟩
    subst w1
    go_wp2_with fail
    go_region_with (go_at_call 155;refine (VH.out _ (by exact (Below.refl _ _).drew)).mono ?_;rintro e w2 ⟨rfl,pr2,of2⟩;have PR2:=hid' pr2;have OF2:=hid' ((Off.of_below (F:=pFoot b dv cv) ((Below.refl w.heap.size w).drew)).trans of2 (fun _ _ q => q));clear pr2 of2)
    all_goals
     have LA:=hid' (look_around b (s.says k leap) dv cv op bs bf w2 PR2.out (HO.out.says k leap) HSN.out (fun e => Sv.says_mid (HI.out.mid e) k leap) (fun e => by have:=HI.out.ex e;exact ⟨by show 0 ≤ s.ex;omega,by show s.ex ≤ _;omega⟩))
     clear c2 c4 c5
     go_wp2_with fail
     refine LA.out.mono ?_
     rintro e w3 ⟨rfl,F3,ps,of,ff⟩
     have PSH:=hid' ps
     have OF:=hid' of
     have FF:=hid' ff
     clear ps of ff LA
     go_wp2
     go_ret
     rw [H.out]
     have sz:=OF2.out.size
     refine ⟨rfl,F3,PSH.out,OF2.out.trans OF.out (fun _ _ q => q),fun j q => ?_⟩
     rcases FF.out j q with z | z
     ·exact .inl z
     ·exact .inr (by omega)
   ·have e1:(decide (0 ≤ leap) && decide (leap ≤ 3)) = false:=by
     by_cases z:0 ≤ leap
     ·rw [decide_eq_false (show ¬ leap ≤ 3 from fun q => a3 ⟨z,q⟩),Bool.and_false]
     ·rw [decide_eq_false z,Bool.false_and]
    rw [e1] at VI
    have H:Hid (ad = (14,s)):=by show _ = _;rw [HH.out,if_neg (by omega),if_pos (by omega)]
    clear HH a3 e1
    go_enter Tryz.func113,Tryz.ntmps113
    go_wp2_with fail
    refine (VI.out _).mono ?_
    rintro e w1 ⟨rfl,hw1⟩
    subst w1
    go_wp2
    go_ret
    rw [H.out]
    exact ⟨rfl,DueP.post ⟨dv,cv,op,bs,bf,HP.out,HO.out,Off.refl _ _,fun j q => .inl q⟩⟩
set_option maxRecDepth 100000 in
theorem p_hear (s:Sv) (src leap:Int) (hI:s.Inv):PDoes PS 66 (fun q => #[.pointer (some ⟨q,0,none⟩),.int .i64 src,.int .i64 leap]) s (s.hear src leap).2 (s.hear src leap).1 (fun _ => True):=by
 intro b F w hp _
 obtain ⟨dv,cv,op,bs,bf,r,o,f⟩:=hp
 have SA:=hid' (fun (W:World) (hb:Below w.heap.size w W) => srv_hear b s dv cv op bs bf src leap W (r.below hb) o hI)
 have HF:=hid' f
 clear r o f hI
 go_enter Tryz.func66,Tryz.ntmps66
 go_wp2_with fail
 refine (SA.out _ (Below.refl _ _)).mono ?_
 rintro e w1 ⟨rfl,F',ps,of,ff⟩
 have PSH:=hid' ps
 have OF:=hid' of
 have FF:=hid' ff
 clear ps of ff
 go_wp2
 go_ret
 refine ⟨rfl,F',PSH.out,OF.out.mono (fun k _ e => (HF.out k).2 e),fun k e => ?_⟩
 rcases FF.out k e with z | z
 ·exact .inl ((HF.out k).2 z)
 ·exact .inr z
end Go.Proofs.YtmmkhodaljpjgaaGreatDoor
namespace Go.Proofs.YtmmkhodaljpjgaaGreatDoor
open Go.RowKit
attribute [local go_sem ↓] Go.wp_at_zero Go.wp_at_succ
theorem quo_up {a b:Int} (hb:0 < b):quo a b true = if a % b = 0 then a / b else a / b + 1:=by
 unfold quo
 rw [if_pos rfl]
 have h:=Int.mul_ediv_add_emod a b
 have m0:=Int.emod_nonneg a (show b ≠ 0 by omega)
 have m1:=Int.emod_lt_of_pos a hb
 split
 ·rename_i c
  have e:a + b - 1 = (b - 1) + (a / b) * b:=by rw [Int.mul_comm (a / b) b];omega
  rw [e,Int.add_mul_ediv_right _ _ (by omega),Int.ediv_eq_zero_of_lt (by omega) (by omega)];omega
 ·rename_i c
  have e:a + b - 1 = (a % b - 1) + (a / b + 1) * b:=by rw [Int.add_mul,Int.mul_comm (a / b) b];omega
  rw [e,Int.add_mul_ediv_right _ _ (by omega),Int.ediv_eq_zero_of_lt (by omega) (by omega)];omega
theorem tdiv_pos {a b:Int} (ha:0 ≤ a):a.tdiv b = a / b:=Int.tdiv_eq_ediv_of_nonneg ha
theorem tmod_pos {a b:Int} (ha:0 ≤ a):a.tmod b = a % b:=Int.tmod_eq_emod_of_nonneg ha
theorem p_quot (a b:Int) (up:Bool) (w:World) (a0:0 ≤ a) (b0:1 ≤ b) (a1:a ≤ 4000000000000000000) (b1:b ≤ 4000000000000000000) :
  Calls Tryz.prog 207 #[.int .i64 a,.int .i64 b,.bool up] w fun e w' => e = .returned (.int .i64 (quo a b up)) ∧ w' = w:=by
 have hd:=tdiv_pos (b:=b) a0
 have hm:=tmod_pos (b:=b) a0
 have hq0:0 ≤ a / b:=Int.ediv_nonneg a0 (by omega)
 have hq1:a / b ≤ a:=Int.ediv_le_self _ a0
 cases up with
 | false =>
  have H:Hid (quo a b false = a / b):=by show _ = _;unfold quo;rw [if_neg (by simp)]
  generalize quo a b false = r at *
  go_enter Tryz.func207,Tryz.ntmps207
  go_wp2
  go_ret
  exact ⟨by rw [H.out];first | rfl | (rw [← hd];rfl),rfl⟩
 | true =>
  have H:Hid (quo a b true = if a % b = 0 then a / b else a / b + 1):=quo_up (by omega)
  generalize quo a b true = r at *
  by_cases c:a % b = 0
  ·have c1:(a.tmod b != 0) = false:=by rw [hm,c];rfl
   have c2:(a % b != 0) = false:=by rw [c];rfl
   have H2:Hid (r = a / b):=by show _ = _;rw [H.out,if_pos c]
   clear c H
   go_enter Tryz.func207,Tryz.ntmps207
   go_wp2
   go_ret
   exact ⟨by rw [H2.out];first | rfl | (rw [← hd];rfl),rfl⟩
  ·have c1:(a.tmod b != 0) = true:=bne_iff_ne.2 (by rw [hm];exact c)
   have c2:(a % b != 0) = true:=bne_iff_ne.2 c
   have H2:Hid (r = a / b + 1):=by show _ = _;rw [H.out,if_neg c]
   clear c H
   go_enter Tryz.func207,Tryz.ntmps207
   go_wp2
   go_ret
   exact ⟨by rw [H2.out];first | rfl | (rw [← hd];rfl),rfl⟩
theorem p_curve (i:Int) (w:World) (h0:0 ≤ i) (h1:i ≤ 1024) :
  Calls Tryz.prog 208 #[.int .i64 i] w fun e w' => e = .returned (.int .i64 (gZ i)) ∧ w' = w:=by
 have a0:0 ≤ 4 * i * i:=Int.mul_nonneg (by omega) h0
 have a1:4 * i * i ≤ 4 * i * 1024:=Int.mul_le_mul_of_nonneg_left h1 (by omega)
 have HG:Hid (gZ i = 4 * i * i * (3072 - 2 * i)):=rfl
 have gb:=gZ_bd h0 h1
 rw [HG.out] at gb
 obtain ⟨a,ha⟩:∃ a,4 * i * i = a:=⟨_,rfl⟩
 rw [ha] at a0 a1 HG gb
 obtain ⟨c,hc⟩:∃ c,a * (3072 - 2 * i) = c:=⟨_,rfl⟩
 rw [hc] at HG gb
 rw [HG.out]
 have a2:a ≤ 4194304:=by omega
 clear HG
 go_enter Tryz.func208,Tryz.ntmps208
 go_wp2
 go_ret
 exact ⟨rfl,rfl⟩
theorem p_open (n W:Int) (w:World) (ok:PullOk W n) :
  Calls Tryz.prog 206 #[.int .i64 n,.int .i64 W] w fun e w' => e = .returned (.bool true) ∧ w' = w:=by
 have ⟨w0,w1,n0,n1⟩:=ok
 have n2:n < W * 4294967296:=n1
 have hx:=ok.x
 clear ok n1
 go_enter Tryz.func206,Tryz.ntmps206
 go_wp2
 go_ret
 exact ⟨ret_bool (by simp <;> omega),rfl⟩
theorem p_linear (n W:Int) (up:Bool) (w:World) (ok:PullOk W n) :
  Calls Tryz.prog 194 #[.int .i64 n,.int .i64 W,.bool up] w fun e w' => e = .returned (.int .i64 (quo (pullU 1 W n) (pullD 1 W) up)) ∧ w' = w:=by
 have e1:pullU 1 W n = n:=rfl
 have e2:pullD 1 W = W:=rfl
 rw [e1,e2]
 have hx:=ok.x
 have ⟨w0,w1,n0,n1⟩:=ok
 have QU:=hid' (fun V => p_quot n W up V n0 (by omega) (by omega) (by omega))
 have OP:=hid' (fun V => p_open n W V ok)
 generalize quo n W up = r at *
 clear ok hx n1
 go_enter Tryz.func194,Tryz.ntmps194
 go_wp2_with fail
 refine (OP.out _).mono ?_
 rintro e w1 ⟨rfl,hw⟩
 subst w1
 go_wp2_with fail
 refine (QU.out _).mono ?_
 rintro e w1 ⟨rfl,hw⟩
 subst w1
 go_wp2
 go_ret
 exact ⟨rfl,rfl⟩
theorem rise_bd {i:Int} (h0:0 ≤ i) (h1:i ≤ 1023):0 ≤ gZ (i + 1) - gZ i ∧ gZ (i + 1) - gZ i ≤ 25129000:=by
 have a:=gZ_step i
 have b:i * (1023 - i) ≤ i * 1023:=Int.mul_le_mul_of_nonneg_left (by omega) h0
 have c:0 ≤ i * (1023 - i):=Int.mul_nonneg h0 (by omega)
 omega
theorem mul_bd {a b A B:Int} (a0:0 ≤ a) (b0:0 ≤ b) (h1:a ≤ A) (h2:b ≤ B):0 ≤ a * b ∧ a * b ≤ A * B :=
 ⟨Int.mul_nonneg a0 b0,Int.mul_le_mul h1 h2 b0 (by omega)⟩
set_option maxRecDepth 100000 in
set_option maxHeartbeats 3200000 in
theorem p_smooth (n W:Int) (up:Bool) (w:World) (ok:PullOk W n) :
  Calls Tryz.prog 193 #[.int .i64 n,.int .i64 W,.bool up] w fun e w' => e = .returned (.int .i64 (quo (pullU 2 W n) (pullD 2 W) up)) ∧ w' = w:=by
 rw [← pull_smooth ok up]
 have hx:=ok.x
 have hi:=ok.i
 have hr:=ok.r
 have hix:=ok.ix
 have ⟨w0,w1,n0,n1⟩:=ok
 have n2:n < 2597596220620800:=by omega
 have eX:W * 4294967296 = pX W:=rfl
 have eI:quo (1024 * n) (pX W) false = pI W n:=rfl
 have eR:1024 * n - pI W n * pX W = pR W n:=rfl
 have gi:=gZ_bd (i:=pI W n) hi.1 (by omega)
 have rb:=rise_bd hi.1 hi.2
 have OP:=hid' (fun V => p_open n W V ok)
 have Q1:=hid' (fun V => p_quot (1024 * n) (pX W) false V (by omega) (by omega) (by omega) (by omega))
 rw [eI] at Q1
 have C0:=hid' (fun V => p_curve (pI W n) V hi.1 (by omega))
 have C1:=hid' (fun V => p_curve (pI W n + 1) V (by omega) (by omega))
 have g1:=gZ_bd (i:=pI W n + 1) (by omega) (by omega)
 have hmod0:0 ≤ pR W n % 4294967296:=Int.emod_nonneg _ (by decide)
 have hmod1:pR W n % 4294967296 < 4294967296:=Int.emod_lt_of_pos _ (by decide)
 have hdiv0:0 ≤ pR W n / 4294967296:=Int.ediv_nonneg hr.1 (by decide)
 have hdiv1:pR W n / 4294967296 ≤ 604800:=by omega
 have m1:=mul_bd rb.1 hmod0 rb.2 (show _ ≤ 4294967295 by omega)
 have m2:=mul_bd rb.1 hdiv0 rb.2 hdiv1
 generalize hri:gZ (pI W n + 1) - gZ (pI W n) = ri at *
 generalize gZ (pI W n) = h0 at *
 generalize gZ (pI W n + 1) = h1 at *
 generalize pI W n = i at *
 generalize pX W = X at *
 generalize pR W n = r at *
 generalize hp:ri * (r % 4294967296) = p at *
 generalize hq:ri * (r / 4294967296) = q at *
 have qb:=quo_bd p 4294967296 25129000 up (by decide) m1.1 (by omega)
 have Q2:=hid' (fun V => p_quot p 4294967296 up V m1.1 (by decide) (by omega) (by decide))
 generalize hpp:quo p 4294967296 up = pp at *
 have qb2:=quo_bd (q + pp) W 15199000000000 up (by omega) (by omega) (Int.le_trans (show q + pp ≤ 15199000000000 by omega) (by omega))
 have Q3:=hid' (fun V => p_quot (q + pp) W up V (by omega) (by omega) (by omega) (by omega))
 generalize quo (q + pp) W up = z at *
 generalize hix2:i * X = ix at *
 clear ok n1 hpp
 go_enter Tryz.func193,Tryz.ntmps193
 go_wp2_with fail
 refine (OP.out _).mono ?_
 rintro e w1 ⟨rfl,hw⟩
 subst w1
 go_wp2_with fail
 refine (Q1.out _).mono ?_
 rintro e w1 ⟨rfl,hw⟩
 subst w1
 go_wp2_with fail
 refine (C1.out _).mono ?_
 rintro e w1 ⟨rfl,hw⟩
 subst w1
 go_wp2_with fail
 refine (C0.out _).mono ?_
 rintro e w1 ⟨rfl,hw⟩
 subst w1
 go_wp2_with fail
 refine (Q2.out _).mono ?_
 rintro e w1 ⟨rfl,hw⟩
 subst w1
 go_wp2_with fail
 refine (C0.out _).mono ?_
 rintro e w1 ⟨rfl,hw⟩
 subst w1
 go_wp2_with fail
 refine (Q3.out _).mono ?_
 rintro e w1 ⟨rfl,hw⟩
 subst w1
 go_wp2
 go_ret
 exact ⟨rfl,rfl⟩
set_option maxRecDepth 100000 in
theorem p_pull (b:Nat) (s:Sv) (dv cv:Value) (op:Bool) (bs bf n:Int) (up:Bool) (w:World) (h:PRow b s dv cv op bs bf w) (ok:PullOk s.win n) (hm:s.mode = 1 ∨ s.mode = 2) :
  Calls Tryz.prog 178 #[.pointer (some ⟨b,0,none⟩),.int .i64 n,.bool up] w fun e w' => e = .returned (.int .i64 (quo (pullU s.mode s.win n) (pullD s.mode s.win) up)) ∧ w' = w:=by
 have c0:=h.c0
 have c1:=h.c1
 have SM:=hid' (fun V => p_smooth n s.win up V ok)
 have LI:=hid' (fun V => p_linear n s.win up V ok)
 clear h ok
 rcases hm with e | e
 ·rw [e] at c0 ⊢
  generalize quo (pullU 1 s.win n) (pullD 1 s.win) up = r at *
  clear SM e
  go_enter Tryz.func178,Tryz.ntmps178
  go_wp2_with fail
  refine (LI.out _).mono ?_
  rintro e w1 ⟨rfl,hw⟩
  subst w1
  go_wp2
  go_ret
  exact ⟨rfl,rfl⟩
 ·rw [e] at c0 ⊢
  generalize quo (pullU 2 s.win n) (pullD 2 s.win) up = r at *
  clear LI e
  go_enter Tryz.func178,Tryz.ntmps178
  go_wp2_with fail
  refine (SM.out _).mono ?_
  rintro e w1 ⟨rfl,hw⟩
  subst w1
  go_wp2
  go_ret
  exact ⟨rfl,rfl⟩
end Go.Proofs.YtmmkhodaljpjgaaGreatDoor
namespace Go.Proofs.YtmmkhodaljpjgaaGreatDoor
open Go.RowKit
namespace Tab
def lastDay (ls:List (Int × Int)) (D:Int):Nat → Int
 | 0 => -1
 | k + 1 => if (ls.getD k (0,0)).1 ≤ D then (k:Int) else lastDay ls D k
theorem lastDay_bd (ls:List (Int × Int)) (D:Int) (k:Nat):-1 ≤ lastDay ls D k ∧ lastDay ls D k < k:=by
 induction k with
 | zero => simp [lastDay]
 | succ k ih => simp only [lastDay];split <;> omega
theorem lastDay_off (ls:List (Int × Int)) (D:Int) (k:Nat) (h0:(ls.getD 0 (0,0)).1 ≤ D):0 ≤ lastDay ls D (k + 1) ∧ offAt ls D k = (ls.getD (lastDay ls D (k + 1)).toNat (0,0)).2:=by
 induction k with
 | zero => simp only [lastDay,offAt];rw [if_pos h0];simp
 | succ k ih =>
  rw [lastDay,offAt]
  by_cases c:(ls.getD (k + 1) (0,0)).1 ≤ D
  ·rw [if_pos c,if_pos c];simp;omega
  ·rw [if_neg c,if_neg c];exact ih
theorem Good.lastDay_no {ls:List (Int × Int)} (h:Good ls) (D:Int) (h0:D < (ls.getD 0 (0,0)).1) (k:Nat) (hk:k ≤ ls.length):lastDay ls D k = -1:=by
 induction k with
 | zero => rfl
 | succ k ih =>
  have:D < (ls.getD k (0,0)).1:=by
   by_cases e:k = 0
   ·subst e;exact h0
   ·have:=h.lt 0 k (by omega) (by omega);omega
  rw [lastDay,if_neg (by omega)]
  exact ih (by omega)
theorem Good.begins_last {ls:List (Int × Int)} (h:Good ls) (d:Int) (h0:(ls.getD 0 (0,0)).1 ≤ d * 86400) :
  0 ≤ lastDay ls (d * 86400) ls.length ∧ begins ls d = d * 86400 + (ls.getD (lastDay ls (d * 86400) ls.length).toNat (0,0)).2:=by
 have:=lastDay_off ls (d * 86400) (ls.length - 1) h0
 rw [show ls.length - 1 + 1 = ls.length from by have:=h.pos;omega] at this
 refine ⟨this.1,?_⟩
 unfold begins
 rw [if_neg (by omega),this.2]
theorem lastAt_is (ls:List (Int × Int)) (sec:Int) (n:Nat) (k:Nat) (h:lastAt ls sec n = (k:Int)):k < n ∧ when ls k ≤ sec ∧ ∀ i,k < i → i < n → sec < when ls i:=by
 induction n with
 | zero => simp [lastAt] at h
 | succ n ih =>
  rw [lastAt] at h
  by_cases c:when ls n ≤ sec
  ·rw [if_pos c] at h
   have:k = n:=by omega
   subst this
   exact ⟨by omega,c,fun i a b => by omega⟩
  ·rw [if_neg c] at h
   obtain ⟨a,b,e⟩:=ih h
   refine ⟨by omega,b,fun i x y => ?_⟩
   by_cases q:i = n
   ·subst q;omega
   ·exact e i x (by omega)
theorem Good.day_of {ls:List (Int × Int)} (h:Good ls) (sec:Int) (k:Nat) (hk:lastAt ls sec ls.length = (k:Int)):Day ls sec ((sec - (ls.getD k (0,0)).2) / 86400):=by
 obtain ⟨hkl,hw,hr⟩:=lastAt_is ls sec ls.length k hk
 have dk:=h.day k hkl
 have fk:=(h.fine _ (List.getElem_mem hkl)).2
 rw [← getD_at k hkl] at fk
 have fka:=(h.fine _ (List.getElem_mem hkl)).1
 rw [← getD_at k hkl] at fka
 -- the entry behind
 have hnext:∀ (hl:k + 1 < ls.length),sec < (ls.getD (k + 1) (0,0)).1 + (ls.getD k (0,0)).2 ∧ sec < (ls.getD (k + 1) (0,0)).1 + (ls.getD (k + 1) (0,0)).2:=fun hl => by
  have:=hr (k + 1) (by omega) hl
  unfold when at this
  rw [show k + 1 - 1 = k from rfl] at this
  split at this <;> omega
 have hlater:∀ i,k < i → i < ls.length → k + 1 < ls.length ∧ (ls.getD (k + 1) (0,0)).1 ≤ (ls.getD i (0,0)).1:=fun i a b => by
  by_cases e:i = k + 1
  ·subst e;exact ⟨b,Int.le_refl _⟩
  ·have:=h.lt (k + 1) i (by omega) b;exact ⟨by omega,by omega⟩
 by_cases hA:(ls.getD k (0,0)).1 ≤ sec - (ls.getD k (0,0)).2
 ·generalize hd:(sec - (ls.getD k (0,0)).2) / 86400 = d
  have hd1:(ls.getD k (0,0)).1 ≤ d * 86400:=by omega
  have hd2:d * 86400 ≤ sec - (ls.getD k (0,0)).2:=by omega
  have hd3:sec - (ls.getD k (0,0)).2 < (d + 1) * 86400:=by omega
  have h0:(ls.getD 0 (0,0)).1 ≤ d * 86400:=by
   by_cases e:k = 0
   ·subst e;exact hd1
   ·have:=h.lt 0 k (by omega) hkl;omega
  have hoff:offAt ls (d * 86400) (ls.length - 1) = (ls.getD k (0,0)).2:=offAt_eq ls _ k (ls.length - 1) (by omega) hd1 (fun i a b => by
   have x:=hlater i a (by omega)
   have y:=hnext x.1
   omega)
  have hb:begins ls d = d * 86400 + (ls.getD k (0,0)).2:=by unfold begins;rw [if_neg (by omega),hoff]
  refine ⟨h0,by omega,?_⟩
  rw [hb]
  by_cases hl:k + 1 < ls.length
  ·have y:=hnext hl
   have dn:=h.day (k + 1) hl
   by_cases e:(ls.getD (k + 1) (0,0)).1 = (d + 1) * 86400
   ·have hlen:length ls d = 86400 + (ls.getD (k + 1) (0,0)).2 - (ls.getD k (0,0)).2:=by
     unfold length
     rw [lenFrom_yes ls _ (ls.length - 1) 1 (k + 1) (by omega) (by omega) e (fun q a b => by
      have:=h.lt q (k + 1) b hl;omega)]
     rfl
    rw [hlen]
    rcases h.off k hl with o | o <;> omega
   ·have hlen:length ls d = 86400:=by
     unfold length
     apply lenFrom_no
     intro t a b q
     by_cases c:t ≤ k
     ·have:(ls.getD t (0,0)).1 ≤ (ls.getD k (0,0)).1:=by
       by_cases e':t = k
       ·subst e';exact Int.le_refl _
       ·have:=h.lt t k (by omega) hkl;omega
      omega
     ·have:=hlater t (by omega) (by omega)
      omega
    rw [hlen];omega
  ·have hlen:length ls d = 86400:=by
    unfold length
    apply lenFrom_no
    intro t a b q
    have:(ls.getD t (0,0)).1 ≤ (ls.getD k (0,0)).1:=by
     by_cases e':t = k
     ·subst e';exact Int.le_refl _
     ·have:=h.lt t k (by omega) hkl;omega
    omega
   rw [hlen];omega
 ·-- the second that is put in
  have hk0:0 < k:=by
   by_cases e:k = 0
   ·subst e;unfold when at hw;simp at hw;simp at hA;omega
   ·omega
  obtain ⟨j,rfl⟩:∃ j,k = j + 1:=⟨k - 1,by omega⟩
  have dj:=h.day j (by omega)
  have uj:=h.up j hkl
  have oj:=h.off j hkl
  have hs:sec = (ls.getD (j + 1) (0,0)).1 + (ls.getD j (0,0)).2 ∧ (ls.getD (j + 1) (0,0)).2 = (ls.getD j (0,0)).2 + 1:=by
   unfold when at hw
   rw [show j + 1 - 1 = j from rfl] at hw
   split at hw <;> rcases oj with o | o <;> omega
  have hd:(sec - (ls.getD (j + 1) (0,0)).2) / 86400 = (ls.getD (j + 1) (0,0)).1 / 86400 - 1:=by omega
  rw [hd]
  generalize hdd:(ls.getD (j + 1) (0,0)).1 / 86400 - 1 = d
  have e1:(d + 1) * 86400 = (ls.getD (j + 1) (0,0)).1:=by omega
  have hd1:(ls.getD j (0,0)).1 ≤ d * 86400:=by omega
  have h0:(ls.getD 0 (0,0)).1 ≤ d * 86400:=by
   by_cases e:j = 0
   ·subst e;exact hd1
   ·have:=h.lt 0 j (by omega) (by omega);omega
  have hoff:offAt ls (d * 86400) (ls.length - 1) = (ls.getD j (0,0)).2:=offAt_eq ls _ j (ls.length - 1) (by omega) hd1 (fun i a b => by
   by_cases e:i = j + 1
   ·subst e;omega
   ·have:=h.lt (j + 1) i (by omega) (by omega);omega)
  have hb:begins ls d = d * 86400 + (ls.getD j (0,0)).2:=by unfold begins;rw [if_neg (by omega),hoff]
  have hlen:length ls d = 86400 + (ls.getD (j + 1) (0,0)).2 - (ls.getD j (0,0)).2:=by
   unfold length
   rw [lenFrom_yes ls _ (ls.length - 1) 1 (j + 1) (by omega) (by omega) e1.symm (fun q a b => by
    have:=h.lt q (j + 1) b hkl;omega)]
   rfl
  exact ⟨h0,by omega,by omega⟩
end Tab
theorem Tab.lastAt_left (a b:List (Int × Int)) (sec:Int) (k:Nat) (hk:k ≤ a.length):Tab.lastAt (a ++ b) sec k = Tab.lastAt a sec k:=by
 induction k with
 | zero => rfl
 | succ k ih =>
  unfold Tab.lastAt
  rw [Tab.when_append a b k (by omega),ih (by omega)]
theorem Tab.lastAt_more (ls:List (Int × Int)) (sec:Int) (n k:Nat) (h:∀ i,n ≤ i → i < n + k → sec < Tab.when ls i):Tab.lastAt ls sec (n + k) = Tab.lastAt ls sec n:=by
 induction k with
 | zero => rfl
 | succ k ih =>
  have st:Tab.lastAt ls sec (n + k + 1) = if Tab.when ls (n + k) ≤ sec then ((n + k:Nat):Int) else Tab.lastAt ls sec (n + k):=rfl
  rw [← Nat.add_assoc,st]
  rw [if_neg (by have:=h (n + k) (by omega) (by omega);omega)]
  exact ih (fun i a b => h i a (by omega))
theorem Tab.length_left (a b:List (Int × Int)) (d:Int) (hp:0 < a.length) (h:∀ i,a.length ≤ i → i < (a ++ b).length → ((a ++ b).getD i (0,0)).1 ≠ (d + 1) * 86400):Tab.length (a ++ b) d = Tab.length a d:=by
 unfold Tab.length
 have eq:∀ i,i < a.length → (a ++ b).getD i (0,0) = a.getD i (0,0):=fun i hi => getD_leftI a b i hi
 by_cases c:∃ t,1 ≤ t ∧ t < a.length ∧ (a.getD t (0,0)).1 = (d + 1) * 86400 ∧ ∀ q,1 ≤ q → q < t → (a.getD q (0,0)).1 ≠ (d + 1) * 86400
 ·obtain ⟨t,t1,t2,t3,t4⟩:=c
  rw [Tab.lenFrom_yes a _ _ 1 t t1 (by omega) t3 t4]
  rw [Tab.lenFrom_yes (a ++ b) _ _ 1 t t1 (by simp;omega) (by rw [eq t t2];exact t3) (fun q q1 q2 => by rw [eq q (by omega)];exact t4 q q1 q2)]
  rw [eq t t2,eq (t - 1) (by omega)]
 ·have no:∀ n t,t ≤ n → 1 ≤ t → t < a.length → (a.getD t (0,0)).1 ≠ (d + 1) * 86400:=fun n => by
   induction n with
   | zero => intro t h0 h1;omega
   | succ n ih =>
    intro t h0 h1 h2 h3
    exact c ⟨t,h1,h2,h3,fun q q1 q2 => ih q (by omega) q1 (by omega)⟩
  rw [Tab.lenFrom_no a _ _ 1 (fun t t1 t2 => no t t (Nat.le_refl _) t1 (by omega))]
  rw [Tab.lenFrom_no (a ++ b) _ _ 1 (fun t t1 t2 => by
   by_cases e:t < a.length
   ·rw [eq t e];exact no t t (Nat.le_refl _) t1 e
   ·exact h t (by omega) (by have:(a ++ b).length = a.length + b.length:=by simp
                             omega))]
theorem Sv.Inv.step_com {x:Sv} (h:x.Inv) (hl:x.ld = true) (hm:x.mode = 0) (i:Nat) (hi:i < x.com.length):x.ns < Tab.when x.all (x.done.length + i):=by
 have m:=h.mid hl
 have hw:x.win = 0:=by
  rcases h.num.mode with ⟨_,a⟩ | ⟨a,_⟩
  ·exact a
  ·omega
 have c:=m.cg i x.com[i] (List.getElem?_eq_getElem hi)
 have l:=is_later (h.lat hl _ (List.getElem_mem hi))
 obtain ⟨t0,t1,t2,t3⟩:=h.num.t'
 have:=c.hi
 have:=c.lo
 omega
theorem Sv.known_all (x:Sv):∃ r,x.all = x.known ++ r:=by
 unfold Sv.all Sv.known
 cases x.com with
 | nil => exact ⟨[],by simp⟩
 | cons c r => exact ⟨r.map cmP,by simp [cmP]⟩
theorem Sv.known_len (x:Sv):x.known.length = min (x.done.length + 1) (x.done.length + x.com.length):=by
 unfold Sv.known
 cases x.com with
 | nil => simp
 | cons c r => simp
structure Sv.IndOk (x:Sv) (k:Nat):Prop where
 good:Tab.Good x.known
 gall:Tab.Good x.all
 k1:k < x.done.length
 utc:x.utc = x.ns - (x.done.getD k (0,0)).2
 all:Tab.lastAt x.all x.ns x.all.length = k
 atk:(x.all.getD k (0,0)).2 = (x.done.getD k (0,0)).2
 day:Tab.Day x.known x.ns (x.utc / 86400)
 len:Tab.length x.all (x.utc / 86400) = Tab.length x.known (x.utc / 86400)
 u0:0 ≤ x.utc
 u1:x.utc ≤ 34000000000
theorem Sv.Inv.indOk {x:Sv} (h:x.Inv) (hl:x.ld = true) (hm:x.mode = 0):∃ k,x.IndOk k:=by
 have m:=h.mid hl
 obtain ⟨t0,t1,t2,t3⟩:=h.num.t'
 have sc:=h.step_com hl hm
 have l:=m.doneFit.lastAt_le x.ns m.firstD
 have ub:=m.doneFit.utc_bd x.ns m.firstD
 obtain ⟨k,hk⟩:∃ k:Nat,Tab.lastAt x.done x.ns x.done.length = (k:Int):=⟨(Tab.lastAt x.done x.ns x.done.length).toNat,by omega⟩
 have ek:(Tab.lastAt x.done x.ns x.done.length).toNat = k:=by omega
 have k1:k < x.done.length:=by omega
 obtain ⟨r,hr⟩:=x.known_all
 have kl:=x.known_len
 have al:=x.all_length
 have ut:x.utc = x.ns - (x.done.getD k (0,0)).2:=by unfold Sv.utc;rw [ek]
 rw [ek] at ub
 have fk:Tab.Fit x.known:=by
  have:=m.fit
  rw [hr] at this
  exact this.left (by have:=m.pos;omega)
 have la:Tab.lastAt x.all x.ns x.all.length = k:=by
  rw [al,Tab.lastAt_more x.all x.ns _ _ (fun i a b => by
   have:=sc (i - x.done.length) (by omega)
   rw [show x.done.length + (i - x.done.length) = i from by omega] at this
   exact this)]
  unfold Sv.all
  rw [Tab.lastAt_left _ _ _ _ (Nat.le_refl _),hk]
 have lk:Tab.lastAt x.known x.ns x.known.length = k:=by
  have e1:=Tab.lastAt_left x.known r x.ns x.known.length (Nat.le_refl _)
  rw [← hr] at e1
  rw [← e1]
  have e2:x.known.length = x.done.length + (x.known.length - x.done.length):=by omega
  rw [e2,Tab.lastAt_more x.all x.ns _ _ (fun i a b => by
   have:=sc (i - x.done.length) (by omega)
   rw [show x.done.length + (i - x.done.length) = i from by omega] at this
   exact this)]
  unfold Sv.all
  rw [Tab.lastAt_left _ _ _ _ (Nat.le_refl _),hk]
 have gk:x.known.getD k (0,0) = x.done.getD k (0,0):=by
  unfold Sv.known;exact getD_leftI _ _ _ k1
 have ga:x.all.getD k (0,0) = x.done.getD k (0,0):=by
  unfold Sv.all;exact getD_leftI _ _ _ k1
 have dy:=fk.good.day_of x.ns k lk
 rw [gk,← ut] at dy
 refine ⟨k,fk.good,m.fit.good,k1,ut,la,by rw [ga],dy,?_,by rw [ut];exact ub.1,by rw [ut];omega⟩
 have ha:x.all.length = (x.known ++ r).length:=by rw [hr]
 rw [hr]
 refine Tab.length_left x.known r _ (by have:=m.pos;omega) (fun i i1 i2 e => ?_)
 rw [← hr] at e i2
 have hc:1 < x.com.length:=by omega
 have s0:=sc 0 (by omega)
 have wb:=m.fit.when_bd x.done.length (by omega)
 have gp:=m.fit.good.lt x.done.length i (by omega) i2
 have f1:=m.fit.isFirst x.done.length (by omega)
 have f2:=m.fit.isFirst i i2
 have fg:=Tab.first_gap f1 f2 gp
 have bd:=m.fit.bd x.done.length (by omega)
 have dd:=Int.emod_add_mul_ediv x.utc 86400
 simp only [Nat.add_zero] at s0
 omega
namespace Tab
theorem Good.lenFrom_three {ls:List (Int × Int)} (h:Good ls) (D:Int) (m i:Nat) (hi:1 ≤ i) (hm:i + m ≤ ls.length):86399 ≤ lenFrom ls D i m ∧ lenFrom ls D i m ≤ 86401:=by
 induction m generalizing i with
 | zero => simp [lenFrom]
 | succ m ih =>
  simp only [lenFrom]
  split
  ·have:=h.off (i - 1) (by omega)
   rw [show i - 1 + 1 = i from by omega] at this
   omega
  ·exact ih (i + 1) (by omega) (by omega)
theorem Good.three {ls:List (Int × Int)} (h:Good ls) (d:Int):86399 ≤ length ls d ∧ length ls d ≤ 86401 :=
 h.lenFrom_three _ _ _ (Nat.le_refl _) (by have:=h.pos;omega)
end Tab
set_option maxRecDepth 100000 in
theorem last_at (g cap n:Nat) (ls:List (Int × Int)) (d:Int) (w:World) (hn:ls.length = n) (hl:Lies w g ls) (hb:n ≤ 100000) (d0:-10 ≤ d) (d1:d ≤ 500000) :
  Calls Tryz.prog 133 #[.slice (some ⟨g,0,none⟩) n cap,.int .i64 d] w fun e w' => e = .returned (.int .i64 (Tab.lastDay ls (d * 86400) n)) ∧ w' = w:=by
 have HL:=hid' hl
 have HN:=hid' hn
 clear hl hn
 go_enter Tryz.func133,Tryz.ntmps133
 go_wp2
 go_loop [5] (fun i => ∃ k:Nat,k ≤ n ∧ i = .int .i64 ((k:Int) - 1) ∧ Tab.lastDay ls (d * 86400) n = Tab.lastDay ls (d * 86400) k) (fun i => (intOf i + 1).toNat)
 case atStart => exact ⟨n,by omega,rfl,rfl⟩
 case round =>
  obtain ⟨k,hk,rfl,hrl⟩:=hrel
  have HRL:=hid' hrl
  clear hrl
  cases k with
  | zero =>
   have H:Hid (Tab.lastDay ls (d * 86400) n = -1):=by show _ = _;rw [HRL.out];rfl
   go_wp2
   go_ret
   exact ⟨ret_int H.out.symm,rfl⟩
  | succ k =>
   have hc:(((k + 1:Nat):Int) - 1) = (k:Int):=by omega
   rw [hc]
   clear hc
   have hkl:k < ls.length:=by rw [HN.out];omega
   have c1:=(HL.out k hkl).1
   have hg:=getD_at k hkl
   have HG:=hid' hg
   clear hg
   generalize ls[k] = p at *
   obtain ⟨pa,po⟩:=p
   simp only at c1
   by_cases hle:pa ≤ d * 86400
   ·have H:Hid (Tab.lastDay ls (d * 86400) n = (k:Int)):=by show _ = _;rw [HRL.out];simp only [Tab.lastDay];rw [HG.out,if_pos hle]
    go_wp2
    go_ret
    exact ⟨ret_int H.out.symm,rfl⟩
   ·have H:Hid (Tab.lastDay ls (d * 86400) n = Tab.lastDay ls (d * 86400) k):=by show _ = _;rw [HRL.out];rw [Tab.lastDay];rw [HG.out,if_neg hle]
    go_wp2
    exact ⟨⟨k,by omega,by go_num,H.out⟩,by simp [intOf]⟩
set_option maxRecDepth 100000 in
theorem day_begin (g cap n:Nat) (ls:List (Int × Int)) (d:Int) (w:World) (hn:ls.length = n) (hl:Lies w g ls) (hG:Tab.Good ls) (d0:-10 ≤ d) (d1:d ≤ 500000) (h0:(ls.getD 0 (0,0)).1 ≤ d * 86400) :
  Calls Tryz.prog 132 #[.slice (some ⟨g,0,none⟩) n cap,.int .i64 d] w fun e w' => e = .returned (.int .i64 (Tab.begins ls d)) ∧ w' = w:=by
 have hb:n ≤ 100000:=by have:=hG.len;omega
 have HLA:=hid' (last_at g cap n ls d w hn hl hb d0 d1)
 obtain ⟨b0,b1⟩:=hG.begins_last d h0
 rw [hn] at b0 b1
 have bd:=Tab.lastDay_bd ls (d * 86400) n
 obtain ⟨k,hk⟩:∃ k:Nat,Tab.lastDay ls (d * 86400) n = (k:Int):=⟨(Tab.lastDay ls (d * 86400) n).toNat,by omega⟩
 rw [hk] at b1 bd HLA
 have hkl:k < ls.length:=by omega
 rw [Int.toNat_natCast,getD_at k hkl] at b1
 have c2:=(hl k hkl).2
 have f:=(hG.fine _ (List.getElem_mem hkl)).2
 have H:=hid' b1
 have hkn:k < n:=by omega
 clear b0 b1 hk bd hl hG h0
 generalize ls[k] = p at *
 obtain ⟨pa,po⟩:=p
 simp only at c2 f H
 clear hkl
 go_enter Tryz.func132,Tryz.ntmps132
 go_wp2_with (go_at_call 133;refine HLA.out.mono ?_;rintro e w' ⟨rfl,rfl⟩)
 go_ret
 exact ⟨ret_int H.out.symm,rfl⟩
set_option maxRecDepth 100000 in
theorem day_length (g cap n:Nat) (ls:List (Int × Int)) (d:Int) (w:World) (hn:ls.length = n) (hp:0 < n) (hl:Lies w g ls) (hf:Fine ls) (hb:n ≤ 100000) (d0:-10 ≤ d) (d1:d ≤ 500000) :
  Calls Tryz.prog 134 #[.slice (some ⟨g,0,none⟩) n cap,.int .i64 d] w fun e w' => e = .returned (.int .i64 (Tab.length ls d)) ∧ ∃ m,w' = w.drewN m:=by
 have HL:=hid' hl
 have HF:=hid' hf
 have HN:=hid' hn
 have H:Hid (Tab.length ls d = Tab.lenFrom ls ((d + 1) * 86400) 1 (n - 1)):=by show _ = _;unfold Tab.length;rw [hn]
 clear hl hf hn
 go_enter Tryz.func134,Tryz.ntmps134
 go_wp2
 go_loop [6] (fun i => ∃ k:Nat,k + 1 ≤ n ∧ i = .int .i64 ((k:Int) + 1) ∧ Tab.length ls d = Tab.lenFrom ls ((d + 1) * 86400) (k + 1) (n - (k + 1))) (fun i => n - (intOf i).toNat)
 case atStart => exact ⟨0,by omega,rfl,H.out⟩
 case round =>
  obtain ⟨k,hk,rfl,hrl⟩:=hrel
  have HRL:=hid' hrl
  clear hrl H
  by_cases hlt:k + 1 < n
  ·have hkl:k + 1 < ls.length:=by rw [HN.out];exact hlt
   obtain ⟨e1,e2⟩:=HL.out (k + 1) hkl
   obtain ⟨_,b2⟩:=HL.out k (by omega)
   have hfq:=HF.out _ (List.getElem_mem hkl)
   have hfp:=HF.out _ (List.getElem_mem (show k < ls.length by omega))
   have hS:Hid (Tab.length ls d = if ls[k + 1].1 = (d + 1) * 86400 then 86400 + ls[k + 1].2 - (ls[k]'(by omega)).2 else Tab.lenFrom ls ((d + 1) * 86400) (k + 1 + 1) (n - (k + 1 + 1))):=by
    show _ = _
    rw [HRL.out,show n - (k + 1) = n - (k + 1 + 1) + 1 from by omega,Tab.lenFrom,getD_at (k + 1) hkl,show k + 1 - 1 = k from rfl,getD_at k (by omega)]
   generalize ls[k + 1] = q at *
   generalize ls[k]'(by omega) = p at *
   clear hkl
   obtain ⟨qa,qo⟩:=q
   obtain ⟨pa,po⟩:=p
   simp only at e1 e2 hfq b2 hfp
   by_cases hle:qa = (d + 1) * 86400
   ·have H2:Hid (Tab.length ls d = 86400 + qo - po):=by show _ = _;rw [hS.out];simp only;rw [if_pos hle]
    have hbq:(qa == (d + 1) * 86400) = true:=by rw [beq_iff_eq];exact hle
    clear hle hS HRL
    have r0:IntKind.i64.wrap ((k:Int) + 1 - 1) = (k:Int):=by rw [IntKind.wrap_i64];omega
    have r1:IntKind.i64.wrap (86400 + qo) = 86400 + qo:=by rw [IntKind.wrap_i64];omega
    have r2:IntKind.i64.wrap (86400 + qo - po) = 86400 + qo - po:=by rw [IntKind.wrap_i64];omega
    have z0:(0:Int) ≤ (k:Int):=by omega
    have z1:(k:Int) < (n:Int):=by omega
    have z2:(0:Int) ≤ (k:Int) + 1:=by omega
    have z3:(k:Int) + 1 < (n:Int):=by omega
    have z4:((k:Int) + 1).toNat = k + 1:=by omega
    go_wp2_with fail
    go_quiet (fail)
    go_wp2
    go_ret
    exact ⟨ret_int H2.out.symm,nq,rfl⟩
   ·have H2:Hid (Tab.length ls d = Tab.lenFrom ls ((d + 1) * 86400) (k + 1 + 1) (n - (k + 1 + 1))):=by show _ = _;rw [hS.out];simp only;rw [if_neg hle]
    have hbq:(qa == (d + 1) * 86400) = false:=by rw [beq_eq_false_iff_ne];exact hle
    clear hle hS HRL
    go_wp2
    exact ⟨⟨k + 1,by omega,by go_num,H2.out⟩,by simp [intOf];omega⟩
  ·have H2:Hid (Tab.length ls d = 86400):=by show _ = _;rw [HRL.out,show n - (k + 1) = 0 from by omega];rfl
   go_wp2
   go_ret
   exact ⟨ret_int H2.out.symm,0,rfl⟩
end Go.Proofs.YtmmkhodaljpjgaaGreatDoor
