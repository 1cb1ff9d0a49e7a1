import Derived.Test.YtmmkhodaljpjgaaGreatDoorV20
namespace Go.Proofs.YtmmkhodaljpjgaaGreatDoor
open Go.RowKit
attribute [local go_sem ↓] Go.wp_at_zero Go.wp_at_succ
theorem PRow.putR {b:Nat} {s:Sv} {dv cv:Value} {op:Bool} {bs bf:Int} {w:World} (h:PRow b s dv cv op bs bf w):PRow b s.refuse dv cv op bs bf (w.setCell ⟨b,11,none⟩ (.int .i64 (s.ref + 1))):=h.put 11 _ rfl rfl rfl rfl
theorem Opn.taken {s:Sv} {op:Bool} {bs bf:Int} (h:Opn s op bs bf) (hI:s.Inv) {ls:List (Int × Int)} (up ex:Int) (hf:Tab.Fit ls) (ha:s.agrees ls = true):Opn (s.taken up ex ls) op bs bf:=by
 obtain ⟨mm,hm1,hm2,hm3,hm4,hm5,hm6,hm7,hm8⟩:=hI.mid1 hf ha
 have e0:(s.taken up ex ls).began = (s.begun1 ls).began:=rfl
 have e1:(s.taken up ex ls).win = s.win:=by show (s.begun1 ls).win = s.win;rw [hm8]
 have e2:(s.taken up ex ls).ns = s.ns:=by show (s.begun1 ls).ns = s.ns;rw [hm8]
 have e3:(s.taken up ex ls).nf = s.nf:=by show (s.begun1 ls).nf = s.nf;rw [hm8]
 unfold Opn
 rw [e0,e1,e2,e3]
 cases hld:s.ld with
 | true =>
  have e:s.begun1 ls = s:=by unfold Sv.begun1;rw [if_neg (by rw [hld];simp)]
  rw [e];exact h
 | false =>
  have lae:=hf.lastAt_le s.ns hm5
  obtain ⟨la,hla⟩:∃ la:Nat,Tab.lastAt ls s.ns ls.length = (la:Int):=⟨(Tab.lastAt ls s.ns ls.length).toNat,by omega⟩
  obtain ⟨b1,b2,b3⟩:=Sv.begun1_first hI hf hld la hla
  obtain ⟨n1,n2,_⟩:=hI.no hld
  have hop:op = false:=by
   cases op with
   | false => rfl
   | true => have:=(h.1 rfl).1;rw [n2] at this;simp at this
  refine ⟨fun e => (by rw [hop] at e;cases e),fun _ i hi => ?_⟩
  rw [b2] at hi
  rw [b3 i hi]
  have q:=(hf.lastAt_iff s.ns ls.length i (Nat.le_refl _) (by omega)).2 (by omega)
  have t:=hI.num.t'
  simp only
  omega
set_option maxRecDepth 100000 in
set_option maxHeartbeats 6400000 in
theorem srv_load (b:Nat) (s:Sv) (dv cv:Value) (op:Bool) (bs bf:Int) (t:ByteArray) (w:World) (h:PRow b s dv cv op bs bf w) (ho:Opn s op bs bf) (hI:s.Inv) (hR:s.ref ≤ 1000000000000) (ht:t.size ≤ 1000000) (hW:Table w) :
  Calls Tryz.prog 109 #[.pointer (some ⟨b,0,none⟩),.string t] w fun e w' => e = .returned (.tuple #[.int .i64 (s.load (Txt.parse t)).1,.int .i64 (s.load (Txt.parse t)).2.1]) ∧ PPost b (pFoot b dv cv) w (s.load (Txt.parse t)).2.2 w':=by
 have HP:=hid' h
 have HO:=hid' ho
 have HI:=hid' hI
 have HT:=hid' hW
 have r0:=hI.num.r0
 have hlen:=hI.lens
 have HLE:Hid (s.loadErr (Txt.parse t) = if (Txt.parse t).err ≠ 0 then (Txt.parse t).err else if s.ld = true ∧ (Txt.parse t).up < s.up then 11 else if s.agrees (Txt.parse t).ls = false then 12 else 0):=rfl
 have HLD:Hid (s.load (Txt.parse t) = if s.loadErr (Txt.parse t) ≠ 0 then (s.loadErr (Txt.parse t),((Txt.parse t).num:Int),s.refuse) else (0,0,(s.taken (Txt.parse t).up (Txt.parse t).ex (Txt.parse t).ls).weigh)):=rfl
 have HPW:=hid' (fun q => Txt.parse_whole (t:=t) q)
 have FP:=hid' (file_parse t w ht hW)
 generalize s.load (Txt.parse t) = ld at *
 generalize Txt.parse t = gt at *
 obtain ⟨gu,gx,gl,ge,gn⟩:=gt
 simp only at HLE HLD HPW
 generalize s.loadErr ⟨gu,gx,gl,ge,gn⟩ = le at *
 clear h ho hI hW
 go_enter Tryz.func109,Tryz.ntmps109
 go_wp2_with fail
 refine FP.out.mono ?_
 rintro e w1 ⟨lv,rfl,own1,hb1⟩
 simp only at own1
 obtain ⟨la,lcp,hlv⟩:=own_slice own1
 subst hlv
 have a1:=(Below.refl w1.heap.size w1).alloc (Nat.le_refl _) (.cells #[.int .i64 gu,.int .i64 gx,.slice la gl.length lcp] 78)
 have BA:=hid' (hb1.trans (a1.mono hb1.size))
 have TR:=hid' (heap_alloc_new w1 (.cells #[.int .i64 gu,.int .i64 gx,.slice la gl.length lcp] 78))
 have OA:=hid' (own_down own1 a1)
 clear own1 hb1 a1 FP
 go_upto_region 2 with fail
 generalize hV:w1.alloc (.cells #[.int .i64 gu,.int .i64 gx,.slice la gl.length lcp] 78) = V at *
 generalize hq:w1.heap.size = tb at *
 clear hV hq
 have PV:=hid' (HP.out.below BA.out)
 have c11:=PV.out.c11
 have f11:=PV.out.fr 11
 have t0:=cell_of_row _ _ 0 _ _ _ TR.out
 have t1:=cell_of_row _ _ 1 _ _ _ TR.out
 have t2:=cell_of_row _ _ 2 _ _ _ TR.out
 simp at t0 t1 t2
 by_cases he:ge = 0
 ·have e0:(ge == 0) = true:=beq_iff_eq.2 he
  have e0':(ge != 0) = false:=by rw [he];rfl
  obtain ⟨hwh,hnum⟩:=HPW.out he
  have hfit:=Tab.fit_of_whole hwh
  have hp:=hfit.1
  obtain ⟨g,cg,hg⟩:=own_some OA.out hp
  obtain ⟨rfl,_,rfl⟩:=Value.slice.inj hg
  have lgv:g < V.heap.size:=(OA.out.lt _ rfl).2
  have lgw:w.heap.size ≤ g:=own_ge OA.out g rfl
  have OB:=hid' (p_objection b s dv cv op bs bf g gl.length lcp gu gx gl V PV.out (lies_of OA.out rfl) lgv rfl hfit (by omega))
  have hle:le = (if s.ld = true ∧ gu < s.up then 11 else if s.agrees gl = false then 12 else 0):=by rw [HLE.out,if_neg (by omega)]
  rw [← hle] at OB
  have HAG:Hid (le = 0 → s.agrees gl = true):=fun q => by
   rw [hle] at q
   by_cases z1:s.ld = true ∧ gu < s.up
   ·rw [if_pos z1] at q;cases q
   ·rw [if_neg z1] at q
    cases z2:s.agrees gl with
    | true => rfl
    | false => rw [z2,if_pos rfl] at q;cases q
  have HNUM:=hid' hnum
  have HFIT:=hid' hfit
  have hbds:=Tab.whole_bds hwh
  have HGX:Hid (0 ≤ gx ∧ gx ≤ 34000000000):=⟨by omega,by omega⟩
  clear hbds
  clear he hwh hnum hfit hp hg hle HLE HPW
  go_wp2_with fail
  refine OB.out.mono ?_
  rintro e w2 ⟨rfl,hb2⟩
  have B2:=hid' (BA.out.trans (hb2.mono BA.out.size))
  have P2:=hid' (PV.out.below hb2)
  have O2:=hid' (own_down OA.out hb2)
  have TR2:=hid' ((hb2.block _ (lt_of_heap TR.out)).trans TR.out)
  have d11:=P2.out.c11
  have g11:=P2.out.fr 11
  have t0:=cell_of_row _ _ 0 _ _ _ TR2.out
  have t1:=cell_of_row _ _ 1 _ _ _ TR2.out
  have t2:=cell_of_row _ _ 2 _ _ _ TR2.out
  simp at t0 t1 t2
  clear hb2 OB c11 f11
  by_cases hle:le = 0
  ·have e1:(le != 0) = false:=by rw [hle];rfl
   have ag:=HAG.out hle
   have H:Hid (ld = (0,0,(s.taken gu gx gl).weigh)):=by show _ = _;rw [HLD.out,if_neg (by omega)]
   have dne:dv.ownBlock ≠ some g:=fun q => by
    obtain ⟨_,_,hh⟩:=own_typ HP.out.dd q
    have:=lt_of_heap hh;omega
   have TK:=hid' (take_any b s dv cv op bs bf gu gx g gl.length lcp gl w2 P2.out (own_lo O2.out (Nat.zero_le _)) dne rfl HI.out HFIT.out ag)
   obtain ⟨tm,tn,tl,tv,te1,te2⟩:=HI.out.takenMid gu gx HFIT.out ag
   have HTM:=hid' tm
   have HTN:=hid' tn
   have HOP:=hid' (HO.out.taken HI.out gu gx HFIT.out ag)
   have hex:0 ≤ (s.taken gu gx gl).ex ∧ (s.taken gu gx gl).ex ≤ 34000000000:=by rw [te2];exact HGX.out
   have HEX:=hid' hex
   clear tm tn tl tv te1 te2 ag hle d11 g11 dne hex
   go_wp2_with fail
   refine TK.out.mono ?_
   rintro e w3 ⟨rfl,dv3,cv3,pr3,of3,ff3⟩
   have LA:=hid' (look_around b (s.taken gu gx gl) dv3 cv3 op bs bf w3 pr3 HOP.out HTN.out (fun _ => HTM.out) (fun _ => HEX.out))
   have OF3:=hid' of3
   have FF3:=hid' ff3
   clear pr3 of3 ff3 TK t0 t1 t2
   go_wp2_with fail
   refine LA.out.mono ?_
   rintro e w4 ⟨rfl,F4,ps,of,ff⟩
   have PSH:=hid' ps
   have OF:=hid' of
   have FF:=hid' ff
   clear ps of ff LA
   go_wp2
   go_ret2
   rw [H.out]
   have s2:=B2.out.size
   have s3:=OF3.out.size
   have o13:Off (pFoot b dv cv) w w3:=(Off.of_below B2.out).trans OF3.out (fun _ _ q => q)
   refine ⟨rfl,F4,PSH.out,o13.trans OF.out (fun k hk q => ?_),fun j q => ?_⟩
   ·rcases FF3.out k q with z | z
    ·exact z
    ·omega
   ·rcases FF.out j q with z | z
    ·rcases FF3.out j z with y | y
     ·exact .inl y
     ·exact .inr (by omega)
    ·exact .inr (by omega)
  ·have e1:(le != 0) = true:=bne_iff_ne.2 hle
   have H:Hid (ld = (le,(gn:Int),s.refuse)):=by show _ = _;rw [HLD.out,if_pos hle]
   have PR:=hid' P2.out.putR
   clear hle t0 t1 t2
   go_wp2
   go_ret2
   rw [H.out]
   exact ⟨rfl,DueP.post ⟨dv,cv,op,bs,bf,PR.out,HO.out,(Off.of_below B2.out).setCell (p:=⟨b,11,none⟩) (fun _ => .inl rfl) _,fun j q => .inl q⟩⟩
 ·have e0:(ge == 0) = false:=by rw [beq_eq_false_iff_ne];exact he
  have e0':(ge != 0) = true:=bne_iff_ne.2 he
  have hle:le = ge:=by rw [HLE.out,if_pos he]
  have H:Hid (ld = (ge,(gn:Int),s.refuse)):=by show _ = _;rw [HLD.out,hle,if_pos he]
  have PR:=hid' PV.out.putR
  clear he hle t0 t1 t2 HLE HLD HPW
  go_wp2
  go_ret2
  rw [H.out]
  exact ⟨rfl,DueP.post ⟨dv,cv,op,bs,bf,PR.out,HO.out,(Off.of_below BA.out).setCell (p:=⟨b,11,none⟩) (fun _ => .inl rfl) _,fun j q => .inl q⟩⟩
set_option maxRecDepth 100000 in
theorem p_load (s:Sv) (t:ByteArray) (hI:s.Inv) (hR:s.ref ≤ 1000000000000) (ht:t.size ≤ 1000000):PLoads PS t s (s.load (Txt.parse t)).2.2 (s.load (Txt.parse t)).1 (s.load (Txt.parse t)).2.1 Table:=by
 intro b F w hp hG
 obtain ⟨dv,cv,op,bs,bf,r,o,f⟩:=hp
 have SA:=hid' (srv_load b s dv cv op bs bf t w r o hI hR ht hG)
 have HF:=hid' f
 generalize s.load (Txt.parse t) = ld at *
 clear r o f hI hG
 go_enter Tryz.func64,Tryz.ntmps64
 go_wp2_with fail
 refine SA.out.mono ?_
 rintro e w1 ⟨rfl,F',ps,of,ff⟩
 have PSH:=hid' ps
 have OF:=hid' of
 have FF:=hid' ff
 clear ps of ff
 go_wp2
 go_ret2
 refine ⟨rfl,F',PSH.out,OF.out.mono (fun k _ e => (HF.out k).2 e),fun k e => ?_⟩
 rcases FF.out k e with z | z
 ·exact .inl ((HF.out k).2 z)
 ·exact .inr z
end Go.Proofs.YtmmkhodaljpjgaaGreatDoor
namespace Go.Proofs.YtmmkhodaljpjgaaGreatDoor
open Go.RowKit
theorem is_window (mode win:Int) (w:World) (ww:(Lit.int .i64 win).wf = true) :
  Calls Tryz.prog 172 #[.int .i64 mode,.int .i64 win] w fun e w' => e = .returned (.bool (stepB mode win || smearB mode win)) ∧ w' = w:=by
 have bw:=bounds_i64 ww
 clear ww
 by_cases h0:mode = 0
 ·subst h0
  have e0:((0:Int) == 0) = true:=rfl
  have H:Hid ((stepB 0 win || smearB 0 win) = (win == 0)):=by
   show _ = _
   unfold stepB smearB
   by_cases c:win = 0
   ·subst c;rfl
   ·have:(win == 0) = false:=by rw [beq_eq_false_iff_ne];exact c
    rw [this];simp [c]
  go_enter Tryz.func172,Tryz.ntmps172
  go_wp2
  go_ret
  exact ⟨ret_bool H.out.symm,rfl⟩
 ·have e0:(mode == 0) = false:=by rw [beq_eq_false_iff_ne];exact h0
  by_cases h12:mode = 1 ∨ mode = 2
  ·have H:Hid ((stepB mode win || smearB mode win) = ((win.tmod 2 == 0) && (decide (3600 ≤ win) && decide (win ≤ 604800)))):=by
    show _ = _
    unfold stepB smearB
    have a:decide (mode = 0 ∧ win = 0) = false:=decide_eq_false (fun q => h0 q.1)
    rw [a,Bool.false_or]
    by_cases c1:win.tmod 2 = 0
    ·have e1:(win.tmod 2 == 0) = true:=beq_iff_eq.2 c1
     rw [e1,Bool.true_and]
     by_cases c2:3600 ≤ win
     ·by_cases c3:win ≤ 604800
      ·rw [decide_eq_true c2,decide_eq_true c3];exact decide_eq_true ⟨h12,c2,c3,c1⟩
      ·rw [decide_eq_true c2,decide_eq_false c3];exact decide_eq_false (fun q => c3 q.2.2.1)
     ·rw [decide_eq_false c2];exact decide_eq_false (fun q => c2 q.2.1)
    ·have e1:(win.tmod 2 == 0) = false:=by rw [beq_eq_false_iff_ne];exact c1
     rw [e1,Bool.false_and];exact decide_eq_false (fun q => c1 q.2.2.2)
   have HB:Hid (mode = 1 ∨ mode = 2):=h12
   clear h0
   by_cases c1:win.tmod 2 = 0
   ·have e1:(win.tmod 2 == 0) = true:=beq_iff_eq.2 c1
    by_cases c2:3600 ≤ win
    ·have e1':(win % 2 == 0) = true:=by rw [← Int.tmod_eq_emod_of_nonneg (by omega)];exact e1
     have H2:Hid ((stepB mode win || smearB mode win) = decide (win ≤ 604800)):=by show _ = _;rw [H.out,e1,decide_eq_true c2];rfl
     clear H e1 c1
     by_cases c3:win ≤ 604800
     ·rw [decide_eq_true c3] at H2
      rcases HB.out with rfl | rfl
      ·clear h12 HB
       go_enter Tryz.func172,Tryz.ntmps172
       go_wp2
       go_ret
       exact ⟨ret_bool H2.out.symm,rfl⟩
      ·clear h12 HB
       go_enter Tryz.func172,Tryz.ntmps172
       go_wp2
       go_ret
       exact ⟨ret_bool H2.out.symm,rfl⟩
     ·rw [decide_eq_false c3] at H2
      rcases HB.out with rfl | rfl
      ·clear h12 HB
       go_enter Tryz.func172,Tryz.ntmps172
       go_wp2
       go_ret
       exact ⟨ret_bool H2.out.symm,rfl⟩
      ·clear h12 HB
       go_enter Tryz.func172,Tryz.ntmps172
       go_wp2
       go_ret
       exact ⟨ret_bool H2.out.symm,rfl⟩
    ·have H2:Hid ((stepB mode win || smearB mode win) = false):=by show _ = _;rw [H.out,e1,decide_eq_false c2];rfl
     by_cases c0:0 ≤ win
     ·have e1':(win % 2 == 0) = true:=by rw [← Int.tmod_eq_emod_of_nonneg (by omega)];exact e1
      clear H e1 c1
      rcases HB.out with rfl | rfl
      ·clear h12 HB
       go_enter Tryz.func172,Tryz.ntmps172
       go_wp2
       go_ret
       exact ⟨ret_bool H2.out.symm,rfl⟩
      ·clear h12 HB
       go_enter Tryz.func172,Tryz.ntmps172
       go_wp2
       go_ret
       exact ⟨ret_bool H2.out.symm,rfl⟩
     ·clear H c1
      rcases HB.out with rfl | rfl
      ·clear h12 HB
       go_enter Tryz.func172,Tryz.ntmps172
       go_wp2
       go_ret
       exact ⟨ret_bool H2.out.symm,rfl⟩
      ·clear h12 HB
       go_enter Tryz.func172,Tryz.ntmps172
       go_wp2
       go_ret
       exact ⟨ret_bool H2.out.symm,rfl⟩
   ·have e1:(win.tmod 2 == 0) = false:=by rw [beq_eq_false_iff_ne];exact c1
    have H2:Hid ((stepB mode win || smearB mode win) = false):=by show _ = _;rw [H.out,e1];rfl
    by_cases c0:0 ≤ win
    ·have e1':(win % 2 == 0) = false:=by rw [← Int.tmod_eq_emod_of_nonneg (by omega)];exact e1
     clear H e1 c1
     rcases HB.out with rfl | rfl
     ·clear h12 HB
      go_enter Tryz.func172,Tryz.ntmps172
      go_wp2
      go_ret
      exact ⟨ret_bool H2.out.symm,rfl⟩
     ·clear h12 HB
      go_enter Tryz.func172,Tryz.ntmps172
      go_wp2
      go_ret
      exact ⟨ret_bool H2.out.symm,rfl⟩
    ·clear H c1
     rcases HB.out with rfl | rfl
     ·clear h12 HB
      go_enter Tryz.func172,Tryz.ntmps172
      go_wp2
      go_ret
      exact ⟨ret_bool H2.out.symm,rfl⟩
     ·clear h12 HB
      go_enter Tryz.func172,Tryz.ntmps172
      go_wp2
      go_ret
      exact ⟨ret_bool H2.out.symm,rfl⟩
  ·have H:Hid ((stepB mode win || smearB mode win) = false):=by
    show _ = _
    unfold stepB smearB
    rw [decide_eq_false (fun q => h0 q.1),decide_eq_false (fun q => h12 q.1)];rfl
   have e1:(mode == 1) = false:=by rw [beq_eq_false_iff_ne];exact fun q => h12 (.inl q)
   have e2:(mode == 2) = false:=by rw [beq_eq_false_iff_ne];exact fun q => h12 (.inr q)
   clear h0 h12
   go_enter Tryz.func172,Tryz.ntmps172
   go_wp2
   go_ret
   exact ⟨ret_bool H.out.symm,rfl⟩
set_option maxRecDepth 100000 in
theorem is_config (mode win src fresh s f:Int) (w:World) (ww:(Lit.int .i64 win).wf = true) :
  Calls Tryz.prog 135 #[.agg #[.int .i64 mode,.int .i64 win,.int .i64 src,.int .i64 fresh,.int .i64 s,.int .i64 f]] w fun e w' => e = .returned (.bool (cfgB mode win src fresh s f)) ∧ Below w.heap.size w w':=by
 have B0:=hid' ((Below.refl w.heap.size w).alloc (Nat.le_refl _) (.cells #[.int .i64 mode,.int .i64 win,.int .i64 src,.int .i64 fresh,.int .i64 s,.int .i64 f] 100))
 have R0:=hid' (heap_alloc_new w (.cells #[.int .i64 mode,.int .i64 win,.int .i64 src,.int .i64 fresh,.int .i64 s,.int .i64 f] 100))
 have NO:Hid (¬ (0 ≤ src ∧ src ≤ 8 ∧ 1 ≤ fresh ∧ fresh ≤ 604800) → cfgB mode win src fresh s f = false):=fun h => by
  unfold cfgB
  rw [decide_eq_false h];simp
 have IW:=hid' (fun W => is_window mode win W ww)
 have IT:=hid' (fun W => clk_is s f W)
 have HC:Hid (cfgB mode win src fresh s f = ((stepB mode win || smearB mode win) && decide (0 ≤ src ∧ src ≤ 8 ∧ 1 ≤ fresh ∧ fresh ≤ 604800) && isT s f)):=rfl
 clear ww
 by_cases h1:0 ≤ src
 ·by_cases h2:src ≤ 8
  ·by_cases h3:1 ≤ fresh
   ·by_cases h4:fresh ≤ 604800
    ·have H:Hid (cfgB mode win src fresh s f = ((stepB mode win || smearB mode win) && isT s f)):=by
      show _ = _
      rw [HC.out,decide_eq_true ⟨h1,h2,h3,h4⟩,Bool.and_true]
     generalize (stepB mode win || smearB mode win) = iw at *
     generalize cfgB mode win src fresh s f = cf at *
     clear HC NO
     go_enter Tryz.func135,Tryz.ntmps135
     go_wp2_with fail
     refine (IW.out _).mono ?_
     rintro e w1 ⟨rfl,rfl⟩
     have c4:=cell_of_row _ _ 4 _ _ _ R0.out
     have c5:=cell_of_row _ _ 5 _ _ _ R0.out
     simp at c4 c5
     cases iw with
     | false =>
      go_wp2
      go_ret
      exact ⟨ret_bool H.out.symm,B0.out⟩
     | true =>
      rw [Bool.true_and] at H
      go_wp2_with fail
      refine (IT.out _).mono ?_
      rintro e w2 ⟨rfl,hb2⟩
      have B2:=hid' (B0.out.trans (hb2.mono B0.out.size))
      clear hb2
      go_wp2
      go_ret
      exact ⟨ret_bool H.out.symm,B2.out⟩
    ·have H:Hid (cfgB mode win src fresh s f = false):=NO.out (by omega)
     clear NO HC
     go_enter Tryz.func135,Tryz.ntmps135
     go_wp2
     go_ret
     exact ⟨ret_bool H.out.symm,B0.out⟩
   ·have H:Hid (cfgB mode win src fresh s f = false):=NO.out (by omega)
    clear NO HC
    go_enter Tryz.func135,Tryz.ntmps135
    go_wp2
    go_ret
    exact ⟨ret_bool H.out.symm,B0.out⟩
  ·have H:Hid (cfgB mode win src fresh s f = false):=NO.out (by omega)
   clear NO HC
   go_enter Tryz.func135,Tryz.ntmps135
   go_wp2
   go_ret
   exact ⟨ret_bool H.out.symm,B0.out⟩
 ·have H:Hid (cfgB mode win src fresh s f = false):=NO.out (by omega)
  clear NO HC
  go_enter Tryz.func135,Tryz.ntmps135
  go_wp2
  go_ret
  exact ⟨ret_bool H.out.symm,B0.out⟩
def zero47:Array Value:=#[.int .i64 0,.int .i64 0,.int .i64 0,.int .i64 0,.int .i64 0,.int .i64 0,.bool false,.int .i64 0,.int .i64 0,.slice none 0 0,.slice none 0 0,.int .i64 0,.bool false,.int .i64 0,.int .i64 0,.int .i64 0,.bool false,.int .i64 0,.int .i64 0,.int .i64 0,.bool false,.int .i64 0,.int .i64 0,.int .i64 0,.bool false,.int .i64 0,.int .i64 0,.int .i64 0,.bool false,.int .i64 0,.int .i64 0,.int .i64 0,.bool false,.int .i64 0,.int .i64 0,.int .i64 0,.bool false,.int .i64 0,.int .i64 0,.int .i64 0,.bool false,.int .i64 0,.int .i64 0,.int .i64 0,.bool false,.int .i64 0,.int .i64 0]
theorem zeroS:(∀ w,(zeroValue 153).run Tryz.prog w = .ok (.agg zero47) w) ∧ (Tryz.prog.info? 153).map (·.size) = some 47 :=
 zero_of_info (by kernel_rfl)
def new47 (mode win src fresh s f:Int):Array Value:=#[.int .i64 mode,.int .i64 win,.int .i64 src,.int .i64 fresh,.int .i64 s,.int .i64 f,.bool false,.int .i64 0,.int .i64 0,.slice none 0 0,.slice none 0 0,.int .i64 0,.bool false,.int .i64 0,.int .i64 0,.int .i64 0,.bool false,.int .i64 0,.int .i64 0,.int .i64 0,.bool false,.int .i64 0,.int .i64 0,.int .i64 0,.bool false,.int .i64 0,.int .i64 0,.int .i64 0,.bool false,.int .i64 0,.int .i64 0,.int .i64 0,.bool false,.int .i64 0,.int .i64 0,.int .i64 0,.bool false,.int .i64 0,.int .i64 0,.int .i64 0,.bool false,.int .i64 0,.int .i64 0,.int .i64 0,.bool false,.int .i64 0,.int .i64 0]
def newCells (cf:Bool) (mode win src fresh s f:Int):Array Value:=if cf = true then new47 mode win src fresh s f else zero47
theorem load_inner {w:World} {g:Nat} {cs:Array Value} (hg:w.heap[g]? = some (.cells cs 153 (0,0))) (hs:cs.size = 47):(loadVar 153 ⟨g,0,none⟩).run Tryz.prog w = .ok (.agg cs) w :=
 run_loadVar_row (P:=Tryz.prog) w g 153 153 cs (0,0) _ hg Tryz.underlying153 rfl (by rw [hs];kernel_rfl)
set_option maxRecDepth 100000 in
set_option maxHeartbeats 3200000 in
theorem srv_new (mode win src fresh s f:Int) (w:World) (ww:(Lit.int .i64 win).wf = true) :
  Calls Tryz.prog 89 #[.agg #[.int .i64 mode,.int .i64 win,.int .i64 src,.int .i64 fresh,.int .i64 s,.int .i64 f]] w fun e w' => e = .returned (.tuple #[.agg (newCells (cfgB mode win src fresh s f) mode win src fresh s f),.int .i64 (if cfgB mode win src fresh s f = true then 0 else 10)]) ∧ Below w.heap.size w w':=by
 have hz:=zeroS.1
 have B0:=hid' (((Below.refl w.heap.size w).alloc (Nat.le_refl _) (.cells #[.int .i64 mode,.int .i64 win,.int .i64 src,.int .i64 fresh,.int .i64 s,.int .i64 f] 100)).alloc (by simp) (.cells zero47 153))
 have R0:=hid' (heap_alloc2_old w (.cells #[.int .i64 mode,.int .i64 win,.int .i64 src,.int .i64 fresh,.int .i64 s,.int .i64 f] 100) (.cells zero47 153))
 have R1:=hid' (heap_alloc2_new w (.cells #[.int .i64 mode,.int .i64 win,.int .i64 src,.int .i64 fresh,.int .i64 s,.int .i64 f] 100) (.cells zero47 153))
 have IC:=hid' (fun W => is_config mode win src fresh s f W ww)
 clear ww
 generalize cfgB mode win src fresh s f = cf at *
 go_enter Tryz.func89,Tryz.ntmps89
 go_upto_region 1 with fail
 generalize hV:(w.alloc (.cells #[.int .i64 mode,.int .i64 win,.int .i64 src,.int .i64 fresh,.int .i64 s,.int .i64 f] 100)).alloc (.cells zero47 153) = V at *
 clear hV
 have c0:=cell_of_row _ _ 0 _ _ _ R0.out
 have c1:=cell_of_row _ _ 1 _ _ _ R0.out
 have c2:=cell_of_row _ _ 2 _ _ _ R0.out
 have c3:=cell_of_row _ _ 3 _ _ _ R0.out
 have c4:=cell_of_row _ _ 4 _ _ _ R0.out
 have c5:=cell_of_row _ _ 5 _ _ _ R0.out
 simp at c0 c1 c2 c3 c4 c5
 go_wp2_with fail
 refine (IC.out _).mono ?_
 rintro e w1 ⟨rfl,hb1⟩
 have B1:=hid' (B0.out.trans (hb1.mono B0.out.size))
 have Q0:=hid' ((hb1.block _ (lt_of_heap R0.out)).trans R0.out)
 have Q1:=hid' ((hb1.block _ (lt_of_heap R1.out)).trans R1.out)
 have lq:w.heap.size + 1 < w1.heap.size:=lt_of_heap Q1.out
 clear c0 c1 c2 c3 c4 c5 hb1 R0 R1
 have c0:=cell_of_row _ _ 0 _ _ _ Q0.out
 have c1:=cell_of_row _ _ 1 _ _ _ Q0.out
 have c2:=cell_of_row _ _ 2 _ _ _ Q0.out
 have c3:=cell_of_row _ _ 3 _ _ _ Q0.out
 have c4:=cell_of_row _ _ 4 _ _ _ Q0.out
 have c5:=cell_of_row _ _ 5 _ _ _ Q0.out
 simp at c0 c1 c2 c3 c4 c5
 have I0:Hid ((Tryz.prog.info? 153).map (·.size) = some zero47.size):=zeroS.2
 have O0:Hid (zero47.all (·.oneCell') = true):=by show _ = _;rw [← Array.all_toList];rfl
 have hun:=Tryz.underlying153
 have HUN:=hid' hun
 clear hun
 cases cf with
 | false =>
  go_wp2_with ((with_reducible refine wpl_store (g:=w.heap.size + 1) (cells:=zero47) Q1.out I0.out ?_ O0.out ?_ ?_ ?_);exact rfl;exact rfl;exact rfl)
  try simp only [Exit.inBlock,Exit.then]
  refine bodyPost_ret (results_row_tmp (p:=2) (u:=3) rfl _ _ (w.heap.size + 1) zero47 rfl (load_inner (setRow_heap _ _ _ _ _ _ Q1.out) rfl)) rfl ?_
  exact ⟨rfl,below_setRow B1.out (by omega)⟩
 | true =>
  have I4:Hid ((Tryz.prog.info? 153).map (·.size) = some ((((zero47.setIfInBounds 0 (.int .i64 mode)).setIfInBounds 1 (.int .i64 win)).setIfInBounds 2 (.int .i64 src)).setIfInBounds 3 (.int .i64 fresh)).size):=zeroS.2
  have O4:Hid (((((zero47.setIfInBounds 0 (.int .i64 mode)).setIfInBounds 1 (.int .i64 win)).setIfInBounds 2 (.int .i64 src)).setIfInBounds 3 (.int .i64 fresh)).all (·.oneCell') = true):=by show _ = _;rw [← Array.all_toList];rfl
  have E4:Hid ((((((zero47.setIfInBounds 0 (.int .i64 mode)).setIfInBounds 1 (.int .i64 win)).setIfInBounds 2 (.int .i64 src)).setIfInBounds 3 (.int .i64 fresh)).setIfInBounds 4 (.int .i64 s)).setIfInBounds 5 (.int .i64 f) = new47 mode win src fresh s f):=rfl
  have I5:Hid ((Tryz.prog.info? 153).map (·.size) = some (new47 mode win src fresh s f).size):=zeroS.2
  have O5:Hid ((new47 mode win src fresh s f).all (·.oneCell') = true):=by show _ = _;rw [← Array.all_toList];rfl
  have S5:Hid (zero47.size = (new47 mode win src fresh s f).size):=rfl
  have S4:Hid (zero47.size = ((((zero47.setIfInBounds 0 (.int .i64 mode)).setIfInBounds 1 (.int .i64 win)).setIfInBounds 2 (.int .i64 src)).setIfInBounds 3 (.int .i64 fresh)).size):=rfl
  have C44:Hid (((((zero47.setIfInBounds 0 (.int .i64 mode)).setIfInBounds 1 (.int .i64 win)).setIfInBounds 2 (.int .i64 src)).setIfInBounds 3 (.int .i64 fresh))[4]? = some (.int .i64 0) ∧ ((((zero47.setIfInBounds 0 (.int .i64 mode)).setIfInBounds 1 (.int .i64 win)).setIfInBounds 2 (.int .i64 src)).setIfInBounds 3 (.int .i64 fresh))[5]? = some (.int .i64 0)):=⟨rfl,rfl⟩
  have RA:=hid' (heap_alloc_new w1 (.cells zero47 153))
  have BA:=hid' ((Below.refl w1.heap.size w1).alloc (Nat.le_refl _) (.cells zero47 153))
  go_upto_region 4 with ((with_reducible refine wpl_store (g:=w1.heap.size) (cells:=((((zero47.setIfInBounds 0 (.int .i64 mode)).setIfInBounds 1 (.int .i64 win)).setIfInBounds 2 (.int .i64 src)).setIfInBounds 3 (.int .i64 fresh))) RA.out I4.out ?_ O4.out ?_ ?_ ?_);exact S4.out;exact rfl;exact rfl)
  have RW:=hid' (setRow_heap _ w1.heap.size _ ((((zero47.setIfInBounds 0 (.int .i64 mode)).setIfInBounds 1 (.int .i64 win)).setIfInBounds 2 (.int .i64 src)).setIfInBounds 3 (.int .i64 fresh)) _ _ RA.out)
  have BW:=hid' (below_setRow (cs:=((((zero47.setIfInBounds 0 (.int .i64 mode)).setIfInBounds 1 (.int .i64 win)).setIfInBounds 2 (.int .i64 src)).setIfInBounds 3 (.int .i64 fresh))) BA.out (Nat.le_refl w1.heap.size))
  generalize hW:(w1.alloc (.cells zero47 153)).setRow w1.heap.size ((((zero47.setIfInBounds 0 (.int .i64 mode)).setIfInBounds 1 (.int .i64 win)).setIfInBounds 2 (.int .i64 src)).setIfInBounds 3 (.int .i64 fresh)) = W at *
  clear hW
  have B2:=hid' (B1.out.trans (BW.out.mono B1.out.size))
  have Q2:=hid' ((BW.out.block _ lq).trans Q1.out)
  have T0:=hid' ((BW.out.block _ (lt_of_heap Q0.out)).trans Q0.out)
  have d4:=cell_of_row _ _ 4 _ _ _ T0.out
  have d5:=cell_of_row _ _ 5 _ _ _ T0.out
  have y4:=(cell_of_row _ _ 4 _ _ _ RW.out).trans C44.out.1
  have y5:=(cell_of_row _ _ 5 _ _ _ RW.out).trans C44.out.2
  have fy4:=frozen_of_row _ _ 4 _ _ RW.out
  have fy5:=frozen_of_row _ _ 5 _ _ RW.out
  simp at d4 d5
  have r4:=heap_setCell_same _ w1.heap.size 4 _ _ (.int .i64 s) RW.out
  have r5:=heap_setCell_same _ w1.heap.size 5 _ _ (.int .i64 f) r4
  rw [E4.out] at r5
  have R5:=hid' r5
  have B3:=hid' ((B2.out.setCell (p:=⟨w1.heap.size,4,none⟩) (by simp only;omega) (.int .i64 s)).setCell (p:=⟨w1.heap.size,5,none⟩) (by simp only;omega) (.int .i64 f))
  have Q3:Hid (((W.setCell ⟨w1.heap.size,4,none⟩ (.int .i64 s)).setCell ⟨w1.heap.size,5,none⟩ (.int .i64 f)).heap[w.heap.size + 1]? = some (.cells zero47 153 (0,0))):=by
   show _ = _
   rw [heap_setCell_other _ _ _ _ (by show w.heap.size + 1 ≠ w1.heap.size;omega),heap_setCell_other _ _ _ _ (by show w.heap.size + 1 ≠ w1.heap.size;omega)];exact Q2.out
  clear r4 r5 c0 c1 c2 c3 c4 c5
  go_upto_region 5 with fail
  generalize hW3:(W.setCell ⟨w1.heap.size,4,none⟩ (.int .i64 s)).setCell ⟨w1.heap.size,5,none⟩ (.int .i64 f) = W3 at *
  clear hW3
  go_wp2_with (first
   | ((with_reducible refine wpl_load (g:=w1.heap.size) R5.out HUN.out ?_ I5.out ?_ ?_);exact rfl;exact rfl)
   | ((with_reducible refine wpl_store (g:=w.heap.size + 1) (cells:=new47 mode win src fresh s f) Q3.out I5.out S5.out O5.out ?_ ?_ ?_);exact rfl;exact rfl))
  try simp only [Exit.inBlock,Exit.then]
  refine bodyPost_ret (results_row_tmp (p:=2) (u:=3) rfl _ _ (w.heap.size + 1) (new47 mode win src fresh s f) rfl (load_inner (setRow_heap _ _ _ _ _ _ Q3.out) rfl)) rfl ?_
  exact ⟨rfl,below_setRow B3.out (by omega)⟩
theorem Sv.init_hd (mode win fresh s f:Int) (n i:Nat):(Sv.init mode win fresh s f n).hd i = noHd:=by
 unfold Sv.hd Sv.init
 rw [List.getD_eq_getElem?_getD,List.getElem?_replicate]
 split <;> rfl
theorem init_cells {mode win src fresh s f:Int} (h:0 ≤ src ∧ src ≤ 8):pCells (Sv.init mode win fresh s f src.toNat) (.slice none 0 0) (.slice none 0 0) false 0 0 = new47 mode win src fresh s f:=by
 have e:(((Sv.init mode win fresh s f src.toNat).said.length:Nat):Int) = src:=by
  show ((List.replicate src.toNat noHd).length:Int) = src
  rw [List.length_replicate];omega
 unfold pCells
 rw [e]
 simp only [Sv.init_hd]
 rfl
theorem zeroT:(∀ w,(zeroValue 157).run Tryz.prog w = .ok (.agg zero47) w) ∧ (Tryz.prog.info? 157).map (·.size) = some 47 :=
 zero_of_info (by kernel_rfl)
theorem fold47 (mode win src fresh s f:Int):Array.foldl (fun cs (x:Value × Nat) => cs.setIfInBounds x.snd x.fst) zero47 (newCells true mode win src fresh s f).zipIdx 0 (newCells true mode win src fresh s f).size = new47 mode win src fresh s f:=by kernel_rfl
theorem newCells_size (cf:Bool) (mode win src fresh s f:Int):(newCells cf mode win src fresh s f).size = 47:=by
 cases cf <;> rfl
theorem newCells_one (cf:Bool) (mode win src fresh s f:Int):(newCells cf mode win src fresh s f).all (·.oneCell') = true:=by
 cases cf
 ·rw [← Array.all_toList];rfl
 ·rw [← Array.all_toList];rfl
set_option maxRecDepth 100000 in
set_option maxHeartbeats 3200000 in
theorem p_new (mode win src fresh s f:Int) (ww:(Lit.int .i64 win).wf = true):PNews PS mode win src fresh s f:=by
 intro w
 have hz:=zeroS.1
 have hzt:=zeroT.1
 have B0:=hid' ((Below.refl w.heap.size w).alloc (Nat.le_refl _) (.cells #[.int .i64 mode,.int .i64 win,.int .i64 src,.int .i64 fresh,.int .i64 s,.int .i64 f] 100))
 have R0:=hid' (heap_alloc_new w (.cells #[.int .i64 mode,.int .i64 win,.int .i64 src,.int .i64 fresh,.int .i64 s,.int .i64 f] 100))
 have SN:=hid' (fun W => srv_new mode win src fresh s f W ww)
 clear ww
 have HSR0:Hid (cfgB mode win src fresh s f = true → 0 ≤ src ∧ src ≤ 8):=fun q => by
  unfold cfgB at q
  simp only [Bool.and_eq_true,decide_eq_true_eq] at q
  exact ⟨q.1.2.1,q.1.2.2.1⟩
 generalize cfgB mode win src fresh s f = cf at *
 have NI:Hid ((Tryz.prog.info? 153).map (·.size) = some (newCells cf mode win src fresh s f).size):=by show _ = _;rw [newCells_size];exact zeroS.2
 have NO:=hid' (newCells_one cf mode win src fresh s f)
 have NS:Hid (zero47.size = (newCells cf mode win src fresh s f).size):=by show _ = _;rw [newCells_size];rfl
 have NE:Hid (cf = true → newCells cf mode win src fresh s f = new47 mode win src fresh s f):=fun q => by rw [q];rfl
 have hns:(newCells cf mode win src fresh s f).size = 47:=newCells_size _ _ _ _ _ _ _
 have hz47:zero47.size = 47:=rfl
 have NF:Hid (cf = true → Array.foldl (fun cs (x:Value × Nat) => cs.setIfInBounds x.snd x.fst) zero47 (newCells cf mode win src fresh s f).zipIdx 0 (newCells cf mode win src fresh s f).size = new47 mode win src fresh s f):=fun q => by rw [q];exact fold47 mode win src fresh s f
 generalize newCells cf mode win src fresh s f = nc at *
 have HUN:=hid' Tryz.underlying153
 go_enter Tryz.func53,Tryz.ntmps53
 go_wp2_with fail
 refine (SN.out _).mono ?_
 rintro e w1 ⟨rfl,hb1⟩
 have B1:=hid' (B0.out.trans (hb1.mono B0.out.size))
 have s1:=B1.out.size
 clear hb1
 have RA:=hid' (heap_alloc_new w1 (.cells zero47 153))
 have BA:=hid' ((Below.refl w1.heap.size w1).alloc (Nat.le_refl _) (.cells zero47 153))
 have RW:=hid' (setRow_heap _ w1.heap.size _ nc _ _ RA.out)
 have BW:=hid' (B1.out.trans ((below_setRow (cs:=nc) BA.out (Nat.le_refl w1.heap.size)).mono s1))
 go_upto_region 2 with ((with_reducible refine wpl_store (g:=w1.heap.size) (cells:=nc) RA.out NI.out NS.out NO.out ?_ ?_ ?_);exact rfl;exact rfl)
 generalize hW:(w1.alloc (.cells zero47 153)).setRow w1.heap.size nc = W at *
 clear hW
 cases cf with
 | false =>
  have e10:((10:Int) != 0) = true:=rfl
  simp only [Bool.false_eq_true,if_false]
  go_wp2
  go_ret2
  exact ⟨fun _ => ⟨rfl,BW.out⟩,fun h => (by cases h)⟩
 | true =>
  have HSR:=hid' (HSR0.out rfl)
  simp only [if_true]
  go_wp2_with ((with_reducible refine wpl_load (g:=w1.heap.size) RW.out HUN.out ?_ NI.out ?_ ?_);exact rfl;exact rfl)
  go_ret2
  refine ⟨fun h => (by cases h),fun hcf => ⟨_,fun k => k = W.heap.size,rfl,⟨.slice none 0 0,.slice none 0 0,false,0,0,⟨?_,World.ownsRow_nil _ _ _ _,World.ownsRow_nil _ _ _ _,?_⟩,⟨fun h => (by cases h),fun _ i hi => (by simp [Sv.init] at hi)⟩,fun k => ⟨fun e => .inl e,fun e => ?_⟩⟩,fun k e => ?_,BW.out.alloc BW.out.size _⟩⟩
  ·refine (heap_alloc_new W _).trans ?_
   exact congrArg (fun c => some (Obj.cells c 157 (0,0))) ((by first | exact NF.out trivial | (have q:=NF.out trivial;rw [hns] at q;exact q):_ = new47 mode win src fresh s f).trans (init_cells HSR.out).symm)
  ·show (List.replicate src.toNat noHd).length ≤ 8
   rw [List.length_replicate];have:=HSR.out;omega
  ·rcases e with e | e | e
   ·exact e
   ·simp [Value.ownBlock] at e
   ·simp [Value.ownBlock] at e
  ·have e':k = W.heap.size:=e
   have:=BW.out.size
   omega
end Go.Proofs.YtmmkhodaljpjgaaGreatDoor
