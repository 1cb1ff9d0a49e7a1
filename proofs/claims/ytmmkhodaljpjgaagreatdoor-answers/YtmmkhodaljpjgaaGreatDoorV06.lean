import Derived.Deep.Cut
import Derived.Deep.CutBlock
import Derived.Deep.CutRange
import Derived.Deep.QuietTactic
import Derived.BigQuiet
import Derived.Test.YtmmkhodaljpjgaaGreatDoorV05
set_option maxRecDepth 100000
set_option maxHeartbeats 6400000
namespace Go.Proofs.YtmmkhodaljpjgaaGreatDoor
open Go.RowKit
theorem Num.set {B g n cap:Nat} {l:List Int} {w:World} (h:Num B (.slice (some ⟨g,0,none⟩) n cap) l w) (j:Nat) (x:Int):Num B (.slice (some ⟨g,0,none⟩) n cap) (l.set j x) (w.setCell ⟨g,j,none⟩ (.int .i64 x)):=by
 refine ⟨by rw [nums_length];omega,.inr ?_⟩
 rcases h.2 with ⟨e,_⟩ | ⟨g',cap',cur,e,a,b,c,d,f,q⟩
 ·cases e
 ·obtain ⟨e1,e2,rfl⟩:=Value.slice.inj e
  obtain rfl:g = g':=by simpa using e1
  refine ⟨g,cap,_,by rw [e2,List.length_set],a,heap_setCell_same _ _ _ _ _ _ b,by rw [List.length_set];exact c,d,by simp [f],?_⟩
  rw [List.length_set]
  simp only [Array.toList_setIfInBounds]
  rw [List.take_set,q]
  simp [nums,List.map_set]
theorem Num.reads {B g n cap:Nat} {l:List Int} {w:World} (h:Num B (.slice (some ⟨g,0,none⟩) n cap) l w) (j:Nat) (hj:j < l.length):w.cell? ⟨g,j,none⟩ = some (.int .i64 (l.getD j 0)):=by
 obtain ⟨g',cap',hs,_,_,_,hc⟩:=h.lies (by omega)
 obtain ⟨hgg,_,_⟩:=Value.slice.inj hs
 obtain rfl:g = g':=by simpa using hgg
 exact hc j hj
theorem Num.free {B g n cap:Nat} {l:List Int} {w:World} (h:Num B (.slice (some ⟨g,0,none⟩) n cap) l w) (j:Nat):w.frozen? ⟨g,j,none⟩ = false:=by
 rcases h.2 with ⟨e,_⟩ | ⟨g',cap',cur,e,a,b,c,d,f,q⟩
 ·cases e
 ·obtain ⟨e1,e2,rfl⟩:=Value.slice.inj e
  obtain rfl:g = g':=by simpa using e1
  exact frozen_of_row _ _ j _ _ b
theorem made_nums (n:Nat):(madeCells (Value.int .i64 0).cells (n * 1)).toList = nums (List.replicate n 0):=by
 have:(madeCells (Value.int .i64 0).cells (n * 1)).toList = List.replicate (n * 1) (Value.int .i64 0):=by
  refine List.eq_replicate_iff.2 ⟨by simp [madeCells],fun v hv => ?_⟩
  simp [madeCells,Value.cells,Nat.mod_one] at hv
  exact hv.2.symm
 rw [this];simp [nums]
theorem ref_times (B C:Nat) (a b:Nat) (va vb:Value) (w:World) (ha:Num B va (digs a) w) (hb:Num C vb (digs b) w) (la:(digs a).length ≤ 1000) (lb:(digs b).length ≤ 1000) :
  Calls Tryz.prog 99 #[va,vb] w fun e w' => ∃ v,e = .returned v ∧ Num w.heap.size v (digs (a * b)) w' ∧ Below w.heap.size w w':=by
 obtain ⟨i0,hi0,hz0,hz1,hz2⟩:=info_parts infoInt
 obtain ⟨aa,ac,rfl⟩:=ha.slice
 obtain ⟨ba,bc,rfl⟩:=hb.slice
 have HA:=hid' ha
 have HB:=hid' hb
 clear ha hb
 have TS:=hid' (tm_start a b)
 have HLE:=hid' (fun i k (A c:Int) O (h:TmI a b i k A c O) => h.len)
 have HLO:=hid' (fun i O (h:Tm a b i O) => h.len)
 obtain ⟨L,hL⟩:∃ L,(digs a).length = L:=⟨_,rfl⟩
 obtain ⟨M,hM⟩:∃ M,(digs b).length = M:=⟨_,rfl⟩
 have HLA:=hid' hL
 have HLB:=hid' hM
 rw [hL] at la ⊢
 rw [hM] at lb ⊢
 rw [hL,hM] at TS
 simp only [hL,hM] at HLE HLO
 clear hL hM
 obtain ⟨N,hN⟩:∃ N,L + M + 1 = N:=⟨_,rfl⟩
 have hN1:(L:Int) + (M:Int) + 1 = (N:Int):=by omega
 have hN2:N ≤ 2001:=by omega
 rw [hN] at TS HLE HLO
 have HN:=hid' hN
 clear hN
 go_enter Tryz.func99,Tryz.ntmps99
 go_wp2_with (first
  | (at_make;refine wpList_make_full _ rfl _ _ 24 rfl w.heap.size 3 i0 (.int .i64 0) 1 Tryz.underlying24 hi0 hz0 hz1 .i64 .i64 _ _ N rfl rfl (by simp) (by simp) (by rw [hz2];omega) (by unfold maxLen;omega) (Nat.le_refl _) ?_;intro W hown hgr;have HOWN:=hid' hown;have HGR:=hid' hgr;clear hown hgr))
 have N0:Hid (Num w.heap.size (.slice (some ⟨w.heap.size,0,none⟩) N N) (List.replicate N 0) W):=by
  show World.ownsRow _ _ _ _ _ _ _
  rw [List.length_replicate,← made_nums];exact HOWN.out
 have B0:=hid' ((Below.refl w.heap.size w).grown HGR.out (Nat.le_refl _) (fun k hk => by cases hk))
 clear HOWN HGR hi0 hz0 hz1 hz2
 generalize hG:w.heap.size = G at *
 go_loopw [6] (fun iv wr => ∃ (i:Nat) (O:List Int),i ≤ L ∧ iv = .int .i64 i ∧ Num G (.slice (some ⟨G,0,none⟩) N N) O wr ∧ Tm a b i O ∧ Below G w wr) (fun iv _ => L - (intOf iv).toNat)
 case atStart => exact ⟨0,_,by omega,rfl,N0.out,TS.out,B0.out⟩
 case round =>
  clear N0 B0 TS
  obtain ⟨i,O,hi,rfl,own,htm,hbl⟩:=hrel
  have OWN:=hid' own
  have HBL:=hid' hbl
  have HTM:=hid' htm
  by_cases cA:i < L
  ·have hiA:(i:Int) < (L:Int):=by omega
   obtain ⟨ga,ca,e1,lga,_,_,qa⟩:=HA.out.lies (by have:=HLA.out;omega)
   obtain ⟨rfl,_,rfl⟩:=Value.slice.inj e1
   have QA:=hid' (qa i (by have:=HLA.out;omega))
   have HE:=hid' (htm.enter' (by have:=HLA.out;omega))
   generalize (digs a).getD i 0 = A at QA HE
   clear own hbl htm e1 qa
   go_wp2
   go_loopw [7,8] (fun cv kv wr => ∃ (k:Nat) (c:Int) (O:List Int),k ≤ M + 1 ∧ kv = .int .i64 k ∧ cv = .int .i64 c ∧ Num G (.slice (some ⟨G,0,none⟩) N N) O wr ∧ TmI a b i k A c O ∧ Below G w wr) (fun _ kv _ => M + 2 - (intOf kv).toNat)
   case atStart => exact ⟨0,0,O,by omega,rfl,rfl,OWN.out,HE.out,HBL.out⟩
   case round =>
    clear HE HTM OWN HBL
    rename World => wq
    obtain ⟨k,c,O2,hk,rfl,rfl,own2,htmi,hbl2⟩:=hrel
    have OWN2:=hid' own2
    have HBL2:=hid' hbl2
    have HTMI:=hid' htmi
    have c0:=htmi.c0
    have c1:=htmi.c1
    have A0:=htmi.a0
    have A1:=htmi.a1
    have HD:=hid' htmi.dg
    by_cases cE:k < M ∨ 0 < c
    ·obtain ⟨rm1,rm2⟩:=htmi.room (by have:=HLA.out;omega) (by have:=HLB.out;omega)
     have HST:=hid' (htmi.step' rm1)
     have rm3:k ≤ M:=by have:=HLB.out;omega
     have hlen:=HLE.out _ _ _ _ _ htmi
     have o0:=own2.reads (i + k) rm1
     have f0:=own2.free (i + k)
     have obd:=dg_bd HD.out (i + k)
     obtain ⟨j,hj⟩:∃ j,i + k = j:=⟨_,rfl⟩
     have hj1:(i:Int) + (k:Int) = (j:Int):=by omega
     have z0:(0:Int) ≤ (j:Int):=by omega
     have z1:(j:Int) < (N:Int):=by omega
     have z2:j < N:=by omega
     have HJ:=hid' hj
     rw [hj] at o0 f0 obd HST
     generalize O2.getD j 0 = o at o0 obd HST
     by_cases cB:k < M
     ·have hiB:decide ((k:Int) < (M:Int)) = true:=by simp;omega
      have hiB2:(k:Int) < (M:Int):=by omega
      obtain ⟨gb,cb,e2,lgb,_,_,qb⟩:=HB.out.lies (by have:=HLB.out;omega)
      obtain ⟨rfl,_,rfl⟩:=Value.slice.inj e2
      have a0:=(hbl2.cell (p:=⟨ga,i,none⟩) (show ga < G by omega)).trans QA.out
      have b0:=(hbl2.cell (p:=⟨gb,k,none⟩) (show gb < G by omega)).trans (qb k (by have:=HLB.out;omega))
      have tb:=tmD_bd (b:=b) (k:=k) A0 A1
      have te:=tmD_lt' (b:=b) (k:=k) (A:=A) (by have:=HLB.out;omega)
      rw [te] at tb HST
      generalize (digs b).getD k 0 = y at b0 tb HST te
      obtain ⟨t,ht⟩:∃ t,A * y = t:=⟨_,rfl⟩
      rw [ht] at tb HST
      obtain ⟨q,hq⟩:∃ q,(c + t + o) / 10000 = q:=⟨_,rfl⟩
      obtain ⟨r,hr⟩:∃ r,(c + t + o) % 10000 = r:=⟨_,rfl⟩
      rw [hq,hr] at HST
      have q1:0 ≤ q ∧ q ≤ 9999:=by omega
      have r1:0 ≤ r ∧ r ≤ 9999:=by omega
      clear own2 hbl2 htmi hj te e2 qb hlen rm1 rm2 HLE HLO
      go_upto_region 10 with fail
      go_quiet (fail)
      go_wp2
      go_roundw
      case rel =>
       refine ⟨k + 1,q,_,by omega,by go_num,(by first | rfl | (rw [hq])),?_,HST.out,?_⟩
       ·exact OWN2.out.set j r
       ·first
         | exact below_drewN (HBL2.out.setCell (p:=⟨G,j,none⟩) (Nat.le_refl _) (.int .i64 r)) nq
         | exact (below_drewN HBL2.out nq).setCell (p:=⟨G,j,none⟩) (Nat.le_refl _) (.int .i64 r)
      case measure => simp [intOf];omega
     ·have hiB:decide ((k:Int) < (M:Int)) = false:=by simp;omega
      have hiB2:¬ (k:Int) < (M:Int):=by omega
      have hc4:decide ((0:Int) < c) = true:=by simp;omega
      have hc5:(0:Int) < c:=by omega
      rw [tmD_ge (by have:=HLB.out;omega),Int.add_zero] at HST
      obtain ⟨q,hq⟩:∃ q,(c + o) / 10000 = q:=⟨_,rfl⟩
      obtain ⟨r,hr⟩:∃ r,(c + o) % 10000 = r:=⟨_,rfl⟩
      rw [hq,hr] at HST
      have q1:0 ≤ q ∧ q ≤ 9999:=by omega
      have r1:0 ≤ r ∧ r ≤ 9999:=by omega
      clear own2 hbl2 htmi hj hlen rm1 rm2 HLE HLO
      go_wp2
      go_roundw
      case rel =>
       refine ⟨k + 1,q,_,by omega,by go_num,(by first | rfl | (rw [hq])),?_,HST.out,?_⟩
       ·exact OWN2.out.set j r
       ·exact HBL2.out.setCell (p:=⟨G,j,none⟩) (Nat.le_refl _) (.int .i64 r)
      case measure => simp [intOf];omega
    ·have hiB:decide ((k:Int) < (M:Int)) = false:=by simp;omega
     have hiB2:¬ (k:Int) < (M:Int):=by omega
     have hc4:decide ((0:Int) < c) = false:=by simp;omega
     have hc5:¬ (0:Int) < c:=by omega
     have HTL:=hid' (htmi.leave (by have:=HLB.out;omega) hc5)
     clear own2 hbl2 htmi HLE HLO
     go_wp2
     go_roundw
     case rel => exact ⟨i + 1,O2,by omega,by go_num,OWN2.out,HTL.out,HBL2.out⟩
     case measure => simp [intOf];omega
  ·have hiA:¬ (i:Int) < (L:Int):=by omega
   obtain rfl:i = L:=by omega
   have hlen:=HLO.out _ _ htm
   have hval:=(show Tm a b (digs a).length O by rw [HLA.out];exact htm).done
   have TR:=hid' (ref_trim G G N N O (a * b) wr own hlen htm.dg hval (by omega))
   clear own hbl htm HLE HLO hlen hval
   go_wp2_with fail
   refine TR.out.mono ?_
   rintro e w2 ⟨v,rfl,hnum,rfl⟩
   have HNUM:=hid' hnum
   clear hnum TR
   go_wp2
   go_ret
   exact ⟨v,rfl,by rw [hG];exact HNUM.out,by rw [hG];exact HBL.out⟩
theorem begins_month (sec:Int) (w:World) (w0:(Lit.int .i64 sec).wf = true) :
  Calls Tryz.prog 191 #[.int .i64 sec] w fun e w' => e = .returned (.bool (Tab.first sec)) ∧ w' = w:=by
 have hb:=bounds_i64 w0
 clear w0
 by_cases h0:sec < 0
 ·have H:Hid (Tab.first sec = false):=Tab.first_no fun h => by have:=h.1;omega
  by_cases h1:sec.tmod 86400 = 0
  ·have h1':(sec.tmod 86400 != 0) = false:=by rw [bne_eq_false_iff_eq];exact h1
   have hd:sec.tdiv 86400 < 0:=by
    have:=Int.mul_tdiv_add_tmod sec 86400
    omega
   go_enter Tryz.func191,Tryz.ntmps191
   go_wp2_with fail
   refine (civil_no (sec.tdiv 86400) _ (.inl hd)).mono ?_
   rintro e w' ⟨rfl,rfl⟩
   go_wp2
   go_ret
   exact ⟨ret_bool H.out.symm,rfl⟩
  ·have h1':(sec.tmod 86400 != 0) = true:=bne_iff_ne.2 h1
   go_enter Tryz.func191,Tryz.ntmps191
   go_wp2
   go_ret
   exact ⟨ret_bool H.out.symm,rfl⟩
 ·by_cases h1:sec % 86400 = 0
  ·by_cases h2:401767 ≤ sec / 86400
   ·have H:Hid (Tab.first sec = false):=Tab.first_no fun h => by
     obtain ⟨_,_,y,m,hi,_⟩:=h
     have a:=hi.year
     have b:=Cal.yb_mono (y + 1) 3000 (by have:=hi.y2;omega)
     rw [Cal.yb_last] at b
     omega
    go_enter Tryz.func191,Tryz.ntmps191
    go_wp2_with fail
    refine (civil_no (sec / 86400) _ (.inr h2)).mono ?_
    rintro e w' ⟨rfl,rfl⟩
    go_wp2
    go_ret
    exact ⟨ret_bool H.out.symm,rfl⟩
   ·go_enter Tryz.func191,Tryz.ntmps191
    go_wp2_with fail
    refine (civil_yes (sec / 86400) _ (by omega) (by omega)).mono ?_
    rintro e w' ⟨⟨y,m,rfl,hin⟩,rfl⟩
    have HI:=hid' hin
    clear hin
    by_cases h3:sec / 86400 = Cal.yb y + Cal.cum y m
    ·have H:Hid (Tab.first sec = true):=Tab.first_yes ⟨by omega,h1,y,m,HI.out,h3⟩
     have hd:(sec / 86400 - Cal.yb y - Cal.cum y m + 1 == 1) = true:=by rw [beq_iff_eq];omega
     generalize sec / 86400 - Cal.yb y - Cal.cum y m + 1 = v at *
     clear h3
     go_wp2
     go_ret
     exact ⟨ret_bool H.out.symm,rfl⟩
    ·have H:Hid (Tab.first sec = false):=Tab.first_no fun h => by
      obtain ⟨_,_,z,o,hi,hq⟩:=h
      obtain ⟨rfl,rfl⟩:=hi.only HI.out
      exact h3 hq
     have hd:(sec / 86400 - Cal.yb y - Cal.cum y m + 1 == 1) = false:=by rw [beq_eq_false_iff_ne];omega
     generalize sec / 86400 - Cal.yb y - Cal.cum y m + 1 = v at *
     clear h3
     go_wp2
     go_ret
     exact ⟨ret_bool H.out.symm,rfl⟩
  ·have H:Hid (Tab.first sec = false):=Tab.first_no fun h => h1 h.2.1
   have h1':(sec % 86400 != 0) = true:=bne_iff_ne.2 h1
   go_enter Tryz.func191,Tryz.ntmps191
   go_wp2
   go_ret
   exact ⟨ret_bool H.out.symm,rfl⟩
theorem can_follow_nil (ao:Option Addr) (cap:Nat) (a o:Int) (w:World) (wa:(Lit.int .i64 a).wf = true) (wo:(Lit.int .i64 o).wf = true) :
  Calls Tryz.prog 169 #[.slice ao 0 cap,.agg #[.int .i64 a,.int .i64 o]] w fun e w' => e = .returned (.bool (Tab.follows [] a o)) ∧ Below w.heap.size w w':=by
 have HFst:=hid' (begins_month a (w.alloc (.cells #[.int .i64 a,.int .i64 o] 84)) wa)
 have bo:=bounds_i64 wo
 have HBel:=hid' ((Below.refl w.heap.size w).alloc (Nat.le_refl _) (.cells #[.int .i64 a,.int .i64 o] 84))
 clear wa wo
 cases hf:Tab.first a with
 | false =>
  rw [hf] at HFst
  have H:Hid (Tab.follows [] a o = false):=Tab.follows_no1 hf
  clear hf
  go_enter Tryz.func169,Tryz.ntmps169
  go_wp2_with (go_at_call 191;refine HFst.out.mono ?_;rintro e w' ⟨rfl,rfl⟩)
  go_ret
  exact ⟨ret_bool H.out.symm,HBel.out⟩
 | true =>
  rw [hf] at HFst
  by_cases h0:o < 0
  ·have H:Hid (Tab.follows [] a o = false):=Tab.follows_no2 h0
   clear hf
   go_enter Tryz.func169,Tryz.ntmps169
   go_wp2_with (go_at_call 191;refine HFst.out.mono ?_;rintro e w' ⟨rfl,rfl⟩)
   go_ret
   exact ⟨ret_bool H.out.symm,HBel.out⟩
  ·by_cases h1:200 < o
   ·have H:Hid (Tab.follows [] a o = false):=Tab.follows_no3 h1
    clear hf
    go_enter Tryz.func169,Tryz.ntmps169
    go_wp2_with (go_at_call 191;refine HFst.out.mono ?_;rintro e w' ⟨rfl,rfl⟩)
    go_ret
    exact ⟨ret_bool H.out.symm,HBel.out⟩
   ·have H:Hid (Tab.follows [] a o = true):=Tab.follows_nil hf (by omega) (by omega)
    clear hf
    go_enter Tryz.func169,Tryz.ntmps169
    go_wp2_with (go_at_call 191;refine HFst.out.mono ?_;rintro e w' ⟨rfl,rfl⟩)
    go_ret
    exact ⟨ret_bool H.out.symm,HBel.out⟩
theorem can_follow_some (g cap q:Nat) (ls:List (Int × Int)) (a o:Int) (w:World) (wa:(Lit.int .i64 a).wf = true) (wo:(Lit.int .i64 o).wf = true)
  (hq:ls.length = q + 1) (h40:q < 40) (hl:Lies w g ls) (hg:g < w.heap.size) (hok:∀ p ∈ ls,0 ≤ p.2 ∧ p.2 ≤ 200) :
  Calls Tryz.prog 169 #[.slice (some ⟨g,0,none⟩) ((q + 1:Nat)) cap,.agg #[.int .i64 a,.int .i64 o]] w fun e w' => e = .returned (.bool (Tab.follows ls a o)) ∧ Below w.heap.size w w':=by
 have HFst:=hid' (begins_month a (w.alloc (.cells #[.int .i64 a,.int .i64 o] 84)) wa)
 have bo:=bounds_i64 wo
 have HBel:=hid' ((Below.refl w.heap.size w).alloc (Nat.le_refl _) (.cells #[.int .i64 a,.int .i64 o] 84))
 have hp:=hok (ls[q]'(by omega)) (List.getElem_mem _)
 have c1:=(HBel.out.cell (p:=⟨g,q * 2,none⟩) hg).trans (hl q (by omega)).1
 have c2:=(HBel.out.cell (p:=⟨g,q * 2 + 1,none⟩) hg).trans (hl q (by omega)).2
 have hlast:=fun h h0 h1 h2 => Tab.follows_last (ls:=ls) (a:=a) (o:=o) h h0 h1 h2 q hq
 have HLAST:=hid' hlast
 clear hlast wa wo
 generalize ls[q]'(by omega) = p at *
 obtain ⟨pa,po⟩:=p
 simp only at hp c1 c2
 have hq40:ls.length = 40 ↔ q = 39:=by omega
 have H40:=hid' hq40
 clear hok hq hq40 hl
 by_cases h2:q = 39
 ·have H:Hid (Tab.follows ls a o = false):=Tab.follows_no4 (H40.out.2 h2)
  clear c1 c2 H40 HLAST
  subst h2
  go_enter Tryz.func169,Tryz.ntmps169
  go_wp2
  go_ret
  exact ⟨ret_bool H.out.symm,HBel.out⟩
 have h39:q < 39:=by omega
 clear h40
 cases hf:Tab.first a with
 | false =>
  rw [hf] at HFst
  have H:Hid (Tab.follows ls a o = false):=Tab.follows_no1 hf
  clear hf c1 c2
  go_enter Tryz.func169,Tryz.ntmps169
  go_wp2_with (go_at_call 191;refine HFst.out.mono ?_;rintro e w' ⟨rfl,rfl⟩)
  go_ret
  exact ⟨ret_bool H.out.symm,HBel.out⟩
 | true =>
  rw [hf] at HFst
  by_cases h0:o < 0
  ·have H:Hid (Tab.follows ls a o = false):=Tab.follows_no2 h0
   clear hf c1 c2
   go_enter Tryz.func169,Tryz.ntmps169
   go_wp2_with (go_at_call 191;refine HFst.out.mono ?_;rintro e w' ⟨rfl,rfl⟩)
   go_ret
   exact ⟨ret_bool H.out.symm,HBel.out⟩
  ·by_cases h1:200 < o
   ·have H:Hid (Tab.follows ls a o = false):=Tab.follows_no3 h1
    clear hf c1 c2
    go_enter Tryz.func169,Tryz.ntmps169
    go_wp2_with (go_at_call 191;refine HFst.out.mono ?_;rintro e w' ⟨rfl,rfl⟩)
    go_ret
    exact ⟨ret_bool H.out.symm,HBel.out⟩
   ·have H:Hid (Tab.follows ls a o = Tab.behindB (pa,po) a o):=HLAST.out hf (by omega) (by omega) (fun h => h2 (H40.out.1 h))
    clear hf HLAST H40 h2
    go_enter Tryz.func169,Tryz.ntmps169
    go_wp2_with (go_at_call 191;refine HFst.out.mono ?_;rintro e w' ⟨rfl,rfl⟩)
    all_goals
     go_ret
     refine ⟨ret_bool ?_,((Below.refl w.heap.size w).alloc (Nat.le_refl _) _).alloc (by simp) _⟩
     rw [H.out]
     unfold Tab.behindB
     simp
     try omega
namespace Txt
def field (p:ByteArray) (i:Nat):Int:=byte p (i + 2) * 256 + byte p (i + 3)
theorem field_bd (p:ByteArray) (i:Nat):0 ≤ field p i ∧ field p i < 65536:=by
 have:=byte_bd p (i + 2);have:=byte_bd p (i + 3);unfold field;omega
def extsF (p:ByteArray):Nat → Nat → Bool
 | 0,_ => true
 | f + 1,i => if p.size ≤ i then true else if p.size < i + 16 then false else if field p i < 16 ∨ field p i % 4 ≠ 0 ∨ (p.size:Int) - i < field p i then false else extsF p f (i + (field p i).toNat)
def exts (p:ByteArray) (i:Nat):Bool:=extsF p (p.size - i) i
theorem extsF_succ (p:ByteArray) (f i:Nat):extsF p (f + 1) i = if p.size ≤ i then true else if p.size < i + 16 then false else if field p i < 16 ∨ field p i % 4 ≠ 0 ∨ (p.size:Int) - i < field p i then false else extsF p f (i + (field p i).toNat):=rfl
theorem extsF_more (p:ByteArray) (f i:Nat) (h:p.size - i ≤ f):extsF p (f + 1) i = extsF p f i:=by
 induction f generalizing i with
 | zero => rw [extsF_succ,if_pos (by omega)];rfl
 | succ f ih =>
  by_cases c:p.size ≤ i
  ·rw [extsF_succ p (f + 1) i,extsF_succ p f i,if_pos c,if_pos c]
  ·rw [extsF_succ p (f + 1) i,extsF_succ p f i,if_neg c,if_neg c]
   by_cases c2:p.size < i + 16
   ·rw [if_pos c2,if_pos c2]
   ·rw [if_neg c2,if_neg c2]
    by_cases c3:field p i < 16 ∨ field p i % 4 ≠ 0 ∨ (p.size:Int) - i < field p i
    ·rw [if_pos c3,if_pos c3]
    ·rw [if_neg c3,if_neg c3,ih (i + (field p i).toNat) (by omega)]
theorem extsF_all (p:ByteArray) (i k:Nat):extsF p (p.size - i + k) i = exts p i:=by
 induction k with
 | zero => rfl
 | succ k ih => rw [← Nat.add_assoc,extsF_more _ _ _ (by omega),ih]
def asks (p:ByteArray):Bool:=decide (48 ≤ p.size) && decide (p.size ≤ 300) && decide (byte p 0 % 8 = 3) && decide (1 ≤ byte p 0 / 8 % 8) && decide (byte p 0 / 8 % 8 ≤ 4) && exts p 48
theorem low3 (b:UInt8):bits BinOp.and IntKind.u8 (b.toNat:Int) 7 = (b.toNat:Int) % 8 :=
 (show ∀ x:Fin 256,bits BinOp.and IntKind.u8 (x.val:Int) 7 = (x.val:Int) % 8 by decide +kernel) ⟨b.toNat,b.toNat_lt⟩
theorem mid3 (b:UInt8):bits BinOp.and IntKind.i64 (wrap64 (b.toNat:Int) / 8) 7 = (b.toNat:Int) / 8 % 8 :=
 (show ∀ x:Fin 256,bits BinOp.and IntKind.i64 (wrap64 (x.val:Int) / 8) 7 = (x.val:Int) / 8 % 8 by decide +kernel) ⟨b.toNat,b.toNat_lt⟩
theorem or8 (a c:UInt8):bits BinOp.or IntKind.i64 (wrap64 (wrap64 (a.toNat:Int) * 256)) (wrap64 (c.toNat:Int)) = (a.toNat:Int) * 256 + c.toNat:=by
 have ha:=a.toNat_lt
 have hc:=c.toNat_lt
 generalize a.toNat = x at *
 generalize c.toNat = y at *
 have e1:wrap64 (wrap64 (x:Int) * 256) = ((x * 256:Nat):Int):=by unfold wrap64;omega
 have e2:wrap64 (y:Int) = (y:Int):=by unfold wrap64;omega
 rw [e1,e2]
 have h:x * 256 ||| y = x * 256 + y:=by
  have:=Nat.shiftLeft_add_eq_or_of_lt (a:=x) (b:=y) (i:=8) (by omega)
  rw [Nat.shiftLeft_eq] at this
  exact this.symm
 have hb:(BitVec.ofInt 64 ((x * 256:Nat):Int) ||| BitVec.ofInt 64 (y:Int)).toNat = x * 256 + y:=by
  rw [BitVec.toNat_or,BitVec.ofInt_natCast,BitVec.ofInt_natCast,BitVec.toNat_ofNat,BitVec.toNat_ofNat,Nat.mod_eq_of_lt (by omega),Nat.mod_eq_of_lt (by omega),h]
 show IntKind.i64.wrap ((BitVec.ofInt 64 ((x * 256:Nat):Int) ||| BitVec.ofInt 64 (y:Int)).toNat:Int) = _
 rw [hb,IntKind.wrap_i64]
 omega
theorem exts_end {p:ByteArray} {i:Nat} (h:p.size ≤ i):exts p i = true:=by
 rw [exts,show p.size - i = 0 from by omega];rfl
theorem exts_at {p:ByteArray} {i:Nat} (h:i < p.size):exts p i = if p.size < i + 16 then false else if field p i < 16 ∨ field p i % 4 ≠ 0 ∨ (p.size:Int) - i < field p i then false else extsF p (p.size - i - 1) (i + (field p i).toNat):=by
 obtain ⟨k,hk⟩:∃ k,p.size - i = k + 1:=⟨p.size - i - 1,by omega⟩
 rw [exts,hk,extsF_succ,if_neg (by omega),Nat.add_sub_cancel]
theorem exts_short {p:ByteArray} {i:Nat} (h:i < p.size) (h2:p.size < i + 16):exts p i = false:=by rw [exts_at h,if_pos h2]
theorem exts_bad {p:ByteArray} {i:Nat} (h:i < p.size) (h2:¬ p.size < i + 16) (h3:field p i < 16 ∨ field p i % 4 ≠ 0 ∨ (p.size:Int) - i < field p i):exts p i = false:=by rw [exts_at h,if_neg h2,if_pos h3]
theorem exts_next {p:ByteArray} {i:Nat} (h:i < p.size) (h2:¬ p.size < i + 16) (h3:¬ (field p i < 16 ∨ field p i % 4 ≠ 0 ∨ (p.size:Int) - i < field p i)):exts p i = exts p (i + (field p i).toNat):=by
 rw [exts_at h,if_neg h2,if_neg h3]
 have e:p.size - (i + (field p i).toNat) + (p.size - i - 1 - (p.size - (i + (field p i).toNat))) = p.size - i - 1:=by omega
 rw [← extsF_all p (i + (field p i).toNat) (p.size - i - 1 - (p.size - (i + (field p i).toNat))),e]
end Txt
theorem low8 (x:Int) (h0:0 ≤ x) (h1:x < 9223372036854775808):bits BinOp.and IntKind.i64 x 255 = x % 256:=by
 obtain ⟨n,rfl⟩:∃ n:Nat,x = n:=⟨x.toNat,by omega⟩
 have hb:(BitVec.ofInt 64 (n:Int) &&& BitVec.ofInt 64 (255:Int)).toNat = n % 256:=by
  rw [BitVec.toNat_and,BitVec.ofInt_natCast,BitVec.toNat_ofNat,Nat.mod_eq_of_lt (by omega)]
  show n &&& 255 = n % 256
  exact Nat.and_two_pow_sub_one_eq_mod n 8
 show IntKind.i64.wrap ((BitVec.ofInt 64 (n:Int) &&& BitVec.ofInt 64 (255:Int)).toNat:Int) = _
 rw [hb,IntKind.wrap_i64]
 omega
theorem infoByte:(Tryz.prog.info? 5).map (fun i => (i.zero,i.size,i.bytes)) = some (some (.int .u8 0),1,1):=by kernel_rfl
def cells8 (l:List UInt8):List Value:=l.map fun b => .int .u8 (b.toNat:Int)
def byteOf (x:Int):UInt8:=UInt8.ofNat (x % 256).toNat
theorem byteOf_val (x:Int):((byteOf x).toNat:Int) = x % 256:=by
 unfold byteOf;simp;omega
def four (x:Int):List UInt8:=[byteOf (x / 16777216),byteOf (x / 65536),byteOf (x / 256),byteOf x]
theorem conv_back {V:World} {t:List UInt8} {B g cap n:Nat} (h:V.ownsRow B 5 1 (.slice (some ⟨g,0,none⟩) n cap) n (cells8 t)) (hn:n = t.length) :
  (convert 44 9 (.slice (some ⟨g,0,none⟩) n cap)).run Tryz.prog V = .ok (.string ⟨t.toArray⟩) V:=by
 subst hn
 refine run_convert_bytes_back (P:=Tryz.prog) V 44 9 5 ⟨g,0,none⟩ cap t Tryz.underlying44 Tryz.underlying5 Tryz.underlying9 (fun j hj => ?_)
 have hadd:(⟨g,0,none⟩:Addr).add j = ⟨g,j,none⟩:=by unfold Addr.add;split <;> simp_all
 rw [hadd,h.cellAt j (by omega)]
 simp [cells8,List.getElem?_eq_getElem hj]
def first8 (li:Int) (p:ByteArray):UInt8:=byteOf (li * 64 + Txt.byte p 0 / 8 % 8 * 8 + 4)
def ansB (li:Int) (p:ByteArray) (tab:Bool) (ts tf:Int):ByteArray :=
 ByteArray.mk #[first8 li p,if tab then 1 else 0,byteOf (Txt.byte p 2),236,0,0,0,0,0,0,0,0] ++ (if tab then ByteArray.mk #[76,69,65,80] else ByteArray.mk #[73,78,73,84]) ++ ⟨(four ts ++ four tf).toArray⟩ ++ p.extract 40 48 ++ ⟨(four ts ++ four tf).toArray⟩ ++ ⟨(four ts ++ four tf).toArray⟩
theorem first_or (b:UInt8) (li:Int) (hl:li = 0 ∨ li = 1 ∨ li = 2 ∨ li = 3):bits BinOp.or IntKind.u8 (bits BinOp.or IntKind.u8 (li * 64) (bits BinOp.and IntKind.u8 (b.toNat:Int) 56)) 4 = li * 64 + (b.toNat:Int) / 8 % 8 * 8 + 4:=by
 rcases hl with rfl | rfl | rfl | rfl
 ·exact (show ∀ x:Fin 256,bits BinOp.or IntKind.u8 (bits BinOp.or IntKind.u8 ((0:Int) * 64) (bits BinOp.and IntKind.u8 (x.val:Int) 56)) 4 = 0 * 64 + (x.val:Int) / 8 % 8 * 8 + 4 by decide +kernel) ⟨b.toNat,b.toNat_lt⟩
 ·exact (show ∀ x:Fin 256,bits BinOp.or IntKind.u8 (bits BinOp.or IntKind.u8 ((1:Int) * 64) (bits BinOp.and IntKind.u8 (x.val:Int) 56)) 4 = 1 * 64 + (x.val:Int) / 8 % 8 * 8 + 4 by decide +kernel) ⟨b.toNat,b.toNat_lt⟩
 ·exact (show ∀ x:Fin 256,bits BinOp.or IntKind.u8 (bits BinOp.or IntKind.u8 ((2:Int) * 64) (bits BinOp.and IntKind.u8 (x.val:Int) 56)) 4 = 2 * 64 + (x.val:Int) / 8 % 8 * 8 + 4 by decide +kernel) ⟨b.toNat,b.toNat_lt⟩
 ·exact (show ∀ x:Fin 256,bits BinOp.or IntKind.u8 (bits BinOp.or IntKind.u8 ((3:Int) * 64) (bits BinOp.and IntKind.u8 (x.val:Int) 56)) 4 = 3 * 64 + (x.val:Int) / 8 % 8 * 8 + 4 by decide +kernel) ⟨b.toNat,b.toNat_lt⟩
theorem first_bits (li:Int) (p:ByteArray) (l0:0 < p.size) (hl:li = 0 ∨ li = 1 ∨ li = 2 ∨ li = 3):bits BinOp.or IntKind.u8 (bits BinOp.or IntKind.u8 (li * 64) (bits BinOp.and IntKind.u8 ((p[0]'l0).toNat:Int) 56)) 4 = ((first8 li p).toNat:Int):=by
 rw [first_or _ _ hl]
 unfold first8
 rw [byteOf_val,Txt.byte_at p 0 l0]
 have:=(p[0]'l0).toNat_lt
 omega
namespace Txt
theorem byte_ext (p:ByteArray) (k j:Nat):byte (p.extract k p.size) j = byte p (k + j):=by
 unfold byte
 by_cases h:k + j < p.size
 ·rw [List.getD_eq_getElem?_getD,List.getD_eq_getElem?_getD]
  congr 2
  simp only [Array.getElem?_toList,ByteArray.data_extract,Array.getElem?_extract]
  rw [if_pos (by have:p.size = p.data.size:=rfl;omega)]
 ·have e1:(p.extract k p.size).data.toList.length ≤ j:=by
   have:(p.extract k p.size).size ≤ j:=by rw [ByteArray.size_extract];omega
   simpa using this
  have e2:p.data.toList.length ≤ k + j:=by
   have:p.size ≤ k + j:=by omega
   simpa using this
  rw [List.getD_eq_getElem?_getD,List.getD_eq_getElem?_getD,List.getElem?_eq_none e1,List.getElem?_eq_none e2]
theorem field_ext (p:ByteArray) (k i:Nat):field (p.extract k p.size) i = field p (k + i):=by
 unfold field;rw [byte_ext,byte_ext,Nat.add_assoc,Nat.add_assoc]
theorem size_ext' (p:ByteArray) (k:Nat):(p.extract k p.size).size = p.size - k:=by rw [ByteArray.size_extract];omega
theorem extsF_ext (p:ByteArray) (k:Nat) (hk:k ≤ p.size):∀ f i,extsF (p.extract k p.size) f i = extsF p f (k + i):=by
 intro f
 induction f with
 | zero => intro i;rfl
 | succ f ih =>
  intro i
  rw [extsF_succ,extsF_succ,field_ext,size_ext',ih]
  have c1:(p.size - k ≤ i) = (p.size ≤ k + i):=by rw [eq_iff_iff];omega
  have c2:(p.size - k < i + 16) = (p.size < k + i + 16):=by rw [eq_iff_iff];omega
  have c3:(((p.size - k:Nat):Int) - (i:Int) < field p (k + i)) = ((p.size:Int) - ((k + i:Nat):Int) < field p (k + i)):=by rw [eq_iff_iff];omega
  rw [Nat.add_assoc k i (field p (k + i)).toNat]
  simp only [c1,c2,c3]
theorem exts_ext (p:ByteArray) (k:Nat) (hk:k ≤ p.size):exts (p.extract k p.size) 0 = exts p k:=by
 unfold exts;rw [extsF_ext p k hk,size_ext'];rfl
def flen (s:ByteArray):Int:=if s.size < 16 then 0 else if field s 0 % 4 ≠ 0 then 0 else field s 0
theorem ver3 (b:UInt8):bits BinOp.and IntKind.u8 ((b.toNat:Int) / 8) 7 = (b.toNat:Int) / 8 % 8 :=
 (show ∀ x:Fin 256,bits BinOp.and IntKind.u8 ((x.val:Int) / 8) 7 = (x.val:Int) / 8 % 8 by decide +kernel) ⟨b.toNat,b.toNat_lt⟩
end Txt
theorem four_back (V:World) (a c d e:UInt8) (x y z u:Int) (hx:x = (a.toNat:Int)) (hy:y = (c.toNat:Int)) (hz:z = (d.toNat:Int)) (hu:u = (e.toNat:Int)):(convert 44 9 (.slice (some ⟨V.heap.size,0,none⟩) 4 4)).run Tryz.prog (V.alloc (.cells #[.int .u8 x,.int .u8 y,.int .u8 z,.int .u8 u] 5)) = .ok (.string ⟨#[a,c,d,e]⟩) (V.alloc (.cells #[.int .u8 x,.int .u8 y,.int .u8 z,.int .u8 u] 5)):=by
 subst hx hy hz hu
 refine run_convert_bytes_back (P:=Tryz.prog) _ 44 9 5 ⟨V.heap.size,0,none⟩ 4 [a,c,d,e] Tryz.underlying44 Tryz.underlying5 Tryz.underlying9 (fun j hj => ?_)
 have hadd:(⟨V.heap.size,0,none⟩:Addr).add j = ⟨V.heap.size,j,none⟩:=by unfold Addr.add;split <;> simp_all
 rw [hadd,cell_of_row _ _ j _ _ _ (heap_alloc_new V _)]
 have h:j = 0 ∨ j = 1 ∨ j = 2 ∨ j = 3:=by simp at hj;omega
 rcases h with rfl | rfl | rfl | rfl <;> rfl
def Sv.tk (x:Sv) (ls:List (Int × Int)):Nat → List (Int × Int) × List (Int × Int)
 | 0 => (x.done,x.began)
 | k + 1 => if Tab.when ls k ≤ x.ns then ((x.tk ls k).1 ++ [ls.getD k (0,0)],(x.tk ls k).2 ++ [(Tab.when ls k - x.win,0)]) else x.tk ls k
def Sv.cmAt (x:Sv) (ls:List (Int × Int)) (i:Nat):Cm:=⟨(ls.getD i (0,0)).1,(ls.getD i (0,0)).2,(x.opens (Tab.when ls i)).1,(x.opens (Tab.when ls i)).2,false⟩
def Sv.cms (x:Sv) (ls:List (Int × Int)) (i:Nat):Nat → List Cm
 | 0 => []
 | k + 1 => x.cms ls i k ++ [x.cmAt ls (i + k)]
def Sv.begun1 (x:Sv) (ls:List (Int × Int)):Sv:=if x.ld = false then { x with done:=(x.tk ls ls.length).1,began:=(x.tk ls ls.length).2 } else x
def Sv.stamp (x:Sv) (up ex:Int):Sv:={ x with ld:=true,up:=up,ex:=ex,com:=[] }
def Sv.comes (x:Sv) (ls:List (Int × Int)) (k:Nat):Sv:={ x with com:=x.cms ls x.done.length k }
def Sv.taken (x:Sv) (up ex:Int) (ls:List (Int × Int)):Sv:=((x.begun1 ls).stamp up ex).comes ls (ls.length - (x.begun1 ls).done.length)
def Sv.load (x:Sv) (g:Txt.Got):Int × Int × Sv:=if x.loadErr g ≠ 0 then (x.loadErr g,g.num,x.refuse) else (0,0,(x.taken g.up g.ex g.ls).weigh)
theorem Sv.cms_length (x:Sv) (ls:List (Int × Int)) (i k:Nat):(x.cms ls i k).length = k:=by
 induction k with
 | zero => rfl
 | succ k ih => simp [Sv.cms,ih]
theorem Sv.cms_at (x:Sv) (ls:List (Int × Int)) (i k j:Nat) (c:Cm) (h:(x.cms ls i k)[j]? = some c):j < k ∧ c = x.cmAt ls (i + j):=by
 induction k with
 | zero => simp [Sv.cms] at h
 | succ k ih =>
  simp only [Sv.cms] at h
  by_cases e:j < k
  ·rw [List.getElem?_append_left (by rw [x.cms_length];exact e)] at h
   exact ⟨by omega,(ih h).2⟩
  ·rw [List.getElem?_append_right (by rw [x.cms_length];omega),x.cms_length] at h
   by_cases e':j = k
   ·subst e';simp at h;exact ⟨by omega,h.symm⟩
   ·rw [List.getElem?_eq_none (by simp;omega)] at h;cases h
theorem Sv.cms_map (x:Sv) (ls:List (Int × Int)) (i k:Nat) (h:i + k ≤ ls.length):(x.cms ls i k).map cmP = (ls.drop i).take k:=by
 induction k with
 | zero => simp [Sv.cms]
 | succ k ih =>
  have e1:=getD_at (ls:=ls) (i + k) (by omega)
  rw [Sv.cms,List.map_append,ih (by omega),List.take_succ_eq_append_getElem (show k < (ls.drop i).length by rw [List.length_drop];omega)]
  congr 1
  rw [List.getElem_drop]
  show [((ls.getD (i + k) (0,0)).1,(ls.getD (i + k) (0,0)).2)] = _
  rw [e1]
theorem Sv.cms_v (x:Sv) (ls:List (Int × Int)) (i k:Nat):∀ c ∈ x.cms ls i k,c.v = false:=fun c hc => by
 obtain ⟨j,hj,rfl⟩:=List.getElem_of_mem hc
 rw [(x.cms_at ls i k j _ (List.getElem?_eq_getElem hj)).2];rfl
theorem Sv.tk_eq {x:Sv} {ls:List (Int × Int)} (hd:x.done = []) (hb:x.began = []) (hf:Tab.Fit ls) (k:Nat) (hk:k ≤ ls.length) :
  (x.tk ls k).1 = ls.take (min k (Tab.lastAt ls x.ns ls.length + 1).toNat) ∧ (x.tk ls k).2.length = min k (Tab.lastAt ls x.ns ls.length + 1).toNat ∧ ∀ i,i < min k (Tab.lastAt ls x.ns ls.length + 1).toNat → (x.tk ls k).2.getD i (0,0) = (Tab.when ls i - x.win,0):=by
 have lb:=Tab.lastAt_bd ls x.ns ls.length
 induction k with
 | zero => simp [Sv.tk,hd,hb]
 | succ k ih =>
  obtain ⟨i1,i2,i3⟩:=ih (by omega)
  have q:=hf.lastAt_iff x.ns ls.length k (Nat.le_refl _) (by omega)
  unfold Sv.tk
  by_cases c:Tab.when ls k ≤ x.ns
  ·have c':=q.1 c
   rw [if_pos c]
   have m1:min k (Tab.lastAt ls x.ns ls.length + 1).toNat = k:=by omega
   have m2:min (k + 1) (Tab.lastAt ls x.ns ls.length + 1).toNat = k + 1:=by omega
   rw [m1] at i1 i2 i3
   rw [m2]
   refine ⟨?_,by simp [i2],fun i hi => ?_⟩
   ·show (x.tk ls k).1 ++ [ls.getD k (0,0)] = _
    rw [i1,List.take_succ_eq_append_getElem (by omega),getD_at k (by omega)]
   ·show ((x.tk ls k).2 ++ [(Tab.when ls k - x.win,0)]).getD i (0,0) = _
    by_cases e:i = k
    ·subst e
     have:=getD_new (x.tk ls i).2 (Tab.when ls i - x.win,0)
     rw [i2] at this;exact this
    ·rw [getD_leftI _ _ _ (by rw [i2];omega)];exact i3 i (by omega)
  ·rw [if_neg c]
   have c':¬ (k:Int) ≤ Tab.lastAt ls x.ns ls.length:=fun e => c (q.2 e)
   have m1:min (k + 1) (Tab.lastAt ls x.ns ls.length + 1).toNat = min k (Tab.lastAt ls x.ns ls.length + 1).toNat:=by omega
   rw [m1]
   exact ⟨i1,i2,i3⟩
theorem Sv.Inv.mid1 {x:Sv} (h:x.Inv) {ls:List (Int × Int)} (hf:Tab.Fit ls) (ha:x.agrees ls = true) :
  ∃ m,m ≤ ls.length ∧ 0 < m ∧ (x.begun1 ls).done = ls.take m ∧ (x.begun1 ls).began.length = m ∧ Tab.when ls 0 ≤ x.ns ∧ (m < ls.length → x.ns < Tab.when ls m) ∧ (∀ i,i < m → x.Bg (Tab.when ls i) ((x.begun1 ls).began.getD i (0,0)).1 ((x.begun1 ls).began.getD i (0,0)).2) ∧
   (x.begun1 ls) = { x with done:=(x.begun1 ls).done,began:=(x.begun1 ls).began }:=by
 obtain ⟨t0,t1,t2,t3⟩:=h.num.t'
 obtain ⟨w0,w1⟩:=h.num.win
 rcases (Bool.eq_false_or_eq_true x.ld).symm with hd | hd
 ·have a0:Tab.when ls 0 ≤ x.ns:=by
   unfold Sv.agrees at ha
   rw [if_pos hd] at ha
   exact of_decide_eq_true ha
  obtain ⟨n1,n2,n3,_⟩:=h.no hd
  obtain ⟨k1,k2,k3⟩:=Sv.tk_eq (x:=x) n1 n2 hf ls.length (Nat.le_refl _)
  have l:=hf.lastAt_le x.ns a0
  have e:x.begun1 ls = { x with done:=(x.tk ls ls.length).1,began:=(x.tk ls ls.length).2 }:=by unfold Sv.begun1;rw [if_pos hd]
  have m1:min ls.length (Tab.lastAt ls x.ns ls.length + 1).toNat = (Tab.lastAt ls x.ns ls.length + 1).toNat:=by omega
  rw [m1] at k1 k2 k3
  refine ⟨(Tab.lastAt ls x.ns ls.length + 1).toNat,by omega,by omega,by rw [e];exact k1,by rw [e];exact k2,a0,fun q => ?_,fun i hi => ?_,by rw [e]⟩
  ·have q':=hf.lastAt_iff x.ns ls.length (Tab.lastAt ls x.ns ls.length + 1).toNat (Nat.le_refl _) q
   by_cases z:x.ns < Tab.when ls (Tab.lastAt ls x.ns ls.length + 1).toNat
   ·exact z
   ·have:=q'.1 (by omega);omega
  ·rw [e]
   show x.Bg _ ((x.tk ls ls.length).2.getD i (0,0)).1 ((x.tk ls ls.length).2.getD i (0,0)).2
   rw [k3 i hi]
   have q:=(hf.lastAt_iff x.ns ls.length i (Nat.le_refl _) (by omega)).2 (by omega)
   exact ⟨by simp,by simp,by simp only;omega,by simp,by simp only;omega,.inl (by simp only;omega)⟩
 ·have e:x.begun1 ls = x:=by unfold Sv.begun1;rw [if_neg (by rw [hd];simp)]
  have m:=h.mid hd
  unfold Sv.agrees at ha
  rw [if_neg (by rw [hd];simp)] at ha
  split at ha
  ·cases ha
  ·rename_i hlen
   split at ha
   ·rename_i htk
    have hA:ls = x.done ++ ls.drop x.done.length:=by
     have:=List.take_append_drop x.done.length ls
     rw [htk] at this
     exact this.symm
    have wD:∀ i,i < x.done.length → Tab.when ls i = Tab.when x.done i:=fun i hi => by
     have:=Tab.when_append x.done (ls.drop x.done.length) i hi
     rw [← hA] at this
     exact this
    refine ⟨x.done.length,by omega,m.pos,by rw [e];exact htk.symm,by rw [e];exact m.bl,by rw [wD 0 m.pos];exact m.firstD,fun q => ?_,fun i hi => ?_,by rw [e]⟩
    ·simp only [Bool.or_eq_true,decide_eq_true_eq] at ha
     omega
    ·rw [e,wD i hi]
     have b:=m.bg i hi
     rw [show Tab.when x.all i = Tab.when x.done i from Tab.when_append _ _ _ hi] at b
     exact b
   ·cases ha
theorem Sv.Inv.takenMid {x:Sv} (h:x.Inv) {ls:List (Int × Int)} (up ex:Int) (hf:Tab.Fit ls) (ha:x.agrees ls = true):(x.taken up ex ls).Mid ∧ (x.taken up ex ls).Num ∧ (x.taken up ex ls).ld = true ∧ (∀ c ∈ (x.taken up ex ls).com,c.v = false) ∧ (x.taken up ex ls).up = up ∧ (x.taken up ex ls).ex = ex:=by
 obtain ⟨m,h1,h2,h3,h4,h5,h6,h7,h8⟩:=h.mid1 hf ha
 unfold Sv.taken
 generalize x.begun1 ls = y at *
 obtain ⟨t0,t1,t2,t3⟩:=h.num.t'
 have dl:y.done.length = m:=by rw [h3];simp;omega
 have eo:∀ T,(y.stamp up ex).opens T = x.opens T:=fun T => by rw [h8];rfl
 have en:(y.stamp up ex).ns = x.ns:=by rw [h8];rfl
 have ef:(y.stamp up ex).nf = x.nf:=by rw [h8];rfl
 have ew:(y.stamp up ex).win = x.win:=by rw [h8];rfl
 have hall:((y.stamp up ex).comes ls (ls.length - y.done.length)).all = ls:=by
  show y.done ++ ((y.stamp up ex).cms ls y.done.length (ls.length - y.done.length)).map cmP = ls
  rw [Sv.cms_map _ _ _ _ (by omega),h3]
  rw [show (ls.take m).length = m from by rw [← h3];exact dl]
  rw [List.take_of_length_le (show (ls.drop m).length ≤ ls.length - m by simp)]
  exact List.take_append_drop m ls
 refine ⟨⟨by rw [hall];exact hf,?_,by rw [hall];show _ ≤ (y.stamp up ex).ns;rw [en];exact h5,?_,fun i hi => ?_,fun i c hc => ?_⟩,?_,rfl,?_,rfl,rfl⟩
 ·show 0 < y.done.length;omega
 ·show y.began.length = y.done.length;omega
 ·rw [hall]
  have b:=h7 i (by have:i < y.done.length:=hi;omega)
  exact ⟨b.f0,b.f1,b.hi,by show _ - (y.stamp up ex).win ≤ _;rw [ew];exact b.lo,by show _ < (y.stamp up ex).ns ∨ _ = (y.stamp up ex).ns ∧ _ ≤ (y.stamp up ex).nf;rw [en,ef];exact b.now,by show (_ + (y.stamp up ex).win < (y.stamp up ex).ns ∨ _ + (y.stamp up ex).win = (y.stamp up ex).ns ∧ _ ≤ (y.stamp up ex).nf) ∨ _ - (y.stamp up ex).win / 2 ≤ _;rw [en,ef,ew];exact b.ov⟩
 ·rw [hall]
  obtain ⟨hi,rfl⟩:=Sv.cms_at _ _ _ _ _ _ (show ((y.stamp up ex).cms ls y.done.length (ls.length - y.done.length))[i]? = some c from hc)
  show Sv.Cg _ (Tab.when ls (y.done.length + i)) _
  have hT:x.ns < Tab.when ls (y.done.length + i):=by
   have q:=h6 (by omega)
   rw [dl]
   by_cases z:i = 0
   ·subst z;exact q
   ·have:=hf.when_lt m (m + i) (by omega) (by omega);omega
  have q:=Sv.opens_cg h.num hT (ls.getD (y.done.length + i) (0,0)).1 (ls.getD (y.done.length + i) (0,0)).2 false
  refine ⟨?_,?_,?_,?_⟩
  ·show 0 ≤ ((y.stamp up ex).opens _).2;rw [eo];exact q.f0
  ·show ((y.stamp up ex).opens _).2 < _;rw [eo];exact q.f1
  ·show ((y.stamp up ex).opens _).1 < _ ∨ ((y.stamp up ex).opens _).1 = _ ∧ ((y.stamp up ex).opens _).2 ≤ 0;rw [eo];exact q.hi
  ·show _ - (y.stamp up ex).win / 2 ≤ ((y.stamp up ex).opens _).1;rw [eo,ew];exact q.lo
 ·have nn:=h.num
  rw [h8]
  exact ⟨nn.mode,nn.f0,nn.f1,nn.t,nn.sl,nn.sok,nn.r0⟩
 ·exact Sv.cms_v _ _ _ _
theorem Sv.loadErr_ok {x:Sv} {t:ByteArray} (h:x.loadErr (Txt.parse t) = 0):Tab.whole (Txt.parse t).up (Txt.parse t).ex (Txt.parse t).ls = true ∧ x.agrees (Txt.parse t).ls = true ∧ (Txt.parse t).num = 0 ∧ (Txt.parse t).err = 0 ∧ ¬ (x.ld = true ∧ (Txt.parse t).up < x.up):=by
 unfold Sv.loadErr at h
 split at h
 ·rename_i q;exact absurd h q
 ·rename_i q
  have q':(Txt.parse t).err = 0:=by omega
  split at h
  ·cases h
  ·rename_i p
   split at h
   ·cases h
   ·rename_i r
    obtain ⟨a,b⟩:=Txt.parse_whole q'
    exact ⟨a,by simpa using r,b,q',p⟩
theorem Sv.Inv.load {x:Sv} (h:x.Inv) (t:ByteArray):(x.load (Txt.parse t)).2.2.Inv:=by
 unfold Sv.load
 split
 ·exact h.refuse
 ·rename_i q
  obtain ⟨a,b,_,_⟩:=Sv.loadErr_ok (x:=x) (t:=t) (by omega)
  obtain ⟨m,n,l,v,e1,e2⟩:=h.takenMid (Txt.parse t).up (Txt.parse t).ex (Tab.fit_of_whole a) b
  exact m.inv n l (.inl v) (by rw [e1,e2];exact Tab.whole_bds a)
theorem Sv.Inv.canLoad {x:Sv} (h:x.Inv) {ls:List (Int × Int)} (up ex:Int) (hf:Tab.Fit ls) (ha:x.agrees ls = true):(x.taken up ex ls).begun.Can:=by
 obtain ⟨m,n,_⟩:=h.takenMid up ex hf ha
 have w:=n.win
 have b:=m.begun w.1 w.2
 exact b.mid.can (n.of b.same)
theorem init_inv {mode win src fresh s f:Int} (h:cfgB mode win src fresh s f = true):(Sv.init mode win fresh s f src.toNat).Inv:=by
 unfold cfgB at h
 simp only [Bool.and_eq_true,Bool.or_eq_true,decide_eq_true_eq] at h
 obtain ⟨⟨h1,h2⟩,h3⟩:=h
 refine ⟨⟨?_,h2.2.2.1,h2.2.2.2,h3,by show (List.replicate _ _).length ≤ 8;simp;omega,fun q hq => ?_,by show (0:Int) ≤ 0;omega⟩,fun _ => ⟨rfl,rfl,rfl,rfl,rfl⟩,fun e => (by cases e),fun e => (by cases e),fun e => (by cases e),fun e => (by cases e)⟩
 ·show (mode = 0 ∧ win = 0) ∨ ((mode = 1 ∨ mode = 2) ∧ 3600 ≤ win ∧ win ≤ 604800 ∧ win.tmod 2 = 0)
  rcases h1 with h1 | h1
  ·exact .inl (of_decide_eq_true h1)
  ·exact .inr (of_decide_eq_true h1)
 ·obtain rfl:=List.eq_of_mem_replicate (show q ∈ List.replicate _ noHd from hq)
  exact ⟨by unfold Hd.Ok;simp,by simp,by simp⟩
structure Wh (U D n k:Nat):Prop where
 k33:k ≤ 33
 lo:n * D ≤ U
 hi:U < (n + 2 ^ k) * D
 nb:n + 2 ^ k ≤ 2 ^ 33
theorem Wh.start {U D:Nat} (h:U < 2 ^ 33 * D):Wh U D 0 33:=⟨Nat.le_refl _,by simp,by simpa using h,by simp⟩
theorem Wh.up {U D n k:Nat} (h:Wh U D n (k + 1)) (hl:(n + 2 ^ k) * D ≤ U):Wh U D (n + 2 ^ k) k:=by
 have h1:=h.hi
 have h2:=h.nb
 have h3:=h.k33
 rw [Nat.pow_succ] at h1 h2
 refine ⟨by omega,hl,?_,by omega⟩
 have e:n + 2 ^ k + 2 ^ k = n + 2 ^ k * 2:=by omega
 rw [e];exact h1
theorem Wh.stay {U D n k:Nat} (h:Wh U D n (k + 1)) (hl:U < (n + 2 ^ k) * D):Wh U D n k:=by
 have h2:=h.nb
 have h3:=h.k33
 rw [Nat.pow_succ] at h2
 exact ⟨by omega,h.lo,hl,by omega⟩
theorem Wh.done {U D n:Nat} (h:Wh U D n 0):n = U / D:=by
 have h1:=h.hi
 have h2:=h.lo
 have hD:0 < D:=by
  by_cases c:D = 0
  ·subst c;simp at h1
  ·omega
 have e:(n + 2 ^ 0) * D = (n + 1) * D:=by simp
 rw [e] at h1
 have a1:U / D < n + 1:=(Nat.div_lt_iff_lt_mul hD).2 h1
 have a2:n ≤ U / D:=(Nat.le_div_iff_mul_le hD).2 h2
 omega
theorem ref_whole (B C:Nat) (U D:Nat) (vu vd:Value) (w:World) (hu:Num B vu (digs U) w) (hd:Num C vd (digs D) w) (hlt:U < 2 ^ 33 * D) (lu:(digs U).length ≤ 1000) (ld:(digs D).length ≤ 100) :
  Calls Tryz.prog 97 #[vu,vd] w fun e w' => e = .returned (.int .i64 ((U / D:Nat):Int)) ∧ Below w.heap.size w w':=by
 have HU:=hid' hu
 have HD:=hid' hd
 have HS:=hid' (Wh.start hlt)
 have HLU:=hid' lu
 have HLD:=hid' ld
 clear hu hd hlt lu ld
 go_enter Tryz.func97,Tryz.ntmps97
 go_wp2
 go_loopw [5,6] (fun nv bv wr => ∃ (n:Nat) (k:Int),-1 ≤ k ∧ nv = .int .i64 n ∧ bv = .int .i64 k ∧ Wh U D n (k + 1).toNat ∧ Below w.heap.size w wr) (fun _ bv _ => (intOf bv + 1).toNat)
 case atStart => exact ⟨0,32,by decide,rfl,rfl,HS.out,Below.refl _ _⟩
 case round =>
  clear HS
  obtain ⟨n,k,hk,rfl,rfl,hw,hbl⟩:=hrel
  have HBL:=hid' hbl
  by_cases c:0 ≤ k
  ·obtain ⟨j,rfl⟩:∃ j:Nat,k = j:=⟨k.toNat,by omega⟩
   have ej:((j:Int) + 1).toNat = j + 1:=by omega
   rw [ej] at hw
   have HW:=hid' hw
   have k33:=hw.k33
   have nb:=hw.nb
   rw [Nat.pow_succ] at nb
   have HUP:=hid' hw.up
   have HST:=hid' hw.stay
   obtain ⟨p,hp⟩:∃ p:Nat,2 ^ j = p:=⟨_,rfl⟩
   rw [hp] at nb HUP HST
   have hp1:wrap64 ((2:Int) ^ j) = (p:Int):=by
    have e:(2:Int) ^ j = (p:Int):=by rw [← hp];simp
    rw [e]
    simp only [wrap64]
    omega
   obtain ⟨m,hm⟩:∃ m:Nat,n + p = m:=⟨_,rfl⟩
   have hm1:(n:Int) + (p:Int) = (m:Int):=by omega
   have hm2:m ≤ 8589934592:=by omega
   rw [hm] at HUP HST
   have hm3:(digs m).length ≤ 5:=digs_length (by omega)
   have hmd:(digs (m * D)).length ≤ 1000:=by
    refine Nat.le_trans (digs_length (k:=5 + 100) ?_) (by omega)
    have d1:=digs_lt D
    have d2:10000 ^ (digs D).length ≤ 10000 ^ 100:=Nat.pow_le_pow_right (by omega) HLD.out
    rw [Nat.pow_add]
    exact Nat.mul_lt_mul'' (by omega) (by omega)
   have HM3:=hid' hm3
   have HMD:=hid' hmd
   clear hw hbl hm3 hmd hp
   go_wp2_with fail
   refine (ref_nat m (by omega) wr).mono ?_
   rintro e w1 ⟨v1,rfl,n1,b1⟩
   have N1:=hid' n1
   have B1:=hid' (HBL.out.trans (b1.mono HBL.out.size))
   clear n1 b1
   go_wp2_with fail
   refine (ref_times _ _ m D v1 vd w1 N1.out (HD.out.below (B1.out.mono (Nat.le_refl _))) (by have:=HM3.out;omega) (by have:=HLD.out;omega)).mono ?_
   rintro e w2 ⟨v2,rfl,n2,b2⟩
   have N2:=hid' n2
   have B2:=hid' (B1.out.trans (b2.mono B1.out.size))
   clear n2 b2
   go_wp2_with fail
   refine (ref_above _ _ (m * D) U v2 vu w2 N2.out (HU.out.below B2.out) HMD.out HLU.out).mono ?_
   rintro e w3 ⟨rfl,b3⟩
   have B3:=hid' (B2.out.trans (b3.mono B2.out.size))
   clear b3
   by_cases c2:U < m * D
   ·have hdec:decide (U < m * D) = true:=by simp [c2]
    go_wp2
    go_roundw
    case rel => exact ⟨n,(j:Int) - 1,by omega,rfl,by go_num,by rw [show ((j:Int) - 1 + 1).toNat = j from by omega];exact HST.out c2,B3.out⟩
    case measure => simp [intOf]
   ·have hdec:decide (U < m * D) = false:=by simp [c2]
    go_wp2
    go_roundw
    case rel => exact ⟨m,(j:Int) - 1,by omega,rfl,by go_num,by rw [show ((j:Int) - 1 + 1).toNat = j from by omega];exact HUP.out (by omega),B3.out⟩
    case measure => simp [intOf]
  ·obtain rfl:k = -1:=by omega
   have e:=hw.done
   clear hw hbl
   go_wp2
   go_ret
   exact ⟨rfl,HBL.out⟩
def cmB (c:Cm):Int × Int:=(c.bs,c.bf)
structure Cut (ns nf:Int) (l:List Cm) (m:Nat):Prop where
 le:m ≤ l.length
 lo:∀ (i:Nat) (h:i < l.length),i < m → tLater l[i].bs l[i].bf ns nf = false
 hi:∀ (i:Nat) (h:i < l.length),m ≤ i → tLater l[i].bs l[i].bf ns nf = true
theorem begunL_cut (ns nf:Int) (l:List Cm) (d b:List (Int × Int)) (m:Nat) (h:Cut ns nf l m):begunL ns nf l d b = (d ++ (l.take m).map cmP,b ++ (l.take m).map cmB,l.drop m):=by
 induction l generalizing d b m with
 | nil =>
  simp [begunL]
 | cons c r ih =>
  cases m with
  | zero =>
   have:=h.hi 0 (by simp) (Nat.le_refl _)
   simp only [List.getElem_cons_zero] at this
   simp [begunL,this]
  | succ m =>
   have:=h.lo 0 (by simp) (by omega)
   simp only [List.getElem_cons_zero] at this
   have h':Cut ns nf r m:=⟨by have:=h.le;simpa using this,fun i hi hm => by have:=h.lo (i + 1) (by simpa using hi) (by omega);simpa using this,fun i hi hm => by have:=h.hi (i + 1) (by simpa using hi) (by omega);simpa using this⟩
   simp only [begunL,this,Bool.false_eq_true,if_false]
   rw [ih _ _ m h']
   simp [cmP,cmB]
theorem Sv.begun_cut (x:Sv) (m:Nat) (h:Cut x.ns x.nf x.com m):x.begun = { x with done:=x.done ++ (x.com.take m).map cmP,began:=x.began ++ (x.com.take m).map cmB,com:=x.com.drop m }:=by
 unfold Sv.begun
 rw [begunL_cut _ _ _ _ _ m h]
theorem lead (ns nf:Int) (l:List Cm):∃ m,m ≤ l.length ∧ (∀ (i:Nat) (h:i < l.length),i < m → tLater l[i].bs l[i].bf ns nf = false) ∧ ∀ h:m < l.length,tLater l[m].bs l[m].bf ns nf = true:=by
 induction l with
 | nil => exact ⟨0,by simp,fun i h => by simp at h,fun h => by simp at h⟩
 | cons c r ih =>
  cases hc:tLater c.bs c.bf ns nf with
  | true => exact ⟨0,by simp,fun i h hm => by omega,fun h => by simpa using hc⟩
  | false =>
   obtain ⟨m,h1,h2,h3⟩:=ih
   refine ⟨m + 1,by simp;omega,fun i hi hm => ?_,fun h => ?_⟩
   ·cases i with
    | zero => simpa using hc
    | succ i => simpa using h2 i (by simpa using hi) (by omega)
   ·simpa using h3 (by simpa using h)
theorem Sv.Mid.cut {x:Sv} (h:x.Mid) (w0:0 ≤ x.win) (w1:x.win ≤ 604800):∃ m,Cut x.ns x.nf x.com m:=by
 obtain ⟨m,h1,h2,h3⟩:=lead x.ns x.nf x.com
 refine ⟨m,h1,h2,fun i hi hm => ?_⟩
 by_cases e:i = m
 ·subst e;exact h3 hi
 ·have l:=is_later (h3 (by omega))
  have o:=h.order w0 w1 m i x.com[m] x.com[i] (by omega) (List.getElem?_eq_getElem (by omega)) (List.getElem?_eq_getElem hi)
  exact decide_eq_true (by omega)
end Go.Proofs.YtmmkhodaljpjgaaGreatDoor
