import Derived.Test.YtmmkhodaljpjgaaGreatDoorV27
import Derived.Deep.Cut
import Derived.Deep.CutBlock
import Derived.Deep.CutRange
import Derived.Deep.RegionHeld3
namespace Go.Proofs.YtmmkhodaljpjgaaGreatDoor
open Go.RowKit
def REnt (W:World) (bF:Nat) (st:Txt.St) (a o:Int) (wv:Value) (full:List ByteArray) (Bw:Nat) (v:Value) (ws:List ByteArray) (wx:World):Prop:=∃ lv',
 wx.heap[bF]? = some (.cells #[.int .i64 (Txt.numTo st.u st.u.size),.int .i64 (Txt.numTo st.x st.x.size),lv',.string st.dg,.bool (has st.u),.bool (has st.x),.bool (has st.h),wv] 143 (0,0)) ∧
 wx.ownsRow (bF + 1) 46 2 lv' (st.ls ++ [(a,o)]).length (flat (st.ls ++ [(a,o)])) ∧ wx.ownsRow (bF + 1) 9 1 wv full.length (full.map Value.string) ∧ wx.ownsRow Bw 9 1 v ws.length (ws.map Value.string) ∧ Below bF W wx
set_option maxRecDepth 100000 in
set_option maxHeartbeats 6400000 in
theorem ref_entry_go (bF:Nat) (st:Txt.St) (v:Value) (ws:List ByteArray) (w:World) (n:Nat) (hR:Rf w bF st) (hO:Txt.Ok st n) (hn:n ≤ 100000) (hW:Ws w v ws) (hpos:∀ i,i < ws.length → 0 < (ws.getD i Txt.em).size)
  (h2:2 ≤ ws.length) (n0:Txt.isNum (ws.getD 0 Txt.em) = true) (n1:Txt.isNum (ws.getD 1 Txt.em) = true) (h3:¬ (2 < ws.length ∧ Txt.beg (ws.getD 2 Txt.em) ⟨#[35]⟩ = false)) :
  Calls Tryz.prog 125 #[.pointer (some ⟨bF,0,none⟩),v] w fun e w' => e = .returned (.int .i64 (Txt.takeE st ws).1) ∧ ((Txt.takeE st ws).1 = 0 → Rf w' bF (Txt.takeE st ws).2) ∧ Below bF w w':=by
 obtain ⟨i0,hi0,hz0,hz1,hz2⟩:=info_parts infoLeap
 obtain ⟨lv,wv,full,hrow,hown,hwv,hfull⟩:=hR
 have hlen:=hW.len
 have hdg:=hO.dg
 obtain ⟨Bw,hwo⟩:=hW.own
 obtain ⟨g,cap,rfl,hgl,hc⟩:=hW.at' (by omega)
 have HWO:=hid' hwo
 clear hwo
 have c0:=hc 0 (by omega)
 have c1:=hc 1 (by omega)
 have z0:=Txt.size_num n0
 have z1:=Txt.size_num n1
 have v0:=Txt.numTo_le n0
 have v1:=Txt.numTo_le n1
 have N0:=hid' (ref_number (ws.getD 0 Txt.em) w (by omega))
 have N1:=hid' (ref_number (ws.getD 1 Txt.em) w (by omega))
 rw [Txt.number_of n0] at N0
 rw [Txt.number_of n1] at N1
 have HE:Hid ((Txt.takeE st ws).1 = if Tab.follows st.ls (Txt.numTo (ws.getD 0 Txt.em) (ws.getD 0 Txt.em).size) (Txt.numTo (ws.getD 1 Txt.em) (ws.getD 1 Txt.em).size) = false then 5 else 0):=by
  show Txt.entryErr st.ls ws = _
  unfold Txt.entryErr
  rw [if_neg (by omega),if_neg (by omega),if_neg (by rw [n0];decide),if_neg (by rw [n1];decide),if_neg h3]
 have HS:Hid ((Txt.takeE st ws).2 = { st with ls:=st.ls ++ [Txt.entryOf ws],dg:=st.dg ++ (ws.getD 0 Txt.em ++ ws.getD 1 Txt.em) }):=by show (if _ then _ else _) = _;rw [if_neg (by omega)]
 have HEO:Hid (Txt.entryOf ws = (Txt.numTo (ws.getD 0 Txt.em) (ws.getD 0 Txt.em).size,Txt.numTo (ws.getD 1 Txt.em) (ws.getD 1 Txt.em).size)):=rfl
 have hbF:=lt_of_heap hrow
 have hk40:st.ls.length ≤ 40:=hO.len
 have HFO:=hid' (fun (W:World) (h:W.ownsRow (bF + 1) 46 2 lv st.ls.length (flat st.ls)) => follows_any (bF + 1) lv st.ls _ _ W (wf_small v0.1 v0.2) (wf_small v1.1 v1.2) h (by omega) hO.off)
 generalize Txt.numTo (ws.getD 0 Txt.em) (ws.getD 0 Txt.em).size = a at *
 generalize Txt.numTo (ws.getD 1 Txt.em) (ws.getD 1 Txt.em).size = o at *
 have HROW:=hid' hrow
 have HOWN:=hid' hown
 have HWV:=hid' hwv
 have HFULL:=hid' hfull
 have h3':(2 < ws.length ∧ Txt.beg (ws.getD 2 Txt.em) ⟨#[35]⟩ = true) ∨ ws.length = 2:=by
  by_cases e:ws.length = 2
  ·exact .inr e
  ·refine .inl ⟨by omega,?_⟩
   cases hb:Txt.beg (ws.getD 2 Txt.em) ⟨#[35]⟩ with
   | true => rfl
   | false => exact absurd ⟨by omega,hb⟩ h3
 have HC:=hid' hc
 have HPOS:=hid' hpos
 have HZ2:=hid' (hW.sz 2)
 clear hrow hown hwv hfull hO hW n0 n1 h3 hc hpos
 generalize hs0:ws.getD 0 Txt.em = s0 at *
 generalize hs1:ws.getD 1 Txt.em = s1 at *
 go_enter Tryz.func125,Tryz.ntmps125
 go_upto_region 1 with fail
 go_cut [23] from 9 (fun s23 wc => s23 = .bool false ∧ wc = w)
 case first =>
  rcases h3' with ⟨h3,hb⟩ | h3
  ·have c2:=HC.out 2 h3
   have hp2:=HPOS.out 2 h3
   have hz2':=HZ2.out
   have hn35:((ws.getD 2 Txt.em)[0]'hp2).toNat = 35:=by
    have:=((Txt.beg_one _).1 hb).2;rw [Txt.byte_at _ 0 hp2] at this;omega
   have hn':((((ws.getD 2 Txt.em)[0]'hp2).toNat:Int) != 35) = false:=by rw [bne_eq_false_iff_eq];omega
   clear hb hn35 HPOS HZ2 HC
   generalize ws.getD 2 Txt.em = s2 at *
   go_wp2_with fail
   go_meet
   case rel => exact ⟨by simp;omega,rfl⟩
  ·go_wp2_with fail
   go_meet
   case rel => exact ⟨rfl,rfl⟩
 case rest =>
  obtain ⟨rfl,rfl⟩:=hcut
  clear h3' HC HPOS HZ2
  go_wp2_with fail
  refine N0.out.mono ?_
  rintro e w1 ⟨rfl,rfl⟩
  go_wp2_with fail
  refine N1.out.mono ?_
  rintro e W0 ⟨rfl,rfl⟩
  go_upto_region 8 with fail
  have LR:=heap_alloc_new W0 (.cells #[.int .i64 a,.int .i64 o] 46)
  have bel7:=(Below.refl W0.heap.size W0).alloc (Nat.le_refl _) (.cells #[.int .i64 a,.int .i64 o] 46)
  generalize hV:W0.alloc (.cells #[.int .i64 a,.int .i64 o] 46) = W1 at *
  clear hV
  have d0:=cell_of_row _ _ 0 _ _ _ LR
  have d1:=cell_of_row _ _ 1 _ _ _ LR
  simp at d0 d1
  have ROW1:=hid' ((bel7.block _ hbF).trans HROW.out)
  have OWN1:=hid' (own_down HOWN.out bel7)
  have WV1:=hid' (own_down HWV.out bel7)
  have WO1:=hid' (own_down HWO.out bel7)
  have LROW1:=hid' LR
  have e3:=cell_of_row _ _ 2 _ _ _ ROW1.out
  simp at e3
  have hs7:=bel7.size
  have hl7:=lt_of_heap LR
  have BEL1:=hid' (show Below bF W0 W1 from bel7.mono (by omega))
  clear bel7 LR c0 c1 N0 N1
  go_cut [8] from 9 (fun s8 wx => s8 = .bool (Tab.follows st.ls a o) ∧ Below W1.heap.size W1 wx)
  case first =>
   generalize Tab.follows st.ls a o = F at *
   go_region_with (go_at_call 126;refine (HFO.out _ (by exact OWN1.out)).mono ?_;rintro e w3 ⟨rfl,hb3⟩;have HB3:=hid' hb3;clear hb3)
   all_goals
    go_wp2_with fail
    go_meet
    case rel => exact ⟨rfl,(Below.refl _ W1).drew.trans HB3.out⟩
  case rest =>
   obtain ⟨rfl,bel8⟩:=hcut
   rename World => W2
   have ROW2:=hid' ((bel8.block _ (lt_of_heap ROW1.out)).trans ROW1.out)
   have OWN2:=hid' (own_down OWN1.out bel8)
   have WV2:=hid' (own_down WV1.out bel8)
   have WO2:=hid' (own_down WO1.out bel8)
   have row8:=(bel8.block _ hl7).trans LROW1.out
   have d02:=cell_of_row _ _ 0 _ _ _ row8
   have d12:=cell_of_row _ _ 1 _ _ _ row8
   simp at d02 d12
   have e32:=cell_of_row _ _ 2 _ _ _ ROW2.out
   simp at e32
   have f32:=frozen_of_row _ _ 2 _ _ ROW2.out
   have hs8:=bel8.size
   have hbF2:=lt_of_heap ROW2.out
   have e33:(W2.alloc (.cells #[.int .i64 a,.int .i64 o] 46)).cell? ⟨bF,2,none⟩ = some lv:=by
    rw [((Below.refl W2.heap.size W2).alloc (Nat.le_refl _) (.cells #[.int .i64 a,.int .i64 o] 46)).cell (p:=⟨bF,2,none⟩) hbF2];exact e32
   have BEL2:=hid' (BEL1.out.trans (bel8.mono (by omega)))
   clear bel8 row8 d0 d1 e3 ROW1 OWN1 WV1 WO1 LROW1 BEL1 HFO
   cases hF:Tab.follows st.ls a o with
   | false =>
    have H:Hid ((Txt.takeE st ws).1 = 5):=by show _ = _;rw [HE.out,if_pos hF]
    clear hF
    go_wp2
    go_ret
    exact ⟨ret_int H.out.symm,no_err H.out (by decide),BEL2.out⟩
   | true =>
    have H:Hid ((Txt.takeE st ws).1 = 0):=by show _ = _;rw [HE.out,if_neg (by rw [hF];decide)]
    clear hF
    go_upto_region 11 with fail
    go_cut [8] from 9 (fun _ wx => REnt W0 bF st a o wv full Bw (.slice (some ⟨g,0,none⟩) ws.length cap) ws wx)
    case first =>
     go_region_law ((refine step_append_lies _ ?_ (.tmp 55) (.tmp 57) 31 ?_ (bF + 1) 46 i0 (.agg #[.int .i64 0,.int .i64 0]) 2 16 Tryz.underlying31 hi0 hz0 hz1 hz2 rfl (by decide) lv st.ls.length (flat st.ls) ?_ ?_ ⟨W2.heap.size,0,none⟩ 1 1 [.int .i64 a,.int .i64 o] ?_ ?_ ?_ ?_ ?_ ?_ ?_ ?_ (W2.heap.size + 1) ?_ ?_;exact rfl;exact rfl;exact rfl;exact (OWN2.out.alloc _).drew;exact rfl;exact rfl;exact (World.news_of_block (cs:=#[.int .i64 a,.int .i64 o]) (t:=46) (fr:=(0,0)) (heap_alloc_new W2 _));(simp [Value.oneCell']);decide;(unfold maxLen;omega);omega;(simp;omega);(simp);intro gg cap3 w3 hown3 hgrow hat hlt3;have R3:=hid' (grown_heap (w:=(W2.alloc (.cells #[.int .i64 a,.int .i64 o] 46)).drew) hgrow ((OWN2.out.alloc _).drew) ((Below.heap_alloc _ _ _ (by omega)).trans ROW2.out) (by decide));have d3:=cell_of_row _ _ 2 _ _ _ R3.out;have g3:=frozen_of_row _ _ 2 _ _ R3.out;(simp at d3);have OWN3:=hid' hown3;have HG3:=hid' hgrow;clear hown3 hgrow hat))
     all_goals
      go_wp2_with fail
      go_meet
      case rel =>
       refine ⟨.slice (some ⟨gg,0,none⟩) (st.ls.length + 1) cap3,?_,?_,?_,?_,?_⟩
       ·rw [heap_setCell_same _ _ _ _ _ _ R3.out];simp
       ·rw [flat_append,List.length_append];exact own_set (p:=⟨bF,2,none⟩) OWN3.out R3.out (by decide) _
       ·exact own_set (p:=⟨bF,2,none⟩) (own_grown ((WV2.out.alloc _).drew) HG3.out ((OWN2.out.alloc _).drew) (by decide)) R3.out (by decide) _
       ·exact own_set (p:=⟨bF,2,none⟩) (own_grown ((WO2.out.alloc _).drew) HG3.out ((OWN2.out.alloc _).drew) (by decide)) R3.out (by decide) _
       ·exact (((BEL2.out.alloc (by omega) _).drew.grown HG3.out (by simp;omega) (fun k hk => Nat.le_of_succ_le (own_ge OWN2.out k hk))).setCell (p:=⟨bF,2,none⟩) (Nat.le_refl _) _)
    case rest =>
     obtain ⟨lv',row9,own9,wv9,wo9,bel9⟩:=hcut
     rename World => W3
     have c4:=cell_of_row _ _ 3 _ _ _ row9
     simp at c4
     have f4:=frozen_of_row _ _ 3 _ _ row9
     have k0:W3.cell? ⟨g,0,none⟩ = some (.string s0):=by
      rw [wo9.cellAt 0 (by omega),List.getElem?_map,List.getElem?_eq_getElem (by omega),← hs0,List.getD_eq_getElem?_getD,List.getElem?_eq_getElem (by omega)];rfl
     have k1:W3.cell? ⟨g,1,none⟩ = some (.string s1):=by
      rw [wo9.cellAt 1 (by omega),List.getElem?_map,List.getElem?_eq_getElem (by omega),← hs1,List.getD_eq_getElem?_getD,List.getElem?_eq_getElem (by omega)];rfl
     have R9:=hid' row9
     have OWN9:=hid' own9
     have WV9:=hid' wv9
     have BEL9:=hid' bel9
     clear row9 own9 wv9 wo9 bel9 d02 d12 e32 e33 f32 ROW2 OWN2 WV2 WO2 BEL2
     go_wp2_with fail
     go_region
     all_goals
      go_wp2
      go_ret
      refine ⟨ret_int H.out.symm,fun _ => ?_,(BEL9.out.setCell (p:=⟨bF,3,none⟩) (Nat.le_refl _) _).drew⟩
      rw [HS.out,HEO.out]
      refine ⟨lv',wv,full,?_,own_set (p:=⟨bF,3,none⟩) OWN9.out R9.out (by decide) _,own_set (p:=⟨bF,3,none⟩) WV9.out R9.out (by decide) _,HFULL.out⟩
      have e4:=heap_setCell_same _ bF 3 _ _ (.string (st.dg ++ s0 ++ s1)) R9.out
      rw [ByteArray.append_assoc] at e4
      have e5:(W3.setCell ⟨bF,3,none⟩ (.string (st.dg ++ s0 ++ s1))).heap[bF]? = some (.cells #[.int .i64 (Txt.numTo st.u st.u.size),.int .i64 (Txt.numTo st.x st.x.size),lv',.string (st.dg ++ (s0 ++ s1)),.bool (has st.u),.bool (has st.x),.bool (has st.h),wv] 143 (0,0)):=by rw [ByteArray.append_assoc];simpa using e4
      exact e5
theorem rf_down {w w1:World} {bF:Nat} {st:Txt.St} (h:Rf w bF st) (hb:Below w.heap.size w w1):Rf w1 bF st:=by
 obtain ⟨lv,wv,full,a,b,c,d⟩:=h
 exact ⟨lv,wv,full,(hb.block _ (lt_of_heap a)).trans a,own_down b hb,own_down c hb,d⟩
theorem rf_lt {w:World} {bF:Nat} {st:Txt.St} (h:Rf w bF st):bF < w.heap.size:=by obtain ⟨lv,wv,full,a,b,c,d⟩:=h;exact lt_of_heap a
theorem ref_entry (bF:Nat) (st:Txt.St) (v:Value) (ws:List ByteArray) (w:World) (n:Nat) (hR:Rf w bF st) (hO:Txt.Ok st n) (hn:n ≤ 100000) (hW:Ws w v ws) (h0:¬ ws.length = 0) (hpos:∀ i,i < ws.length → 0 < (ws.getD i Txt.em).size) :
  Calls Tryz.prog 125 #[.pointer (some ⟨bF,0,none⟩),v] w fun e w' => e = .returned (.int .i64 (Txt.takeE st ws).1) ∧ ((Txt.takeE st ws).1 = 0 → Rf w' bF (Txt.takeE st ws).2) ∧ Below bF w w':=by
 by_cases h:ws.length < 2 ∨ Txt.isNum (ws.getD 0 Txt.em) = false ∨ Txt.isNum (ws.getD 1 Txt.em) = false ∨ (2 < ws.length ∧ Txt.beg (ws.getD 2 Txt.em) ⟨#[35]⟩ = false)
 ·exact ref_entry_text bF st v ws w hW h0 hpos h
 ·refine ref_entry_go bF st v ws w n hR hO hn hW hpos ?_ ?_ ?_ ?_
  ·by_cases c:ws.length < 2
   ·exact absurd (.inl c) h
   ·omega
  ·cases c:Txt.isNum (ws.getD 0 Txt.em) with
   | true => rfl
   | false => exact absurd (.inr (.inl c)) h
  ·cases c:Txt.isNum (ws.getD 1 Txt.em) with
   | true => rfl
   | false => exact absurd (.inr (.inr (.inl c))) h
  ·exact fun c => h (.inr (.inr (.inr c)))
theorem words_some {s:ByteArray} (h:¬ (Txt.words s).length = 0):0 < s.size:=by
 by_cases c:s.size = 0
 ·exfalso;apply h
  unfold Txt.words
  rw [c,Txt.scan_gap (fun h => by have:=h.1;omega) rfl]
  rfl
 ·omega
def isSpec (s:ByteArray):Bool:=Txt.beg s ⟨#[35,36]⟩ || (Txt.beg s ⟨#[35,64]⟩ || Txt.beg s ⟨#[35,104]⟩)
set_option maxRecDepth 100000 in
set_option maxHeartbeats 3200000 in
theorem ref_line_plain (bF:Nat) (st:Txt.St) (s:ByteArray) (w:World) (n:Nat) (hR:Rf w bF st) (hO:Txt.Ok st n) (hn:n ≤ 100000) (hs:s.size ≤ 90000) (hsp:isSpec s = false) :
  Calls Tryz.prog 78 #[.pointer (some ⟨bF,0,none⟩),.string s] w fun e w' => e = .returned (.int .i64 (Txt.line st s).1) ∧ ((Txt.line st s).1 = 0 → Rf w' bF (Txt.line st s).2) ∧ Below bF w w':=by
 have hbF:=rf_lt hR
 have HO:=hid' hO
 have HR:=hid' hR
 have HWS:=hid' (ref_words s w (by omega))
 have hb:Txt.beg s ⟨#[35,36]⟩ = false ∧ Txt.beg s ⟨#[35,64]⟩ = false ∧ Txt.beg s ⟨#[35,104]⟩ = false:=by
  unfold isSpec at hsp;simp only [Bool.or_eq_false_iff] at hsp;exact ⟨hsp.1,hsp.2.1,hsp.2.2⟩
 obtain ⟨b1,b2,b3⟩:=hb
 have HL:Hid (Txt.line st s = if Txt.beg s ⟨#[35]⟩ = true then (0,st) else Txt.takeE st (Txt.words s)):=by
  show _ = _;unfold Txt.line;rw [if_neg (by rw [b1];decide),if_neg (by rw [b2];decide),if_neg (by rw [b3];decide)]
 have hthree:∀ (h2:2 ≤ s.size),((s[0]'(by omega)).toNat:Int) = 35 → ¬ ((s[1]'(by omega)).toNat:Int) = 36 ∧ ¬ ((s[1]'(by omega)).toNat:Int) = 64 ∧ ¬ ((s[1]'(by omega)).toNat:Int) = 104:=fun h2 h35 => by
  have e0:=Txt.byte_at s 0 (by omega)
  have e1:=Txt.byte_at s 1 (by omega)
  refine ⟨fun q => ?_,fun q => ?_,fun q => ?_⟩
  ·have:=(Txt.beg_two s 35 36).2 ⟨h2,by rw [e0];exact h35,by rw [e1];exact q⟩;rw [b1] at this;cases this
  ·have:=(Txt.beg_two s 35 64).2 ⟨h2,by rw [e0];exact h35,by rw [e1];exact q⟩;rw [b2] at this;cases this
  ·have:=(Txt.beg_two s 35 104).2 ⟨h2,by rw [e0];exact h35,by rw [e1];exact q⟩;rw [b3] at this;cases this
 have HTH:=hid' hthree
 have HB1:Hid (Txt.beg s ⟨#[35]⟩ = true ↔ 1 ≤ s.size ∧ Txt.byte s 0 = 35):=Txt.beg_one s
 clear hO hR hsp b1 b2 b3 hthree
 go_enter Tryz.func78,Tryz.ntmps78
 go_upto_region 1 with fail
 go_cut [29] from 7 (fun s29 wc => s29 = .bool false ∧ wc = w)
 case first =>
  by_cases h2:2 ≤ s.size
  ·by_cases h35:((s[0]'(by omega)).toNat:Int) = 35
   ·obtain ⟨t1,t2,t3⟩:=HTH.out h2 h35
    have q0:(((s[0]'(by omega)).toNat:Int) == 35) = true:=by rw [beq_iff_eq];exact h35
    have q1:(((s[1]'(by omega)).toNat:Int) == 36) = false:=by rw [beq_eq_false_iff_ne];exact t1
    have q2:(((s[1]'(by omega)).toNat:Int) == 64) = false:=by rw [beq_eq_false_iff_ne];exact t2
    have q3:(((s[1]'(by omega)).toNat:Int) == 104) = false:=by rw [beq_eq_false_iff_ne];exact t3
    clear t1 t2 t3 h35 HTH
    go_wp2_with fail
    go_meet
    case rel => exact ⟨rfl,rfl⟩
   ·have q0:(((s[0]'(by omega)).toNat:Int) == 35) = false:=by rw [beq_eq_false_iff_ne];exact h35
    clear h35 HTH
    go_wp2_with fail
    go_meet
    case rel => exact ⟨rfl,rfl⟩
  ·have hd:decide ((2:Int) ≤ (s.size:Int)) = false:=by simp;omega
   go_wp2_with fail
   go_meet
   case rel => exact ⟨by simp;try omega,rfl⟩
 case rest =>
  obtain ⟨rfl,rfl⟩:=hcut
  rename World => W0
  clear HTH
  go_wp2_with fail
  refine HWS.out.mono ?_
  rintro e w2 ⟨v,rfl,hown,hbel⟩
  have hWs:=ws_of hs hown
  obtain ⟨ao,cap,rfl⟩:=hWs.form
  have hlw:=hWs.len
  have HW2:=hid' hWs
  have R2:=hid' (rf_down HR.out hbel)
  have B2:=hid' (show Below bF W0 w2 from hbel.mono (by omega))
  clear hWs hown hbel HWS
  by_cases h0:(Txt.words s).length = 0
  ·have hE:(Txt.takeE st (Txt.words s)) = (0,st):=by
    unfold Txt.takeE Txt.entryErr;rw [if_pos h0,if_pos h0]
   have HE:Hid (Txt.line st s = (0,st)):=by show _ = _;rw [HL.out,hE];split <;> rfl
   rw [h0]
   clear hE h0 HW2
   go_wp2
   go_ret
   rw [HE.out]
   exact ⟨rfl,fun _ => R2.out,B2.out⟩
  ·have hsz:=words_some h0
   have hl0:(((Txt.words s).length:Int) == 0) = false:=by rw [beq_eq_false_iff_ne];omega
   by_cases h35:((s[0]'hsz).toNat:Int) = 35
   ·have hbg:Txt.beg s ⟨#[35]⟩ = true:=HB1.out.2 ⟨by omega,by rw [Txt.byte_at s 0 hsz];exact h35⟩
    have HE:Hid (Txt.line st s = (0,st)):=by show _ = _;rw [HL.out,if_pos hbg]
    have q0:(((s[0]'hsz).toNat:Int) == 35) = true:=by rw [beq_iff_eq];exact h35
    clear h0 HW2 hbg h35
    generalize (Txt.words s).length = lw at *
    go_wp2
    go_ret
    rw [HE.out]
    exact ⟨rfl,fun _ => R2.out,B2.out⟩
   ·have hbg:¬ Txt.beg s ⟨#[35]⟩ = true:=fun h => by
     have:=(HB1.out.1 h).2;rw [Txt.byte_at s 0 hsz] at this;exact h35 this
    have HE:Hid (Txt.line st s = Txt.takeE st (Txt.words s)):=by show _ = _;rw [HL.out,if_neg hbg]
    have q0:(((s[0]'hsz).toNat:Int) == 35) = false:=by rw [beq_eq_false_iff_ne];exact h35
    have HEN:=hid' (ref_entry bF st _ (Txt.words s) w2 n R2.out HO.out hn HW2.out h0 (Txt.words_pos s))
    clear h0 HW2 hbg h35
    generalize hlw':(Txt.words s).length = lw at *
    clear hlw'
    go_wp2_with fail
    refine HEN.out.mono ?_
    rintro e w3 ⟨rfl,hrd,hbel3⟩
    have A:=hid' hrd
    have B:=hid' (B2.out.trans hbel3)
    clear hrd hbel3
    go_wp2
    go_ret
    rw [HE.out]
    exact ⟨rfl,A.out,B.out⟩
set_option maxRecDepth 100000 in
set_option maxHeartbeats 3200000 in
theorem ref_line_u (bF:Nat) (st:Txt.St) (s:ByteArray) (w:World) (n:Nat) (hR:Rf w bF st) (hO:Txt.Ok st n) (hn:n ≤ 100000) (hs:s.size ≤ 90000) (hb:Txt.beg s ⟨#[35,36]⟩ = true) (hL:Txt.line st s = Txt.takeU st (Txt.words (s.extract 2 s.size))) :
  Calls Tryz.prog 78 #[.pointer (some ⟨bF,0,none⟩),.string s] w fun e w' => e = .returned (.int .i64 (Txt.line st s).1) ∧ ((Txt.line st s).1 = 0 → Rf w' bF (Txt.line st s).2) ∧ Below bF w w':=by
 have hbF:=rf_lt hR
 have HO:=hid' hO
 have HR:=hid' hR
 have HL:=hid' hL
 obtain ⟨h2,e0,e1⟩:=(Txt.beg_two s 35 36).1 hb
 have g0:=Txt.byte_at s 0 (by omega)
 have g1:=Txt.byte_at s 1 (by omega)
 have k0:((s[0]'(by omega)).toNat:Int) = 35:=by rw [← g0,e0];rfl
 have k1:((s[1]'(by omega)).toNat:Int) = 36:=by rw [← g1,e1];rfl
 have q0:(((s[0]'(by omega)).toNat:Int) == 35) = true:=by rw [beq_iff_eq];exact k0
 have q1:(((s[1]'(by omega)).toNat:Int) == 36) = true:=by rw [beq_iff_eq];exact k1
 have hx:(s.extract 2 s.size).size ≤ 90000:=by rw [ByteArray.size_extract];omega
 have HWX:=hid' (ref_words (s.extract 2 s.size) w (by omega))
 have hK:Value.int .u8 36 = Value.int .u8 ((s[1]'(by omega)).toNat:Int):=by rw [k1]
 have HK:=hid' hK
 clear hO hR hL hb e0 e1 g0 g1 k0 k1 hK
 go_enter Tryz.func78,Tryz.ntmps78
 go_wp2_with fail
 refine HWX.out.mono ?_
 rintro e w2 ⟨v,rfl,hown,hbel⟩
 have hWs:=ws_of hx hown
 have R2:=rf_down HR.out hbel
 have hsp:=ref_special_u bF st v _ w2 n R2 HO.out hn hWs
 rw [HK.out] at hsp
 have HSP:=hid' hsp
 have B2:=hid' (show Below bF w w2 from hbel.mono (by omega))
 clear hWs hown hbel HWX R2 hsp
 go_wp2_with fail
 refine HSP.out.mono ?_
 rintro e w3 ⟨rfl,hrd,hbel3⟩
 have A:=hid' hrd
 have B:=hid' (B2.out.trans hbel3)
 clear hrd hbel3
 go_wp2
 go_ret
 rw [HL.out]
 exact ⟨rfl,A.out,B.out⟩
set_option maxRecDepth 100000 in
set_option maxHeartbeats 3200000 in
theorem ref_line_x (bF:Nat) (st:Txt.St) (s:ByteArray) (w:World) (n:Nat) (hR:Rf w bF st) (hO:Txt.Ok st n) (hn:n ≤ 100000) (hs:s.size ≤ 90000) (hb:Txt.beg s ⟨#[35,64]⟩ = true) (hL:Txt.line st s = Txt.takeX st (Txt.words (s.extract 2 s.size))) :
  Calls Tryz.prog 78 #[.pointer (some ⟨bF,0,none⟩),.string s] w fun e w' => e = .returned (.int .i64 (Txt.line st s).1) ∧ ((Txt.line st s).1 = 0 → Rf w' bF (Txt.line st s).2) ∧ Below bF w w':=by
 have hbF:=rf_lt hR
 have HO:=hid' hO
 have HR:=hid' hR
 have HL:=hid' hL
 obtain ⟨h2,e0,e1⟩:=(Txt.beg_two s 35 64).1 hb
 have g0:=Txt.byte_at s 0 (by omega)
 have g1:=Txt.byte_at s 1 (by omega)
 have k0:((s[0]'(by omega)).toNat:Int) = 35:=by rw [← g0,e0];rfl
 have k1:((s[1]'(by omega)).toNat:Int) = 64:=by rw [← g1,e1];rfl
 have q0:(((s[0]'(by omega)).toNat:Int) == 35) = true:=by rw [beq_iff_eq];exact k0
 have q1:(((s[1]'(by omega)).toNat:Int) == 36) = false:=by rw [beq_eq_false_iff_ne];omega
 have q2:(((s[1]'(by omega)).toNat:Int) == 64) = true:=by rw [beq_iff_eq];exact k1
 have hx:(s.extract 2 s.size).size ≤ 90000:=by rw [ByteArray.size_extract];omega
 have HWX:=hid' (ref_words (s.extract 2 s.size) w (by omega))
 have hK:Value.int .u8 64 = Value.int .u8 ((s[1]'(by omega)).toNat:Int):=by rw [k1]
 have HK:=hid' hK
 clear hO hR hL hb e0 e1 g0 g1 k0 k1 hK
 go_enter Tryz.func78,Tryz.ntmps78
 go_wp2_with fail
 refine HWX.out.mono ?_
 rintro e w2 ⟨v,rfl,hown,hbel⟩
 have hWs:=ws_of hx hown
 have R2:=rf_down HR.out hbel
 have hsp:=ref_special_x bF st v _ w2 n R2 HO.out hn hWs
 rw [HK.out] at hsp
 have HSP:=hid' hsp
 have B2:=hid' (show Below bF w w2 from hbel.mono (by omega))
 clear hWs hown hbel HWX R2 hsp
 go_wp2_with fail
 refine HSP.out.mono ?_
 rintro e w3 ⟨rfl,hrd,hbel3⟩
 have A:=hid' hrd
 have B:=hid' (B2.out.trans hbel3)
 clear hrd hbel3
 go_wp2
 go_ret
 rw [HL.out]
 exact ⟨rfl,A.out,B.out⟩
set_option maxRecDepth 100000 in
set_option maxHeartbeats 3200000 in
theorem ref_line_h (bF:Nat) (st:Txt.St) (s:ByteArray) (w:World) (hR:Rf w bF st) (hs:s.size ≤ 90000) (hb:Txt.beg s ⟨#[35,104]⟩ = true) (hL:Txt.line st s = Txt.takeH st (Txt.words (s.extract 2 s.size))) :
  Calls Tryz.prog 78 #[.pointer (some ⟨bF,0,none⟩),.string s] w fun e w' => e = .returned (.int .i64 (Txt.line st s).1) ∧ ((Txt.line st s).1 = 0 → Rf w' bF (Txt.line st s).2) ∧ Below bF w w':=by
 have hbF:=rf_lt hR
 have HR:=hid' hR
 have HL:=hid' hL
 obtain ⟨h2,e0,e1⟩:=(Txt.beg_two s 35 104).1 hb
 have g0:=Txt.byte_at s 0 (by omega)
 have g1:=Txt.byte_at s 1 (by omega)
 have k0:((s[0]'(by omega)).toNat:Int) = 35:=by rw [← g0,e0];rfl
 have k1:((s[1]'(by omega)).toNat:Int) = 104:=by rw [← g1,e1];rfl
 have q0:(((s[0]'(by omega)).toNat:Int) == 35) = true:=by rw [beq_iff_eq];exact k0
 have q1:(((s[1]'(by omega)).toNat:Int) == 36) = false:=by rw [beq_eq_false_iff_ne];omega
 have q2:(((s[1]'(by omega)).toNat:Int) == 64) = false:=by rw [beq_eq_false_iff_ne];omega
 have q3:(((s[1]'(by omega)).toNat:Int) == 104) = true:=by rw [beq_iff_eq];exact k1
 have hx:(s.extract 2 s.size).size ≤ 90000:=by rw [ByteArray.size_extract];omega
 have HWX:=hid' (ref_words (s.extract 2 s.size) w (by omega))
 have hK:Value.int .u8 104 = Value.int .u8 ((s[1]'(by omega)).toNat:Int):=by rw [k1]
 have HK:=hid' hK
 clear hR hL hb e0 e1 g0 g1 k0 k1 hK
 go_enter Tryz.func78,Tryz.ntmps78
 go_wp2_with fail
 refine HWX.out.mono ?_
 rintro e w2 ⟨v,rfl,hown,hbel⟩
 have hWs:=ws_of hx hown
 have R2:=rf_down HR.out hbel
 have hsp:=ref_special_h bF st v _ w2 R2 hWs
 rw [HK.out] at hsp
 have HSP:=hid' hsp
 have B2:=hid' (show Below bF w w2 from hbel.mono (by omega))
 clear hWs hown hbel HWX R2 hsp
 go_wp2_with fail
 refine HSP.out.mono ?_
 rintro e w3 ⟨rfl,hrd,hbel3⟩
 have A:=hid' hrd
 have B:=hid' (B2.out.trans hbel3)
 clear hrd hbel3
 go_wp2
 go_ret
 rw [HL.out]
 exact ⟨rfl,A.out,B.out⟩
theorem ref_line (bF:Nat) (st:Txt.St) (s:ByteArray) (w:World) (n:Nat) (hR:Rf w bF st) (hO:Txt.Ok st n) (hn:n ≤ 100000) (hs:s.size ≤ 90000) :
  Calls Tryz.prog 78 #[.pointer (some ⟨bF,0,none⟩),.string s] w fun e w' => e = .returned (.int .i64 (Txt.line st s).1) ∧ ((Txt.line st s).1 = 0 → Rf w' bF (Txt.line st s).2) ∧ Below bF w w':=by
 cases b1:Txt.beg s ⟨#[35,36]⟩ with
 | true => exact ref_line_u bF st s w n hR hO hn hs b1 (by unfold Txt.line;rw [if_pos b1])
 | false =>
  cases b2:Txt.beg s ⟨#[35,64]⟩ with
  | true => exact ref_line_x bF st s w n hR hO hn hs b2 (by unfold Txt.line;rw [if_neg (by rw [b1];decide),if_pos b2])
  | false =>
   cases b3:Txt.beg s ⟨#[35,104]⟩ with
   | true => exact ref_line_h bF st s w hR hs b3 (by unfold Txt.line;rw [if_neg (by rw [b1];decide),if_neg (by rw [b2];decide),if_pos b3])
   | false => exact ref_line_plain bF st s w n hR hO hn hs (by unfold isSpec;rw [b1,b2,b3];rfl)
theorem turn1 (x:Int) (w:World) :
  Calls Tryz.prog 76 #[.int .u32 x,.int .i64 1] w fun e w' => e = .returned (.int .u32 (Sha.rol1 x)) ∧ ∃ m,w' = w.drewN m:=by
 go_enter Tryz.func76,Tryz.ntmps76
 go_wp2_with fail
 go_quiet (fail)
 go_wp2
 go_ret
 exact ⟨rfl,nq,rfl⟩
theorem turn5 (x:Int) (w:World) :
  Calls Tryz.prog 76 #[.int .u32 x,.int .i64 5] w fun e w' => e = .returned (.int .u32 (Sha.rol5 x)) ∧ ∃ m,w' = w.drewN m:=by
 go_enter Tryz.func76,Tryz.ntmps76
 go_wp2_with fail
 go_quiet (fail)
 go_wp2
 go_ret
 exact ⟨rfl,nq,rfl⟩
theorem turn30 (x:Int) (w:World) :
  Calls Tryz.prog 76 #[.int .u32 x,.int .i64 30] w fun e w' => e = .returned (.int .u32 (Sha.rol30 x)) ∧ ∃ m,w' = w.drewN m:=by
 go_enter Tryz.func76,Tryz.ntmps76
 go_wp2_with fail
 go_quiet (fail)
 go_wp2
 go_ret
 exact ⟨rfl,nq,rfl⟩
theorem digit_at (x:Int) (h0:0 ≤ x) (h1:x < 4294967296) (k:Nat) (hk:k < 8):x * 16 ^ k % 4294967296 / 268435456 = x / 16 ^ (7 - k) % 16:=by
 match k,hk with
 | 0,_ => simp;omega
 | 1,_ => simp;omega
 | 2,_ => simp;omega
 | 3,_ => simp;omega
 | 4,_ => simp;omega
 | 5,_ => simp;omega
 | 6,_ => simp;omega
 | 7,_ => simp;omega
theorem hexs_at (x:Int) (n k:Nat) (h:k < n):(Sha.hexs x n)[k]? = some (Sha.hexd (x * 16 ^ k % 4294967296 / 268435456)):=by
 induction n with
 | zero => omega
 | succ n ih =>
  have hl:=Sha.hexs_length x n
  by_cases e:k = n
  ·subst e
   simp only [Sha.hexs]
   rw [List.getElem?_append_right (by omega)]
   simp [hl]
  ·simp only [Sha.hexs]
   rw [List.getElem?_append_left (by omega)]
   exact ih (by omega)
def zeros8:Array Value:=(List.replicate 8 (Value.int .u8 0)).toArray
theorem make8:∀ w,(Instr.makeSlice 44 (.int .i64 8) (.int .i64 8)).run Tryz.prog w = .ok (.slice (some ⟨w.heap.size,0,none⟩) 8 8) (w.alloc (.cells zeros8 5)):=fun _ => by kernel_rfl
structure Digs (x:Int) (k:Nat) (cs:Array Value):Prop where
 size:cs.size = 8
 at':∀ j,k ≤ j → j < 8 → cs[j]? = some (.int .u8 ((Sha.hexd (x / 16 ^ (7 - j) % 16)).toNat:Int))
theorem Digs.put {x:Int} {k:Nat} {cs:Array Value} (h:Digs x (k + 1) cs) (hk:k < 8):Digs x k (cs.setIfInBounds k (.int .u8 ((Sha.hexd (x / 16 ^ (7 - k) % 16)).toNat:Int))):=by
 refine ⟨by simp [h.size],fun j h1 h2 => ?_⟩
 by_cases e:j = k
 ·subst e;simp [h.size,hk]
 ·rw [Array.getElem?_setIfInBounds_ne (by omega)];exact h.at' j (by omega) h2
theorem and15 (x:Int) (h0:0 ≤ x) (h1:x < 2 ^ 62):bits .and .i64 x 15 = x % 16:=by
 have:=bits_mask .i64 62 (by decide) (fun n a b => by rw [IntKind.wrap_i64];omega) 4 (by decide) x h0 h1
 simpa using this
theorem and255 (x:Int) (h0:0 ≤ x) (h1:x < 2 ^ 62):bits .and .i64 x 255 = x % 256:=by
 have:=bits_mask .i64 62 (by decide) (fun n a b => by rw [IntKind.wrap_i64];omega) 8 (by decide) x h0 h1
 simpa using this
theorem hexd_low (d:Int) (h0:0 ≤ d) (h1:d < 10):((Sha.hexd d).toNat:Int) = 48 + d:=by
 unfold Sha.hexd;rw [if_pos h1];simp;omega
theorem hexd_high (d:Int) (h0:10 ≤ d) (h1:d < 16):((Sha.hexd d).toNat:Int) = 87 + d:=by
 unfold Sha.hexd;rw [if_neg (by omega)];simp;omega
set_option maxHeartbeats 1000000 in
theorem ref_hex (x:Int) (w:World) (h0:0 ≤ x) (h1:x < 4294967296) :
  Calls Tryz.prog 39 #[.int .i64 x,.int .i64 8] w fun e w' => e = .returned (.string ⟨(Sha.hexs x 8).toArray⟩) ∧ Below w.heap.size w w':=by
 have mk:=make8
 go_enter Tryz.func39,Tryz.ntmps39
 go_wp2
 clear mk
 go_loopw [0,6,7] (fun n i _ wr => ∃ (k:Nat) (cs:Array Value),k ≤ 8 ∧ i = .int .i64 ((k:Int) - 1) ∧ n = .int .i64 (x / 16 ^ (8 - k)) ∧ wr = w.alloc (.cells cs 5) ∧ Digs x k cs) (fun _ i _ _ => (intOf i + 1).toNat)
 case atStart => exact ⟨8,zeros8,by omega,rfl,by simp,rfl,⟨by simp [zeros8],fun j a b => by omega⟩⟩
 case round =>
  obtain ⟨k,cs,hk,rfl,rfl,rfl,hd⟩:=hrel
  cases k with
  | zero =>
   have hconv:=bytes_back (V:=w.alloc (.cells cs 5)) (t:=Sha.hexs x 8) (cs:=cs) (fr:=(0,0)) (g:=w.heap.size) (cap:=8) (n:=8) (heap_alloc_new _ _) ⟨by simp [hd.size,Sha.hexs_length],fun j hj => by
    rw [hd.at' j (by omega) (by simpa [Sha.hexs_length] using hj)]
    have h8:j < 8:=by simpa [Sha.hexs_length] using hj
    have:=hexs_at x 8 j h8
    rw [List.getElem?_eq_getElem hj] at this
    rw [Option.some.inj this,digit_at x h0 h1 j h8]⟩ (by simp [Sha.hexs_length]) 0
   have HC:(convert 44 9 (.slice (some ⟨w.heap.size,0,none⟩) 8 8)).run Tryz.prog (w.alloc (.cells cs 5)) = .ok (.string ⟨(Sha.hexs x 8).toArray⟩) (w.alloc (.cells cs 5)):=hconv
   clear hconv hd
   go_wp2
   go_ret
   exact ⟨rfl,(Below.refl _ _).alloc (Nat.le_refl _) _⟩
  | succ k =>
   have HPUT:=hid' (hd.put (by omega))
   obtain ⟨v0,hv0⟩:∃ v,cs[k]? = some v:=⟨_,Array.getElem?_eq_getElem (by have:=hd.size;omega)⟩
   have e7:8 - (k + 1) = 7 - k:=by omega
   have HN:Hid (x / 16 ^ (7 - k) / 16 = x / 16 ^ (8 - k)):=by
    show _ = _
    rw [Int.ediv_ediv_of_nonneg (Int.le_of_lt (Int.pow_pos (by omega))),← Int.pow_succ,show (7 - k).succ = 8 - k from by omega]
   rw [e7]
   have y0:0 ≤ x / 16 ^ (7 - k):=Int.ediv_nonneg h0 (Int.le_of_lt (Int.pow_pos (by omega)))
   have y1:x / 16 ^ (7 - k) ≤ x:=Int.ediv_le_self _ h0
   generalize x / 16 ^ (7 - k) = y at *
   have hand:=and15 y y0 (by omega)
   generalize hdg:y % 16 = dg at *
   have d0:0 ≤ dg:=by omega
   have d1:dg < 16:=by omega
   clear hdg hd e7
   by_cases hlo:dg < 10
   ·have HV:=hid' (hexd_low dg d0 hlo)
    go_wp2
    refine ⟨⟨k,_,by omega,rfl,by rw [HN.out],?_,HPUT.out⟩,by simp [intOf]⟩
    rw [HV.out]
   ·have HV:=hid' (hexd_high dg (by omega) d1)
    go_wp2
    refine ⟨⟨k,_,by omega,rfl,by rw [HN.out],?_,HPUT.out⟩,by simp [intOf]⟩
    rw [HV.out]
    congr 4
    omega
end Go.Proofs.YtmmkhodaljpjgaaGreatDoor
namespace Go.Proofs.YtmmkhodaljpjgaaGreatDoor
open Go.RowKit
attribute [local go_sem ↓] Go.wp_at_zero Go.wp_at_succ
theorem join4 (a b c d:Int) (a0:0 ≤ a) (a1:a < 256) (b0:0 ≤ b) (b1:b < 256) (c0:0 ≤ c) (c1:c < 256) (d0:0 ≤ d) (d1:d < 256) :
  bits .or .u32 (bits .or .u32 (bits .or .u32 (a * 16777216) (b * 65536)) (c * 256)) d = ((a * 256 + b) * 256 + c) * 256 + d:=by
 have e1:bits .or .u32 (a * 16777216) (b * 65536) = a * 16777216 + b * 65536:=by
  rw [u32_or _ _ (by omega) (by omega) (by omega) (by omega),nat_join 24 _ _ (by omega) (by omega)];omega
 rw [e1]
 have e2:bits .or .u32 (a * 16777216 + b * 65536) (c * 256) = a * 16777216 + b * 65536 + c * 256:=by
  rw [u32_or _ _ (by omega) (by omega) (by omega) (by omega),nat_join 16 _ _ (by omega) (by omega)];omega
 rw [e2]
 rw [u32_or _ _ (by omega) (by omega) (by omega) (by omega),nat_join 8 _ _ (by omega) (by omega)];omega
theorem cell_past {g h k:Nat} (hn:g ≠ h):∀ (X:World) (u:Value) (o:Nat),(X.setCell ⟨h,k,none⟩ u).cell? ⟨g,o,none⟩ = X.cell? ⟨g,o,none⟩ :=
 fun X u _ => World.cell?_of_block (w:=X) (heap_setCell_other X ⟨h,k,none⟩ g u hn)
theorem cell_beside {h k o:Nat} (hn:o ≠ k):∀ (X:World) (u:Value),(X.setCell ⟨h,k,none⟩ u).cell? ⟨h,o,none⟩ = X.cell? ⟨h,o,none⟩:=fun X u => by
 apply World.cell?_setCell_other
 intro e
 apply hn
 simpa using (congrArg Addr.off e).symm
structure Kept (p:Prop):Prop where
 out:p
def Piece (w:World) (g off:Nat) (s:ByteArray) (b e:Int):Prop:=g < w.heap.size ∧ ∀ i:Nat,i < 64 → w.cell? ⟨g,off + i,none⟩ = some (.int .u8 (Sha.pbyte s (b + i) e))
set_option maxRecDepth 100000 in
set_option maxHeartbeats 16000000 in
theorem block_any (x:Sha.St) (s:ByteArray) (b e:Int) (g off cap:Nat) (w:World) (hx:x.Ok) (hp:Piece w g off s b e) :
  Calls Tryz.prog 38 #[.agg #[.int .u32 x.a,.int .u32 x.b,.int .u32 x.c,.int .u32 x.d,.int .u32 x.e],.slice (some ⟨g,off,none⟩) 64 cap] w fun q w' => q = .returned (.agg (Sha.mixed (Sha.wl s b e 80) x).cells) ∧ Below w.heap.size w w':=by
 have hz:=zero80.1
 have hz5:=zero5.1
 have HP:=hid' hp
 have hgl:=hp.1
 have HX:=hid' hx
 clear hp hx
 go_enter Tryz.func38,Tryz.ntmps38
 go_wp2_with fail
 clear hz hz5
 go_loopw [6] (fun i wr => ∃ (k n:Nat) (cs:Array Value),k ≤ 80 ∧ i = .int .i64 k ∧ wr = (((w.alloc (.cells #[.int .u32 x.a,.int .u32 x.b,.int .u32 x.c,.int .u32 x.d,.int .u32 x.e] 73)).alloc (.cells (zeros 5) 73)).alloc (.cells cs 135)).drewN n ∧ Has cs k (Sha.wl s b e k)) (fun i _ => 80 - (intOf i).toNat)
 case atStart => exact ⟨0,0,_,by omega,rfl,rfl,Has.start⟩
 case round =>
  obtain ⟨k,n,cs,hk,rfl,rfl,hc⟩:=hrel
  by_cases hlt:k < 80
  ·obtain ⟨v0,hv0⟩:∃ v,cs[k]? = some v:=⟨_,Array.getElem?_eq_getElem (by have:=hc.size;omega)⟩
   have HN:Hid (Has (cs.setIfInBounds k (.int .u32 (Sha.nextW s b e (Sha.wl s b e k) k))) (k + 1) (Sha.wl s b e (k + 1))):=hc.put hlt
   by_cases h16:k < 16
   ·have HE:Hid (Sha.nextW s b e (Sha.wl s b e k) k = Sha.pword s (b + 4 * k) e):=by show _ = _;unfold Sha.nextW;rw [if_pos h16]
    have m0:=HP.out.2 (4 * k) (by omega)
    have m1:=HP.out.2 (4 * k + 1) (by omega)
    have m2:=HP.out.2 (4 * k + 2) (by omega)
    have m3:=HP.out.2 (4 * k + 3) (by omega)
    have HPW:Hid (Sha.pword s (b + 4 * k) e = ((Sha.pbyte s (b + (4 * k:Nat)) e * 256 + Sha.pbyte s (b + (4 * k + 1:Nat)) e) * 256 + Sha.pbyte s (b + (4 * k + 2:Nat)) e) * 256 + Sha.pbyte s (b + (4 * k + 3:Nat)) e):=by
     show _ = _
     unfold Sha.pword
     rw [show b + ((4 * k:Nat):Int) = b + 4 * k from by omega,show b + ((4 * k + 1:Nat):Int) = b + 4 * k + 1 from by omega,show b + ((4 * k + 2:Nat):Int) = b + 4 * k + 2 from by omega,show b + ((4 * k + 3:Nat):Int) = b + 4 * k + 3 from by omega]
    have q0:=Sha.pbyte_bd s (b + (4 * k:Nat)) e
    have q1:=Sha.pbyte_bd s (b + (4 * k + 1:Nat)) e
    have q2:=Sha.pbyte_bd s (b + (4 * k + 2:Nat)) e
    have q3:=Sha.pbyte_bd s (b + (4 * k + 3:Nat)) e
    generalize Sha.pbyte s (b + (4 * k:Nat)) e = y0 at *
    generalize Sha.pbyte s (b + (4 * k + 1:Nat)) e = y1 at *
    generalize Sha.pbyte s (b + (4 * k + 2:Nat)) e = y2 at *
    generalize Sha.pbyte s (b + (4 * k + 3:Nat)) e = y3 at *
    clear hc
    have i0:(0:Int) ≤ (k:Int):=by omega
    have i1:(k:Int) < 16:=by omega
    have i2:(k:Int) < 80:=by omega
    have bel:Below w.heap.size w (((w.alloc (.cells #[.int .u32 x.a,.int .u32 x.b,.int .u32 x.c,.int .u32 x.d,.int .u32 x.e] 73)).alloc (.cells (zeros 5) 73)).alloc (.cells cs 135)):=(((Below.refl _ _).alloc (Nat.le_refl _) _).alloc (by simp) _).alloc (by simp;omega) _
    rw [← bel.cell (p:=⟨g,_,none⟩) hgl] at m0 m1 m2 m3
    have hrow:(((w.alloc (.cells #[.int .u32 x.a,.int .u32 x.b,.int .u32 x.c,.int .u32 x.d,.int .u32 x.e] 73)).alloc (.cells (zeros 5) 73)).alloc (.cells cs 135)).heap[((w.alloc (.cells #[.int .u32 x.a,.int .u32 x.b,.int .u32 x.c,.int .u32 x.d,.int .u32 x.e] 73)).alloc (.cells (zeros 5) 73)).heap.size]? = some (.cells cs 135 (0,0)):=heap_alloc_new _ _
    have hsz2:((w.alloc (.cells #[.int .u32 x.a,.int .u32 x.b,.int .u32 x.c,.int .u32 x.d,.int .u32 x.e] 73)).alloc (.cells (zeros 5) 73)).heap.size = w.heap.size + 1 + 1:=by simp
    rw [hsz2] at hrow
    have ck:=cell_of_row _ _ k _ _ _ hrow
    rw [hv0] at ck
    have fk:=frozen_of_row _ _ k _ _ hrow
    have hset:∀ u,(((w.alloc (.cells #[.int .u32 x.a,.int .u32 x.b,.int .u32 x.c,.int .u32 x.d,.int .u32 x.e] 73)).alloc (.cells (zeros 5) 73)).alloc (.cells cs 135)).setCell ⟨w.heap.size + 1 + 1,k,none⟩ u = ((w.alloc (.cells #[.int .u32 x.a,.int .u32 x.b,.int .u32 x.c,.int .u32 x.d,.int .u32 x.e] 73)).alloc (.cells (zeros 5) 73)).alloc (.cells (cs.setIfInBounds k u) 135):=fun u => World.setCell_alloc_at cs _ _ k u hsz2.symm
    have HSET:=hid' hset
    clear bel hrow hsz2 hset hv0
    go_wp2_with fail
    generalize ((w.alloc (.cells #[.int .u32 x.a,.int .u32 x.b,.int .u32 x.c,.int .u32 x.d,.int .u32 x.e] 73)).alloc (.cells (zeros 5) 73)).alloc (.cells cs 135) = V at *
    have hkp:=cell_past (g:=g) (h:=w.heap.size + 1 + 1) (k:=k) (by omega)
    obtain ⟨k4,hk4⟩:∃ k4:Nat,4 * k = k4:=⟨_,rfl⟩
    rw [hk4] at m0 m1 m2 m3
    have r0:IntKind.i64.wrap (4 * (k:Int)) = (k4:Int):=by rw [IntKind.wrap_i64];omega
    have r1:IntKind.i64.wrap ((k4:Int) + 1) = (k4:Int) + 1:=by rw [IntKind.wrap_i64];omega
    have r2:IntKind.i64.wrap ((k4:Int) + 2) = (k4:Int) + 2:=by rw [IntKind.wrap_i64];omega
    have r3:IntKind.i64.wrap ((k4:Int) + 3) = (k4:Int) + 3:=by rw [IntKind.wrap_i64];omega
    have s0:(0:Int) ≤ (k4:Int):=by omega
    have s1:(k4:Int) < 64:=by omega
    have s2:(k4:Int) + 1 < 64:=by omega
    have s3:(k4:Int) + 2 < 64:=by omega
    have s4:(k4:Int) + 3 < 64:=by omega
    have t1:(0:Int) ≤ (k4:Int) + 1:=by omega
    have t2:(0:Int) ≤ (k4:Int) + 2:=by omega
    have t3:(0:Int) ≤ (k4:Int) + 3:=by omega
    have u1:((k4:Int) + 1).toNat = k4 + 1:=by omega
    have u2:((k4:Int) + 2).toNat = k4 + 2:=by omega
    have u3:((k4:Int) + 3).toNat = k4 + 3:=by omega
    clear hk4
    go_region_held3 (fun w' => w'.cell? ⟨g,off + k4,none⟩ = some (.int .u8 y0) ∧ w'.cell? ⟨g,off + (k4 + 1),none⟩ = some (.int .u8 y1) ∧ w'.cell? ⟨g,off + (k4 + 2),none⟩ = some (.int .u8 y2) ∧ w'.cell? ⟨g,off + (k4 + 3),none⟩ = some (.int .u8 y3)) (go_keep) (fail)
    go_wp2
    refine ⟨⟨k + 1,n + 1,_,by omega,by go_num,?_,HN.out⟩,by simp [intOf];omega⟩
    rw [← HSET.out,HE.out,HPW.out,← join4 y0 y1 y2 y3 q0.1 q0.2 q1.1 q1.2 q2.1 q2.2 q3.1 q3.2]
    rfl
   ·have HE:Hid (Sha.nextW s b e (Sha.wl s b e k) k = Sha.rol1 (bits .xor .u32 (bits .xor .u32 (bits .xor .u32 ((Sha.wl s b e k).getD (k - 3) 0) ((Sha.wl s b e k).getD (k - 8) 0)) ((Sha.wl s b e k).getD (k - 14) 0)) ((Sha.wl s b e k).getD (k - 16) 0))):=by show _ = _;unfold Sha.nextW;rw [if_neg (by omega)]
    have g3:=hc.at' (k - 3) (by omega)
    have g8:=hc.at' (k - 8) (by omega)
    have g14:=hc.at' (k - 14) (by omega)
    have g16:=hc.at' (k - 16) (by omega)
    generalize (Sha.wl s b e k).getD (k - 3) 0 = x3 at *
    generalize (Sha.wl s b e k).getD (k - 8) 0 = x8 at *
    generalize (Sha.wl s b e k).getD (k - 14) 0 = x14 at *
    generalize (Sha.wl s b e k).getD (k - 16) 0 = x16 at *
    clear hc
    have hrow:(((w.alloc (.cells #[.int .u32 x.a,.int .u32 x.b,.int .u32 x.c,.int .u32 x.d,.int .u32 x.e] 73)).alloc (.cells (zeros 5) 73)).alloc (.cells cs 135)).heap[((w.alloc (.cells #[.int .u32 x.a,.int .u32 x.b,.int .u32 x.c,.int .u32 x.d,.int .u32 x.e] 73)).alloc (.cells (zeros 5) 73)).heap.size]? = some (.cells cs 135 (0,0)):=heap_alloc_new _ _
    have hsz2:((w.alloc (.cells #[.int .u32 x.a,.int .u32 x.b,.int .u32 x.c,.int .u32 x.d,.int .u32 x.e] 73)).alloc (.cells (zeros 5) 73)).heap.size = w.heap.size + 1 + 1:=by simp
    rw [hsz2] at hrow
    have ck:=cell_of_row _ _ k _ _ _ hrow
    rw [hv0] at ck
    have fk:=frozen_of_row _ _ k _ _ hrow
    rw [← cell_of_row _ _ _ _ _ _ hrow] at g3 g8 g14 g16
    have hset:∀ u,(((w.alloc (.cells #[.int .u32 x.a,.int .u32 x.b,.int .u32 x.c,.int .u32 x.d,.int .u32 x.e] 73)).alloc (.cells (zeros 5) 73)).alloc (.cells cs 135)).setCell ⟨w.heap.size + 1 + 1,k,none⟩ u = ((w.alloc (.cells #[.int .u32 x.a,.int .u32 x.b,.int .u32 x.c,.int .u32 x.d,.int .u32 x.e] 73)).alloc (.cells (zeros 5) 73)).alloc (.cells (cs.setIfInBounds k u) 135):=fun u => World.setCell_alloc_at cs _ _ k u hsz2.symm
    have HSET:=hid' hset
    clear hrow hsz2 hset hv0
    have i0:(16:Int) ≤ (k:Int):=by omega
    have i2:(k:Int) < 80:=by omega
    go_wp2_with fail
    generalize ((w.alloc (.cells #[.int .u32 x.a,.int .u32 x.b,.int .u32 x.c,.int .u32 x.d,.int .u32 x.e] 73)).alloc (.cells (zeros 5) 73)).alloc (.cells cs 135) = V at *
    obtain ⟨k3,hk3⟩:∃ q:Nat,k - 3 = q:=⟨_,rfl⟩
    obtain ⟨k8,hk8⟩:∃ q:Nat,k - 8 = q:=⟨_,rfl⟩
    obtain ⟨k14,hk14⟩:∃ q:Nat,k - 14 = q:=⟨_,rfl⟩
    obtain ⟨k16,hk16⟩:∃ q:Nat,k - 16 = q:=⟨_,rfl⟩
    rw [hk3] at g3
    rw [hk8] at g8
    rw [hk14] at g14
    rw [hk16] at g16
    have r3:IntKind.i64.wrap ((k:Int) - 3) = (k3:Int):=by rw [IntKind.wrap_i64];omega
    have r8:IntKind.i64.wrap ((k:Int) - 8) = (k8:Int):=by rw [IntKind.wrap_i64];omega
    have r14:IntKind.i64.wrap ((k:Int) - 14) = (k14:Int):=by rw [IntKind.wrap_i64];omega
    have r16:IntKind.i64.wrap ((k:Int) - 16) = (k16:Int):=by rw [IntKind.wrap_i64];omega
    have s3:(k3:Int) < 80:=by omega
    have s8:(k8:Int) < 80:=by omega
    have s14:(k14:Int) < 80:=by omega
    have s16:(k16:Int) < 80:=by omega
    have z3:(0:Int) ≤ (k3:Int):=by omega
    have z8:(0:Int) ≤ (k8:Int):=by omega
    have z14:(0:Int) ≤ (k14:Int):=by omega
    have z16:(0:Int) ≤ (k16:Int):=by omega
    have b3:=cell_beside (h:=w.heap.size + 1 + 1) (k:=k) (o:=k3) (by omega)
    have b8:=cell_beside (h:=w.heap.size + 1 + 1) (k:=k) (o:=k8) (by omega)
    have b14:=cell_beside (h:=w.heap.size + 1 + 1) (k:=k) (o:=k14) (by omega)
    have b16:=cell_beside (h:=w.heap.size + 1 + 1) (k:=k) (o:=k16) (by omega)
    clear hk3 hk8 hk14 hk16
    go_region_held3 (fun w' => w'.cell? ⟨w.heap.size + 1 + 1,k3,none⟩ = some (.int .u32 x3) ∧ w'.cell? ⟨w.heap.size + 1 + 1,k8,none⟩ = some (.int .u32 x8) ∧ w'.cell? ⟨w.heap.size + 1 + 1,k14,none⟩ = some (.int .u32 x14) ∧ w'.cell? ⟨w.heap.size + 1 + 1,k16,none⟩ = some (.int .u32 x16)) (go_keep)
     (first | (go_at_call 76;refine (turn1 _ _).mono ?_;rintro e w' ⟨rfl,mm,rfl⟩))
    go_wp2
    refine ⟨⟨k + 1,n + 1 + mm,_,by omega,by go_num,?_,HN.out⟩,by simp [intOf];omega⟩
    rw [← HSET.out,HE.out]
    rfl
  ·have e80:k = 80:=by omega
   rw [e80] at hc
   have hl80:=Sha.wl_length s b e 80
   have hlb:=Sha.wl_bd s b e 80
   have hsz:cs.size = 80:=hc.size
   have hat:=hc.at'
   obtain ⟨l,hl⟩:∃ l,Sha.wl s b e 80 = l:=⟨_,rfl⟩
   rw [hl] at hl80 hlb hat
   have HLQ:Kept (Sha.wl s b e 80 = l):=⟨hl⟩
   clear hl
   have HAT:=hid' hat
   have HLB:=hid' hlb
   have hnk:¬ (k:Int) < 80:=by omega
   clear hat hlb hc hl80 hsz hlt hk e80
   go_wp2_with fail
   go_loopw [7,8,9,10,11,12,13,14,15] (fun a b c d e i _ _ _ wr => ∃ t n:Nat,t ≤ 80 ∧ i = .int .i64 t ∧ a = .int .u32 (Sha.rounds l x t).a ∧ b = .int .u32 (Sha.rounds l x t).b ∧ c = .int .u32 (Sha.rounds l x t).c ∧ d = .int .u32 (Sha.rounds l x t).d ∧ e = .int .u32 (Sha.rounds l x t).e
     ∧ wr = (((w.alloc (.cells #[.int .u32 x.a,.int .u32 x.b,.int .u32 x.c,.int .u32 x.d,.int .u32 x.e] 73)).alloc (.cells (zeros 5) 73)).alloc (.cells cs 135)).drewN n) (fun _ _ _ _ _ i _ _ _ _ => 80 - (intOf i).toNat)
   case atStart => exact ⟨0,n,by omega,rfl,rfl,rfl,rfl,rfl,rfl,rfl⟩
   case round =>
    obtain ⟨t,n,ht,rfl,rfl,rfl,rfl,rfl,rfl,rfl⟩:=hrel
    by_cases hlt:t < 80
    ·have hok:=Sha.rounds_ok l x HX.out t
     have HR:Hid (Sha.rounds l x (t + 1) = Sha.step (Sha.rounds l x t) t (l.getD t 0)):=rfl
     have gc:=HAT.out t hlt
     have gb:=HLB.out t
     have hrow:(((w.alloc (.cells #[.int .u32 x.a,.int .u32 x.b,.int .u32 x.c,.int .u32 x.d,.int .u32 x.e] 73)).alloc (.cells (zeros 5) 73)).alloc (.cells cs 135)).heap[((w.alloc (.cells #[.int .u32 x.a,.int .u32 x.b,.int .u32 x.c,.int .u32 x.d,.int .u32 x.e] 73)).alloc (.cells (zeros 5) 73)).heap.size]? = some (.cells cs 135 (0,0)):=heap_alloc_new _ _
     rw [show ((w.alloc (.cells #[.int .u32 x.a,.int .u32 x.b,.int .u32 x.c,.int .u32 x.d,.int .u32 x.e] 73)).alloc (.cells (zeros 5) 73)).heap.size = w.heap.size + 1 + 1 from by simp] at hrow
     rw [← cell_of_row _ _ _ _ _ _ hrow] at gc
     clear hrow
     generalize Sha.rounds l x t = y at *
     obtain ⟨a,bb,c,d,ee⟩:=y
     generalize l.getD t 0 = wt at *
     obtain ⟨ha,hb,hcc,hd,he⟩:=hok
     simp only at ha hb hcc hd he
     have t0:(0:Int) ≤ (t:Int):=by omega
     have t1:(t:Int) < 80:=by omega
     have HT5:∀ wx,Hid (Calls Tryz.prog 76 #[.int .u32 a,.int .i64 5] wx fun e w' => e = .returned (.int .u32 (Sha.rol5 a)) ∧ ∃ m,w' = wx.drewN m):=fun wx => turn5 a wx
     have gc2:((((w.alloc (.cells #[.int .u32 x.a,.int .u32 x.b,.int .u32 x.c,.int .u32 x.d,.int .u32 x.e] 73)).alloc (.cells (zeros 5) 73)).alloc (.cells cs 135)).drewN n).cell? ⟨w.heap.size + 1 + 1,t,none⟩ = some (.int .u32 wt):=gc
     clear gc
     generalize hV2:(((w.alloc (.cells #[.int .u32 x.a,.int .u32 x.b,.int .u32 x.c,.int .u32 x.d,.int .u32 x.e] 73)).alloc (.cells (zeros 5) 73)).alloc (.cells cs 135)).drewN n = V at *
     have HV2:=hid' hV2
     clear hV2
     by_cases c20:t < 20
     ·have HF:Hid (Sha.f t bb c d = bits .or .u32 (bits .and .u32 bb c) (bits .and .u32 (bits .xor .u32 IntKind.u32.max bb) d)):=by show _ = _;unfold Sha.f;rw [if_pos c20]
      have HK:Hid (Sha.K t = 1518500249):=by show _ = _;unfold Sha.K;rw [if_pos c20]
      go_wp2_with fail
      go_quiet ((go_at_call 76;exact Calls.quiet_of (HT5 _).out))
      go_wp2_with fail
      refine (turn30 bb _).mono ?_
      rintro q w' ⟨rfl,m30,rfl⟩
      go_wp2
      go_roundw
      case rel =>
       refine ⟨t + 1,n + (nq + m30),by omega,by go_num,?_,?_,?_,?_,?_,?_⟩
       ·rw [HR.out]
        simp only [Sha.step,HF.out,HK.out]
       ·rw [HR.out];rfl
       ·rw [HR.out];rfl
       ·rw [HR.out];rfl
       ·rw [HR.out];rfl
       ·rw [← HV2.out,World.drewN_drewN]
      case measure => simp [intOf];omega
     by_cases c40:t < 40
     ·have HF:Hid (Sha.f t bb c d = bits .xor .u32 (bits .xor .u32 bb c) d):=by show _ = _;unfold Sha.f;rw [if_neg c20,if_pos c40]
      have HK:Hid (Sha.K t = 1859775393):=by show _ = _;unfold Sha.K;rw [if_neg c20,if_pos c40]
      go_wp2_with fail
      go_quiet ((go_at_call 76;exact Calls.quiet_of (HT5 _).out))
      go_wp2_with fail
      refine (turn30 bb _).mono ?_
      rintro q w' ⟨rfl,m30,rfl⟩
      go_wp2
      go_roundw
      case rel =>
       refine ⟨t + 1,n + (nq + m30),by omega,by go_num,?_,?_,?_,?_,?_,?_⟩
       ·rw [HR.out]
        simp only [Sha.step,HF.out,HK.out]
       ·rw [HR.out];rfl
       ·rw [HR.out];rfl
       ·rw [HR.out];rfl
       ·rw [HR.out];rfl
       ·rw [← HV2.out,World.drewN_drewN]
      case measure => simp [intOf];omega
     by_cases c60:t < 60
     ·have HF:Hid (Sha.f t bb c d = bits .or .u32 (bits .or .u32 (bits .and .u32 bb c) (bits .and .u32 bb d)) (bits .and .u32 c d)):=by show _ = _;unfold Sha.f;rw [if_neg c20,if_neg c40,if_pos c60]
      have HK:Hid (Sha.K t = 2400959708):=by show _ = _;unfold Sha.K;rw [if_neg c20,if_neg c40,if_pos c60]
      go_wp2_with fail
      go_quiet ((go_at_call 76;exact Calls.quiet_of (HT5 _).out))
      go_wp2_with fail
      refine (turn30 bb _).mono ?_
      rintro q w' ⟨rfl,m30,rfl⟩
      go_wp2
      go_roundw
      case rel =>
       refine ⟨t + 1,n + (nq + m30),by omega,by go_num,?_,?_,?_,?_,?_,?_⟩
       ·rw [HR.out]
        simp only [Sha.step,HF.out,HK.out]
       ·rw [HR.out];rfl
       ·rw [HR.out];rfl
       ·rw [HR.out];rfl
       ·rw [HR.out];rfl
       ·rw [← HV2.out,World.drewN_drewN]
      case measure => simp [intOf];omega
     ·have HF:Hid (Sha.f t bb c d = bits .xor .u32 (bits .xor .u32 bb c) d):=by show _ = _;unfold Sha.f;rw [if_neg c20,if_neg c40,if_neg c60]
      have HK:Hid (Sha.K t = 3395469782):=by show _ = _;unfold Sha.K;rw [if_neg c20,if_neg c40,if_neg c60]
      go_wp2_with fail
      go_quiet ((go_at_call 76;exact Calls.quiet_of (HT5 _).out))
      go_wp2_with fail
      refine (turn30 bb _).mono ?_
      rintro q w' ⟨rfl,m30,rfl⟩
      go_wp2
      go_roundw
      case rel =>
       refine ⟨t + 1,n + (nq + m30),by omega,by go_num,?_,?_,?_,?_,?_,?_⟩
       ·rw [HR.out]
        simp only [Sha.step,HF.out,HK.out]
       ·rw [HR.out];rfl
       ·rw [HR.out];rfl
       ·rw [HR.out];rfl
       ·rw [HR.out];rfl
       ·rw [← HV2.out,World.drewN_drewN]
      case measure => simp [intOf];omega
    ·have e80:t = 80:=by omega
     have HM:Hid ((Sha.mixed l x).cells = #[.int .u32 ((x.a + (Sha.rounds l x t).a) % 4294967296),.int .u32 ((x.b + (Sha.rounds l x t).b) % 4294967296),.int .u32 ((x.c + (Sha.rounds l x t).c) % 4294967296),.int .u32 ((x.d + (Sha.rounds l x t).d) % 4294967296),.int .u32 ((x.e + (Sha.rounds l x t).e) % 4294967296)]):=by
      show _ = _;rw [e80];rfl
     have hnt:¬ (t:Int) < 80:=by omega
     clear e80
     generalize Sha.rounds l x t = y at *
     obtain ⟨mc,hmc⟩:∃ mc,(Sha.mixed l x).cells = mc:=⟨_,rfl⟩
     rw [hmc] at HM
     have HMC:Kept ((Sha.mixed l x).cells = mc):=⟨hmc⟩
     clear hmc
     have hms:mc.size = 5:=by rw [HM.out];rfl
     have HMS:=hid' hms
     clear hms
     have G:Hid (((((w.alloc (.cells #[.int .u32 x.a,.int .u32 x.b,.int .u32 x.c,.int .u32 x.d,.int .u32 x.e] 73)).alloc (.cells (zeros 5) 73)).alloc (.cells cs 135)).drewN n).heap[w.heap.size + 1]? = some (.cells (zeros 5) 73 (0,0))):=by
      show (((w.alloc (.cells #[.int .u32 x.a,.int .u32 x.b,.int .u32 x.c,.int .u32 x.d,.int .u32 x.e] 73)).alloc (.cells (zeros 5) 73)).alloc (.cells cs 135)).heap[w.heap.size + 1]? = _
      rw [Below.heap_alloc _ _ _ (by simp)];exact heap_alloc2_new _ _ _
     have I:Hid ((Tryz.prog.info? 73).map (·.size) = some mc.size):=by show _ = _;rw [HMS.out];exact zero5.2
     have H1:Hid (mc.all (·.oneCell') = true):=by show _ = _;rw [HM.out];simp [Value.oneCell']
     have HB:=hid' (below_drewN ((((Below.refl w.heap.size w).alloc (Nat.le_refl _) (.cells #[.int .u32 x.a,.int .u32 x.b,.int .u32 x.c,.int .u32 x.d,.int .u32 x.e] 73)).alloc (by simp) (.cells (zeros 5) 73)).alloc (by simp;omega) (.cells cs 135)) n)
     go_wp2_with ((with_reducible refine wpl_store (g:=w.heap.size + 1) (cells:=mc) G.out I.out ?_ H1.out ?_ ?_ ?_);(rw [zeros_size,HMS.out]);exact rfl;(rw [HM.out];exact rfl))
     refine bodyPost_ret (v:=.agg mc) (results_cell_row rfl _ _ (w.heap.size + 1) 73 mc (0,0) _ rfl (setRow_heap _ _ _ _ _ _ G.out) Tryz.underlying73 rfl I.out) rfl ?_
     exact ⟨by rw [HLQ.out,HMC.out],below_setRow HB.out (by omega)⟩
end Go.Proofs.YtmmkhodaljpjgaaGreatDoor
