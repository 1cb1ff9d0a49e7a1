import Derived.Test.YtmmkhodaljpjgaaGreatDoorV22
import Derived.Deep.Cut
import Derived.Deep.CutBlock
import Derived.Deep.CutRange
set_option maxRecDepth 100000
set_option maxHeartbeats 6400000
namespace Go.Proofs.YtmmkhodaljpjgaaGreatDoor
open Go.RowKit
def REnt (W:World) (bF:Nat) (st:Txt.St) (a o:Int) (wv:Value) (full:List ByteArray) (Bw:Nat) (v:Value) (ws:List ByteArray) (wx:World):Prop:=∃ lv',
 wx.heap[bF]? = some (.cells #[.int .i64 (Txt.numTo st.u st.u.size),.int .i64 (Txt.numTo st.x st.x.size),lv',.string st.dg,.bool (has st.u),.bool (has st.x),.bool (has st.h),wv] 143 (0,0)) ∧
 wx.ownsRow (bF + 1) 46 2 lv' (st.ls ++ [(a,o)]).length (flat (st.ls ++ [(a,o)])) ∧ wx.ownsRow (bF + 1) 9 1 wv full.length (full.map Value.string) ∧ wx.ownsRow Bw 9 1 v ws.length (ws.map Value.string) ∧ Below bF W wx
theorem ref_entry_go (bF:Nat) (st:Txt.St) (v:Value) (ws:List ByteArray) (w:World) (n:Nat) (hR:Rf w bF st) (hO:Txt.Ok st n) (hn:n ≤ 100000) (hW:Ws w v ws) (hpos:∀ i,i < ws.length → 0 < (ws.getD i Txt.em).size)
  (h2:2 ≤ ws.length) (n0:Txt.isNum (ws.getD 0 Txt.em) = true) (n1:Txt.isNum (ws.getD 1 Txt.em) = true) (h3:¬ (2 < ws.length ∧ Txt.beg (ws.getD 2 Txt.em) ⟨#[35]⟩ = false)) :
  Calls Tryz.prog 125 #[.pointer (some ⟨bF,0,none⟩),v] w fun e w' => e = .returned (.int .i64 (Txt.takeE st ws).1) ∧ ((Txt.takeE st ws).1 = 0 → Rf w' bF (Txt.takeE st ws).2) ∧ Below bF w w':=by
 obtain ⟨i0,hi0,hz0,hz1,hz2⟩:=info_parts infoLeap
 obtain ⟨lv,wv,full,hrow,hown,hwv,hfull⟩:=hR
 have hlen:=hW.len
 have hdg:=hO.dg
 obtain ⟨Bw,hwo⟩:=hW.own
 obtain ⟨g,cap,rfl,hgl,hc⟩:=hW.at' (by omega)
 have HWO:=hid' hwo
 clear hwo
 have c0:=hc 0 (by omega)
 have c1:=hc 1 (by omega)
 have z0:=Txt.size_num n0
 have z1:=Txt.size_num n1
 have v0:=Txt.numTo_le n0
 have v1:=Txt.numTo_le n1
 have N0:=hid' (ref_number (ws.getD 0 Txt.em) w (by omega))
 have N1:=hid' (ref_number (ws.getD 1 Txt.em) w (by omega))
 rw [Txt.number_of n0] at N0
 rw [Txt.number_of n1] at N1
 have HE:Hid ((Txt.takeE st ws).1 = if Tab.follows st.ls (Txt.numTo (ws.getD 0 Txt.em) (ws.getD 0 Txt.em).size) (Txt.numTo (ws.getD 1 Txt.em) (ws.getD 1 Txt.em).size) = false then 5 else 0):=by
  show Txt.entryErr st.ls ws = _
  unfold Txt.entryErr
  rw [if_neg (by omega),if_neg (by omega),if_neg (by rw [n0];decide),if_neg (by rw [n1];decide),if_neg h3]
 have HS:Hid ((Txt.takeE st ws).2 = { st with ls:=st.ls ++ [Txt.entryOf ws],dg:=st.dg ++ (ws.getD 0 Txt.em ++ ws.getD 1 Txt.em) }):=by show (if _ then _ else _) = _;rw [if_neg (by omega)]
 have HEO:Hid (Txt.entryOf ws = (Txt.numTo (ws.getD 0 Txt.em) (ws.getD 0 Txt.em).size,Txt.numTo (ws.getD 1 Txt.em) (ws.getD 1 Txt.em).size)):=rfl
 have hbF:=lt_of_heap hrow
 have hk40:st.ls.length ≤ 40:=hO.len
 have HFO:=hid' (fun (W:World) (h:W.ownsRow (bF + 1) 46 2 lv st.ls.length (flat st.ls)) => follows_any (bF + 1) lv st.ls _ _ W (wf_small v0.1 v0.2) (wf_small v1.1 v1.2) h (by omega) hO.off)
 generalize Txt.numTo (ws.getD 0 Txt.em) (ws.getD 0 Txt.em).size = a at *
 generalize Txt.numTo (ws.getD 1 Txt.em) (ws.getD 1 Txt.em).size = o at *
 have HROW:=hid' hrow
 have HOWN:=hid' hown
 have HWV:=hid' hwv
 have HFULL:=hid' hfull
 have h3':(2 < ws.length ∧ Txt.beg (ws.getD 2 Txt.em) ⟨#[35]⟩ = true) ∨ ws.length = 2:=by
  by_cases e:ws.length = 2
  ·exact .inr e
  ·refine .inl ⟨by omega,?_⟩
   cases hb:Txt.beg (ws.getD 2 Txt.em) ⟨#[35]⟩ with
   | true => rfl
   | false => exact absurd ⟨by omega,hb⟩ h3
 have HC:=hid' hc
 have HPOS:=hid' hpos
 have HZ2:=hid' (hW.sz 2)
 clear hrow hown hwv hfull hO hW n0 n1 h3 hc hpos
 generalize hs0:ws.getD 0 Txt.em = s0 at *
 generalize hs1:ws.getD 1 Txt.em = s1 at *
 go_enter Tryz.func125,Tryz.ntmps125
 go_upto_region 1 with fail
 go_cut [23] from 9 (fun s23 wc => s23 = .bool false ∧ wc = w)
 case first =>
  rcases h3' with ⟨h3,hb⟩ | h3
  ·have c2:=HC.out 2 h3
   have hp2:=HPOS.out 2 h3
   have hz2':=HZ2.out
   have hn35:((ws.getD 2 Txt.em)[0]'hp2).toNat = 35:=by
    have:=((Txt.beg_one _).1 hb).2;rw [Txt.byte_at _ 0 hp2] at this;omega
   have hn':((((ws.getD 2 Txt.em)[0]'hp2).toNat:Int) != 35) = false:=by rw [bne_eq_false_iff_eq];omega
   clear hb hn35 HPOS HZ2 HC
   generalize ws.getD 2 Txt.em = s2 at *
   go_wp2_with fail
   go_meet
   case rel => exact ⟨by simp;omega,rfl⟩
  ·go_wp2_with fail
   go_meet
   case rel => exact ⟨rfl,rfl⟩
 case rest =>
  obtain ⟨rfl,rfl⟩:=hcut
  clear h3' HC HPOS HZ2
  go_wp2_with fail
  refine N0.out.mono ?_
  rintro e w1 ⟨rfl,rfl⟩
  go_wp2_with fail
  refine N1.out.mono ?_
  rintro e W0 ⟨rfl,rfl⟩
  go_upto_region 8 with fail
  have LR:=heap_alloc_new W0 (.cells #[.int .i64 a,.int .i64 o] 46)
  have bel7:=(Below.refl W0.heap.size W0).alloc (Nat.le_refl _) (.cells #[.int .i64 a,.int .i64 o] 46)
  generalize hV:W0.alloc (.cells #[.int .i64 a,.int .i64 o] 46) = W1 at *
  clear hV
  have d0:=cell_of_row _ _ 0 _ _ _ LR
  have d1:=cell_of_row _ _ 1 _ _ _ LR
  simp at d0 d1
  have ROW1:=hid' ((bel7.block _ hbF).trans HROW.out)
  have OWN1:=hid' (own_down HOWN.out bel7)
  have WV1:=hid' (own_down HWV.out bel7)
  have WO1:=hid' (own_down HWO.out bel7)
  have LROW1:=hid' LR
  have e3:=cell_of_row _ _ 2 _ _ _ ROW1.out
  simp at e3
  have hs7:=bel7.size
  have hl7:=lt_of_heap LR
  have BEL1:=hid' (show Below bF W0 W1 from bel7.mono (by omega))
  clear bel7 LR c0 c1 N0 N1
  go_cut [8] from 9 (fun s8 wx => s8 = .bool (Tab.follows st.ls a o) ∧ Below W1.heap.size W1 wx)
  case first =>
   generalize Tab.follows st.ls a o = F at *
   go_region_with (go_at_call 126;refine (HFO.out _ (by exact OWN1.out)).mono ?_;rintro e w3 ⟨rfl,hb3⟩;have HB3:=hid' hb3;clear hb3)
   all_goals
    go_wp2_with fail
    go_meet
    case rel => exact ⟨rfl,(Below.refl _ W1).drew.trans HB3.out⟩
  case rest =>
   obtain ⟨rfl,bel8⟩:=hcut
   rename World => W2
   have ROW2:=hid' ((bel8.block _ (lt_of_heap ROW1.out)).trans ROW1.out)
   have OWN2:=hid' (own_down OWN1.out bel8)
   have WV2:=hid' (own_down WV1.out bel8)
   have WO2:=hid' (own_down WO1.out bel8)
   have row8:=(bel8.block _ hl7).trans LROW1.out
   have d02:=cell_of_row _ _ 0 _ _ _ row8
   have d12:=cell_of_row _ _ 1 _ _ _ row8
   simp at d02 d12
   have e32:=cell_of_row _ _ 2 _ _ _ ROW2.out
   simp at e32
   have f32:=frozen_of_row _ _ 2 _ _ ROW2.out
   have hs8:=bel8.size
   have hbF2:=lt_of_heap ROW2.out
   have e33:(W2.alloc (.cells #[.int .i64 a,.int .i64 o] 46)).cell? ⟨bF,2,none⟩ = some lv:=by
    rw [((Below.refl W2.heap.size W2).alloc (Nat.le_refl _) (.cells #[.int .i64 a,.int .i64 o] 46)).cell (p:=⟨bF,2,none⟩) hbF2];exact e32
   have BEL2:=hid' (BEL1.out.trans (bel8.mono (by omega)))
   clear bel8 row8 d0 d1 e3 ROW1 OWN1 WV1 WO1 LROW1 BEL1 HFO
   cases hF:Tab.follows st.ls a o with
   | false =>
    have H:Hid ((Txt.takeE st ws).1 = 5):=by show _ = _;rw [HE.out,if_pos hF]
    clear hF
    go_wp2
    go_ret
    exact ⟨ret_int H.out.symm,no_err H.out (by decide),BEL2.out⟩
   | true =>
    have H:Hid ((Txt.takeE st ws).1 = 0):=by show _ = _;rw [HE.out,if_neg (by rw [hF];decide)]
    clear hF
    go_upto_region 11 with fail
    go_cut [8] from 9 (fun _ wx => REnt W0 bF st a o wv full Bw (.slice (some ⟨g,0,none⟩) ws.length cap) ws wx)
    case first =>
     go_region_law ((refine step_append_lies _ ?_ (.tmp 55) (.tmp 57) 31 ?_ (bF + 1) 46 i0 (.agg #[.int .i64 0,.int .i64 0]) 2 16 Tryz.underlying31 hi0 hz0 hz1 hz2 rfl (by decide) lv st.ls.length (flat st.ls) ?_ ?_ ⟨W2.heap.size,0,none⟩ 1 1 [.int .i64 a,.int .i64 o] ?_ ?_ ?_ ?_ ?_ ?_ ?_ ?_ (W2.heap.size + 1) ?_ ?_;exact rfl;exact rfl;exact rfl;exact (OWN2.out.alloc _).drew;exact rfl;exact rfl;exact (World.news_of_block (cs:=#[.int .i64 a,.int .i64 o]) (t:=46) (fr:=(0,0)) (heap_alloc_new W2 _));(simp [Value.oneCell']);decide;(unfold maxLen;omega);omega;(simp;omega);(simp);intro gg cap3 w3 hown3 hgrow hat hlt3;have R3:=hid' (grown_heap (w:=(W2.alloc (.cells #[.int .i64 a,.int .i64 o] 46)).drew) hgrow ((OWN2.out.alloc _).drew) ((Below.heap_alloc _ _ _ (by omega)).trans ROW2.out) (by decide));have d3:=cell_of_row _ _ 2 _ _ _ R3.out;have g3:=frozen_of_row _ _ 2 _ _ R3.out;(simp at d3);have OWN3:=hid' hown3;have HG3:=hid' hgrow;clear hown3 hgrow hat))
     all_goals
      go_wp2_with fail
      go_meet
      case rel =>
       refine ⟨.slice (some ⟨gg,0,none⟩) (st.ls.length + 1) cap3,?_,?_,?_,?_,?_⟩
       ·rw [heap_setCell_same _ _ _ _ _ _ R3.out];simp
       ·rw [flat_append,List.length_append];exact own_set (p:=⟨bF,2,none⟩) OWN3.out R3.out (by decide) _
       ·exact own_set (p:=⟨bF,2,none⟩) (own_grown ((WV2.out.alloc _).drew) HG3.out ((OWN2.out.alloc _).drew) (by decide)) R3.out (by decide) _
       ·exact own_set (p:=⟨bF,2,none⟩) (own_grown ((WO2.out.alloc _).drew) HG3.out ((OWN2.out.alloc _).drew) (by decide)) R3.out (by decide) _
       ·exact (((BEL2.out.alloc (by omega) _).drew.grown HG3.out (by simp;omega) (fun k hk => Nat.le_of_succ_le (own_ge OWN2.out k hk))).setCell (p:=⟨bF,2,none⟩) (Nat.le_refl _) _)
    case rest =>
     obtain ⟨lv',row9,own9,wv9,wo9,bel9⟩:=hcut
     rename World => W3
     have c4:=cell_of_row _ _ 3 _ _ _ row9
     simp at c4
     have f4:=frozen_of_row _ _ 3 _ _ row9
     have k0:W3.cell? ⟨g,0,none⟩ = some (.string s0):=by
      rw [wo9.cellAt 0 (by omega),List.getElem?_map,List.getElem?_eq_getElem (by omega),← hs0,List.getD_eq_getElem?_getD,List.getElem?_eq_getElem (by omega)];rfl
     have k1:W3.cell? ⟨g,1,none⟩ = some (.string s1):=by
      rw [wo9.cellAt 1 (by omega),List.getElem?_map,List.getElem?_eq_getElem (by omega),← hs1,List.getD_eq_getElem?_getD,List.getElem?_eq_getElem (by omega)];rfl
     have R9:=hid' row9
     have OWN9:=hid' own9
     have WV9:=hid' wv9
     have BEL9:=hid' bel9
     clear row9 own9 wv9 wo9 bel9 d02 d12 e32 e33 f32 ROW2 OWN2 WV2 WO2 BEL2
     go_wp2_with fail
     go_region
     all_goals
      go_wp2
      go_ret
      refine ⟨ret_int H.out.symm,fun _ => ?_,(BEL9.out.setCell (p:=⟨bF,3,none⟩) (Nat.le_refl _) _).drew⟩
      rw [HS.out,HEO.out]
      refine ⟨lv',wv,full,?_,own_set (p:=⟨bF,3,none⟩) OWN9.out R9.out (by decide) _,own_set (p:=⟨bF,3,none⟩) WV9.out R9.out (by decide) _,HFULL.out⟩
      have e4:=heap_setCell_same _ bF 3 _ _ (.string (st.dg ++ s0 ++ s1)) R9.out
      rw [ByteArray.append_assoc] at e4
      have e5:(W3.setCell ⟨bF,3,none⟩ (.string (st.dg ++ s0 ++ s1))).heap[bF]? = some (.cells #[.int .i64 (Txt.numTo st.u st.u.size),.int .i64 (Txt.numTo st.x st.x.size),lv',.string (st.dg ++ (s0 ++ s1)),.bool (has st.u),.bool (has st.x),.bool (has st.h),wv] 143 (0,0)):=by rw [ByteArray.append_assoc];simpa using e4
      exact e5
theorem rf_down {w w1:World} {bF:Nat} {st:Txt.St} (h:Rf w bF st) (hb:Below w.heap.size w w1):Rf w1 bF st:=by
 obtain ⟨lv,wv,full,a,b,c,d⟩:=h
 exact ⟨lv,wv,full,(hb.block _ (lt_of_heap a)).trans a,own_down b hb,own_down c hb,d⟩
theorem rf_lt {w:World} {bF:Nat} {st:Txt.St} (h:Rf w bF st):bF < w.heap.size:=by obtain ⟨lv,wv,full,a,b,c,d⟩:=h;exact lt_of_heap a
theorem ref_entry (bF:Nat) (st:Txt.St) (v:Value) (ws:List ByteArray) (w:World) (n:Nat) (hR:Rf w bF st) (hO:Txt.Ok st n) (hn:n ≤ 100000) (hW:Ws w v ws) (h0:¬ ws.length = 0) (hpos:∀ i,i < ws.length → 0 < (ws.getD i Txt.em).size) :
  Calls Tryz.prog 125 #[.pointer (some ⟨bF,0,none⟩),v] w fun e w' => e = .returned (.int .i64 (Txt.takeE st ws).1) ∧ ((Txt.takeE st ws).1 = 0 → Rf w' bF (Txt.takeE st ws).2) ∧ Below bF w w':=by
 by_cases h:ws.length < 2 ∨ Txt.isNum (ws.getD 0 Txt.em) = false ∨ Txt.isNum (ws.getD 1 Txt.em) = false ∨ (2 < ws.length ∧ Txt.beg (ws.getD 2 Txt.em) ⟨#[35]⟩ = false)
 ·exact ref_entry_text bF st v ws w hW h0 hpos h
 ·refine ref_entry_go bF st v ws w n hR hO hn hW hpos ?_ ?_ ?_ ?_
  ·by_cases c:ws.length < 2
   ·exact absurd (.inl c) h
   ·omega
  ·cases c:Txt.isNum (ws.getD 0 Txt.em) with
   | true => rfl
   | false => exact absurd (.inr (.inl c)) h
  ·cases c:Txt.isNum (ws.getD 1 Txt.em) with
   | true => rfl
   | false => exact absurd (.inr (.inr (.inl c))) h
  ·exact fun c => h (.inr (.inr (.inr c)))
theorem words_some {s:ByteArray} (h:¬ (Txt.words s).length = 0):0 < s.size:=by
 by_cases c:s.size = 0
 ·exfalso;apply h
  unfold Txt.words
  rw [c,Txt.scan_gap (fun h => by have:=h.1;omega) rfl]
  rfl
 ·omega
def isSpec (s:ByteArray):Bool:=Txt.beg s ⟨#[35,36]⟩ || (Txt.beg s ⟨#[35,64]⟩ || Txt.beg s ⟨#[35,104]⟩)
theorem ref_line_plain (bF:Nat) (st:Txt.St) (s:ByteArray) (w:World) (n:Nat) (hR:Rf w bF st) (hO:Txt.Ok st n) (hn:n ≤ 100000) (hs:s.size ≤ 90000) (hsp:isSpec s = false) :
  Calls Tryz.prog 78 #[.pointer (some ⟨bF,0,none⟩),.string s] w fun e w' => e = .returned (.int .i64 (Txt.line st s).1) ∧ ((Txt.line st s).1 = 0 → Rf w' bF (Txt.line st s).2) ∧ Below bF w w':=by
 have hbF:=rf_lt hR
 have HO:=hid' hO
 have HR:=hid' hR
 have HWS:=hid' (ref_words s w (by omega))
 have hb:Txt.beg s ⟨#[35,36]⟩ = false ∧ Txt.beg s ⟨#[35,64]⟩ = false ∧ Txt.beg s ⟨#[35,104]⟩ = false:=by
  unfold isSpec at hsp;simp only [Bool.or_eq_false_iff] at hsp;exact ⟨hsp.1,hsp.2.1,hsp.2.2⟩
 obtain ⟨b1,b2,b3⟩:=hb
 have HL:Hid (Txt.line st s = if Txt.beg s ⟨#[35]⟩ = true then (0,st) else Txt.takeE st (Txt.words s)):=by
  show _ = _;unfold Txt.line;rw [if_neg (by rw [b1];decide),if_neg (by rw [b2];decide),if_neg (by rw [b3];decide)]
 have hthree:∀ (h2:2 ≤ s.size),((s[0]'(by omega)).toNat:Int) = 35 → ¬ ((s[1]'(by omega)).toNat:Int) = 36 ∧ ¬ ((s[1]'(by omega)).toNat:Int) = 64 ∧ ¬ ((s[1]'(by omega)).toNat:Int) = 104:=fun h2 h35 => by
  have e0:=Txt.byte_at s 0 (by omega)
  have e1:=Txt.byte_at s 1 (by omega)
  refine ⟨fun q => ?_,fun q => ?_,fun q => ?_⟩
  ·have:=(Txt.beg_two s 35 36).2 ⟨h2,by rw [e0];exact h35,by rw [e1];exact q⟩;rw [b1] at this;cases this
  ·have:=(Txt.beg_two s 35 64).2 ⟨h2,by rw [e0];exact h35,by rw [e1];exact q⟩;rw [b2] at this;cases this
  ·have:=(Txt.beg_two s 35 104).2 ⟨h2,by rw [e0];exact h35,by rw [e1];exact q⟩;rw [b3] at this;cases this
 have HTH:=hid' hthree
 have HB1:Hid (Txt.beg s ⟨#[35]⟩ = true ↔ 1 ≤ s.size ∧ Txt.byte s 0 = 35):=Txt.beg_one s
 clear hO hR hsp b1 b2 b3 hthree
 go_enter Tryz.func78,Tryz.ntmps78
 go_upto_region 1 with fail
 go_cut [29] from 7 (fun s29 wc => s29 = .bool false ∧ wc = w)
 case first =>
  by_cases h2:2 ≤ s.size
  ·by_cases h35:((s[0]'(by omega)).toNat:Int) = 35
   ·obtain ⟨t1,t2,t3⟩:=HTH.out h2 h35
    have q0:(((s[0]'(by omega)).toNat:Int) == 35) = true:=by rw [beq_iff_eq];exact h35
    have q1:(((s[1]'(by omega)).toNat:Int) == 36) = false:=by rw [beq_eq_false_iff_ne];exact t1
    have q2:(((s[1]'(by omega)).toNat:Int) == 64) = false:=by rw [beq_eq_false_iff_ne];exact t2
    have q3:(((s[1]'(by omega)).toNat:Int) == 104) = false:=by rw [beq_eq_false_iff_ne];exact t3
    clear t1 t2 t3 h35 HTH
    go_wp2_with fail
    go_meet
    case rel => exact ⟨rfl,rfl⟩
   ·have q0:(((s[0]'(by omega)).toNat:Int) == 35) = false:=by rw [beq_eq_false_iff_ne];exact h35
    clear h35 HTH
    go_wp2_with fail
    go_meet
    case rel => exact ⟨rfl,rfl⟩
  ·have hd:decide ((2:Int) ≤ (s.size:Int)) = false:=by simp;omega
   go_wp2_with fail
   go_meet
   case rel => exact ⟨by simp;try omega,rfl⟩
 case rest =>
  obtain ⟨rfl,rfl⟩:=hcut
  rename World => W0
  clear HTH
  go_wp2_with fail
  refine HWS.out.mono ?_
  rintro e w2 ⟨v,rfl,hown,hbel⟩
  have hWs:=ws_of hs hown
  obtain ⟨ao,cap,rfl⟩:=hWs.form
  have hlw:=hWs.len
  have HW2:=hid' hWs
  have R2:=hid' (rf_down HR.out hbel)
  have B2:=hid' (show Below bF W0 w2 from hbel.mono (by omega))
  clear hWs hown hbel HWS
  by_cases h0:(Txt.words s).length = 0
  ·have hE:(Txt.takeE st (Txt.words s)) = (0,st):=by
    unfold Txt.takeE Txt.entryErr;rw [if_pos h0,if_pos h0]
   have HE:Hid (Txt.line st s = (0,st)):=by show _ = _;rw [HL.out,hE];split <;> rfl
   rw [h0]
   clear hE h0 HW2
   go_wp2
   go_ret
   rw [HE.out]
   exact ⟨rfl,fun _ => R2.out,B2.out⟩
  ·have hsz:=words_some h0
   have hl0:(((Txt.words s).length:Int) == 0) = false:=by rw [beq_eq_false_iff_ne];omega
   by_cases h35:((s[0]'hsz).toNat:Int) = 35
   ·have hbg:Txt.beg s ⟨#[35]⟩ = true:=HB1.out.2 ⟨by omega,by rw [Txt.byte_at s 0 hsz];exact h35⟩
    have HE:Hid (Txt.line st s = (0,st)):=by show _ = _;rw [HL.out,if_pos hbg]
    have q0:(((s[0]'hsz).toNat:Int) == 35) = true:=by rw [beq_iff_eq];exact h35
    clear h0 HW2 hbg h35
    generalize (Txt.words s).length = lw at *
    go_wp2
    go_ret
    rw [HE.out]
    exact ⟨rfl,fun _ => R2.out,B2.out⟩
   ·have hbg:¬ Txt.beg s ⟨#[35]⟩ = true:=fun h => by
     have:=(HB1.out.1 h).2;rw [Txt.byte_at s 0 hsz] at this;exact h35 this
    have HE:Hid (Txt.line st s = Txt.takeE st (Txt.words s)):=by show _ = _;rw [HL.out,if_neg hbg]
    have q0:(((s[0]'hsz).toNat:Int) == 35) = false:=by rw [beq_eq_false_iff_ne];exact h35
    have HEN:=hid' (ref_entry bF st _ (Txt.words s) w2 n R2.out HO.out hn HW2.out h0 (Txt.words_pos s))
    clear h0 HW2 hbg h35
    generalize hlw':(Txt.words s).length = lw at *
    clear hlw'
    go_wp2_with fail
    refine HEN.out.mono ?_
    rintro e w3 ⟨rfl,hrd,hbel3⟩
    have A:=hid' hrd
    have B:=hid' (B2.out.trans hbel3)
    clear hrd hbel3
    go_wp2
    go_ret
    rw [HE.out]
    exact ⟨rfl,A.out,B.out⟩
end Go.Proofs.YtmmkhodaljpjgaaGreatDoor
