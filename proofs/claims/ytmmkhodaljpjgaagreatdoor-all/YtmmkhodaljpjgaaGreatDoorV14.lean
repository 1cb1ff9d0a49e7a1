import Derived.Test.YtmmkhodaljpjgaaGreatDoorV13
import Derived.Deep.QuietTactic
import Derived.BigQuiet
set_option maxRecDepth 100000
set_option maxHeartbeats 6400000
namespace Go.Proofs.YtmmkhodaljpjgaaGreatDoor
open Go.RowKit
theorem ref_length (g cap n:Nat) (ls:List (Int × Int)) (d:Int) (w:World) (hn:ls.length = n) (hp:0 < n) (hl:Lies w g ls) (hf:Fine ls) (hb:n ≤ 100000) (d0:-10 ≤ d) (d1:d ≤ 500000) :
  Calls Tryz.prog 88 #[.slice (some ⟨g,0,none⟩) n cap,.int .i64 d] w fun e w' => e = .returned (.int .i64 (Tab.length ls d)) ∧ ∃ m,w' = w.drewN m:=by
 have HL:=hid' hl
 have HF:=hid' hf
 have HN:=hid' hn
 have H:Hid (Tab.length ls d = Tab.lenFrom ls ((d + 1) * 86400) 1 (n - 1)):=by show _ = _;unfold Tab.length;rw [hn]
 clear hl hf hn
 go_enter Tryz.func88,Tryz.ntmps88
 go_wp2
 go_loop [5] (fun i => ∃ k:Nat,k + 1 ≤ n ∧ i = .int .i64 ((k:Int) + 1) ∧ Tab.length ls d = Tab.lenFrom ls ((d + 1) * 86400) (k + 1) (n - (k + 1))) (fun i => n - (intOf i).toNat)
 case atStart => exact ⟨0,by omega,rfl,H.out⟩
 case round =>
  obtain ⟨k,hk,rfl,hrl⟩:=hrel
  have HRL:=hid' hrl
  clear hrl H
  by_cases hlt:k + 1 < n
  ·have hkl:k + 1 < ls.length:=by rw [HN.out];exact hlt
   obtain ⟨e1,e2⟩:=HL.out (k + 1) hkl
   obtain ⟨_,b2⟩:=HL.out k (by omega)
   have hfq:=HF.out _ (List.getElem_mem hkl)
   have hfp:=HF.out _ (List.getElem_mem (show k < ls.length by omega))
   have hS:Hid (Tab.length ls d = if ls[k + 1].1 = (d + 1) * 86400 then 86400 + ls[k + 1].2 - (ls[k]'(by omega)).2 else Tab.lenFrom ls ((d + 1) * 86400) (k + 1 + 1) (n - (k + 1 + 1))):=by
    show _ = _
    rw [HRL.out,show n - (k + 1) = n - (k + 1 + 1) + 1 from by omega,Tab.lenFrom,getD_at (k + 1) hkl,show k + 1 - 1 = k from rfl,getD_at k (by omega)]
   generalize ls[k + 1] = q at *
   generalize ls[k]'(by omega) = p at *
   clear hkl
   obtain ⟨qa,qo⟩:=q
   obtain ⟨pa,po⟩:=p
   simp only at e1 e2 hfq b2 hfp
   by_cases hle:qa = (d + 1) * 86400
   ·have H2:Hid (Tab.length ls d = 86400 + qo - po):=by show _ = _;rw [hS.out];simp only;rw [if_pos hle]
    have hbq:(qa == (d + 1) * 86400) = true:=by rw [beq_iff_eq];exact hle
    clear hle hS HRL
    have r0:IntKind.i64.wrap ((k:Int) + 1 - 1) = (k:Int):=by rw [IntKind.wrap_i64];omega
    have r1:IntKind.i64.wrap (86400 + qo) = 86400 + qo:=by rw [IntKind.wrap_i64];omega
    have r2:IntKind.i64.wrap (86400 + qo - po) = 86400 + qo - po:=by rw [IntKind.wrap_i64];omega
    have z0:(0:Int) ≤ (k:Int):=by omega
    have z1:(k:Int) < (n:Int):=by omega
    have z2:(0:Int) ≤ (k:Int) + 1:=by omega
    have z3:(k:Int) + 1 < (n:Int):=by omega
    have z4:((k:Int) + 1).toNat = k + 1:=by omega
    go_wp2_with fail
    go_quiet (fail)
    go_wp2
    go_ret
    exact ⟨ret_int H2.out.symm,nq,rfl⟩
   ·have H2:Hid (Tab.length ls d = Tab.lenFrom ls ((d + 1) * 86400) (k + 1 + 1) (n - (k + 1 + 1))):=by show _ = _;rw [hS.out];simp only;rw [if_neg hle]
    have hbq:(qa == (d + 1) * 86400) = false:=by rw [beq_eq_false_iff_ne];exact hle
    clear hle hS HRL
    go_wp2
    exact ⟨⟨k + 1,by omega,by go_num,H2.out⟩,by simp [intOf];omega⟩
  ·have H2:Hid (Tab.length ls d = 86400):=by show _ = _;rw [HRL.out,show n - (k + 1) = 0 from by omega];rfl
   go_wp2
   go_ret
   exact ⟨ret_int H2.out.symm,0,rfl⟩
def fulls (ws:List ByteArray) (k:Nat):List ByteArray:=(ws.take k).map Txt.word
theorem fulls_succ (ws:List ByteArray) (k:Nat) (h:k < ws.length):fulls ws (k + 1) = fulls ws k ++ [Txt.word (ws.getD k Txt.em)]:=by
 unfold fulls
 rw [List.take_succ_eq_append_getElem h,List.map_append,List.getD_eq_getElem?_getD,List.getElem?_eq_getElem h]
 rfl
theorem fulls_len (ws:List ByteArray) (k:Nat) (h:k ≤ ws.length):(fulls ws k).length = k:=by unfold fulls;simp;omega
theorem join_fulls (ws:List ByteArray) (n:Nat) (hn:n ≤ ws.length) (k:Nat) (h:k ≤ n):joinTo (fulls ws n) k = Txt.hexTo ws k:=by
 induction k with
 | zero => rfl
 | succ k ih =>
  rw [joinTo,Txt.hexTo,ih (by omega)]
  congr 1
  unfold fulls
  rw [List.getD_eq_getElem?_getD,List.getElem?_map,List.getElem?_take_of_lt (by omega),List.getD_eq_getElem?_getD,List.getElem?_eq_getElem (by omega)]
  rfl
theorem word_em {s:ByteArray} (h:Txt.isHex s = true):¬ Txt.word s = Txt.em:=fun e => by
 have h8:=(Txt.isHex_is h).1
 rw [Txt.word_of h] at e
 have:(Txt.noughts.extract s.size 8 ++ s).size = 0:=by rw [e];rfl
 rw [ByteArray.size_append] at this
 omega
theorem hexTo_em (ws:List ByteArray) (h:Txt.isHex (ws.getD 4 Txt.em) = true):¬ Txt.hexTo ws 5 = Txt.em:=fun e => by
 have h1:(Txt.hexTo ws 5).size = 0:=by rw [e];rfl
 rw [Txt.hexTo,ByteArray.size_append] at h1
 apply word_em h
 have h2:(Txt.word (ws.getD 4 Txt.em)).size = 0:=by omega
 generalize Txt.word (ws.getD 4 Txt.em) = x at *
 obtain ⟨d⟩:=x
 have:d = #[]:=by apply Array.eq_empty_of_size_eq_zero;exact h2
 subst this;rfl
theorem own_mono' {w:World} {B B' e size n:Nat} {v:Value} {xs:List Value} (h:w.ownsRow B e size v n xs) (hb:B' ≤ B):w.ownsRow B' e size v n xs:=by
 refine ⟨h.1,?_⟩
 rcases h.2 with h | ⟨g,cap,cur,rfl,a,r⟩
 ·exact .inl h
 ·exact .inr ⟨g,cap,cur,rfl,by omega,r⟩
theorem ref_special_h (bF:Nat) (st:Txt.St) (v:Value) (ws:List ByteArray) (w:World) (hR:Rf w bF st) (hW:Ws w v ws) :
  Calls Tryz.prog 124 #[.pointer (some ⟨bF,0,none⟩),.int .u8 104,v] w fun e w' => e = .returned (.int .i64 (Txt.takeH st ws).1) ∧ ((Txt.takeH st ws).1 = 0 → Rf w' bF (Txt.takeH st ws).2) ∧ Below bF w w':=by
 obtain ⟨i0,hi0,hz0,hz1,hz2⟩:=info_parts infoStr
 obtain ⟨lv,wv,full,hrow,hown,hwv,hfull⟩:=hR
 have H:Hid ((Txt.takeH st ws).1 = Txt.hashErr ws st.h):=rfl
 have HS:Hid ((Txt.takeH st ws).2 = { st with h:=Txt.hexTo ws 5 }):=rfl
 have hlen:=hW.len
 have hbF:=lt_of_heap hrow
 by_cases h5:ws.length = 5
 ·obtain ⟨Bw,hwo⟩:=hW.own
  obtain ⟨g,cap,rfl,hgl,hc⟩:=hW.at' (by omega)
  have HSZ:=hid' hW.sz
  rw [h5] at hc ⊢
  have HC:=hid' hc
  have HROW:=hid' hrow
  have HOWN:=hid' hown
  clear hc hW hrow hown hwv hfull hwo hlen
  go_enter Tryz.func124,Tryz.ntmps124
  go_wp2
  go_loopw [7,8,9] (fun l i _ wr => ∃ k:Nat,k ≤ 5 ∧ i = .int .i64 k ∧ Txt.Hexed ws k ∧ wr.ownsRow w.heap.size 9 1 l k ((fulls ws k).map Value.string) ∧ Below w.heap.size w wr) (fun _ i _ _ => 5 - (intOf i).toNat)
  case atStart => exact ⟨0,by omega,rfl,fun i hi => by omega,World.ownsRow_nil _ _ _ _,Below.refl _ _⟩
  case round =>
   obtain ⟨k,hk,rfl,hhex,hol,hbw⟩:=hrel
   have HHX:=hid' hhex
   have OL:=hid' hol
   have HBW:=hid' hbw
   have hsw:=hbw.size
   clear hhex hol hbw
   by_cases hlt:k < 5
   ·have ck:=(HBW.out.cell (p:=⟨g,k,none⟩) hgl).trans (HC.out k hlt)
    have hsz:=HSZ.out k
    have HW:=hid' (ref_word (ws.getD k Txt.em) wr (by omega))
    cases hx:Txt.isHex (ws.getD k Txt.em) with
    | false =>
     have hE:Txt.hashErr ws st.h = 3:=by
      unfold Txt.hashErr
      rw [if_neg (by omega),if_pos (Txt.hexedB_no (fun h => by have:=h k hlt;rw [hx] at this;cases this))]
     rw [hE] at H
     rw [Txt.word_none hx] at HW
     clear hx hE
     generalize ws.getD k Txt.em = sk at *
     go_wp2_with (go_at_call 166;refine HW.out.mono ?_;rintro e w' ⟨rfl,rfl⟩)
     go_ret
     exact ⟨ret_int H.out.symm,no_err H.out (by decide),HBW.out.mono (by omega)⟩
    | true =>
     have hwe:=em_test (word_em hx)
     have HF:=hid' (fulls_succ ws k (by omega))
     have HH2:Hid (Txt.Hexed ws (k + 1)):=fun i hi => by
      by_cases e:i = k
      ·subst e;exact hx
      ·exact HHX.out i (by omega)
     clear hx
     generalize ws.getD k Txt.em = sk at *
     generalize Txt.word sk = wk at *
     go_wp2_with (first
      | (go_at_call 166;refine HW.out.mono ?_;rintro e w1 ⟨rfl,rfl⟩)
      | (at_builtin;refine wpList_append_lies _ (by rfl) (.tmp 27) (.tmp 29) 30 (by rfl) w.heap.size 9 i0 (.string ByteArray.empty) 1 16 Tryz.underlying30 hi0 hz0 hz1 hz2 rfl (by decide) u7 k ((fulls ws k).map Value.string) (by rfl) (OL.out.alloc _) ⟨w1.heap.size,0,none⟩ 1 1 [.string wk] (by rfl) (by rfl) (World.news_of_block (cs:=#[.string wk]) (heap_alloc_new w1 _)) (by simp [Value.oneCell']) (by decide) (by unfold maxLen;omega) (by omega) (by simp;omega) (w1.heap.size + 1) (by simp) ?_;intro g3 cap3 w3 own3 hg3 _ hlt3;have HB3:=hid' ((HBW.out.alloc hsw _).grown hg3 (by simp;omega) (own_ge OL.out));have OWN3:=hid' own3;clear own3 hg3))
     go_roundw
     case rel => exact ⟨k + 1,by omega,by go_num,HH2.out,by rw [HF.out];simpa using OWN3.out,HB3.out⟩
     case measure => simp [intOf];omega
   ·have ek:k = 5:=by omega
    have hD:¬ (Txt.hexedB ws 5 = false):=by
     rw [(Txt.hexedB_iff ws 5).2 (by rw [← ek];exact HHX.out)];decide
    have row:=(HBW.out.block _ hbF).trans HROW.out
    have q6:=cell_of_row _ _ 6 _ _ _ row
    have q7:=cell_of_row _ _ 7 _ _ _ row
    simp at q6 q7
    have z6:=frozen_of_row _ _ 6 _ _ row
    have z7:=frozen_of_row _ _ 7 _ _ row
    by_cases hb:st.h = Txt.em
    ·have hE:Txt.hashErr ws st.h = 0:=by unfold Txt.hashErr;rw [if_neg (by omega),if_neg hD,if_neg (by simpa using hb)]
     rw [hE] at H
     rw [has_no hb] at q6
     have HHE:=hid' (hexTo_em ws (HHX.out 4 (by omega)))
     have HJ:=hid' (join_fulls ws 5 (by omega) 5 (by omega))
     have HFL:=hid' (fulls_len ws 5 (by omega))
     have OW:=hid' (own_down HOWN.out HBW.out)
     have ROW:=hid' row
     rw [ek] at OL
     clear hE hD row hb ek
     obtain ⟨g5,cap5,hu7⟩:=own_some OL.out (by omega)
     subst hu7
     go_wp2
     go_ret
     refine ⟨ret_int H.out.symm,fun _ => ?_,((show Below bF w wr from HBW.out.mono (by omega)).setCell (p:=⟨bF,6,none⟩) (Nat.le_refl _) _).setCell (p:=⟨bF,7,none⟩) (Nat.le_refl _) _⟩
     rw [HS.out]
     have e1:=heap_setCell_same _ bF 6 _ _ (.bool true) ROW.out
     have e2:=heap_setCell_same _ bF 7 _ _ (.slice (some ⟨g5,0,none⟩) 5 cap5) e1
     refine ⟨lv,.slice (some ⟨g5,0,none⟩) 5 cap5,fulls ws 5,?_,own_set (p:=⟨bF,7,none⟩) (own_set (p:=⟨bF,6,none⟩) OW.out ROW.out (by decide) _) e1 (by decide) _,?_,fun _ => ⟨HFL.out,HJ.out⟩⟩
     ·show _ = some (Obj.cells #[.int .i64 (Txt.numTo st.u st.u.size),.int .i64 (Txt.numTo st.x st.x.size),lv,.string st.dg,.bool (has st.u),.bool (has st.x),.bool (has (Txt.hexTo ws 5)),.slice (some ⟨g5,0,none⟩) 5 cap5] 143 (0,0))
      rw [has_yes HHE.out]
      refine Eq.trans (by rfl) (Eq.trans e2 ?_)
      simp
     ·rw [HFL.out]
      exact own_set (p:=⟨bF,7,none⟩) (own_set (p:=⟨bF,6,none⟩) (own_mono' OL.out (by omega)) ROW.out (by decide) _) e1 (by decide) _
    ·have hE:Txt.hashErr ws st.h = 4:=by unfold Txt.hashErr;rw [if_neg (by omega),if_neg hD,if_pos hb]
     rw [hE] at H
     rw [has_yes hb] at q6
     clear hE hD ek hb
     go_wp2
     go_ret
     exact ⟨ret_int H.out.symm,no_err H.out (by decide),HBW.out.mono (by omega)⟩
 ·have hE:Txt.hashErr ws st.h = 3:=by unfold Txt.hashErr;rw [if_pos h5]
  rw [hE] at H
  obtain ⟨ao,cap,rfl⟩:=hW.form
  have h5':((ws.length:Int) != 5) = true:=bne_iff_ne.2 (by omega)
  clear h5 hW hE hrow hown hwv hfull
  go_enter Tryz.func124,Tryz.ntmps124
  go_wp2
  go_ret
  exact ⟨ret_int H.out.symm,no_err H.out (by decide),Below.refl _ _⟩
theorem ref_second (B:Nat) (lv:Value) (ls:List (Int × Int)) (up ex d s:Int) (w:World) (wu:(Lit.int .i64 up).wf = true) (wx:(Lit.int .i64 ex).wf = true)
  (hv:w.ownsRow B 46 2 lv ls.length (flat ls)) (hn:ls.length ≤ 100000) (hwf:∀ p ∈ ls,WfP p) :
  Calls Tryz.prog 52 #[.agg #[.int .i64 up,.int .i64 ex,lv],.int .i64 d,.int .i64 s] w fun e w' =>
   e = .returned (.tuple #[.int .i64 (Tab.second up ex ls d s).1,.int .i64 (Tab.second up ex ls d s).2]) ∧ Below w.heap.size w w':=by
 have HBel:=hid' ((Below.refl w.heap.size w).alloc (Nat.le_refl _) (.cells #[.int .i64 up,.int .i64 ex,lv] 33))
 have HW:=hid' (whole_any B lv ls up ex (w.alloc (.cells #[.int .i64 up,.int .i64 ex,lv] 33)) wu wx (hv.alloc _) hn hwf)
 have HROW:=hid' (heap_alloc_new w (.cells #[.int .i64 up,.int .i64 ex,lv] 33))
 clear wu wx hwf
 cases hwh:Tab.whole up ex ls with
 | false =>
  rw [hwh] at HW
  have H:Hid (Tab.second up ex ls d s = (0,8)):=by show _ = _;unfold Tab.second;rw [if_pos hwh]
  clear hwh hv
  go_enter Tryz.func52,Tryz.ntmps52
  go_wp2_with (go_at_call 79;refine HW.out.mono ?_;rintro e w1 ⟨rfl,hb1⟩;have HB1:=hid' hb1;clear hb1)
  go_ret2
  exact ⟨ret_pair (by rw [H.out]) (by rw [H.out]),HBel.out.trans (HB1.out.mono HBel.out.size)⟩
 | true =>
  rw [hwh] at HW
  obtain ⟨hok,hpos⟩:=Tab.whole_ok hwh
  have hfine:=Tab.fine_of_whole hwh
  have HFine:=hid' hfine
  have hbb:=Tab.begins_bd hfine hpos d
  have hlb:=Tab.length_bd hfine hpos d
  clear hok hfine
  have HNW:=hid' (show ¬ Tab.whole up ex ls = false by rw [hwh];simp)
  clear hwh
  obtain ⟨g,cap,rfl⟩:=own_some hv hpos
  have hgl:=(hv.lt _ rfl).2
  have HLies:=hid' (lies_of_own hv)
  clear hv
  by_cases h1:d < 0
  ·have H:Hid (Tab.second up ex ls d s = (0,9)):=by show _ = _;unfold Tab.second;rw [if_neg HNW.out,if_pos (.inl h1)]
   clear hbb hlb
   go_enter Tryz.func52,Tryz.ntmps52
   go_wp2_with (go_at_call 79;refine HW.out.mono ?_;rintro e w1 ⟨rfl,hb1⟩;have HB1:=hid' (HBel.out.trans (hb1.mono HBel.out.size));have t2:=cell_of_row _ _ 2 _ _ _ ((hb1.block _ (lt_of_heap HROW.out)).trans HROW.out);(simp at t2);clear hb1)
   go_ret2
   exact ⟨ret_pair (by rw [H.out]) (by rw [H.out]),HB1.out⟩
  by_cases h2:401767 ≤ d
  ·have H:Hid (Tab.second up ex ls d s = (0,9)):=by show _ = _;unfold Tab.second;rw [if_neg HNW.out,if_pos (.inr h2)]
   clear hbb hlb
   go_enter Tryz.func52,Tryz.ntmps52
   go_wp2_with (go_at_call 79;refine HW.out.mono ?_;rintro e w1 ⟨rfl,hb1⟩;have HB1:=hid' (HBel.out.trans (hb1.mono HBel.out.size));have t2:=cell_of_row _ _ 2 _ _ _ ((hb1.block _ (lt_of_heap HROW.out)).trans HROW.out);(simp at t2);clear hb1)
   go_ret2
   exact ⟨ret_pair (by rw [H.out]) (by rw [H.out]),HB1.out⟩
  have hD:¬ (d < 0 ∨ 401767 ≤ d):=by omega
  have hbg:∀ w1,Lies w1 g ls → Calls Tryz.prog 86 #[.slice (some ⟨g,0,none⟩) ls.length cap,.int .i64 d] w1 fun e w' => e = .returned (.int .i64 (Tab.begins ls d)) ∧ w' = w1:=fun w1 h => ref_begins g cap ls.length ls d w1 rfl hpos h HFine.out hn (by omega) (by omega)
  have HBG:=hid' hbg
  have hln:∀ w1,Lies w1 g ls → Calls Tryz.prog 88 #[.slice (some ⟨g,0,none⟩) ls.length cap,.int .i64 d] w1 fun e w' => e = .returned (.int .i64 (Tab.length ls d)) ∧ ∃ m,w' = w1.drewN m:=fun w1 h => ref_length g cap ls.length ls d w1 rfl hpos h HFine.out hn (by omega) (by omega)
  have HLN:=hid' hln
  clear hbg hln
  by_cases h3:Tab.begins ls d < 0
  ·have hQ:Tab.begins ls d < 0 ∨ s < 0 ∨ Tab.length ls d ≤ s ∨ 34000000000 < Tab.begins ls d + s:=.inl h3
   have H:Hid (Tab.second up ex ls d s = (0,9)):=by show _ = _;unfold Tab.second;rw [if_neg HNW.out,if_neg hD,if_pos hQ]
   clear hQ
   generalize Tab.begins ls d = b at *
   generalize Tab.length ls d = n at *
   go_enter Tryz.func52,Tryz.ntmps52
   go_wp2_with (first
    | (go_at_call 79;refine HW.out.mono ?_;rintro e w1 ⟨rfl,hb1⟩;have HB1:=hid' (HBel.out.trans (hb1.mono HBel.out.size));have t2:=cell_of_row _ _ 2 _ _ _ ((hb1.block _ (lt_of_heap HROW.out)).trans HROW.out);(simp at t2);clear hb1)
    | (go_at_call 86;refine (HBG.out w1 (HLies.out.below hgl HB1.out)).mono ?_;rintro e w2 ⟨rfl,rfl⟩))
   go_ret2
   exact ⟨ret_pair (by rw [H.out]) (by rw [H.out]),HB1.out⟩
  by_cases h4:s < 0
  ·have hQ:Tab.begins ls d < 0 ∨ s < 0 ∨ Tab.length ls d ≤ s ∨ 34000000000 < Tab.begins ls d + s:=.inr (.inl h4)
   have H:Hid (Tab.second up ex ls d s = (0,9)):=by show _ = _;unfold Tab.second;rw [if_neg HNW.out,if_neg hD,if_pos hQ]
   clear hQ
   generalize Tab.begins ls d = b at *
   generalize Tab.length ls d = n at *
   go_enter Tryz.func52,Tryz.ntmps52
   go_wp2_with (first
    | (go_at_call 79;refine HW.out.mono ?_;rintro e w1 ⟨rfl,hb1⟩;have HB1:=hid' (HBel.out.trans (hb1.mono HBel.out.size));have t2:=cell_of_row _ _ 2 _ _ _ ((hb1.block _ (lt_of_heap HROW.out)).trans HROW.out);(simp at t2);clear hb1)
    | (go_at_call 86;refine (HBG.out w1 (HLies.out.below hgl HB1.out)).mono ?_;rintro e w2 ⟨rfl,rfl⟩))
   go_ret2
   exact ⟨ret_pair (by rw [H.out]) (by rw [H.out]),HB1.out⟩
  by_cases h5:Tab.length ls d ≤ s
  ·have hQ:Tab.begins ls d < 0 ∨ s < 0 ∨ Tab.length ls d ≤ s ∨ 34000000000 < Tab.begins ls d + s:=.inr (.inr (.inl h5))
   have H:Hid (Tab.second up ex ls d s = (0,9)):=by show _ = _;unfold Tab.second;rw [if_neg HNW.out,if_neg hD,if_pos hQ]
   clear hQ
   generalize Tab.begins ls d = b at *
   generalize Tab.length ls d = n at *
   go_enter Tryz.func52,Tryz.ntmps52
   go_wp2_with (first
    | (go_at_call 79;refine HW.out.mono ?_;rintro e w1 ⟨rfl,hb1⟩;have HB1:=hid' (HBel.out.trans (hb1.mono HBel.out.size));have t2:=cell_of_row _ _ 2 _ _ _ ((hb1.block _ (lt_of_heap HROW.out)).trans HROW.out);(simp at t2);clear hb1)
    | (go_at_call 86;refine (HBG.out w1 (HLies.out.below hgl HB1.out)).mono ?_;rintro e w2 ⟨rfl,rfl⟩)
    | (go_at_call 88;refine (HLN.out _ (HLies.out.below hgl HB1.out)).mono ?_;rintro e w2 ⟨rfl,m2,rfl⟩))
   go_ret2
   exact ⟨ret_pair (by rw [H.out]) (by rw [H.out]),below_drewN HB1.out m2⟩
  by_cases h6:34000000000 < Tab.begins ls d + s
  ·have hQ:Tab.begins ls d < 0 ∨ s < 0 ∨ Tab.length ls d ≤ s ∨ 34000000000 < Tab.begins ls d + s:=.inr (.inr (.inr h6))
   have H:Hid (Tab.second up ex ls d s = (0,9)):=by show _ = _;unfold Tab.second;rw [if_neg HNW.out,if_neg hD,if_pos hQ]
   clear hQ
   generalize Tab.begins ls d = b at *
   generalize Tab.length ls d = n at *
   go_enter Tryz.func52,Tryz.ntmps52
   go_wp2_with (first
    | (go_at_call 79;refine HW.out.mono ?_;rintro e w1 ⟨rfl,hb1⟩;have HB1:=hid' (HBel.out.trans (hb1.mono HBel.out.size));have t2:=cell_of_row _ _ 2 _ _ _ ((hb1.block _ (lt_of_heap HROW.out)).trans HROW.out);(simp at t2);clear hb1)
    | (go_at_call 86;refine (HBG.out w1 (HLies.out.below hgl HB1.out)).mono ?_;rintro e w2 ⟨rfl,rfl⟩)
    | (go_at_call 88;refine (HLN.out _ (HLies.out.below hgl HB1.out)).mono ?_;rintro e w2 ⟨rfl,m2,rfl⟩))
   go_ret2
   exact ⟨ret_pair (by rw [H.out]) (by rw [H.out]),below_drewN HB1.out m2⟩
  have hQ:¬ (Tab.begins ls d < 0 ∨ s < 0 ∨ Tab.length ls d ≤ s ∨ 34000000000 < Tab.begins ls d + s):=by omega
  have H:Hid (Tab.second up ex ls d s = (Tab.begins ls d + s,0)):=by show _ = _;unfold Tab.second;rw [if_neg HNW.out,if_neg hD,if_neg hQ]
  clear hQ
  generalize Tab.begins ls d = b at *
  generalize Tab.length ls d = n at *
  go_enter Tryz.func52,Tryz.ntmps52
  go_wp2_with (first
   | (go_at_call 79;refine HW.out.mono ?_;rintro e w1 ⟨rfl,hb1⟩;have HB1:=hid' (HBel.out.trans (hb1.mono HBel.out.size));have t2:=cell_of_row _ _ 2 _ _ _ ((hb1.block _ (lt_of_heap HROW.out)).trans HROW.out);(simp at t2);clear hb1)
   | (go_at_call 86;refine (HBG.out w1 (HLies.out.below hgl HB1.out)).mono ?_;rintro e w2 ⟨rfl,rfl⟩)
   | (go_at_call 88;refine (HLN.out _ (HLies.out.below hgl HB1.out)).mono ?_;rintro e w2 ⟨rfl,m2,rfl⟩))
  go_ret2
  exact ⟨ret_pair (by rw [H.out]) (by rw [H.out]),below_drewN HB1.out m2⟩
namespace Tab
end Tab
theorem ref_today (g cap n:Nat) (ls:List (Int × Int)) (sec e:Int) (w:World) (hn:ls.length = n) (hl:Lies w g ls) (hG:Tab.Good ls) (hD:Tab.Day ls sec e) (s1:sec ≤ 34000000000) :
  Calls Tryz.prog 85 #[.slice (some ⟨g,0,none⟩) n cap,.int .i64 sec] w fun q w' => q = .returned (.int .i64 e) ∧ ∃ m,w' = w.drewN m:=by
 have a0:=(hG.fine _ (List.getElem_mem hG.pos)).1
 rw [← getD_at 0 hG.pos] at a0
 have hbe:=hG.begins_ge e hD.from'
 have hlen:=Tab.length_bd hG.fine hG.pos e
 have d1:=hD.lo
 have d2:=hD.hi
 have d3:=hD.from'
 have hp:0 < n:=by rw [← hn];exact hG.pos
 have hb40:n ≤ 40:=by rw [← hn];exact hG.len
 have e0:0 ≤ e:=by omega
 have e1:e ≤ 400000:=by omega
 have hstart:86400 < sec → sec / 86400 - 1 ≤ e:=fun h => by omega
 have hs0:0 ≤ sec:=by omega
 have HST:=hid' hstart
 have HL:Hid (∀ m,Lies (w.drewN m) g ls):=fun m => hl
 have HG:=hid' hG
 have HD:=hid' hD
 have HN:=hid' hn
 clear hl hG hD hn hstart a0 hbe hlen d1 d2 d3
 go_enter Tryz.func85,Tryz.ntmps85
 by_cases hsec:86400 < sec
 ·have hst:=HST.out hsec
  go_wp2_with fail
  go_loopw [5,6,7] (fun d _ _ wr => ∃ (x:Int) (m:Nat),0 ≤ x ∧ x ≤ e ∧ d = .int .i64 x ∧ wr = w.drewN m) (fun d _ _ _ => (e - intOf d).toNat)
  case atStart => exact ⟨_,0,by omega,by omega,rfl,rfl⟩
  case round =>
   obtain ⟨x,m,x0,x1,rfl,rfl⟩:=hrel
   have HBG:=hid' (ref_begins g cap n ls x (w.drewN m) HN.out hp (HL.out m) HG.out.fine (by omega) (by omega) (by omega))
   have HLN:=hid' (ref_length g cap n ls x (w.drewN m) HN.out hp (HL.out m) HG.out.fine (by omega) (by omega) (by omega))
   have bb:=Tab.begins_bd HG.out.fine HG.out.pos x
   have lb:=Tab.length_bd HG.out.fine HG.out.pos x
   by_cases hx:x = e
   ·have HX:=hid' hx
    have f1:0 ≤ Tab.begins ls x:=by rw [hx];have:=HG.out.begins_ge e HD.out.from';omega
    have f2:sec < Tab.begins ls x + Tab.length ls x:=by rw [hx];exact HD.out.hi
    clear hx
    generalize Tab.begins ls x = b at *
    generalize Tab.length ls x = l at *
    generalize hV:w.drewN m = V at *
    have HV:=hid' hV
    clear hV
    go_wp2_with (first
     | (go_at_call 86;refine HBG.out.mono ?_;rintro q w2 ⟨rfl,rfl⟩)
     | (go_at_call 88;refine HLN.out.mono ?_;rintro q w2 ⟨rfl,m2,rfl⟩))
    go_ret
    exact ⟨ret_int HX.out,m + m2,by rw [← HV.out,World.drewN_drewN]⟩
   ·have hlt:x < e:=by omega
    clear hx
    by_cases hneg:Tab.begins ls x < 0
    ·generalize Tab.begins ls x = b at *
     generalize Tab.length ls x = l at *
     generalize hV:w.drewN m = V at *
     have HV:=hid' hV
     clear hV
     go_wp2_with (first
      | (go_at_call 86;refine HBG.out.mono ?_;rintro q w2 ⟨rfl,rfl⟩)
      | (go_at_call 88;refine HLN.out.mono ?_;rintro q w2 ⟨rfl,m2,rfl⟩))
     go_roundw
     case rel => exact ⟨x + 1,m + m2,by omega,by omega,by go_num,by rw [← HV.out,World.drewN_drewN]⟩
     case measure => simp [intOf];omega
    ·have hfx:(ls.getD 0 (0,0)).1 ≤ x * 86400:=by
      by_cases c:x * 86400 < (ls.getD 0 (0,0)).1
      ·exfalso;apply hneg;unfold Tab.begins;rw [if_pos c];omega
      ·omega
     have f2:Tab.begins ls x + Tab.length ls x ≤ sec:=by
      have a:=HG.out.next x hfx
      have b:=HG.out.le x e hfx hlt
      have c:=HD.out.lo
      omega
     clear hfx
     generalize Tab.begins ls x = b at *
     generalize Tab.length ls x = l at *
     generalize hV:w.drewN m = V at *
     have HV:=hid' hV
     clear hV
     go_wp2_with (first
      | (go_at_call 86;refine HBG.out.mono ?_;rintro q w2 ⟨rfl,rfl⟩)
      | (go_at_call 88;refine HLN.out.mono ?_;rintro q w2 ⟨rfl,m2,rfl⟩))
     go_roundw
     case rel => exact ⟨x + 1,m + m2,by omega,by omega,by go_num,by rw [← HV.out,World.drewN_drewN]⟩
     case measure => simp [intOf];omega
 ·go_wp2_with fail
  go_loopw [5,6,7] (fun d _ _ wr => ∃ (x:Int) (m:Nat),0 ≤ x ∧ x ≤ e ∧ d = .int .i64 x ∧ wr = w.drewN m) (fun d _ _ _ => (e - intOf d).toNat)
  case atStart => exact ⟨_,0,by omega,by omega,rfl,rfl⟩
  case round =>
   obtain ⟨x,m,x0,x1,rfl,rfl⟩:=hrel
   have HBG:=hid' (ref_begins g cap n ls x (w.drewN m) HN.out hp (HL.out m) HG.out.fine (by omega) (by omega) (by omega))
   have HLN:=hid' (ref_length g cap n ls x (w.drewN m) HN.out hp (HL.out m) HG.out.fine (by omega) (by omega) (by omega))
   have bb:=Tab.begins_bd HG.out.fine HG.out.pos x
   have lb:=Tab.length_bd HG.out.fine HG.out.pos x
   by_cases hx:x = e
   ·have HX:=hid' hx
    have f1:0 ≤ Tab.begins ls x:=by rw [hx];have:=HG.out.begins_ge e HD.out.from';omega
    have f2:sec < Tab.begins ls x + Tab.length ls x:=by rw [hx];exact HD.out.hi
    clear hx
    generalize Tab.begins ls x = b at *
    generalize Tab.length ls x = l at *
    generalize hV:w.drewN m = V at *
    have HV:=hid' hV
    clear hV
    go_wp2_with (first
     | (go_at_call 86;refine HBG.out.mono ?_;rintro q w2 ⟨rfl,rfl⟩)
     | (go_at_call 88;refine HLN.out.mono ?_;rintro q w2 ⟨rfl,m2,rfl⟩))
    go_ret
    exact ⟨ret_int HX.out,m + m2,by rw [← HV.out,World.drewN_drewN]⟩
   ·have hlt:x < e:=by omega
    clear hx
    by_cases hneg:Tab.begins ls x < 0
    ·generalize Tab.begins ls x = b at *
     generalize Tab.length ls x = l at *
     generalize hV:w.drewN m = V at *
     have HV:=hid' hV
     clear hV
     go_wp2_with (first
      | (go_at_call 86;refine HBG.out.mono ?_;rintro q w2 ⟨rfl,rfl⟩)
      | (go_at_call 88;refine HLN.out.mono ?_;rintro q w2 ⟨rfl,m2,rfl⟩))
     go_roundw
     case rel => exact ⟨x + 1,m + m2,by omega,by omega,by go_num,by rw [← HV.out,World.drewN_drewN]⟩
     case measure => simp [intOf];omega
    ·have hfx:(ls.getD 0 (0,0)).1 ≤ x * 86400:=by
      by_cases c:x * 86400 < (ls.getD 0 (0,0)).1
      ·exfalso;apply hneg;unfold Tab.begins;rw [if_pos c];omega
      ·omega
     have f2:Tab.begins ls x + Tab.length ls x ≤ sec:=by
      have a:=HG.out.next x hfx
      have b:=HG.out.le x e hfx hlt
      have c:=HD.out.lo
      omega
     clear hfx
     generalize Tab.begins ls x = b at *
     generalize Tab.length ls x = l at *
     generalize hV:w.drewN m = V at *
     have HV:=hid' hV
     clear hV
     go_wp2_with (first
      | (go_at_call 86;refine HBG.out.mono ?_;rintro q w2 ⟨rfl,rfl⟩)
      | (go_at_call 88;refine HLN.out.mono ?_;rintro q w2 ⟨rfl,m2,rfl⟩))
     go_roundw
     case rel => exact ⟨x + 1,m + m2,by omega,by omega,by go_num,by rw [← HV.out,World.drewN_drewN]⟩
     case measure => simp [intOf];omega
theorem ref_label_no (B:Nat) (lv:Value) (ls:List (Int × Int)) (up ex sec:Int) (w:World) (wu:(Lit.int .i64 up).wf = true) (wx:(Lit.int .i64 ex).wf = true)
  (hv:w.ownsRow B 46 2 lv ls.length (flat ls)) (hn:ls.length ≤ 100000) (hwf:∀ p ∈ ls,WfP p) (he:(Tab.offset up ex ls sec).2 ≠ 0) :
  Calls Tryz.prog 50 #[.agg #[.int .i64 up,.int .i64 ex,lv],.int .i64 sec] w fun e w' =>
   e = .returned (.tuple #[.int .i64 0,.int .i64 0,.int .i64 (Tab.offset up ex ls sec).2]) ∧ Below w.heap.size w w':=by
 have HBel:=hid' ((Below.refl w.heap.size w).alloc (Nat.le_refl _) (.cells #[.int .i64 up,.int .i64 ex,lv] 33))
 have HO:=hid' (ref_offset B lv ls up ex sec (w.alloc (.cells #[.int .i64 up,.int .i64 ex,lv] 33)) wu wx (hv.alloc _) hn hwf)
 clear wu wx hwf hv hn
 have hne:((Tab.offset up ex ls sec).2 == 0) = false:=by rw [beq_eq_false_iff_ne];exact he
 clear he
 generalize Tab.offset up ex ls sec = r at *
 obtain ⟨ro,re⟩:=r
 simp only at hne HO
 go_enter Tryz.func50,Tryz.ntmps50
 go_wp2_with (go_at_call 48;refine HO.out.mono ?_;rintro e w1 ⟨rfl,hb1⟩;have HB1:=hid' (HBel.out.trans (hb1.mono HBel.out.size));clear hb1)
 go_ret3
 exact ⟨rfl,HB1.out⟩
theorem ref_label_yes (B:Nat) (lv:Value) (ls:List (Int × Int)) (up ex sec d:Int) (w:World) (wu:(Lit.int .i64 up).wf = true) (wx:(Lit.int .i64 ex).wf = true)
  (hv:w.ownsRow B 46 2 lv ls.length (flat ls)) (hn:ls.length ≤ 100000) (hwf:∀ p ∈ ls,WfP p) (he:(Tab.offset up ex ls sec).2 = 0) (hD:Tab.Day ls sec d) :
  Calls Tryz.prog 50 #[.agg #[.int .i64 up,.int .i64 ex,lv],.int .i64 sec] w fun e w' =>
   e = .returned (.tuple #[.int .i64 d,.int .i64 (sec - Tab.begins ls d),.int .i64 0]) ∧ Below w.heap.size w w':=by
 have HBel:=hid' ((Below.refl w.heap.size w).alloc (Nat.le_refl _) (.cells #[.int .i64 up,.int .i64 ex,lv] 33))
 have HROW:=hid' (heap_alloc_new w (.cells #[.int .i64 up,.int .i64 ex,lv] 33))
 have HO:=hid' (ref_offset B lv ls up ex sec (w.alloc (.cells #[.int .i64 up,.int .i64 ex,lv] 33)) wu wx (hv.alloc _) hn hwf)
 obtain ⟨hwh,hs1,_⟩:=Tab.offset_ok he
 have hG:=Tab.good_of_whole hwh
 obtain ⟨g,cap,rfl⟩:=own_some hv hG.pos
 have hgl:=(hv.lt _ rfl).2
 have HLies:=hid' (lies_of_own hv)
 have a0:=(hG.fine _ (List.getElem_mem hG.pos)).1
 rw [← getD_at 0 hG.pos] at a0
 have hbe:=hG.begins_ge d hD.from'
 have d1:=hD.lo
 have d3:=hD.from'
 have d0:0 ≤ d:=by omega
 have dm:d ≤ 400000:=by omega
 have htd:∀ w1,Lies w1 g ls → Calls Tryz.prog 85 #[.slice (some ⟨g,0,none⟩) ls.length cap,.int .i64 sec] w1 fun q w' => q = .returned (.int .i64 d) ∧ ∃ m,w' = w1.drewN m:=fun w1 h => ref_today g cap ls.length ls sec d w1 rfl h hG hD hs1
 have HTD:=hid' htd
 have hbg:∀ w1,Lies w1 g ls → Calls Tryz.prog 86 #[.slice (some ⟨g,0,none⟩) ls.length cap,.int .i64 d] w1 fun e w' => e = .returned (.int .i64 (Tab.begins ls d)) ∧ w' = w1:=fun w1 h => ref_begins g cap ls.length ls d w1 rfl hG.pos h hG.fine hn (by omega) (by omega)
 have HBG:=hid' hbg
 clear wu wx hwf hv hwh hG htd hbg a0 d3 hD
 have hze:((Tab.offset up ex ls sec).2 == 0) = true:=by rw [beq_iff_eq];exact he
 generalize Tab.begins ls d = b at *
 generalize Tab.offset up ex ls sec = r at *
 obtain ⟨ro,re⟩:=r
 simp only at hze HO he
 subst he
 clear hze
 go_enter Tryz.func50,Tryz.ntmps50
 go_wp2_with (first
  | (go_at_call 48;refine HO.out.mono ?_;rintro e w1 ⟨rfl,hb1⟩;have HB1:=hid' (HBel.out.trans (hb1.mono HBel.out.size));have t2:=cell_of_row _ _ 2 _ _ _ ((hb1.block _ (lt_of_heap HROW.out)).trans HROW.out);(simp at t2);clear hb1)
  | (go_at_call 85;refine (HTD.out _ (HLies.out.below hgl HB1.out)).mono ?_;rintro e w2 ⟨rfl,m2,rfl⟩)
  | (go_at_call 86;refine (HBG.out _ (HLies.out.below hgl (below_drewN HB1.out m2))).mono ?_;rintro e w3 ⟨rfl,rfl⟩))
 go_ret3
 exact ⟨rfl,below_drewN HB1.out m2⟩
end Go.Proofs.YtmmkhodaljpjgaaGreatDoor
