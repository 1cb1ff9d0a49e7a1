import Derived.Test.YtmmkhodaljpjgaaGreatDoorV22
import Derived.Deep.RegionHeld3
namespace Go.Proofs.YtmmkhodaljpjgaaGreatDoor
open Go.RowKit
theorem Held.below {w w':World} {lv:Value} {ls:List (Int × Int)} (h:Held w lv ls) (hb:Below w.heap.size w w'):Held w' lv ls:=by
 rcases h with h | ⟨h3,g,cap,rfl,hcap,hgl,hlies⟩
 ·exact .inl h
 ·exact .inr ⟨h3,g,cap,rfl,hcap,by have:=hb.size;omega,hlies.below hgl hb⟩
set_option maxRecDepth 100000 in
set_option maxHeartbeats 1000000 in
theorem label_offset (lv:Value) (ls:List (Int × Int)) (up ex sec:Int) (w:World) (wu:(Lit.int .i64 up).wf = true) (wx:(Lit.int .i64 ex).wf = true)
  (hv:Held w lv ls) (hn:ls.length ≤ 100000) (hwf:∀ p ∈ ls,WfP p) :
  Calls Tryz.prog 82 #[.agg #[.int .i64 up,.int .i64 ex,lv],.int .i64 sec] w fun e w' =>
   e = .returned (.tuple #[.int .i64 (Tab.offset up ex ls sec).1,.int .i64 (Tab.offset up ex ls sec).2]) ∧ Below w.heap.size w w':=by
 have HBel:=hid' ((Below.refl w.heap.size w).alloc (Nat.le_refl _) (.cells #[.int .i64 up,.int .i64 ex,lv] 78))
 have HW:=hid' (is_table lv ls up ex (w.alloc (.cells #[.int .i64 up,.int .i64 ex,lv] 78)) wu wx (hv.below HBel.out) hn hwf)
 have HROW:=hid' (heap_alloc_new w (.cells #[.int .i64 up,.int .i64 ex,lv] 78))
 clear wu wx hwf
 cases hwh:Tab.whole up ex ls with
 | false =>
  rw [hwh] at HW
  have H:Hid (Tab.offset up ex ls sec = (0,8)):=by show _ = _;unfold Tab.offset;rw [if_pos hwh]
  clear hwh hv
  go_enter Tryz.func82,Tryz.ntmps82
  go_wp2_with (go_at_call 127;refine HW.out.mono ?_;rintro e w1 ⟨rfl,hb1⟩;have HB1:=hid' hb1;clear hb1)
  go_ret2
  exact ⟨ret_pair (by rw [H.out]) (by rw [H.out]),HBel.out.trans (HB1.out.mono HBel.out.size)⟩
 | true =>
  rw [hwh] at HW
  obtain ⟨hok,hpos⟩:=Tab.whole_ok hwh
  have hfine:=Tab.fine_of_whole hwh
  have HFine:=hid' hfine
  clear hok hfine
  have HNW:=hid' (show ¬ Tab.whole up ex ls = false by rw [hwh];simp)
  clear hwh
  rcases hv with ⟨rfl,_⟩ | ⟨_,g,cap,rfl,_,hgl,hlies⟩
  ·simp at hpos
  have HLies:=hid' hlies
  clear hlies
  have hbd:=Tab.lastAt_bd ls sec ls.length
  have HAT:∀ w1,Lies w1 g ls → Hid (Calls Tryz.prog 130 #[.slice (some ⟨g,0,none⟩) ls.length cap,.int .i64 sec] w1 fun e w' => e = .returned (.int .i64 (Tab.lastAt ls sec ls.length)) ∧ w' = w1):=fun w1 h => holder_any g cap ls.length ls sec w1 rfl h HFine.out hn
  have HATH:=hid' HAT
  clear HAT
  by_cases h1:34000000000 < sec
  ·have H:Hid (Tab.offset up ex ls sec = (0,9)):=by show _ = _;unfold Tab.offset;rw [if_neg HNW.out,if_pos h1]
   generalize Tab.lastAt ls sec ls.length = k at *
   go_enter Tryz.func82,Tryz.ntmps82
   go_wp2_with (first
    | (go_at_call 127;refine HW.out.mono ?_;rintro e w1 ⟨rfl,hb1⟩;have HB1:=hid' (HBel.out.trans (hb1.mono HBel.out.size));have t2:=cell_of_row _ _ 2 _ _ _ ((hb1.block _ (lt_of_heap HROW.out)).trans HROW.out);(simp at t2);clear hb1)
    | (go_at_call 130;refine (HATH.out w1 (HLies.out.below hgl HB1.out)).out.mono ?_;rintro e w2 ⟨rfl,rfl⟩))
   go_ret2
   exact ⟨ret_pair (by rw [H.out]) (by rw [H.out]),HB1.out⟩
  ·by_cases h2:Tab.lastAt ls sec ls.length < 0
   ·have H:Hid (Tab.offset up ex ls sec = (0,9)):=by show _ = _;unfold Tab.offset;rw [if_neg HNW.out,if_neg h1,if_pos h2]
    generalize Tab.lastAt ls sec ls.length = k at *
    go_enter Tryz.func82,Tryz.ntmps82
    go_wp2_with (first
     | (go_at_call 127;refine HW.out.mono ?_;rintro e w1 ⟨rfl,hb1⟩;have HB1:=hid' (HBel.out.trans (hb1.mono HBel.out.size));have t2:=cell_of_row _ _ 2 _ _ _ ((hb1.block _ (lt_of_heap HROW.out)).trans HROW.out);(simp at t2);clear hb1)
     | (go_at_call 130;refine (HATH.out w1 (HLies.out.below hgl HB1.out)).out.mono ?_;rintro e w2 ⟨rfl,rfl⟩))
    go_ret2
    exact ⟨ret_pair (by rw [H.out]) (by rw [H.out]),HB1.out⟩
   ·obtain ⟨k,hk⟩:∃ k:Nat,Tab.lastAt ls sec ls.length = (k:Int):=⟨(Tab.lastAt ls sec ls.length).toNat,by omega⟩
    have hkl:k < ls.length:=by omega
    have H:Hid (Tab.offset up ex ls sec = (ls[k].2,0)):=by show _ = _;unfold Tab.offset;rw [if_neg HNW.out,if_neg h1,if_neg h2,hk,Int.toNat_natCast,getD_at k hkl]
    rw [hk] at HATH
    have hcell:=(HLies.out k hkl).2
    clear hk hbd h2
    generalize ls[k] = p at *
    obtain ⟨pa,po⟩:=p
    simp only at hcell
    go_enter Tryz.func82,Tryz.ntmps82
    go_wp2_with (first
     | (go_at_call 127;refine HW.out.mono ?_;rintro e w1 ⟨rfl,hb1⟩;have HB1:=hid' (HBel.out.trans (hb1.mono HBel.out.size));have t2:=cell_of_row _ _ 2 _ _ _ ((hb1.block _ (lt_of_heap HROW.out)).trans HROW.out);(simp at t2);have hc1:=(HB1.out.cell (p:=⟨g,k * 2 + 1,none⟩) hgl).trans hcell;clear hb1)
     | (go_at_call 130;refine (HATH.out w1 (HLies.out.below hgl HB1.out)).out.mono ?_;rintro e w2 ⟨rfl,rfl⟩))
    go_ret2
    exact ⟨ret_pair (by rw [H.out]) (by rw [H.out]),HB1.out⟩
set_option maxRecDepth 100000 in
set_option maxHeartbeats 1000000 in
theorem label_label_no (lv:Value) (ls:List (Int × Int)) (up ex sec:Int) (w:World) (wu:(Lit.int .i64 up).wf = true) (wx:(Lit.int .i64 ex).wf = true)
  (hv:Held w lv ls) (hn:ls.length ≤ 100000) (hwf:∀ p ∈ ls,WfP p) (he:(Tab.offset up ex ls sec).2 ≠ 0) :
  Calls Tryz.prog 84 #[.agg #[.int .i64 up,.int .i64 ex,lv],.int .i64 sec] w fun e w' =>
   e = .returned (.tuple #[.int .i64 0,.int .i64 0,.int .i64 (Tab.offset up ex ls sec).2]) ∧ Below w.heap.size w w':=by
 have HBel:=hid' ((Below.refl w.heap.size w).alloc (Nat.le_refl _) (.cells #[.int .i64 up,.int .i64 ex,lv] 78))
 have HO:=hid' (label_offset lv ls up ex sec (w.alloc (.cells #[.int .i64 up,.int .i64 ex,lv] 78)) wu wx (hv.below HBel.out) hn hwf)
 clear wu wx hwf hv hn
 have hne:((Tab.offset up ex ls sec).2 != 0) = true:=bne_iff_ne.2 he
 clear he
 generalize Tab.offset up ex ls sec = r at *
 obtain ⟨ro,re⟩:=r
 simp only at hne HO
 go_enter Tryz.func84,Tryz.ntmps84
 go_wp2_with (go_at_call 82;refine HO.out.mono ?_;rintro e w1 ⟨rfl,hb1⟩;have HB1:=hid' (HBel.out.trans (hb1.mono HBel.out.size));clear hb1)
 go_ret3
 exact ⟨rfl,HB1.out⟩
theorem day_of (sec off:Int) (w:World) (h0:0 ≤ sec - off) (h1:0 ≤ off) (h2:off ≤ 1000) (h3:sec ≤ 1000000000000) :
  Calls Tryz.prog 131 #[.int .i64 sec,.int .i64 off] w fun e w' => e = .returned (.int .i64 ((sec - off) / 86400)) ∧ w' = w:=by
 go_enter Tryz.func131,Tryz.ntmps131
 go_wp2
 go_ret
 exact ⟨rfl,rfl⟩
set_option maxRecDepth 100000 in
set_option maxHeartbeats 1000000 in
theorem label_label_yes (lv:Value) (ls:List (Int × Int)) (up ex sec d:Int) (w:World) (wu:(Lit.int .i64 up).wf = true) (wx:(Lit.int .i64 ex).wf = true)
  (hv:Held w lv ls) (hn:ls.length ≤ 100000) (hwf:∀ p ∈ ls,WfP p) (he:(Tab.offset up ex ls sec).2 = 0) (hD:Tab.Day ls sec d) :
  Calls Tryz.prog 84 #[.agg #[.int .i64 up,.int .i64 ex,lv],.int .i64 sec] w fun e w' =>
   e = .returned (.tuple #[.int .i64 d,.int .i64 (sec - Tab.begins ls d),.int .i64 0]) ∧ Below w.heap.size w w':=by
 have HBel:=hid' ((Below.refl w.heap.size w).alloc (Nat.le_refl _) (.cells #[.int .i64 up,.int .i64 ex,lv] 78))
 have HROW:=hid' (heap_alloc_new w (.cells #[.int .i64 up,.int .i64 ex,lv] 78))
 have HO:=hid' (label_offset lv ls up ex sec (w.alloc (.cells #[.int .i64 up,.int .i64 ex,lv] 78)) wu wx (hv.below HBel.out) hn hwf)
 obtain ⟨hwh,hs1,hla⟩:=Tab.offset_ok he
 have hG:=Tab.good_of_whole hwh
 have hpos:=hG.pos
 have hlb:=Tab.lastAt_bd ls sec ls.length
 obtain ⟨k,hk⟩:∃ k:Nat,Tab.lastAt ls sec ls.length = (k:Int):=⟨(Tab.lastAt ls sec ls.length).toNat,by omega⟩
 have hd:=hG.only (hG.day_of sec k hk) hD
 have hkl:k < ls.length:=by omega
 have fk:=(hG.fine _ (List.getElem_mem hkl)).2
 rw [← getD_at k hkl] at fk
 have hoff:Tab.offset up ex ls sec = ((ls.getD k (0,0)).2,0):=by
  unfold Tab.offset
  rw [if_neg (by rw [hwh];simp),if_neg (by omega),if_neg (by omega),hk,Int.toNat_natCast]
 rcases hv with ⟨rfl,_⟩ | ⟨_,g,cap,rfl,_,hgl,hlies⟩
 ·simp at hpos
 have HLies:=hid' hlies
 clear hlies
 rw [hoff] at HO
 simp only at HO
 generalize (ls.getD k (0,0)).2 = off at *
 have a0:=(hG.fine _ (List.getElem_mem hpos)).1
 rw [← getD_at 0 hpos] at a0
 have hbe:=hG.begins_ge d hD.from'
 have d1:=hD.lo
 have d3:=hD.from'
 have d0:0 ≤ d:=by omega
 have dm:d ≤ 400000:=by omega
 have hso:0 ≤ sec - off:=by
  by_cases c:0 ≤ sec - off
  ·exact c
  ·exfalso;have:d < 0:=by omega
   omega
 have hbg:∀ w1,Lies w1 g ls → Calls Tryz.prog 132 #[.slice (some ⟨g,0,none⟩) ls.length cap,.int .i64 d] w1 fun e w' => e = .returned (.int .i64 (Tab.begins ls d)) ∧ w' = w1:=fun w1 h => day_begin g cap ls.length ls d w1 rfl h hG (by omega) (by omega) hD.from'
 have HDO:Hid (∀ w1,Calls Tryz.prog 131 #[.int .i64 sec,.int .i64 off] w1 fun e w' => e = .returned (.int .i64 d) ∧ w' = w1):=fun w1 => by rw [← hd];exact day_of sec off w1 hso (by omega) (by omega) (by omega)
 have HBG:=hid' hbg
 clear wu wx hwf hwh hG hbg a0 d3 hD hoff hla hlb hk he hkl
 generalize Tab.begins ls d = b at *
 go_enter Tryz.func84,Tryz.ntmps84
 go_wp2_with (first
  | (go_at_call 82;refine HO.out.mono ?_;rintro e w1 ⟨rfl,hb1⟩;have HB1:=hid' (HBel.out.trans (hb1.mono HBel.out.size));have t2:=cell_of_row _ _ 2 _ _ _ ((hb1.block _ (lt_of_heap HROW.out)).trans HROW.out);(simp at t2);clear hb1)
  | (go_at_call 131;refine (HDO.out _).mono ?_;rintro e w4 ⟨rfl,rfl⟩)
  | (go_at_call 132;refine (HBG.out _ (HLies.out.below hgl HB1.out)).mono ?_;rintro e w3 ⟨rfl,rfl⟩))
 go_ret3
 exact ⟨rfl,HB1.out⟩
set_option maxRecDepth 100000 in
set_option maxHeartbeats 1000000 in
theorem label_second (lv:Value) (ls:List (Int × Int)) (up ex d s:Int) (w:World) (wu:(Lit.int .i64 up).wf = true) (wx:(Lit.int .i64 ex).wf = true)
  (hv:Held w lv ls) (hn:ls.length ≤ 100000) (hwf:∀ p ∈ ls,WfP p) :
  Calls Tryz.prog 87 #[.agg #[.int .i64 up,.int .i64 ex,lv],.int .i64 d,.int .i64 s] w fun e w' =>
   e = .returned (.tuple #[.int .i64 (Tab.second up ex ls d s).1,.int .i64 (Tab.second up ex ls d s).2]) ∧ Below w.heap.size w w':=by
 have HBel:=hid' ((Below.refl w.heap.size w).alloc (Nat.le_refl _) (.cells #[.int .i64 up,.int .i64 ex,lv] 78))
 have HW:=hid' (is_table lv ls up ex (w.alloc (.cells #[.int .i64 up,.int .i64 ex,lv] 78)) wu wx (hv.below HBel.out) hn hwf)
 have HROW:=hid' (heap_alloc_new w (.cells #[.int .i64 up,.int .i64 ex,lv] 78))
 clear wu wx hwf
 cases hwh:Tab.whole up ex ls with
 | false =>
  rw [hwh] at HW
  have H:Hid (Tab.second up ex ls d s = (0,8)):=by show _ = _;unfold Tab.second;rw [if_pos hwh]
  clear hwh hv
  go_enter Tryz.func87,Tryz.ntmps87
  go_wp2_with (go_at_call 127;refine HW.out.mono ?_;rintro e w1 ⟨rfl,hb1⟩;have HB1:=hid' hb1;clear hb1)
  go_ret2
  exact ⟨ret_pair (by rw [H.out]) (by rw [H.out]),HBel.out.trans (HB1.out.mono HBel.out.size)⟩
 | true =>
  rw [hwh] at HW
  have hG:=Tab.good_of_whole hwh
  have hpos:=hG.pos
  have hbb:=Tab.begins_bd hG.fine hpos d
  have hlb:=Tab.length_bd hG.fine hpos d
  have HNW:=hid' (show ¬ Tab.whole up ex ls = false by rw [hwh];simp)
  clear hwh
  rcases hv with ⟨rfl,_⟩ | ⟨_,g,cap,rfl,_,hgl,hlies⟩
  ·simp at hpos
  have HLies:=hid' hlies
  have HG:=hid' hG
  clear hlies hG
  by_cases h1:d < 0
  ·have H:Hid (Tab.second up ex ls d s = (0,9)):=by show _ = _;unfold Tab.second;rw [if_neg HNW.out,if_pos (.inl h1)]
   clear hbb hlb
   go_enter Tryz.func87,Tryz.ntmps87
   go_wp2_with (go_at_call 127;refine HW.out.mono ?_;rintro e w1 ⟨rfl,hb1⟩;have HB1:=hid' (HBel.out.trans (hb1.mono HBel.out.size));have t2:=cell_of_row _ _ 2 _ _ _ ((hb1.block _ (lt_of_heap HROW.out)).trans HROW.out);(simp at t2);clear hb1)
   go_ret2
   exact ⟨ret_pair (by rw [H.out]) (by rw [H.out]),HB1.out⟩
  by_cases h2:401767 ≤ d
  ·have H:Hid (Tab.second up ex ls d s = (0,9)):=by show _ = _;unfold Tab.second;rw [if_neg HNW.out,if_pos (.inr h2)]
   clear hbb hlb
   go_enter Tryz.func87,Tryz.ntmps87
   go_wp2_with (go_at_call 127;refine HW.out.mono ?_;rintro e w1 ⟨rfl,hb1⟩;have HB1:=hid' (HBel.out.trans (hb1.mono HBel.out.size));have t2:=cell_of_row _ _ 2 _ _ _ ((hb1.block _ (lt_of_heap HROW.out)).trans HROW.out);(simp at t2);clear hb1)
   go_ret2
   exact ⟨ret_pair (by rw [H.out]) (by rw [H.out]),HB1.out⟩
  have hD:¬ (d < 0 ∨ 401767 ≤ d):=by omega
  have hla:∀ w1,Lies w1 g ls → Calls Tryz.prog 133 #[.slice (some ⟨g,0,none⟩) ls.length cap,.int .i64 d] w1 fun e w' => e = .returned (.int .i64 (Tab.lastDay ls (d * 86400) ls.length)) ∧ w' = w1:=fun w1 h => last_at g cap ls.length ls d w1 rfl h hn (by omega) (by omega)
  have HLA:=hid' hla
  have hln:∀ w1,Lies w1 g ls → Calls Tryz.prog 134 #[.slice (some ⟨g,0,none⟩) ls.length cap,.int .i64 d] w1 fun e w' => e = .returned (.int .i64 (Tab.length ls d)) ∧ ∃ m,w' = w1.drewN m:=fun w1 h => day_length g cap ls.length ls d w1 rfl hpos h HG.out.fine hn (by omega) (by omega)
  have HLN:=hid' hln
  clear hla hln
  by_cases h3:d * 86400 < (ls.getD 0 (0,0)).1
  ·have hbn:Tab.begins ls d = -1:=by unfold Tab.begins;rw [if_pos h3]
   have hQ:Tab.begins ls d < 0 ∨ s < 0 ∨ Tab.length ls d ≤ s ∨ 34000000000 < Tab.begins ls d + s:=.inl (by omega)
   have H:Hid (Tab.second up ex ls d s = (0,9)):=by show _ = _;unfold Tab.second;rw [if_neg HNW.out,if_neg hD,if_pos hQ]
   have hld:Tab.lastDay ls (d * 86400) ls.length = -1:=HG.out.lastDay_no _ h3 _ (Nat.le_refl _)
   rw [hld] at HLA
   clear hQ hbn hbb hlb hld
   go_enter Tryz.func87,Tryz.ntmps87
   go_wp2_with (first
    | (go_at_call 127;refine HW.out.mono ?_;rintro e w1 ⟨rfl,hb1⟩;have HB1:=hid' (HBel.out.trans (hb1.mono HBel.out.size));have t2:=cell_of_row _ _ 2 _ _ _ ((hb1.block _ (lt_of_heap HROW.out)).trans HROW.out);(simp at t2);clear hb1)
    | (go_at_call 133;refine (HLA.out w1 (HLies.out.below hgl HB1.out)).mono ?_;rintro e w2 ⟨rfl,rfl⟩))
   go_ret2
   exact ⟨ret_pair (by rw [H.out]) (by rw [H.out]),HB1.out⟩
  have h3':(ls.getD 0 (0,0)).1 ≤ d * 86400:=by omega
  have hld:=(HG.out.begins_last d h3').1
  have hb0:0 ≤ Tab.begins ls d:=by have:=HG.out.begins_ge d h3';omega
  have hbg:∀ w1,Lies w1 g ls → Calls Tryz.prog 132 #[.slice (some ⟨g,0,none⟩) ls.length cap,.int .i64 d] w1 fun e w' => e = .returned (.int .i64 (Tab.begins ls d)) ∧ w' = w1:=fun w1 h => day_begin g cap ls.length ls d w1 rfl h HG.out (by omega) (by omega) h3'
  have HBG:=hid' hbg
  clear hbg h3
  generalize Tab.lastDay ls (d * 86400) ls.length = la at *
  by_cases h4:s < 0
  ·have hQ:Tab.begins ls d < 0 ∨ s < 0 ∨ Tab.length ls d ≤ s ∨ 34000000000 < Tab.begins ls d + s:=.inr (.inl h4)
   have H:Hid (Tab.second up ex ls d s = (0,9)):=by show _ = _;unfold Tab.second;rw [if_neg HNW.out,if_neg hD,if_pos hQ]
   clear hQ
   generalize Tab.begins ls d = b at *
   generalize Tab.length ls d = n at *
   go_enter Tryz.func87,Tryz.ntmps87
   go_wp2_with (first
    | (go_at_call 127;refine HW.out.mono ?_;rintro e w1 ⟨rfl,hb1⟩;have HB1:=hid' (HBel.out.trans (hb1.mono HBel.out.size));have t2:=cell_of_row _ _ 2 _ _ _ ((hb1.block _ (lt_of_heap HROW.out)).trans HROW.out);(simp at t2);clear hb1)
    | (go_at_call 133;refine (HLA.out w1 (HLies.out.below hgl HB1.out)).mono ?_;rintro e w2 ⟨rfl,rfl⟩))
   go_ret2
   exact ⟨ret_pair (by rw [H.out]) (by rw [H.out]),HB1.out⟩
  by_cases h5:Tab.length ls d ≤ s
  ·have hQ:Tab.begins ls d < 0 ∨ s < 0 ∨ Tab.length ls d ≤ s ∨ 34000000000 < Tab.begins ls d + s:=.inr (.inr (.inl h5))
   have H:Hid (Tab.second up ex ls d s = (0,9)):=by show _ = _;unfold Tab.second;rw [if_neg HNW.out,if_neg hD,if_pos hQ]
   clear hQ
   generalize Tab.begins ls d = b at *
   generalize Tab.length ls d = n at *
   go_enter Tryz.func87,Tryz.ntmps87
   go_wp2_with (first
    | (go_at_call 127;refine HW.out.mono ?_;rintro e w1 ⟨rfl,hb1⟩;have HB1:=hid' (HBel.out.trans (hb1.mono HBel.out.size));have t2:=cell_of_row _ _ 2 _ _ _ ((hb1.block _ (lt_of_heap HROW.out)).trans HROW.out);(simp at t2);clear hb1)
    | (go_at_call 133;refine (HLA.out w1 (HLies.out.below hgl HB1.out)).mono ?_;rintro e w2 ⟨rfl,rfl⟩)
    | (go_at_call 134;refine (HLN.out _ (HLies.out.below hgl HB1.out)).mono ?_;rintro e w2 ⟨rfl,m2,rfl⟩))
   go_ret2
   exact ⟨ret_pair (by rw [H.out]) (by rw [H.out]),below_drewN HB1.out m2⟩
  by_cases h6:34000000000 < Tab.begins ls d + s
  ·have hQ:Tab.begins ls d < 0 ∨ s < 0 ∨ Tab.length ls d ≤ s ∨ 34000000000 < Tab.begins ls d + s:=.inr (.inr (.inr h6))
   have H:Hid (Tab.second up ex ls d s = (0,9)):=by show _ = _;unfold Tab.second;rw [if_neg HNW.out,if_neg hD,if_pos hQ]
   clear hQ
   generalize Tab.begins ls d = b at *
   generalize Tab.length ls d = n at *
   go_enter Tryz.func87,Tryz.ntmps87
   go_wp2_with (first
    | (go_at_call 127;refine HW.out.mono ?_;rintro e w1 ⟨rfl,hb1⟩;have HB1:=hid' (HBel.out.trans (hb1.mono HBel.out.size));have t2:=cell_of_row _ _ 2 _ _ _ ((hb1.block _ (lt_of_heap HROW.out)).trans HROW.out);(simp at t2);clear hb1)
    | (go_at_call 133;refine (HLA.out w1 (HLies.out.below hgl HB1.out)).mono ?_;rintro e w2 ⟨rfl,rfl⟩)
    | (go_at_call 134;refine (HLN.out _ (HLies.out.below hgl HB1.out)).mono ?_;rintro e w2 ⟨rfl,m2,rfl⟩)
    | (go_at_call 132;refine (HBG.out _ (HLies.out.below hgl (below_drewN HB1.out m2))).mono ?_;rintro e w3 ⟨rfl,rfl⟩))
   go_ret2
   exact ⟨ret_pair (by rw [H.out]) (by rw [H.out]),below_drewN HB1.out m2⟩
  have hQ:¬ (Tab.begins ls d < 0 ∨ s < 0 ∨ Tab.length ls d ≤ s ∨ 34000000000 < Tab.begins ls d + s):=by omega
  have H:Hid (Tab.second up ex ls d s = (Tab.begins ls d + s,0)):=by show _ = _;unfold Tab.second;rw [if_neg HNW.out,if_neg hD,if_neg hQ]
  clear hQ
  generalize Tab.begins ls d = b at *
  generalize Tab.length ls d = n at *
  go_enter Tryz.func87,Tryz.ntmps87
  go_wp2_with (first
   | (go_at_call 127;refine HW.out.mono ?_;rintro e w1 ⟨rfl,hb1⟩;have HB1:=hid' (HBel.out.trans (hb1.mono HBel.out.size));have t2:=cell_of_row _ _ 2 _ _ _ ((hb1.block _ (lt_of_heap HROW.out)).trans HROW.out);(simp at t2);clear hb1)
   | (go_at_call 133;refine (HLA.out w1 (HLies.out.below hgl HB1.out)).mono ?_;rintro e w2 ⟨rfl,rfl⟩)
   | (go_at_call 134;refine (HLN.out _ (HLies.out.below hgl HB1.out)).mono ?_;rintro e w2 ⟨rfl,m2,rfl⟩)
   | (go_at_call 132;refine (HBG.out _ (HLies.out.below hgl (below_drewN HB1.out m2))).mono ?_;rintro e w3 ⟨rfl,rfl⟩))
  go_ret2
  exact ⟨ret_pair (by rw [H.out]) (by rw [H.out]),below_drewN HB1.out m2⟩
set_option maxRecDepth 100000 in
theorem smear_second (lv:Value) (ls:List (Int × Int)) (up ex d s:Int) (w:World) (wu:(Lit.int .i64 up).wf = true) (wx:(Lit.int .i64 ex).wf = true)
  (hv:Held w lv ls) (hn:ls.length ≤ 100000) (hwf:∀ p ∈ ls,WfP p) :
  Calls Tryz.prog 51 #[.agg #[.int .i64 up,.int .i64 ex,lv],.int .i64 d,.int .i64 s] w fun e w' =>
   e = .returned (.tuple #[.int .i64 (Tab.second up ex ls d s).1,.int .i64 (Tab.second up ex ls d s).2]) ∧ Below w.heap.size w w':=by
 have HBel:=hid' ((Below.refl w.heap.size w).alloc (Nat.le_refl _) (.cells #[.int .i64 up,.int .i64 ex,lv] 78))
 have HW:=hid' (label_second lv ls up ex d s (w.alloc (.cells #[.int .i64 up,.int .i64 ex,lv] 78)) wu wx (hv.below HBel.out) hn hwf)
 clear wu wx hwf hv
 generalize Tab.second up ex ls d s = r at *
 go_enter Tryz.func51,Tryz.ntmps51
 go_wp2_with (go_at_call 87;refine HW.out.mono ?_;rintro e w1 ⟨rfl,hb1⟩;have HB1:=hid' (HBel.out.trans (hb1.mono HBel.out.size));clear hb1)
 go_ret2
 exact ⟨rfl,HB1.out⟩
set_option maxRecDepth 100000 in
theorem smear_label_no (lv:Value) (ls:List (Int × Int)) (up ex sec:Int) (w:World) (wu:(Lit.int .i64 up).wf = true) (wx:(Lit.int .i64 ex).wf = true)
  (hv:Held w lv ls) (hn:ls.length ≤ 100000) (hwf:∀ p ∈ ls,WfP p) (he:(Tab.offset up ex ls sec).2 ≠ 0) :
  Calls Tryz.prog 49 #[.agg #[.int .i64 up,.int .i64 ex,lv],.int .i64 sec] w fun e w' =>
   e = .returned (.tuple #[.int .i64 0,.int .i64 0,.int .i64 (Tab.offset up ex ls sec).2]) ∧ Below w.heap.size w w':=by
 have HBel:=hid' ((Below.refl w.heap.size w).alloc (Nat.le_refl _) (.cells #[.int .i64 up,.int .i64 ex,lv] 78))
 have HW:=hid' (label_label_no lv ls up ex sec (w.alloc (.cells #[.int .i64 up,.int .i64 ex,lv] 78)) wu wx (hv.below HBel.out) hn hwf he)
 clear wu wx hwf hv he
 generalize (Tab.offset up ex ls sec).2 = r at *
 go_enter Tryz.func49,Tryz.ntmps49
 go_wp2_with (go_at_call 84;refine HW.out.mono ?_;rintro e w1 ⟨rfl,hb1⟩;have HB1:=hid' (HBel.out.trans (hb1.mono HBel.out.size));clear hb1)
 go_ret3
 exact ⟨rfl,HB1.out⟩
set_option maxRecDepth 100000 in
theorem smear_label_yes (lv:Value) (ls:List (Int × Int)) (up ex sec d:Int) (w:World) (wu:(Lit.int .i64 up).wf = true) (wx:(Lit.int .i64 ex).wf = true)
  (hv:Held w lv ls) (hn:ls.length ≤ 100000) (hwf:∀ p ∈ ls,WfP p) (he:(Tab.offset up ex ls sec).2 = 0) (hD:Tab.Day ls sec d) :
  Calls Tryz.prog 49 #[.agg #[.int .i64 up,.int .i64 ex,lv],.int .i64 sec] w fun e w' =>
   e = .returned (.tuple #[.int .i64 d,.int .i64 (sec - Tab.begins ls d),.int .i64 0]) ∧ Below w.heap.size w w':=by
 have HBel:=hid' ((Below.refl w.heap.size w).alloc (Nat.le_refl _) (.cells #[.int .i64 up,.int .i64 ex,lv] 78))
 have HW:=hid' (label_label_yes lv ls up ex sec d (w.alloc (.cells #[.int .i64 up,.int .i64 ex,lv] 78)) wu wx (hv.below HBel.out) hn hwf he hD)
 clear wu wx hwf hv he hD
 generalize sec - Tab.begins ls d = r at *
 go_enter Tryz.func49,Tryz.ntmps49
 go_wp2_with (go_at_call 84;refine HW.out.mono ?_;rintro e w1 ⟨rfl,hb1⟩;have HB1:=hid' (HBel.out.trans (hb1.mono HBel.out.size));clear hb1)
 go_ret3
 exact ⟨rfl,HB1.out⟩
end Go.Proofs.YtmmkhodaljpjgaaGreatDoor
namespace Go.Proofs.YtmmkhodaljpjgaaGreatDoor
open Go.RowKit
attribute [local go_sem ↓] Go.wp_at_zero Go.wp_at_succ
set_option maxRecDepth 100000 in
theorem label_extra (g cap n k:Nat) (ls:List (Int × Int)) (sec:Int) (w:World) (hn:ls.length = n) (hl:Lies w g ls) (hG:Tab.Good ls) (hb:n ≤ 900) (hk:Tab.lastAt ls sec n = (k:Int)) (u0:0 ≤ sec - (ls.getD k (0,0)).2) (s1:sec ≤ 34000000000) :
  Calls Tryz.prog 175 #[.slice (some ⟨g,0,none⟩) n cap,.int .i64 sec] w fun e w' => e = .returned (.int .i64 (Tab.length ls ((sec - (ls.getD k (0,0)).2) / 86400) - 86400)) ∧ ∃ m,w' = w.drewN m:=by
 have lb:=Tab.lastAt_bd ls sec n
 have kl:k < ls.length:=by omega
 have fb:=(hG.fine _ (List.getElem_mem kl)).2
 have e1:=(hl k kl).2
 have eg:=getD_at (ls:=ls) k kl
 rw [eg] at u0 ⊢
 have three:=hG.three ((sec - (ls[k]'kl).2) / 86400)
 have HO:=hid' (holder_any g cap n ls sec w hn hl hG.fine (by omega))
 rw [hk] at HO
 have DO:=hid' (fun W => day_of sec (ls[k]'kl).2 W u0 (by omega) (by omega) (by omega))
 have DL:=hid' (day_length g cap n ls ((sec - (ls[k]'kl).2) / 86400) w hn (by omega) hl hG.fine (by omega) (by omega) (by omega))
 generalize Tab.length ls ((sec - (ls[k]'kl).2) / 86400) = L at *
 generalize (ls[k]'kl).2 = po at *
 generalize (sec - po) / 86400 = d at *
 have hki:(0:Int) ≤ (k:Int):=by omega
 have hkn:(k:Int) < (n:Int):=by omega
 clear hl hG eg lb hk kl hn
 go_enter Tryz.func175,Tryz.ntmps175
 go_wp2_with fail
 refine HO.out.mono ?_
 rintro e w1 ⟨rfl,hw⟩
 subst w1
 go_wp2_with fail
 refine (DO.out _).mono ?_
 rintro e w1 ⟨rfl,hw⟩
 subst w1
 go_wp2_with fail
 refine DL.out.mono ?_
 rintro e w1 ⟨rfl,m,hw⟩
 have HW:=hid' hw
 clear hw
 go_wp2
 go_ret
 exact ⟨rfl,m,HW.out⟩
set_option maxRecDepth 100000 in
set_option maxHeartbeats 6400000 in
theorem srv_entries (b:Nat) (s:Sv) (dv cv:Value) (op:Bool) (bs bf:Int) (w:World) (h:PRow b s dv cv op bs bf w) (hl:s.done.length + s.com.length ≤ 800) :
  Calls Tryz.prog 174 #[.pointer (some ⟨b,0,none⟩)] w fun e w' => ∃ v,e = .returned v ∧ w'.ownsRow w.heap.size 84 2 v s.all.length (flat s.all) ∧ Below w.heap.size w w':=by
 obtain ⟨i0,hi0,hz0,hz1,hz2⟩:=info_parts infoALeap
 obtain ⟨da,dcp,hdv⟩:=own_slice h.dd
 subst hdv
 obtain ⟨ca,ccp,hcv⟩:=own_slice h.cc
 subst hcv
 have HP:=hid' h
 have lb:=h.lt
 have c9:=h.c9
 have CO:=hid' (copy_of da s.done.length dcp s.done w (read_of h.dd rfl) rfl (by omega))
 clear h
 go_enter Tryz.func174,Tryz.ntmps174
 go_wp2_with fail
 refine CO.out.mono ?_
 rintro e w1 ⟨v1,rfl,own1,hb1⟩
 have OWN1:=hid' own1
 have HB1:=hid' hb1
 clear own1 hb1 CO c9
 go_wp2_with fail
 go_loopw [3,4] (fun v i wr => ∃ k:Nat,k ≤ s.com.length ∧ i = .int .i64 k ∧ wr.ownsRow w.heap.size 84 2 v (s.done.length + k) (flat (s.done ++ (s.com.take k).map cmP)) ∧ Below w.heap.size w wr) (fun _ i _ => s.com.length - (intOf i).toNat)
 case atStart => exact ⟨0,by omega,rfl,by simpa using OWN1.out,HB1.out⟩
 case round =>
  obtain ⟨k,hk,rfl,own,hb⟩:=hrel
  have OWN:=hid' own
  have HB:=hid' hb
  have hsz:=hb.size
  have P1:=hid' (HP.out.below hb)
  have q10:=P1.out.c10
  have lbr:=P1.out.lt
  obtain ⟨va,vcp,hv⟩:=own_slice own
  subst hv
  by_cases hlt:k < s.com.length
  ·have hli:(k:Int) < (s.com.length:Int):=by omega
   have hk0i:(0:Int) ≤ (k:Int):=by omega
   obtain ⟨gc,cg,hg⟩:=own_some P1.out.cc (show 0 < s.com.length by omega)
   obtain ⟨rfl,_,rfl⟩:=Value.slice.inj hg
   have lgc:gc < w.heap.size:=(HP.out.cc.lt _ rfl).2
   have a0:=(P1.out.cc.cellAt (k * 5) (by omega)).trans (flatC_at s.com k hlt 0 (by omega))
   have a1:=(P1.out.cc.cellAt (k * 5 + 1) (by omega)).trans (flatC_at s.com k hlt 1 (by omega))
   have htk:(s.com.take (k + 1)).map cmP = (s.com.take k).map cmP ++ [cmP s.com[k]]:=by
    rw [List.take_succ_eq_append_getElem hlt,List.map_append];rfl
   have HTK:=hid' htk
   generalize s.com[k] = c at *
   obtain ⟨cA,cO,cS,cF,cV⟩:=c
   simp [Cm.cells] at a0 a1
   have NB:Hid (some b ≠ (Value.slice va (s.done.length + k) vcp).ownBlock):=fun e => by have:=own_ge OWN.out b e.symm;omega
   have NG:Hid (some gc ≠ (Value.slice va (s.done.length + k) vcp).ownBlock):=fun e => by have:=own_ge OWN.out gc e.symm;omega
   have lgr:gc < wr.heap.size:=by omega
   have BAL:=(Below.refl wr.heap.size wr).alloc (Nat.le_refl _) (.cells #[.int .i64 cA,.int .i64 cO] 84)
   have m10:=(BAL.cell (p:=⟨b,10,none⟩) lbr).trans q10
   have m0:=(BAL.cell (p:=⟨gc,k * 5,none⟩) lgr).trans a0
   have m1:=(BAL.cell (p:=⟨gc,k * 5 + 1,none⟩) lgr).trans a1
   have nb1:¬ b = wr.heap.size:=by omega
   have nb2:¬ wr.heap.size = b:=by omega
   have ng1:¬ gc = wr.heap.size:=by omega
   have ng2:¬ wr.heap.size = gc:=by omega
   clear own hb hg htk BAL
   go_upto_region 5 with fail
   go_region_held3 (fun w' => w'.cell? ⟨b,10,none⟩ = some (.slice (some ⟨gc,0,none⟩) s.com.length ccp) ∧ w'.cell? ⟨gc,k * 5,none⟩ = some (.int .i64 cA) ∧ w'.cell? ⟨gc,k * 5 + 1,none⟩ = some (.int .i64 cO)) (go_keep)
    (first
     | (refine step_append_lies _ ?_ (.tmp 21) (.tmp 41) 76 ?_ w.heap.size 84 i0 (.agg #[.int .i64 0,.int .i64 0]) 2 16 Tryz.underlying76 hi0 hz0 hz1 hz2 rfl (by decide) (.slice va (s.done.length + k) vcp) (s.done.length + k) (flat (s.done ++ (s.com.take k).map cmP)) ?_ ?_ ⟨wr.heap.size,0,none⟩ 1 1 [.int .i64 cA,.int .i64 cO] ?_ ?_ ?_ ?_ ?_ ?_ ?_ ?_ (wr.heap.size + 1) ?_ ?_;exact rfl;exact rfl;exact rfl;exact (OWN.out.alloc _).drew;exact rfl;exact rfl;exact (World.news_of_block (cs:=#[.int .i64 cA,.int .i64 cO]) (t:=84) (fr:=(0,0)) (heap_alloc_new wr _));(simp [Value.oneCell']);decide;(unfold maxLen;omega);omega;(simp;omega);(simp);intro gg cap6 w6 own6 hg6 hat6 hlt6;have k10:=(hg6.cell (a:=⟨b,10,none⟩) (v:=.slice (some ⟨gc,0,none⟩) s.com.length ccp) (by exact m10) NB.out);have k0:=(hg6.cell (a:=⟨gc,k * 5,none⟩) (v:=.int .i64 cA) (by exact m0) NG.out);have k1:=(hg6.cell (a:=⟨gc,k * 5 + 1,none⟩) (v:=.int .i64 cO) (by exact m1) NG.out);have OWN6:=hid' own6;have HG6:=hid' hg6;clear own6 hg6 hat6))
   all_goals
    go_wp2
    go_roundw
    case rel =>
     refine ⟨k + 1,by omega,by go_num,?_,((HB.out.alloc hsz _).drew).grown HG6.out (by simp;omega) (own_ge OWN.out)⟩
     rw [HTK.out,← List.append_assoc,flat_append];exact OWN6.out
    case measure => simp [intOf];omega
  ·have hnl:¬ (k:Int) < (s.com.length:Int):=by omega
   obtain rfl:k = s.com.length:=by omega
   clear own hb
   go_wp2
   go_ret
   refine ⟨_,rfl,?_,HB.out⟩
   have q:=OWN.out
   rw [List.take_length] at q
   rw [s.all_length]
   exact q
set_option maxRecDepth 100000 in
theorem srv_indicator_no (b:Nat) (s:Sv) (dv cv:Value) (op:Bool) (bs bf:Int) (w:World) (h:PRow b s dv cv op bs bf w) (hm:s.mode ≠ 0) :
  Calls Tryz.prog 136 #[.pointer (some ⟨b,0,none⟩)] w fun e w' => e = .returned (.int .i64 0) ∧ Below w.heap.size w w':=by
 have c0:=h.c0
 have e0:(s.mode != 0) = true:=bne_iff_ne.2 hm
 clear h hm
 go_enter Tryz.func136,Tryz.ntmps136
 go_wp2
 go_ret
 exact ⟨rfl,Below.refl _ _⟩
set_option maxRecDepth 100000 in
set_option maxHeartbeats 1600000 in
theorem srv_indicator (b:Nat) (s:Sv) (dv cv:Value) (op:Bool) (bs bf:Int) (k:Nat) (w:World) (h:PRow b s dv cv op bs bf w) (hI:s.Inv) (hm:s.mode = 0) (hk:s.IndOk k) :
  Calls Tryz.prog 136 #[.pointer (some ⟨b,0,none⟩)] w fun e w' => e = .returned (.int .i64 (s.ind (s.utc / 86400))) ∧ Below w.heap.size w w':=by
 have c0:=h.c0
 rw [hm] at c0
 have hlen:=hI.lens
 obtain ⟨t0,t1,t2,t3⟩:=hI.num.t'
 have EN:=hid' (srv_entries b s dv cv op bs bf w h (by omega))
 have HP:=hid' h
 have al:=s.all_length
 have hall:0 < s.all.length:=by have:=hk.k1;omega
 have hu:s.ns - (s.all.getD k (0,0)).2 = s.utc:=by rw [hk.atk,hk.utc]
 have EX:=hid' (fun (g cap:Nat) (W:World) (hl:Lies W g s.all) => label_extra g cap s.all.length k s.all s.ns W rfl hl hk.gall (by omega) hk.all (by rw [hu];exact hk.u0) t1)
 rw [hu,hk.len] at EX
 have three:=hk.good.three (s.utc / 86400)
 have HIN:Hid (s.ind (s.utc / 86400) = if 86400 < Tab.length s.known (s.utc / 86400) then 1 else if Tab.length s.known (s.utc / 86400) < 86400 then 2 else 0):=rfl
 generalize s.ind (s.utc / 86400) = r at *
 generalize Tab.length s.known (s.utc / 86400) = L at *
 generalize hal:s.all.length = n at *
 have b0:((0:Int) != 0) = false:=rfl
 clear h hI hk hu al
 go_enter Tryz.func136,Tryz.ntmps136
 go_wp2_with fail
 refine EN.out.mono ?_
 rintro e w1 ⟨v1,rfl,own1,hb1⟩
 obtain ⟨g,cg,hg⟩:=own_some own1 hall
 subst hg
 have LI:=hid' (lies_of own1 hal)
 have B1:=hid' hb1
 have P1:=hid' (HP.out.below hb1)
 have c4:=P1.out.c4
 clear own1 hb1 EN c0
 go_wp2_with fail
 refine (EX.out g cg _ LI.out).mono ?_
 rintro e w2 ⟨rfl,m,hw⟩
 have B2:=hid' (show Below w.heap.size w w2 by rw [hw];exact below_drewN B1.out m)
 clear hw EX c4
 by_cases z1:L = 86401
 ·have H:Hid (r = 1):=by show _ = _;rw [HIN.out,if_pos (by omega)]
  subst z1
  go_wp2
  go_ret
  exact ⟨congrArg (fun v => Ending.returned (.int .i64 v)) H.out.symm,B2.out⟩
 ·by_cases z2:L = 86399
  ·have H:Hid (r = 2):=by show _ = _;rw [HIN.out,if_neg (by omega),if_pos (by omega)]
   subst z2
   go_wp2
   go_ret
   exact ⟨congrArg (fun v => Ending.returned (.int .i64 v)) H.out.symm,B2.out⟩
  ·obtain rfl:L = 86400:=by omega
   have H:Hid (r = 0):=by show _ = _;rw [HIN.out,if_neg (by omega),if_neg (by omega)]
   clear z1 z2
   go_wp2
   go_ret
   exact ⟨congrArg (fun v => Ending.returned (.int .i64 v)) H.out.symm,B2.out⟩
end Go.Proofs.YtmmkhodaljpjgaaGreatDoor
namespace Go.Proofs.YtmmkhodaljpjgaaGreatDoor
open Go.RowKit
attribute [local go_sem ↓] Go.wp_at_zero Go.wp_at_succ
def Sv.wide (x:Sv):Prop:=2 ≤ x.done.length ∧ x.till (x.done.length - 1) = true
structure Sv.Told (x:Sv) (ts tf li er:Int):Prop where
 no:x.ld = false → ts = 0 ∧ tf = 0 ∧ li = 3 ∧ er = 8
 step:x.ld = true → x.mode = 0 → ts = x.utc ∧ tf = x.nf ∧ li = x.ind (x.utc / 86400) ∧ er = 0
 out:x.ld = true → x.mode ≠ 0 → ¬ x.wide → ts = x.utc ∧ tf = x.nf ∧ li = 0 ∧ er = 0
 in':x.ld = true → x.mode ≠ 0 → x.wide → ts = (x.smeared (x.done.length - 1)).1 ∧ tf = (x.smeared (x.done.length - 1)).2 ∧ li = 0 ∧ er = 0
theorem Sv.Inv.open_iff {x:Sv} (h:x.Inv) (hl:x.ld = true) {op:Bool} {bs bf:Int} (ho:Opn x op bs bf):(op = true ∧ (gone x.ns x.nf bs bf).1 < x.win) ↔ x.wide:=by
 have m:=h.mid hl
 obtain ⟨t0,t1,t2,t3⟩:=h.num.t'
 have p:=m.pos
 have last:=m.bg (x.done.length - 1) (by omega)
 unfold Sv.wide
 cases op with
 | false =>
  refine ⟨fun e => (by cases e.1),fun e => ?_⟩
  have q:=ho.2 rfl (x.done.length - 1) (by rw [m.bl];omega)
  have e2:=e.2
  rw [Sv.till_eq _ last.f0 last.f1] at e2
  have:=of_decide_eq_true e2
  omega
 | true =>
  obtain ⟨l2,eb⟩:=ho.1 rfl
  rw [m.bl] at l2 eb
  rw [eb] at last
  have g:=gone_till (s:=x.ns) (f:=x.nf) (z:=bs) (g:=bf) (k:=x.win) t2 t3 last.f0 last.f1
  have tl:x.till (x.done.length - 1) = decide ((gone x.ns x.nf bs bf).1 < x.win):=by
   unfold Sv.till;rw [eb];exact g
  rw [tl,decide_eq_true_eq]
  exact ⟨fun e => ⟨l2,e.2⟩,fun e => ⟨rfl,e.2⟩⟩
theorem Sv.Inv.begin_bd {x:Sv} (h:x.Inv) (hl:x.ld = true) {bs bf:Int} (ho:Opn x true bs bf):0 ≤ bf ∧ bf < 4294967296 ∧ (bs < x.ns ∨ (bs = x.ns ∧ bf ≤ x.nf)) ∧ -1000000 ≤ bs ∧ x.gap (x.done.length - 1) = (x.ns - bs) * 4294967296 + x.nf - bf ∧ 2 ≤ x.done.length:=by
 have m:=h.mid hl
 have w:=h.num.win
 obtain ⟨l2,eb⟩:=ho.1 rfl
 rw [m.bl] at l2 eb
 have last:=m.bg (x.done.length - 1) (by omega)
 have wb:=m.fit.when_bd (x.done.length - 1) (by rw [x.all_length];omega)
 have bd:=m.fit.bd (x.done.length - 1) (by rw [x.all_length];omega)
 rw [eb] at last
 have:=last.lo
 refine ⟨last.f0,last.f1,last.now,by simp only at this;omega,?_,l2⟩
 unfold Sv.gap
 rw [eb]
def OpenP (s:Sv) (w:World) (e:Ending) (w':World):Prop:=(∃ n o,e = .returned (.tuple #[.int .i64 n,.bool o]) ∧ (o = true ↔ s.wide) ∧ (o = true → n = s.gap (s.done.length - 1))) ∧ Below w.heap.size w w'
set_option maxRecDepth 100000 in
set_option maxHeartbeats 3200000 in
theorem open_for (b:Nat) (s:Sv) (dv cv:Value) (op:Bool) (bs bf:Int) (w:World) (h:PRow b s dv cv op bs bf w) (ho:Opn s op bs bf) (hI:s.Inv) (hl:s.ld = true) :
  Calls Tryz.prog 137 #[.pointer (some ⟨b,0,none⟩)] w fun e w' => OpenP s w e w':=by
 have HP:=hid' h
 have HIF:=hid' (hI.open_iff hl ho)
 have win:=hI.num.win
 obtain ⟨t0,t1,t2,t3⟩:=hI.num.t'
 have c44:=h.c44
 have lb:=h.lt
 cases op with
 | false =>
  clear h ho hI
  go_enter Tryz.func137,Tryz.ntmps137
  go_wp2
  go_ret2
  exact ⟨⟨_,_,rfl,⟨fun q => (by cases q),fun q => (by cases (HIF.out.2 q).1)⟩,fun q => (by cases q)⟩,Below.refl _ _⟩
 | true =>
  obtain ⟨g0,g1,gn,gb,gg,g2⟩:=hI.begin_bd hl ho
  have GO:=hid' (fun W => clk_gone s.ns s.nf bs bf W (by omega) (by omega) (by omega) (by omega) t2 t3 g0 g1)
  have gbd:=gone_bd (s:=s.ns) (f:=s.nf) (z:=bs) (g:=bf) t2 t3 g0 g1 gn
  have HGG:Hid ((gone s.ns s.nf bs bf).1 * 4294967296 + (gone s.ns s.nf bs bf).2 = s.gap (s.done.length - 1)):=by show _ = _;rw [gone_gap,gg]
  have c4:=h.c4
  have c5:=h.c5
  have c45:=h.c45
  have c46:=h.c46
  have c1:=h.c1
  generalize gone s.ns s.nf bs bf = gt at *
  obtain ⟨ga,gf⟩:=gt
  simp only at GO gbd HIF HGG
  obtain ⟨a0,a1,a2,a3⟩:=gbd
  have hne1:¬ b = w.heap.size:=by omega
  have hne2:¬ w.heap.size = b:=by omega
  clear h ho hI gn gg
  go_enter Tryz.func137,Tryz.ntmps137
  go_upto_region 3 with fail
  go_cut [4] from 5 (fun s4 wx => ∃ q,s4 = .pointer (some ⟨q,0,none⟩) ∧ Below w.heap.size w wx ∧ wx.heap[q]? = some (.cells #[.int .i64 ga,.int .i64 gf] 98 (0,0)))
  case first =>
   go_region_held3 (fun w' => w'.cell? ⟨b,4,none⟩ = some (.int .i64 s.ns) ∧ w'.cell? ⟨b,5,none⟩ = some (.int .i64 s.nf) ∧ w'.cell? ⟨b,45,none⟩ = some (.int .i64 bs) ∧ w'.cell? ⟨b,46,none⟩ = some (.int .i64 bf)) (first | go_keep | assumption) (first | (go_at_call 176;refine (GO.out _).mono ?_;rintro e w1 ⟨rfl,hb1⟩;(try (have hrow:=(hb1.block w.heap.size (by exact Nat.lt_of_lt_of_eq (Nat.lt_succ_self _) (alloc_sz w (.cells #[.int .i64 0,.int .i64 0] 98)).symm)).trans (heap_alloc_new w.drew (.cells #[.int .i64 0,.int .i64 0] 98));have z0:=cell_of_row _ _ 0 _ _ _ hrow;have z1:=cell_of_row _ _ 1 _ _ _ hrow;have zf0:=frozen_of_row _ _ 0 _ _ hrow;have zf1:=frozen_of_row _ _ 1 _ _ hrow;simp at z0 z1;have HROW:=hid' hrow;clear hrow));have m4:=hb1.cell (p:=⟨b,4,none⟩) (by first | exact lb | exact Nat.lt_of_lt_of_le lb (Nat.le_of_lt (Nat.lt_of_lt_of_eq (Nat.lt_succ_self _) (alloc_sz w (.cells #[.int .i64 0,.int .i64 0] 98)).symm)));have m5:=hb1.cell (p:=⟨b,5,none⟩) (by first | exact lb | exact Nat.lt_of_lt_of_le lb (Nat.le_of_lt (Nat.lt_of_lt_of_eq (Nat.lt_succ_self _) (alloc_sz w (.cells #[.int .i64 0,.int .i64 0] 98)).symm)));have m45:=hb1.cell (p:=⟨b,45,none⟩) (by first | exact lb | exact Nat.lt_of_lt_of_le lb (Nat.le_of_lt (Nat.lt_of_lt_of_eq (Nat.lt_succ_self _) (alloc_sz w (.cells #[.int .i64 0,.int .i64 0] 98)).symm)));have m46:=hb1.cell (p:=⟨b,46,none⟩) (by first | exact lb | exact Nat.lt_of_lt_of_le lb (Nat.le_of_lt (Nat.lt_of_lt_of_eq (Nat.lt_succ_self _) (alloc_sz w (.cells #[.int .i64 0,.int .i64 0] 98)).symm)));have hs1:=hb1.size;have HB1:=hid' hb1;clear hb1))
   all_goals
    go_wp2_with fail
    go_meet
    case rel =>
     first
      | exact ⟨_,rfl,((Below.refl _ _).drew.trans HB1.out).alloc (by exact HB1.out.size) _,by exact heap_alloc_new _ _⟩
      | exact ⟨_,rfl,((((Below.refl w.heap.size w).drew.alloc (Nat.le_refl _) (.cells #[.int .i64 0,.int .i64 0] 98)).trans (HB1.out.mono (by exact Nat.le_of_lt (Nat.lt_of_lt_of_eq (Nat.lt_succ_self _) (alloc_sz w (.cells #[.int .i64 0,.int .i64 0] 98)).symm)))).setCell (p:=⟨w.heap.size,0,none⟩) (Nat.le_refl _) _).setCell (p:=⟨w.heap.size,1,none⟩) (Nat.le_refl _) _,by exact two_row HROW.out⟩
  case rest =>
   obtain ⟨q,rfl,bel,qrow⟩:=hcut
   rename World => W1
   have B1:=hid' bel
   have P1:=hid' (HP.out.below bel)
   have d1:=P1.out.c1
   have o0:=cell_of_row _ _ 0 _ _ _ qrow
   have o1:=cell_of_row _ _ 1 _ _ _ qrow
   simp at o0 o1
   clear bel qrow c44 c4 c5 c45 c46 c1
   by_cases hw:ga < s.win
   ·go_upto_region 4 with fail
    go_quiet (fail)
    go_wp2
    go_ret2
    exact ⟨⟨_,_,rfl,⟨fun _ => (by first | exact HIF.out.1 ⟨rfl,hw⟩ | exact HIF.out.1 ⟨trivial,hw⟩),fun _ => rfl⟩,fun _ => HGG.out⟩,below_drewN B1.out _⟩
   ·go_upto_region 4 with fail
    go_quiet (fail)
    go_wp2
    go_ret2
    exact ⟨⟨_,_,rfl,⟨fun q => (by cases q),fun q => (by have:=(HIF.out.2 q).2;omega)⟩,fun q => (by cases q)⟩,below_drewN B1.out _⟩
set_option maxRecDepth 100000 in
set_option maxHeartbeats 3200000 in
theorem srv_smeared (b:Nat) (s:Sv) (dv cv:Value) (op:Bool) (bs bf:Int) (w:World) (h:PRow b s dv cv op bs bf w) (hI:s.Inv) (hl:s.ld = true) (hm:s.mode ≠ 0) (hw:s.wide) :
  Calls Tryz.prog 138 #[.pointer (some ⟨b,0,none⟩),.int .i64 (s.gap (s.done.length - 1))] w fun e w' => e = .returned (.agg #[.int .i64 (s.smeared (s.done.length - 1)).1,.int .i64 (s.smeared (s.done.length - 1)).2]) ∧ Below w.heap.size w w':=by
 obtain ⟨t0,t1,t2,t3⟩:=hI.num.t'
 have hM:=hI.mid hl
 obtain ⟨l2,ht⟩:=hw
 have ok:=hI.pullOk hl (s.done.length - 1) (by omega) ht
 have hmd:s.mode = 1 ∨ s.mode = 2:=by
  rcases hI.num.mode with ⟨q,_⟩ | ⟨q,_⟩
  ·exact absurd q hm
  ·exact q
 have hse:=Sv.smeared_eq ok t2 t3
 have pu:=Sv.pq_bd ok true
 have pd:=Sv.pq_bd ok false
 have PL:=hid' (fun (up:Bool) (W:World) (hb:Below w.heap.size w W) => p_pull b s dv cv op bs bf (s.gap (s.done.length - 1)) up W (h.below hb) ok hmd)
 have PLT:=hid' (fun (W:World) (hb:Below w.heap.size w W) => PL.out true W hb)
 have PLF:=hid' (fun (W:World) (hb:Below w.heap.size w W) => PL.out false W hb)
 have epq:∀ up,quo (pullU s.mode s.win (s.gap (s.done.length - 1))) (pullD s.mode s.win) up = s.pq (s.done.length - 1) up:=fun _ => rfl
 simp only [epq] at PLT PLF
 clear PL
 have hlen:=hM.fit.good.len
 rw [s.all_length] at hlen
 have hG:=hM.doneFit.good
 obtain ⟨k,hk⟩:∃ k,s.done.length = k + 2:=⟨s.done.length - 2,by omega⟩
 obtain ⟨g,cap,hdv⟩:=own_some h.dd (by omega)
 subst hdv
 have lie:=lies_of h.dd rfl
 have k1:k + 1 < s.done.length:=by omega
 have k0:k < s.done.length:=by omega
 have e1:=(lie (k + 1) k1).2
 have e0:=(lie k k0).2
 have lg:g < w.heap.size:=(h.dd.lt _ rfl).2
 have f0:=(hG.fine _ (List.getElem_mem k0)).2
 have f1:=(hG.fine _ (List.getElem_mem k1)).2
 have hst:=hG.off k (by omega)
 rw [show s.done.length - 1 = k + 1 from by omega] at hse ⊢
 rw [show s.done.length - 1 = k + 1 from by omega] at pu pd PLT PLF
 rw [Nat.add_sub_cancel,getD_at (k + 1) k1,getD_at k k0] at hse
 rw [getD_at (k + 1) k1,getD_at k k0] at hst
 have HSE:=hid' hse
 generalize (s.done[k + 1]'k1).2 = o1 at *
 generalize (s.done[k]'k0).2 = o0 at *
 generalize s.pq (k + 1) true = pt at *
 generalize s.pq (k + 1) false = pf at *
 generalize s.gap (k + 1) = gp at *
 generalize s.smeared (k + 1) = r at *
 obtain ⟨pu0,pu1⟩:=pu
 obtain ⟨pd0,pd1⟩:=pd
 obtain ⟨np,hnp⟩:∃ np,np = -pt:=⟨_,rfl⟩
 have hnw:IntKind.i64.wrap (-pt) = np:=by rw [IntKind.wrap_i64];omega
 have hnw2:wrap64 (-pt) = np:=by unfold wrap64;omega
 have np0:-4294967296 ≤ np:=by omega
 have np1:np ≤ 4294967296:=by omega
 rw [← hnp] at HSE
 have MU:=hid' (fun W => clk_moved (s.ns - o0) s.nf np W (by omega) (by omega) t2 t3 np0 np1)
 have MD:=hid' (fun W => clk_moved (s.ns - o0) s.nf pf W (by omega) (by omega) t2 t3 (by omega) (by omega))
 generalize moved (s.ns - o0) s.nf np = mu at *
 generalize moved (s.ns - o0) s.nf pf = md at *
 have HP:=hid' h
 have lb:=h.lt
 have B0:=hid' ((Below.refl w.heap.size w).alloc (Nat.le_refl _) (.cells #[.int .i64 0,.int .i64 0] 98))
 have R0:=hid' (heap_alloc_new w (.cells #[.int .i64 0,.int .i64 0] 98))
 generalize hL:s.done.length = L at *
 obtain ⟨x1,x2,x3,x4⟩:IntKind.i64.wrap ((L:Int) - 1) = ((k + 1:Nat):Int) ∧ wrap64 ((L:Int) - 1) = ((k + 1:Nat):Int) ∧ IntKind.i64.wrap (((k + 1:Nat):Int) - 1) = (k:Int) ∧ wrap64 (((k + 1:Nat):Int) - 1) = (k:Int):=⟨by rw [IntKind.wrap_i64];omega,by unfold wrap64;omega,by rw [IntKind.wrap_i64];omega,by unfold wrap64;omega⟩
 have z1:(1:Int) ≤ ((k + 1:Nat):Int):=by omega
 have z2:((k + 1:Nat):Int) < (L:Int):=by omega
 have z3:(0:Int) ≤ (k:Int):=by omega
 have z4:(k:Int) < (L:Int):=by omega
 have z5:(0:Int) ≤ ((k + 1:Nat):Int):=by omega
 clear h hI hM ok hse epq hG lie hk hm hmd ht l2 hL hnp
 generalize hK:k + 1 = K at *
 have z6:¬ (K:Int) < 1:=by omega
 clear hK
 go_enter Tryz.func138,Tryz.ntmps138
 go_upto_region 1 with fail
 generalize hV:w.alloc (.cells #[.int .i64 0,.int .i64 0] 98) = V at *
 generalize hQ:w.heap.size = Q at *
 clear hV
 have PV:=hid' (HP.out.below (by rw [hQ];exact B0.out))
 have c9:=PV.out.c9
 have c4:=PV.out.c4
 have c5:=PV.out.c5
 have y1:=(B0.out.cell (p:=⟨g,K * 2 + 1,none⟩) (by simp only;omega)).trans e1
 have y0:=(B0.out.cell (p:=⟨g,k * 2 + 1,none⟩) (by simp only;omega)).trans e0
 have lv:=lt_of_heap R0.out
 have sv:=B0.out.size
 clear e0 e1
 go_upto_region 7 with fail
 have BN:=hid' ((Below.refl V.heap.size V).alloc (Nat.le_refl _) (.cells #[.int .i64 (s.ns - o0),.int .i64 s.nf] 98))
 have RN:=hid' (heap_alloc_new V (.cells #[.int .i64 (s.ns - o0),.int .i64 s.nf] 98))
 generalize hW:V.alloc (.cells #[.int .i64 (s.ns - o0),.int .i64 s.nf] 98) = W at *
 generalize hE:V.heap.size = E at *
 clear hW
 have PW:=hid' (PV.out.below (by rw [hE];exact BN.out))
 have c9:=PW.out.c9
 have y1:=(BN.out.cell (p:=⟨g,K * 2 + 1,none⟩) (by simp only;omega)).trans y1
 have RQ:=hid' ((BN.out.block _ (by omega)).trans R0.out)
 have lqw:=lt_of_heap RQ.out
 have d0:=cell_of_row _ _ 0 _ _ _ RN.out
 have d1:=cell_of_row _ _ 1 _ _ _ RN.out
 simp at d0 d1
 have BW:=hid' (show Below Q w W from B0.out.trans (BN.out.mono (by omega)))
 clear c4 c5 y0
 by_cases c:o0 < o1
 ·have H:Hid (r = mu):=by show _ = _;rw [HSE.out,if_neg (by omega)]
  clear HSE
  go_upto_region 8 with fail
  go_region_with (first | (go_at_call 178;refine (PLT.out _ (by exact BW.out.drew)).mono ?_;rintro e w1 ⟨rfl,hw⟩;subst w1) | (go_at_call 177;refine (MU.out _).mono ?_;rintro e w2 ⟨rfl,hb2⟩;have Q2:=hid' ((hb2.block Q (by exact lqw)).trans RQ.out);have n0:=cell_of_row _ _ 0 _ _ _ Q2.out;have n1:=cell_of_row _ _ 1 _ _ _ Q2.out;have nf0:=frozen_of_row _ _ 0 _ _ Q2.out;have nf1:=frozen_of_row _ _ 1 _ _ Q2.out;simp at n0 n1;have B2:=hid' (BW.out.drew.trans (hb2.mono (by have:=BW.out.size;rw [← hQ];exact this)));clear hb2))
  all_goals
   go_wp2
   try simp only [Exit.inBlock,Exit.then]
   refine bodyPost_ret (results_cell_row rfl _ _ Q 98 #[.int .i64 mu.1,.int .i64 mu.2] (0,0) _ rfl (two_row Q2.out) Tryz.underlying98 rfl (by kernel_rfl)) rfl ?_
   rw [H.out]
   exact ⟨rfl,by rw [hQ];exact (B2.out.setCell (p:=⟨Q,0,none⟩) (by simp only;omega) _).setCell (p:=⟨Q,1,none⟩) (by simp only;omega) _⟩
 ·have H:Hid (r = md):=by show _ = _;rw [HSE.out,if_pos (by omega)]
  clear HSE
  go_upto_region 9 with fail
  go_region_with (first | (go_at_call 178;refine (PLF.out _ (by exact BW.out.drew)).mono ?_;rintro e w1 ⟨rfl,hw⟩;subst w1) | (go_at_call 177;refine (MD.out _).mono ?_;rintro e w2 ⟨rfl,hb2⟩;have Q2:=hid' ((hb2.block Q (by exact lqw)).trans RQ.out);have n0:=cell_of_row _ _ 0 _ _ _ Q2.out;have n1:=cell_of_row _ _ 1 _ _ _ Q2.out;have nf0:=frozen_of_row _ _ 0 _ _ Q2.out;have nf1:=frozen_of_row _ _ 1 _ _ Q2.out;simp at n0 n1;have B2:=hid' (BW.out.drew.trans (hb2.mono (by have:=BW.out.size;rw [← hQ];exact this)));clear hb2))
  all_goals
   go_wp2
   try simp only [Exit.inBlock,Exit.then]
   refine bodyPost_ret (results_cell_row rfl _ _ Q 98 #[.int .i64 md.1,.int .i64 md.2] (0,0) _ rfl (two_row Q2.out) Tryz.underlying98 rfl (by kernel_rfl)) rfl ?_
   rw [H.out]
   exact ⟨rfl,by rw [hQ];exact (B2.out.setCell (p:=⟨Q,0,none⟩) (by simp only;omega) _).setCell (p:=⟨Q,1,none⟩) (by simp only;omega) _⟩
set_option maxRecDepth 100000 in
set_option maxHeartbeats 3200000 in
theorem srv_now (b:Nat) (s:Sv) (dv cv:Value) (op:Bool) (bs bf ts tf li er:Int) (w:World) (h:PRow b s dv cv op bs bf w) (ho:Opn s op bs bf) (hI:s.Inv) (hT:s.Told ts tf li er) :
  Calls Tryz.prog 91 #[.pointer (some ⟨b,0,none⟩)] w fun e w' => e = .returned (.tuple #[.agg #[.int .i64 ts,.int .i64 tf],.int .i64 li,.int .i64 er]) ∧ Below w.heap.size w w':=by
 have HP:=hid' h
 have c6:=h.c6
 have B0:=hid' ((Below.refl w.heap.size w).alloc (Nat.le_refl _) (.cells #[.int .i64 0,.int .i64 0] 98))
 have R0:=hid' (heap_alloc_new w (.cells #[.int .i64 0,.int .i64 0] 98))
 have lb:=h.lt
 cases hld:s.ld with
 | false =>
  obtain ⟨rfl,rfl,rfl,rfl⟩:=hT.no hld
  rw [hld] at c6
  clear h ho hI hT hld
  go_enter Tryz.func91,Tryz.ntmps91
  go_wp2
  try simp only [Exit.inBlock,Exit.then]
  first
   | (refine bodyPost_ret (results_row_tt (p:=2) (u:=3) (v:=4) rfl _ _ w.heap.size #[.int .i64 0,.int .i64 0] rfl (load_ptime R0.out rfl)) rfl ?_
      exact ⟨rfl,B0.out⟩)
   | (refine bodyPost_ret (results_row_tt (p:=2) (u:=3) (v:=4) rfl _ _ w.heap.size #[.int .i64 0,.int .i64 0] rfl (load_ptime (two_row R0.out) rfl)) rfl ?_
      exact ⟨rfl,(B0.out.setCell (p:=⟨w.heap.size,0,none⟩) (Nat.le_refl _) _).setCell (p:=⟨w.heap.size,1,none⟩) (Nat.le_refl _) _⟩)
 | true =>
  rw [hld] at c6
  have hM:=hI.mid hld
  have IN:Hid (∀ W,Below w.heap.size w W → Calls Tryz.prog 136 #[.pointer (some ⟨b,0,none⟩)] W fun e w' => e = .returned (.int .i64 li) ∧ Below W.heap.size W w'):=fun W hb => by
   by_cases hm:s.mode = 0
   ·obtain ⟨k,hk⟩:=hI.indOk hld hm
    rw [(hT.step hld hm).2.2.1]
    exact srv_indicator b s dv cv op bs bf k W (h.below hb) hI hm hk
   ·have e:li = 0:=by
     by_cases q:s.wide
     ·exact (hT.in' hld hm q).2.2.1
     ·exact (hT.out hld hm q).2.2.1
    rw [e]
    exact srv_indicator_no b s dv cv op bs bf W (h.below hb) hm
  have OF:=hid' (fun (W:World) (hb:Below w.heap.size w W) => open_for b s dv cv op bs bf W (h.below hb) ho hI hld)
  have US:=hid' (fun (W:World) (hb:Below w.heap.size w W) => un_smeared b s dv cv op bs bf W (h.below hb) hM hI.num)
  have SM:=hid' (fun (W:World) (hb:Below w.heap.size w W) (hm:s.mode ≠ 0) (hw:s.wide) => srv_smeared b s dv cv op bs bf W (h.below hb) hI hld hm hw)
  have HT:=hid' hT
  have H0:Hid (s.wide → s.mode ≠ 0):=fun hw hm => by
   have wz:s.win = 0:=by
    rcases hI.num.mode with ⟨_,a⟩ | ⟨a,_⟩
    ·exact a
    ·omega
   have l2:=hw.1
   have last:=hM.bg (s.done.length - 1) (by omega)
   have ht:=hw.2
   rw [Sv.till_eq _ last.f0 last.f1,wz] at ht
   have q:=of_decide_eq_true ht
   have:=last.now
   omega
  have E0:Hid (er = 0):=by
   show er = 0
   by_cases hm:s.mode = 0
   ·exact (hT.step hld hm).2.2.2
   ·by_cases q:s.wide
    ·exact (hT.in' hld hm q).2.2.2
    ·exact (hT.out hld hm q).2.2.2
  clear h ho hI hT hM
  go_enter Tryz.func91,Tryz.ntmps91
  go_upto_region 1 with fail
  generalize hV:w.alloc (.cells #[.int .i64 0,.int .i64 0] 98) = V at *
  clear hV
  have c6:=(B0.out.cell (p:=⟨b,6,none⟩) lb).trans c6
  go_wp2_with fail
  refine (IN.out _ B0.out).mono ?_
  rintro e w1 ⟨rfl,hb1⟩
  have B1:=hid' (B0.out.trans (hb1.mono B0.out.size))
  have R1:=hid' ((hb1.block _ (lt_of_heap R0.out)).trans R0.out)
  clear hb1 IN c6
  go_wp2_with fail
  refine (OF.out _ B1.out).mono ?_
  rintro e w2 ⟨⟨n,o,rfl,ho1,ho2⟩,hb2⟩
  have B2:=hid' (B1.out.trans (hb2.mono B1.out.size))
  have R2:=hid' ((hb2.block _ (lt_of_heap R1.out)).trans R1.out)
  clear hb2 OF
  cases o with
  | true =>
   have hw:=ho1.1 rfl
   have hm:=H0.out hw
   have q1:=(HT.out.in' hld hm hw).1
   have q2:=(HT.out.in' hld hm hw).2.1
   have en:=ho2 rfl
   subst en
   have SMW:=hid' (SM.out _ B2.out hm hw)
   rw [← q1,← q2] at SMW
   clear ho1 ho2 hw hm q1 q2 SM hld
   go_wp2_with fail
   refine SMW.out.mono ?_
   rintro e w3 ⟨rfl,hb3⟩
   have B3:=hid' (B2.out.trans (hb3.mono B2.out.size))
   have R3:=hid' ((hb3.block _ (lt_of_heap R2.out)).trans R2.out)
   have n0:=cell_of_row _ _ 0 _ _ _ R3.out
   have n1:=cell_of_row _ _ 1 _ _ _ R3.out
   have nf0:=frozen_of_row _ _ 0 _ _ R3.out
   have nf1:=frozen_of_row _ _ 1 _ _ R3.out
   simp at n0 n1
   clear hb3 SMW
   go_wp2
   try simp only [Exit.inBlock,Exit.then]
   refine bodyPost_ret (results_row_tt (p:=2) (u:=3) (v:=4) rfl _ _ w.heap.size #[.int .i64 ts,.int .i64 tf] rfl (load_ptime (two_row R3.out) rfl)) rfl ?_
   rw [E0.out]
   exact ⟨rfl,(B3.out.setCell (p:=⟨w.heap.size,0,none⟩) (Nat.le_refl _) _).setCell (p:=⟨w.heap.size,1,none⟩) (Nat.le_refl _) _⟩
  | false =>
   have hw:¬ s.wide:=fun q => by cases ho1.2 q
   have hu:ts = s.utc ∧ tf = s.nf:=by
    by_cases hm:s.mode = 0
    ·have q:=HT.out.step hld hm;exact ⟨q.1,q.2.1⟩
    ·have q:=HT.out.out hld hm hw;exact ⟨q.1,q.2.1⟩
   have USW:=hid' (US.out _ B2.out)
   rw [← hu.1,← hu.2] at USW
   clear ho1 ho2 hw hu US hld
   go_wp2_with fail
   refine USW.out.mono ?_
   rintro e w3 ⟨rfl,hb3⟩
   have B3:=hid' (B2.out.trans (hb3.mono B2.out.size))
   have R3:=hid' ((hb3.block _ (lt_of_heap R2.out)).trans R2.out)
   have n0:=cell_of_row _ _ 0 _ _ _ R3.out
   have n1:=cell_of_row _ _ 1 _ _ _ R3.out
   have nf0:=frozen_of_row _ _ 0 _ _ R3.out
   have nf1:=frozen_of_row _ _ 1 _ _ R3.out
   simp at n0 n1
   clear hb3 USW
   go_wp2
   try simp only [Exit.inBlock,Exit.then]
   refine bodyPost_ret (results_row_tt (p:=2) (u:=3) (v:=4) rfl _ _ w.heap.size #[.int .i64 ts,.int .i64 tf] rfl (load_ptime (two_row R3.out) rfl)) rfl ?_
   rw [E0.out]
   exact ⟨rfl,(B3.out.setCell (p:=⟨w.heap.size,0,none⟩) (Nat.le_refl _) _).setCell (p:=⟨w.heap.size,1,none⟩) (Nat.le_refl _) _⟩
set_option maxRecDepth 100000 in
theorem p_now (b:Nat) (s:Sv) (F:Nat → Prop) (ts tf li er:Int) (w:World) (h:PS b s F w) (hI:s.Inv) (hT:s.Told ts tf li er):Tells 55 b ts tf li er w:=by
 obtain ⟨dv,cv,op,bs,bf,r,o,_⟩:=h
 have B0:=hid' ((Below.refl w.heap.size w).alloc (Nat.le_refl _) (.cells #[.int .i64 0,.int .i64 0] 98))
 have R0:=hid' (heap_alloc_new w (.cells #[.int .i64 0,.int .i64 0] 98))
 have SA:=hid' (srv_now b s dv cv op bs bf ts tf li er _ (r.below B0.out) o hI hT)
 clear r o hI hT
 unfold Tells
 go_enter Tryz.func55,Tryz.ntmps55
 go_wp2_with fail
 refine SA.out.mono ?_
 rintro e w1 ⟨rfl,hb1⟩
 have R1:=hid' ((hb1.block _ (lt_of_heap R0.out)).trans R0.out)
 have B1:=hid' (B0.out.trans (hb1.mono B0.out.size))
 have n0:=cell_of_row _ _ 0 _ _ _ R1.out
 have n1:=cell_of_row _ _ 1 _ _ _ R1.out
 have nf0:=frozen_of_row _ _ 0 _ _ R1.out
 have nf1:=frozen_of_row _ _ 1 _ _ R1.out
 simp at n0 n1
 clear hb1 SA
 go_wp2
 try simp only [Exit.inBlock,Exit.then]
 refine bodyPost_ret (results_row_tt (p:=2) (u:=3) (v:=4) rfl _ _ w.heap.size #[.int .i64 ts,.int .i64 tf] rfl (load_ptime (two_row R1.out) rfl)) rfl ?_
 exact ⟨rfl,(B1.out.setCell (p:=⟨w.heap.size,0,none⟩) (Nat.le_refl _) _).setCell (p:=⟨w.heap.size,1,none⟩) (Nat.le_refl _) _⟩
end Go.Proofs.YtmmkhodaljpjgaaGreatDoor
