import Derived.Test.YtmmkhodaljpjgaaGreatDoorV12
import Derived.Deep.QuietTactic
import Derived.BigQuiet
import Derived.Deep.Cut
import Derived.Deep.CutBlock
import Derived.Deep.CutRange
import Derived.StillTactics
import Derived.Deep.DrawnRows
import Derived.Deep.RegionLaw
import Derived.BigRegion
set_option maxRecDepth 100000
set_option maxHeartbeats 6400000
namespace Go.Proofs.YtmmkhodaljpjgaaGreatDoor
open Go.RowKit
namespace Txt
end Txt
theorem ref_digits (n:Nat) (hn:n ≤ 1000000000000) (w:World) :
  Calls Tryz.prog 81 #[.int .i64 n] w fun e w' => e = .returned (.string ⟨(Txt.dec n).toArray⟩) ∧ Below w.heap.size w w':=by
 induction n using Nat.strongRecOn generalizing w with
 | _ n ih =>
  by_cases h:9 < n
  ·have H:Hid (ByteArray.mk (Txt.dec (n / 10)).toArray ++ ByteArray.mk (Txt.dec (n % 10)).toArray = ByteArray.mk (Txt.dec n).toArray):=by
    show _ = _;rw [Txt.dec_high n h];congr 1
   obtain ⟨a,ha⟩:∃ a:Nat,n / 10 = a:=⟨_,rfl⟩
   obtain ⟨c,hc⟩:∃ c:Nat,n % 10 = c:=⟨_,rfl⟩
   have I1:=hid' (fun w => ih a (by omega) (by omega) w)
   have I2:=hid' (fun w => ih c (by omega) (by omega) w)
   have q:(n:Int) / 10 = (a:Int):=by omega
   have r:(n:Int) % 10 = (c:Int):=by omega
   have ba:a ≤ 1000000000000:=by omega
   have bc:c < 10:=by omega
   rw [ha,hc] at H
   have l1:=Txt.dec_len a
   have l2:=Txt.dec_len c
   have s1:(ByteArray.mk (Txt.dec a).toArray).size ≤ a + 1:=by simpa [ByteArray.size] using l1
   have s2:(ByteArray.mk (Txt.dec c).toArray).size ≤ c + 1:=by simpa [ByteArray.size] using l2
   clear ih l1 l2 ha hc
   generalize ByteArray.mk (Txt.dec a).toArray = A at *
   generalize ByteArray.mk (Txt.dec c).toArray = C at *
   go_enter Tryz.func81,Tryz.ntmps81
   go_wp2_with fail
   refine (I1.out w).mono ?_
   rintro e w1 ⟨rfl,hb1⟩
   have HB1:=hid' hb1
   clear hb1
   go_wp2_with fail
   refine (I2.out w1).mono ?_
   rintro e w2 ⟨rfl,hb2⟩
   have HB2:=hid' hb2
   clear hb2
   go_wp2
   go_ret
   exact ⟨ret_str H.out,HB1.out.trans (HB2.out.mono HB1.out.size)⟩
  ·have H:Hid (Txt.dec n = [UInt8.ofNat (48 + n)]):=Txt.dec_low n h
   have hu:((UInt8.ofNat (48 + n)).toNat:Int) = 48 + n:=by simp;omega
   generalize UInt8.ofNat (48 + n) = c at *
   have hconv:=bytes_back (V:=w.alloc (.cells #[.int .u8 (48 + n)] 5)) (t:=[c]) (cs:=#[.int .u8 (48 + n)]) (fr:=(0,0)) (g:=w.heap.size) (cap:=1) (n:=1) (heap_alloc_new _ _) ⟨by simp,fun j hj => by
    have:j = 0:=by simpa using hj
    subst this
    simp [hu]⟩ (by simp) 0
   have HC:(convert 44 9 (.slice (some ⟨w.heap.size,0,none⟩) 1 1)).run Tryz.prog (w.alloc (.cells #[.int .u8 (48 + n)] 5)) = .ok (.string ⟨[c].toArray⟩) (w.alloc (.cells #[.int .u8 (48 + n)] 5)):=hconv
   clear hconv hu ih
   go_enter Tryz.func81,Tryz.ntmps81
   go_wp2
   go_ret
   exact ⟨ret_str (by rw [H.out]),(Below.refl _ _).alloc (Nat.le_refl _) _⟩
theorem ref_begins (g cap n:Nat) (ls:List (Int × Int)) (d:Int) (w:World) (hn:ls.length = n) (hp:0 < n) (hl:Lies w g ls) (hf:Fine ls) (hb:n ≤ 100000) (d0:-10 ≤ d) (d1:d ≤ 500000) :
  Calls Tryz.prog 86 #[.slice (some ⟨g,0,none⟩) n cap,.int .i64 d] w fun e w' => e = .returned (.int .i64 (Tab.begins ls d)) ∧ w' = w:=by
 have c0:=hl 0 (by omega)
 have f0:=hf _ (List.getElem_mem (show 0 < ls.length by omega))
 have g0:=getD_at (ls:=ls) 0 (by omega)
 generalize hp0:ls[0]'(by omega) = p at *
 obtain ⟨pa,po⟩:=p
 obtain ⟨c1,c2⟩:=c0
 simp only [Nat.zero_mul,Nat.zero_add] at c1 c2
 simp only at f0
 have HL:=hid' hl
 have HF:=hid' hf
 have HN:=hid' hn
 have HG0:=hid' g0
 clear hl hf hn hp0 g0
 by_cases hlt0:d * 86400 < pa
 ·have H:Hid (Tab.begins ls d = -1):=by show _ = _;unfold Tab.begins;rw [HG0.out,if_pos hlt0]
  go_enter Tryz.func86,Tryz.ntmps86
  go_wp2
  go_ret
  exact ⟨ret_int H.out.symm,rfl⟩
 ·have H:Hid (Tab.begins ls d = d * 86400 + Tab.offAt ls (d * 86400) (n - 1)):=by show _ = _;unfold Tab.begins;rw [HG0.out,if_neg hlt0,HN.out]
  have H0:Hid (Tab.offAt ls (d * 86400) 0 = po):=by show _ = _;unfold Tab.offAt;rw [HG0.out]
  go_enter Tryz.func86,Tryz.ntmps86
  go_wp2
  go_loop [5,6] (fun o i => ∃ k:Nat,k + 1 ≤ n ∧ i = .int .i64 ((k:Int) + 1) ∧ o = .int .i64 (Tab.offAt ls (d * 86400) k)) (fun _ i => n - (intOf i).toNat)
  case atStart => exact ⟨0,by omega,rfl,by rw [H0.out]⟩
  case round =>
   obtain ⟨k,hk,rfl,rfl⟩:=hrel
   have hbd:=Tab.offAt_bd HF.out (d * 86400) k (by rw [HN.out];omega)
   by_cases hlt:k + 1 < n
   ·have hkl:k + 1 < ls.length:=by rw [HN.out];exact hlt
    obtain ⟨e1,e2⟩:=HL.out (k + 1) hkl
    have hgd:=getD_at (ls:=ls) (k + 1) hkl
    have hS:Hid (Tab.offAt ls (d * 86400) (k + 1) = if ls[k + 1].1 ≤ d * 86400 then ls[k + 1].2 else Tab.offAt ls (d * 86400) k):=by
     show _ = _;rw [Tab.offAt,hgd]
    have hfq:=HF.out _ (List.getElem_mem hkl)
    clear hgd
    generalize ls[k + 1] = q at *
    clear hkl
    obtain ⟨qa,qo⟩:=q
    simp only at e1 e2 hfq
    by_cases hle:qa ≤ d * 86400
    ·have H2:Hid (Tab.offAt ls (d * 86400) (k + 1) = qo):=by show _ = _;rw [hS.out];simp only;rw [if_pos hle]
     generalize Tab.offAt ls (d * 86400) k = v at *
     go_wp2
     exact ⟨⟨k + 1,by omega,by go_num,by rw [H2.out]⟩,by simp [intOf];omega⟩
    ·have H2:Hid (Tab.offAt ls (d * 86400) (k + 1) = Tab.offAt ls (d * 86400) k):=by show _ = _;rw [hS.out];simp only;rw [if_neg hle]
     generalize hv:Tab.offAt ls (d * 86400) k = v at *
     go_wp2
     exact ⟨⟨k + 1,by omega,by go_num,by rw [H2.out]⟩,by simp [intOf];omega⟩
   ·have HK:Hid (Tab.offAt ls (d * 86400) k = Tab.offAt ls (d * 86400) (n - 1)):=by show _ = _;rw [show k = n - 1 from by omega]
    go_wp2
    go_ret
    exact ⟨ret_int (by rw [H.out,HK.out]),rfl⟩
theorem Held.below {w w':World} {lv:Value} {ls:List (Int × Int)} (h:Held w lv ls) (hb:Below w.heap.size w w'):Held w' lv ls:=by
 rcases h with h | ⟨h3,g,cap,rfl,hcap,hgl,hlies⟩
 ·exact .inl h
 ·exact .inr ⟨h3,g,cap,rfl,hcap,by have:=hb.size;omega,hlies.below hgl hb⟩
theorem label_offset (lv:Value) (ls:List (Int × Int)) (up ex sec:Int) (w:World) (wu:(Lit.int .i64 up).wf = true) (wx:(Lit.int .i64 ex).wf = true)
  (hv:Held w lv ls) (hn:ls.length ≤ 100000) (hwf:∀ p ∈ ls,WfP p) :
  Calls Tryz.prog 82 #[.agg #[.int .i64 up,.int .i64 ex,lv],.int .i64 sec] w fun e w' =>
   e = .returned (.tuple #[.int .i64 (Tab.offset up ex ls sec).1,.int .i64 (Tab.offset up ex ls sec).2]) ∧ Below w.heap.size w w':=by
 have HBel:=hid' ((Below.refl w.heap.size w).alloc (Nat.le_refl _) (.cells #[.int .i64 up,.int .i64 ex,lv] 78))
 have HW:=hid' (is_table lv ls up ex (w.alloc (.cells #[.int .i64 up,.int .i64 ex,lv] 78)) wu wx (hv.below HBel.out) hn hwf)
 have HROW:=hid' (heap_alloc_new w (.cells #[.int .i64 up,.int .i64 ex,lv] 78))
 clear wu wx hwf
 cases hwh:Tab.whole up ex ls with
 | false =>
  rw [hwh] at HW
  have H:Hid (Tab.offset up ex ls sec = (0,8)):=by show _ = _;unfold Tab.offset;rw [if_pos hwh]
  clear hwh hv
  go_enter Tryz.func82,Tryz.ntmps82
  go_wp2_with (go_at_call 127;refine HW.out.mono ?_;rintro e w1 ⟨rfl,hb1⟩;have HB1:=hid' hb1;clear hb1)
  go_ret2
  exact ⟨ret_pair (by rw [H.out]) (by rw [H.out]),HBel.out.trans (HB1.out.mono HBel.out.size)⟩
 | true =>
  rw [hwh] at HW
  obtain ⟨hok,hpos⟩:=Tab.whole_ok hwh
  have hfine:=Tab.fine_of_whole hwh
  have HFine:=hid' hfine
  clear hok hfine
  have HNW:=hid' (show ¬ Tab.whole up ex ls = false by rw [hwh];simp)
  clear hwh
  rcases hv with ⟨rfl,_⟩ | ⟨_,g,cap,rfl,_,hgl,hlies⟩
  ·simp at hpos
  have HLies:=hid' hlies
  clear hlies
  have hbd:=Tab.lastAt_bd ls sec ls.length
  have HAT:∀ w1,Lies w1 g ls → Hid (Calls Tryz.prog 130 #[.slice (some ⟨g,0,none⟩) ls.length cap,.int .i64 sec] w1 fun e w' => e = .returned (.int .i64 (Tab.lastAt ls sec ls.length)) ∧ w' = w1):=fun w1 h => holder_any g cap ls.length ls sec w1 rfl h HFine.out hn
  have HATH:=hid' HAT
  clear HAT
  by_cases h1:34000000000 < sec
  ·have H:Hid (Tab.offset up ex ls sec = (0,9)):=by show _ = _;unfold Tab.offset;rw [if_neg HNW.out,if_pos h1]
   generalize Tab.lastAt ls sec ls.length = k at *
   go_enter Tryz.func82,Tryz.ntmps82
   go_wp2_with (first
    | (go_at_call 127;refine HW.out.mono ?_;rintro e w1 ⟨rfl,hb1⟩;have HB1:=hid' (HBel.out.trans (hb1.mono HBel.out.size));have t2:=cell_of_row _ _ 2 _ _ _ ((hb1.block _ (lt_of_heap HROW.out)).trans HROW.out);(simp at t2);clear hb1)
    | (go_at_call 130;refine (HATH.out w1 (HLies.out.below hgl HB1.out)).out.mono ?_;rintro e w2 ⟨rfl,rfl⟩))
   go_ret2
   exact ⟨ret_pair (by rw [H.out]) (by rw [H.out]),HB1.out⟩
  ·by_cases h2:Tab.lastAt ls sec ls.length < 0
   ·have H:Hid (Tab.offset up ex ls sec = (0,9)):=by show _ = _;unfold Tab.offset;rw [if_neg HNW.out,if_neg h1,if_pos h2]
    generalize Tab.lastAt ls sec ls.length = k at *
    go_enter Tryz.func82,Tryz.ntmps82
    go_wp2_with (first
     | (go_at_call 127;refine HW.out.mono ?_;rintro e w1 ⟨rfl,hb1⟩;have HB1:=hid' (HBel.out.trans (hb1.mono HBel.out.size));have t2:=cell_of_row _ _ 2 _ _ _ ((hb1.block _ (lt_of_heap HROW.out)).trans HROW.out);(simp at t2);clear hb1)
     | (go_at_call 130;refine (HATH.out w1 (HLies.out.below hgl HB1.out)).out.mono ?_;rintro e w2 ⟨rfl,rfl⟩))
    go_ret2
    exact ⟨ret_pair (by rw [H.out]) (by rw [H.out]),HB1.out⟩
   ·obtain ⟨k,hk⟩:∃ k:Nat,Tab.lastAt ls sec ls.length = (k:Int):=⟨(Tab.lastAt ls sec ls.length).toNat,by omega⟩
    have hkl:k < ls.length:=by omega
    have H:Hid (Tab.offset up ex ls sec = (ls[k].2,0)):=by show _ = _;unfold Tab.offset;rw [if_neg HNW.out,if_neg h1,if_neg h2,hk,Int.toNat_natCast,getD_at k hkl]
    rw [hk] at HATH
    have hcell:=(HLies.out k hkl).2
    clear hk hbd h2
    generalize ls[k] = p at *
    obtain ⟨pa,po⟩:=p
    simp only at hcell
    go_enter Tryz.func82,Tryz.ntmps82
    go_wp2_with (first
     | (go_at_call 127;refine HW.out.mono ?_;rintro e w1 ⟨rfl,hb1⟩;have HB1:=hid' (HBel.out.trans (hb1.mono HBel.out.size));have t2:=cell_of_row _ _ 2 _ _ _ ((hb1.block _ (lt_of_heap HROW.out)).trans HROW.out);(simp at t2);have hc1:=(HB1.out.cell (p:=⟨g,k * 2 + 1,none⟩) hgl).trans hcell;clear hb1)
     | (go_at_call 130;refine (HATH.out w1 (HLies.out.below hgl HB1.out)).out.mono ?_;rintro e w2 ⟨rfl,rfl⟩))
    go_ret2
    exact ⟨ret_pair (by rw [H.out]) (by rw [H.out]),HB1.out⟩
theorem label_label_no (lv:Value) (ls:List (Int × Int)) (up ex sec:Int) (w:World) (wu:(Lit.int .i64 up).wf = true) (wx:(Lit.int .i64 ex).wf = true)
  (hv:Held w lv ls) (hn:ls.length ≤ 100000) (hwf:∀ p ∈ ls,WfP p) (he:(Tab.offset up ex ls sec).2 ≠ 0) :
  Calls Tryz.prog 84 #[.agg #[.int .i64 up,.int .i64 ex,lv],.int .i64 sec] w fun e w' =>
   e = .returned (.tuple #[.int .i64 0,.int .i64 0,.int .i64 (Tab.offset up ex ls sec).2]) ∧ Below w.heap.size w w':=by
 have HBel:=hid' ((Below.refl w.heap.size w).alloc (Nat.le_refl _) (.cells #[.int .i64 up,.int .i64 ex,lv] 78))
 have HO:=hid' (label_offset lv ls up ex sec (w.alloc (.cells #[.int .i64 up,.int .i64 ex,lv] 78)) wu wx (hv.below HBel.out) hn hwf)
 clear wu wx hwf hv hn
 have hne:((Tab.offset up ex ls sec).2 != 0) = true:=bne_iff_ne.2 he
 clear he
 generalize Tab.offset up ex ls sec = r at *
 obtain ⟨ro,re⟩:=r
 simp only at hne HO
 go_enter Tryz.func84,Tryz.ntmps84
 go_wp2_with (go_at_call 82;refine HO.out.mono ?_;rintro e w1 ⟨rfl,hb1⟩;have HB1:=hid' (HBel.out.trans (hb1.mono HBel.out.size));clear hb1)
 go_ret3
 exact ⟨rfl,HB1.out⟩
theorem day_of (sec off:Int) (w:World) (h0:0 ≤ sec - off) (h1:0 ≤ off) (h2:off ≤ 1000) (h3:sec ≤ 1000000000000) :
  Calls Tryz.prog 131 #[.int .i64 sec,.int .i64 off] w fun e w' => e = .returned (.int .i64 ((sec - off) / 86400)) ∧ w' = w:=by
 go_enter Tryz.func131,Tryz.ntmps131
 go_wp2
 go_ret
 exact ⟨rfl,rfl⟩
theorem label_label_yes (lv:Value) (ls:List (Int × Int)) (up ex sec d:Int) (w:World) (wu:(Lit.int .i64 up).wf = true) (wx:(Lit.int .i64 ex).wf = true)
  (hv:Held w lv ls) (hn:ls.length ≤ 100000) (hwf:∀ p ∈ ls,WfP p) (he:(Tab.offset up ex ls sec).2 = 0) (hD:Tab.Day ls sec d) :
  Calls Tryz.prog 84 #[.agg #[.int .i64 up,.int .i64 ex,lv],.int .i64 sec] w fun e w' =>
   e = .returned (.tuple #[.int .i64 d,.int .i64 (sec - Tab.begins ls d),.int .i64 0]) ∧ Below w.heap.size w w':=by
 have HBel:=hid' ((Below.refl w.heap.size w).alloc (Nat.le_refl _) (.cells #[.int .i64 up,.int .i64 ex,lv] 78))
 have HROW:=hid' (heap_alloc_new w (.cells #[.int .i64 up,.int .i64 ex,lv] 78))
 have HO:=hid' (label_offset lv ls up ex sec (w.alloc (.cells #[.int .i64 up,.int .i64 ex,lv] 78)) wu wx (hv.below HBel.out) hn hwf)
 obtain ⟨hwh,hs1,hla⟩:=Tab.offset_ok he
 have hG:=Tab.good_of_whole hwh
 have hpos:=hG.pos
 have hlb:=Tab.lastAt_bd ls sec ls.length
 obtain ⟨k,hk⟩:∃ k:Nat,Tab.lastAt ls sec ls.length = (k:Int):=⟨(Tab.lastAt ls sec ls.length).toNat,by omega⟩
 have hd:=hG.only (hG.day_of sec k hk) hD
 have hkl:k < ls.length:=by omega
 have fk:=(hG.fine _ (List.getElem_mem hkl)).2
 rw [← getD_at k hkl] at fk
 have hoff:Tab.offset up ex ls sec = ((ls.getD k (0,0)).2,0):=by
  unfold Tab.offset
  rw [if_neg (by rw [hwh];simp),if_neg (by omega),if_neg (by omega),hk,Int.toNat_natCast]
 rcases hv with ⟨rfl,_⟩ | ⟨_,g,cap,rfl,_,hgl,hlies⟩
 ·simp at hpos
 have HLies:=hid' hlies
 clear hlies
 rw [hoff] at HO
 simp only at HO
 generalize (ls.getD k (0,0)).2 = off at *
 have a0:=(hG.fine _ (List.getElem_mem hpos)).1
 rw [← getD_at 0 hpos] at a0
 have hbe:=hG.begins_ge d hD.from'
 have d1:=hD.lo
 have d3:=hD.from'
 have d0:0 ≤ d:=by omega
 have dm:d ≤ 400000:=by omega
 have hso:0 ≤ sec - off:=by
  by_cases c:0 ≤ sec - off
  ·exact c
  ·exfalso;have:d < 0:=by omega
   omega
 have hbg:∀ w1,Lies w1 g ls → Calls Tryz.prog 132 #[.slice (some ⟨g,0,none⟩) ls.length cap,.int .i64 d] w1 fun e w' => e = .returned (.int .i64 (Tab.begins ls d)) ∧ w' = w1:=fun w1 h => day_begin g cap ls.length ls d w1 rfl h hG (by omega) (by omega) hD.from'
 have HDO:Hid (∀ w1,Calls Tryz.prog 131 #[.int .i64 sec,.int .i64 off] w1 fun e w' => e = .returned (.int .i64 d) ∧ w' = w1):=fun w1 => by rw [← hd];exact day_of sec off w1 hso (by omega) (by omega) (by omega)
 have HBG:=hid' hbg
 clear wu wx hwf hwh hG hbg a0 d3 hD hoff hla hlb hk he hkl
 generalize Tab.begins ls d = b at *
 go_enter Tryz.func84,Tryz.ntmps84
 go_wp2_with (first
  | (go_at_call 82;refine HO.out.mono ?_;rintro e w1 ⟨rfl,hb1⟩;have HB1:=hid' (HBel.out.trans (hb1.mono HBel.out.size));have t2:=cell_of_row _ _ 2 _ _ _ ((hb1.block _ (lt_of_heap HROW.out)).trans HROW.out);(simp at t2);clear hb1)
  | (go_at_call 131;refine (HDO.out _).mono ?_;rintro e w4 ⟨rfl,rfl⟩)
  | (go_at_call 132;refine (HBG.out _ (HLies.out.below hgl HB1.out)).mono ?_;rintro e w3 ⟨rfl,rfl⟩))
 go_ret3
 exact ⟨rfl,HB1.out⟩
theorem label_second (lv:Value) (ls:List (Int × Int)) (up ex d s:Int) (w:World) (wu:(Lit.int .i64 up).wf = true) (wx:(Lit.int .i64 ex).wf = true)
  (hv:Held w lv ls) (hn:ls.length ≤ 100000) (hwf:∀ p ∈ ls,WfP p) :
  Calls Tryz.prog 87 #[.agg #[.int .i64 up,.int .i64 ex,lv],.int .i64 d,.int .i64 s] w fun e w' =>
   e = .returned (.tuple #[.int .i64 (Tab.second up ex ls d s).1,.int .i64 (Tab.second up ex ls d s).2]) ∧ Below w.heap.size w w':=by
 have HBel:=hid' ((Below.refl w.heap.size w).alloc (Nat.le_refl _) (.cells #[.int .i64 up,.int .i64 ex,lv] 78))
 have HW:=hid' (is_table lv ls up ex (w.alloc (.cells #[.int .i64 up,.int .i64 ex,lv] 78)) wu wx (hv.below HBel.out) hn hwf)
 have HROW:=hid' (heap_alloc_new w (.cells #[.int .i64 up,.int .i64 ex,lv] 78))
 clear wu wx hwf
 cases hwh:Tab.whole up ex ls with
 | false =>
  rw [hwh] at HW
  have H:Hid (Tab.second up ex ls d s = (0,8)):=by show _ = _;unfold Tab.second;rw [if_pos hwh]
  clear hwh hv
  go_enter Tryz.func87,Tryz.ntmps87
  go_wp2_with (go_at_call 127;refine HW.out.mono ?_;rintro e w1 ⟨rfl,hb1⟩;have HB1:=hid' hb1;clear hb1)
  go_ret2
  exact ⟨ret_pair (by rw [H.out]) (by rw [H.out]),HBel.out.trans (HB1.out.mono HBel.out.size)⟩
 | true =>
  rw [hwh] at HW
  have hG:=Tab.good_of_whole hwh
  have hpos:=hG.pos
  have hbb:=Tab.begins_bd hG.fine hpos d
  have hlb:=Tab.length_bd hG.fine hpos d
  have HNW:=hid' (show ¬ Tab.whole up ex ls = false by rw [hwh];simp)
  clear hwh
  rcases hv with ⟨rfl,_⟩ | ⟨_,g,cap,rfl,_,hgl,hlies⟩
  ·simp at hpos
  have HLies:=hid' hlies
  have HG:=hid' hG
  clear hlies hG
  by_cases h1:d < 0
  ·have H:Hid (Tab.second up ex ls d s = (0,9)):=by show _ = _;unfold Tab.second;rw [if_neg HNW.out,if_pos (.inl h1)]
   clear hbb hlb
   go_enter Tryz.func87,Tryz.ntmps87
   go_wp2_with (go_at_call 127;refine HW.out.mono ?_;rintro e w1 ⟨rfl,hb1⟩;have HB1:=hid' (HBel.out.trans (hb1.mono HBel.out.size));have t2:=cell_of_row _ _ 2 _ _ _ ((hb1.block _ (lt_of_heap HROW.out)).trans HROW.out);(simp at t2);clear hb1)
   go_ret2
   exact ⟨ret_pair (by rw [H.out]) (by rw [H.out]),HB1.out⟩
  by_cases h2:401767 ≤ d
  ·have H:Hid (Tab.second up ex ls d s = (0,9)):=by show _ = _;unfold Tab.second;rw [if_neg HNW.out,if_pos (.inr h2)]
   clear hbb hlb
   go_enter Tryz.func87,Tryz.ntmps87
   go_wp2_with (go_at_call 127;refine HW.out.mono ?_;rintro e w1 ⟨rfl,hb1⟩;have HB1:=hid' (HBel.out.trans (hb1.mono HBel.out.size));have t2:=cell_of_row _ _ 2 _ _ _ ((hb1.block _ (lt_of_heap HROW.out)).trans HROW.out);(simp at t2);clear hb1)
   go_ret2
   exact ⟨ret_pair (by rw [H.out]) (by rw [H.out]),HB1.out⟩
  have hD:¬ (d < 0 ∨ 401767 ≤ d):=by omega
  have hla:∀ w1,Lies w1 g ls → Calls Tryz.prog 133 #[.slice (some ⟨g,0,none⟩) ls.length cap,.int .i64 d] w1 fun e w' => e = .returned (.int .i64 (Tab.lastDay ls (d * 86400) ls.length)) ∧ w' = w1:=fun w1 h => last_at g cap ls.length ls d w1 rfl h hn (by omega) (by omega)
  have HLA:=hid' hla
  have hln:∀ w1,Lies w1 g ls → Calls Tryz.prog 134 #[.slice (some ⟨g,0,none⟩) ls.length cap,.int .i64 d] w1 fun e w' => e = .returned (.int .i64 (Tab.length ls d)) ∧ ∃ m,w' = w1.drewN m:=fun w1 h => day_length g cap ls.length ls d w1 rfl hpos h HG.out.fine hn (by omega) (by omega)
  have HLN:=hid' hln
  clear hla hln
  by_cases h3:d * 86400 < (ls.getD 0 (0,0)).1
  ·have hbn:Tab.begins ls d = -1:=by unfold Tab.begins;rw [if_pos h3]
   have hQ:Tab.begins ls d < 0 ∨ s < 0 ∨ Tab.length ls d ≤ s ∨ 34000000000 < Tab.begins ls d + s:=.inl (by omega)
   have H:Hid (Tab.second up ex ls d s = (0,9)):=by show _ = _;unfold Tab.second;rw [if_neg HNW.out,if_neg hD,if_pos hQ]
   have hld:Tab.lastDay ls (d * 86400) ls.length = -1:=HG.out.lastDay_no _ h3 _ (Nat.le_refl _)
   rw [hld] at HLA
   clear hQ hbn hbb hlb hld
   go_enter Tryz.func87,Tryz.ntmps87
   go_wp2_with (first
    | (go_at_call 127;refine HW.out.mono ?_;rintro e w1 ⟨rfl,hb1⟩;have HB1:=hid' (HBel.out.trans (hb1.mono HBel.out.size));have t2:=cell_of_row _ _ 2 _ _ _ ((hb1.block _ (lt_of_heap HROW.out)).trans HROW.out);(simp at t2);clear hb1)
    | (go_at_call 133;refine (HLA.out w1 (HLies.out.below hgl HB1.out)).mono ?_;rintro e w2 ⟨rfl,rfl⟩))
   go_ret2
   exact ⟨ret_pair (by rw [H.out]) (by rw [H.out]),HB1.out⟩
  have h3':(ls.getD 0 (0,0)).1 ≤ d * 86400:=by omega
  have hld:=(HG.out.begins_last d h3').1
  have hb0:0 ≤ Tab.begins ls d:=by have:=HG.out.begins_ge d h3';omega
  have hbg:∀ w1,Lies w1 g ls → Calls Tryz.prog 132 #[.slice (some ⟨g,0,none⟩) ls.length cap,.int .i64 d] w1 fun e w' => e = .returned (.int .i64 (Tab.begins ls d)) ∧ w' = w1:=fun w1 h => day_begin g cap ls.length ls d w1 rfl h HG.out (by omega) (by omega) h3'
  have HBG:=hid' hbg
  clear hbg h3
  generalize Tab.lastDay ls (d * 86400) ls.length = la at *
  by_cases h4:s < 0
  ·have hQ:Tab.begins ls d < 0 ∨ s < 0 ∨ Tab.length ls d ≤ s ∨ 34000000000 < Tab.begins ls d + s:=.inr (.inl h4)
   have H:Hid (Tab.second up ex ls d s = (0,9)):=by show _ = _;unfold Tab.second;rw [if_neg HNW.out,if_neg hD,if_pos hQ]
   clear hQ
   generalize Tab.begins ls d = b at *
   generalize Tab.length ls d = n at *
   go_enter Tryz.func87,Tryz.ntmps87
   go_wp2_with (first
    | (go_at_call 127;refine HW.out.mono ?_;rintro e w1 ⟨rfl,hb1⟩;have HB1:=hid' (HBel.out.trans (hb1.mono HBel.out.size));have t2:=cell_of_row _ _ 2 _ _ _ ((hb1.block _ (lt_of_heap HROW.out)).trans HROW.out);(simp at t2);clear hb1)
    | (go_at_call 133;refine (HLA.out w1 (HLies.out.below hgl HB1.out)).mono ?_;rintro e w2 ⟨rfl,rfl⟩))
   go_ret2
   exact ⟨ret_pair (by rw [H.out]) (by rw [H.out]),HB1.out⟩
  by_cases h5:Tab.length ls d ≤ s
  ·have hQ:Tab.begins ls d < 0 ∨ s < 0 ∨ Tab.length ls d ≤ s ∨ 34000000000 < Tab.begins ls d + s:=.inr (.inr (.inl h5))
   have H:Hid (Tab.second up ex ls d s = (0,9)):=by show _ = _;unfold Tab.second;rw [if_neg HNW.out,if_neg hD,if_pos hQ]
   clear hQ
   generalize Tab.begins ls d = b at *
   generalize Tab.length ls d = n at *
   go_enter Tryz.func87,Tryz.ntmps87
   go_wp2_with (first
    | (go_at_call 127;refine HW.out.mono ?_;rintro e w1 ⟨rfl,hb1⟩;have HB1:=hid' (HBel.out.trans (hb1.mono HBel.out.size));have t2:=cell_of_row _ _ 2 _ _ _ ((hb1.block _ (lt_of_heap HROW.out)).trans HROW.out);(simp at t2);clear hb1)
    | (go_at_call 133;refine (HLA.out w1 (HLies.out.below hgl HB1.out)).mono ?_;rintro e w2 ⟨rfl,rfl⟩)
    | (go_at_call 134;refine (HLN.out _ (HLies.out.below hgl HB1.out)).mono ?_;rintro e w2 ⟨rfl,m2,rfl⟩))
   go_ret2
   exact ⟨ret_pair (by rw [H.out]) (by rw [H.out]),below_drewN HB1.out m2⟩
  by_cases h6:34000000000 < Tab.begins ls d + s
  ·have hQ:Tab.begins ls d < 0 ∨ s < 0 ∨ Tab.length ls d ≤ s ∨ 34000000000 < Tab.begins ls d + s:=.inr (.inr (.inr h6))
   have H:Hid (Tab.second up ex ls d s = (0,9)):=by show _ = _;unfold Tab.second;rw [if_neg HNW.out,if_neg hD,if_pos hQ]
   clear hQ
   generalize Tab.begins ls d = b at *
   generalize Tab.length ls d = n at *
   go_enter Tryz.func87,Tryz.ntmps87
   go_wp2_with (first
    | (go_at_call 127;refine HW.out.mono ?_;rintro e w1 ⟨rfl,hb1⟩;have HB1:=hid' (HBel.out.trans (hb1.mono HBel.out.size));have t2:=cell_of_row _ _ 2 _ _ _ ((hb1.block _ (lt_of_heap HROW.out)).trans HROW.out);(simp at t2);clear hb1)
    | (go_at_call 133;refine (HLA.out w1 (HLies.out.below hgl HB1.out)).mono ?_;rintro e w2 ⟨rfl,rfl⟩)
    | (go_at_call 134;refine (HLN.out _ (HLies.out.below hgl HB1.out)).mono ?_;rintro e w2 ⟨rfl,m2,rfl⟩)
    | (go_at_call 132;refine (HBG.out _ (HLies.out.below hgl (below_drewN HB1.out m2))).mono ?_;rintro e w3 ⟨rfl,rfl⟩))
   go_ret2
   exact ⟨ret_pair (by rw [H.out]) (by rw [H.out]),below_drewN HB1.out m2⟩
  have hQ:¬ (Tab.begins ls d < 0 ∨ s < 0 ∨ Tab.length ls d ≤ s ∨ 34000000000 < Tab.begins ls d + s):=by omega
  have H:Hid (Tab.second up ex ls d s = (Tab.begins ls d + s,0)):=by show _ = _;unfold Tab.second;rw [if_neg HNW.out,if_neg hD,if_neg hQ]
  clear hQ
  generalize Tab.begins ls d = b at *
  generalize Tab.length ls d = n at *
  go_enter Tryz.func87,Tryz.ntmps87
  go_wp2_with (first
   | (go_at_call 127;refine HW.out.mono ?_;rintro e w1 ⟨rfl,hb1⟩;have HB1:=hid' (HBel.out.trans (hb1.mono HBel.out.size));have t2:=cell_of_row _ _ 2 _ _ _ ((hb1.block _ (lt_of_heap HROW.out)).trans HROW.out);(simp at t2);clear hb1)
   | (go_at_call 133;refine (HLA.out w1 (HLies.out.below hgl HB1.out)).mono ?_;rintro e w2 ⟨rfl,rfl⟩)
   | (go_at_call 134;refine (HLN.out _ (HLies.out.below hgl HB1.out)).mono ?_;rintro e w2 ⟨rfl,m2,rfl⟩)
   | (go_at_call 132;refine (HBG.out _ (HLies.out.below hgl (below_drewN HB1.out m2))).mono ?_;rintro e w3 ⟨rfl,rfl⟩))
  go_ret2
  exact ⟨ret_pair (by rw [H.out]) (by rw [H.out]),below_drewN HB1.out m2⟩
theorem smear_second (lv:Value) (ls:List (Int × Int)) (up ex d s:Int) (w:World) (wu:(Lit.int .i64 up).wf = true) (wx:(Lit.int .i64 ex).wf = true)
  (hv:Held w lv ls) (hn:ls.length ≤ 100000) (hwf:∀ p ∈ ls,WfP p) :
  Calls Tryz.prog 51 #[.agg #[.int .i64 up,.int .i64 ex,lv],.int .i64 d,.int .i64 s] w fun e w' =>
   e = .returned (.tuple #[.int .i64 (Tab.second up ex ls d s).1,.int .i64 (Tab.second up ex ls d s).2]) ∧ Below w.heap.size w w':=by
 have HBel:=hid' ((Below.refl w.heap.size w).alloc (Nat.le_refl _) (.cells #[.int .i64 up,.int .i64 ex,lv] 78))
 have HW:=hid' (label_second lv ls up ex d s (w.alloc (.cells #[.int .i64 up,.int .i64 ex,lv] 78)) wu wx (hv.below HBel.out) hn hwf)
 clear wu wx hwf hv
 generalize Tab.second up ex ls d s = r at *
 go_enter Tryz.func51,Tryz.ntmps51
 go_wp2_with (go_at_call 87;refine HW.out.mono ?_;rintro e w1 ⟨rfl,hb1⟩;have HB1:=hid' (HBel.out.trans (hb1.mono HBel.out.size));clear hb1)
 go_ret2
 exact ⟨rfl,HB1.out⟩
theorem smear_label_no (lv:Value) (ls:List (Int × Int)) (up ex sec:Int) (w:World) (wu:(Lit.int .i64 up).wf = true) (wx:(Lit.int .i64 ex).wf = true)
  (hv:Held w lv ls) (hn:ls.length ≤ 100000) (hwf:∀ p ∈ ls,WfP p) (he:(Tab.offset up ex ls sec).2 ≠ 0) :
  Calls Tryz.prog 49 #[.agg #[.int .i64 up,.int .i64 ex,lv],.int .i64 sec] w fun e w' =>
   e = .returned (.tuple #[.int .i64 0,.int .i64 0,.int .i64 (Tab.offset up ex ls sec).2]) ∧ Below w.heap.size w w':=by
 have HBel:=hid' ((Below.refl w.heap.size w).alloc (Nat.le_refl _) (.cells #[.int .i64 up,.int .i64 ex,lv] 78))
 have HW:=hid' (label_label_no lv ls up ex sec (w.alloc (.cells #[.int .i64 up,.int .i64 ex,lv] 78)) wu wx (hv.below HBel.out) hn hwf he)
 clear wu wx hwf hv he
 generalize (Tab.offset up ex ls sec).2 = r at *
 go_enter Tryz.func49,Tryz.ntmps49
 go_wp2_with (go_at_call 84;refine HW.out.mono ?_;rintro e w1 ⟨rfl,hb1⟩;have HB1:=hid' (HBel.out.trans (hb1.mono HBel.out.size));clear hb1)
 go_ret3
 exact ⟨rfl,HB1.out⟩
theorem smear_label_yes (lv:Value) (ls:List (Int × Int)) (up ex sec d:Int) (w:World) (wu:(Lit.int .i64 up).wf = true) (wx:(Lit.int .i64 ex).wf = true)
  (hv:Held w lv ls) (hn:ls.length ≤ 100000) (hwf:∀ p ∈ ls,WfP p) (he:(Tab.offset up ex ls sec).2 = 0) (hD:Tab.Day ls sec d) :
  Calls Tryz.prog 49 #[.agg #[.int .i64 up,.int .i64 ex,lv],.int .i64 sec] w fun e w' =>
   e = .returned (.tuple #[.int .i64 d,.int .i64 (sec - Tab.begins ls d),.int .i64 0]) ∧ Below w.heap.size w w':=by
 have HBel:=hid' ((Below.refl w.heap.size w).alloc (Nat.le_refl _) (.cells #[.int .i64 up,.int .i64 ex,lv] 78))
 have HW:=hid' (label_label_yes lv ls up ex sec d (w.alloc (.cells #[.int .i64 up,.int .i64 ex,lv] 78)) wu wx (hv.below HBel.out) hn hwf he hD)
 clear wu wx hwf hv he hD
 generalize sec - Tab.begins ls d = r at *
 go_enter Tryz.func49,Tryz.ntmps49
 go_wp2_with (go_at_call 84;refine HW.out.mono ?_;rintro e w1 ⟨rfl,hb1⟩;have HB1:=hid' (HBel.out.trans (hb1.mono HBel.out.size));clear hb1)
 go_ret3
 exact ⟨rfl,HB1.out⟩
theorem smear_offset (lv:Value) (ls:List (Int × Int)) (up ex sec:Int) (w:World) (wu:(Lit.int .i64 up).wf = true) (wx:(Lit.int .i64 ex).wf = true)
  (hv:Held w lv ls) (hn:ls.length ≤ 100000) (hwf:∀ p ∈ ls,WfP p) :
  Calls Tryz.prog 47 #[.agg #[.int .i64 up,.int .i64 ex,lv],.int .i64 sec] w fun e w' =>
   e = .returned (.tuple #[.int .i64 (Tab.offset up ex ls sec).1,.int .i64 (Tab.offset up ex ls sec).2]) ∧ Below w.heap.size w w':=by
 have HBel:=hid' ((Below.refl w.heap.size w).alloc (Nat.le_refl _) (.cells #[.int .i64 up,.int .i64 ex,lv] 78))
 have HW:=hid' (label_offset lv ls up ex sec (w.alloc (.cells #[.int .i64 up,.int .i64 ex,lv] 78)) wu wx (hv.below HBel.out) hn hwf)
 clear wu wx hwf hv
 generalize Tab.offset up ex ls sec = r at *
 go_enter Tryz.func47,Tryz.ntmps47
 go_wp2_with (go_at_call 82;refine HW.out.mono ?_;rintro e w1 ⟨rfl,hb1⟩;have HB1:=hid' (HBel.out.trans (hb1.mono HBel.out.size));clear hb1)
 go_ret2
 exact ⟨rfl,HB1.out⟩
theorem ref_asks (p:ByteArray) (w:World) (hs:p.size ≤ 1000000) :
  Calls Tryz.prog 103 #[.string p] w fun e w' => e = .returned (.bool (Txt.asks p)) ∧ Below w.heap.size w w':=by
 have HA:Hid (Txt.asks p = (decide (48 ≤ p.size) && decide (p.size ≤ 300) && decide (Txt.byte p 0 % 8 = 3) && decide (1 ≤ Txt.byte p 0 / 8 % 8) && decide (Txt.byte p 0 / 8 % 8 ≤ 4) && Txt.exts p 48)):=rfl
 generalize Txt.asks p = res at *
 by_cases c1:p.size < 48
 ·have z1:(p.size:Int) < 48:=by omega
  have z3:decide ((p.size:Int) < 48) = true:=decide_eq_true z1
  have e:Hid (res = false):=by show _ = _;rw [HA.out,decide_eq_false (by omega:¬ 48 ≤ p.size)];rfl
  clear HA
  go_enter Tryz.func103,Tryz.ntmps103
  go_wp2
  go_ret
  exact ⟨ret_bool e.out.symm,Below.refl _ _⟩
 have z1:¬ (p.size:Int) < 48:=by omega
 have z3:decide ((p.size:Int) < 48) = false:=decide_eq_false z1
 by_cases c2:300 < p.size
 ·have z2:(300:Int) < (p.size:Int):=by omega
  have z4:decide ((300:Int) < (p.size:Int)) = true:=decide_eq_true z2
  have e:Hid (res = false):=by show _ = _;rw [HA.out,decide_eq_false (by omega:¬ p.size ≤ 300)];simp
  clear HA
  go_enter Tryz.func103,Tryz.ntmps103
  go_wp2
  go_ret
  exact ⟨ret_bool e.out.symm,Below.refl _ _⟩
 have z2:¬ (300:Int) < (p.size:Int):=by omega
 have z4:decide ((300:Int) < (p.size:Int)) = false:=decide_eq_false z2
 have l0:0 < p.size:=by omega
 have e1:=Txt.low3 (p[0]'l0)
 have e2:=Txt.mid3 (p[0]'l0)
 rw [← Txt.byte_at p 0 l0] at e1 e2
 have bb:=Txt.byte_bd p 0
 rw [decide_eq_true (by omega:48 ≤ p.size),decide_eq_true (by omega:p.size ≤ 300)] at HA
 simp only [Bool.true_and] at HA
 obtain ⟨mo,hmo⟩:∃ mo,Txt.byte p 0 % 8 = mo:=⟨_,rfl⟩
 obtain ⟨ve,hve⟩:∃ ve,Txt.byte p 0 / 8 % 8 = ve:=⟨_,rfl⟩
 rw [hmo] at e1 HA
 rw [hve] at e2 HA
 rw [Txt.byte_at p 0 l0] at e1 e2
 have vb:0 ≤ ve ∧ ve < 8:=by omega
 clear hmo hve bb
 by_cases c3:mo = 3
 case neg =>
  have n3:(mo != 3) = true:=bne_iff_ne.2 c3
  have e:Hid (res = false):=by show _ = _;rw [HA.out,decide_eq_false c3];rfl
  clear HA
  go_enter Tryz.func103,Tryz.ntmps103
  go_wp2
  go_ret
  exact ⟨ret_bool e.out.symm,Below.refl _ _⟩
 subst c3
 by_cases c4:ve < 1
 ·have d4:decide (ve < 1) = true:=decide_eq_true c4
  have e:Hid (res = false):=by show _ = _;rw [HA.out,decide_eq_false (by omega:¬ 1 ≤ ve)];simp
  clear HA
  go_enter Tryz.func103,Tryz.ntmps103
  go_wp2
  go_ret
  exact ⟨ret_bool e.out.symm,Below.refl _ _⟩
 have d4:decide (ve < 1) = false:=decide_eq_false c4
 by_cases c5:4 < ve
 ·have d5:decide (4 < ve) = true:=decide_eq_true c5
  have e:Hid (res = false):=by show _ = _;rw [HA.out,decide_eq_false (by omega:¬ ve ≤ 4)];simp
  clear HA
  go_enter Tryz.func103,Tryz.ntmps103
  go_wp2
  go_ret
  exact ⟨ret_bool e.out.symm,Below.refl _ _⟩
 have d5:decide (4 < ve) = false:=decide_eq_false c5
 have HE:Hid (res = Txt.exts p 48):=by show _ = _;rw [HA.out,decide_eq_true (by omega:1 ≤ ve),decide_eq_true (by omega:ve ≤ 4)];rfl
 clear HA
 go_enter Tryz.func103,Tryz.ntmps103
 go_wp2_with fail
 go_loopw [4,5] (fun iv _ wr => ∃ i:Nat,48 ≤ i ∧ i ≤ p.size ∧ iv = .int .i64 i ∧ res = Txt.exts p i ∧ Below w.heap.size w wr) (fun iv _ _ => p.size - (intOf iv).toNat)
 case atStart => exact ⟨48,by omega,by omega,rfl,HE.out,Below.refl _ _⟩
 case round =>
  obtain ⟨i,hi,hi2,rfl,hx,hb⟩:=hrel
  have HX:=hid' hx
  have HB:=hid' hb
  clear hx hb HE
  by_cases d1:i < p.size
  ·have y1:(i:Int) < (p.size:Int):=by omega
   by_cases d2:p.size < i + 16
   ·have y2:(p.size:Int) - (i:Int) < 16:=by omega
    have e:Hid (res = false):=by show _ = _;rw [HX.out,Txt.exts_short d1 d2]
    clear HX
    go_wp2
    go_ret
    exact ⟨ret_bool e.out.symm,HB.out⟩
   ·have y2:¬ (p.size:Int) - (i:Int) < 16:=by omega
    obtain ⟨j2,hj2⟩:∃ j2,i + 2 = j2:=⟨_,rfl⟩
    obtain ⟨j3,hj3⟩:∃ j3,i + 3 = j3:=⟨_,rfl⟩
    have l2:j2 < p.size:=by omega
    have l3:j3 < p.size:=by omega
    have r2:IntKind.i64.wrap ((i:Int) + 2) = (j2:Int):=by rw [IntKind.wrap_i64];omega
    have r3:IntKind.i64.wrap ((i:Int) + 3) = (j3:Int):=by rw [IntKind.wrap_i64];omega
    have w0:(0:Int) ≤ (j2:Int):=by omega
    have w1:(j2:Int) < (p.size:Int):=by omega
    have w2:(0:Int) ≤ (j3:Int):=by omega
    have w3:(j3:Int) < (p.size:Int):=by omega
    have FI:Txt.field p i = (p[j2].toNat:Int) * 256 + (p[j3].toNat:Int):=by
     rw [← Txt.byte_at p j2 l2,← Txt.byte_at p j3 l3,← hj2,← hj3];rfl
    have o8:=Txt.or8 p[j2] p[j3]
    rw [← FI] at o8
    have fb:=Txt.field_bd p i
    have XB:=hid' (Txt.exts_bad d1 d2)
    have XN:=hid' (Txt.exts_next d1 d2)
    generalize Txt.field p i = n at *
    have HJ:=hid' (And.intro hj2 hj3)
    clear FI hj2 hj3
    by_cases f1:n < 16
    ·have g1:decide (n < 16) = true:=decide_eq_true f1
     have e:Hid (res = false):=by show _ = _;rw [HX.out,XB.out (.inl f1)]
     clear HX XB XN
     go_wp2_with fail
     go_quiet (fail)
     go_wp2
     go_ret
     exact ⟨ret_bool e.out.symm,below_drewN HB.out _⟩
    have g1:decide (n < 16) = false:=decide_eq_false f1
    by_cases f2:n % 4 = 0
    case neg =>
     have g2:(n % 4 != 0) = true:=bne_iff_ne.2 f2
     have e:Hid (res = false):=by show _ = _;rw [HX.out,XB.out (.inr (.inl f2))]
     clear HX XB XN
     go_wp2_with fail
     go_quiet (fail)
     go_wp2
     go_ret
     exact ⟨ret_bool e.out.symm,below_drewN HB.out _⟩
    have g2:(n % 4 != 0) = false:=by rw [bne_eq_false_iff_eq];exact f2
    by_cases f3:(p.size:Int) - i < n
    ·have g3:decide ((p.size:Int) - i < n) = true:=decide_eq_true f3
     have e:Hid (res = false):=by show _ = _;rw [HX.out,XB.out (.inr (.inr f3))]
     clear HX XB XN
     go_wp2_with fail
     go_quiet (fail)
     go_wp2
     go_ret
     exact ⟨ret_bool e.out.symm,below_drewN HB.out _⟩
    have g3:decide ((p.size:Int) - i < n) = false:=decide_eq_false f3
    have HX2:Hid (res = Txt.exts p (i + n.toNat)):=by show _ = _;rw [HX.out,XN.out (by omega)]
    clear HX XB XN
    go_wp2_with fail
    go_quiet (fail)
    go_wp2
    go_roundw
    case rel => exact ⟨i + n.toNat,by omega,by omega,by (have e:(i:Int) + n = ((i + n.toNat:Nat):Int):=by omega);rw [e],HX2.out,below_drewN HB.out _⟩
    case measure => simp [intOf];omega
  ·have y1:¬ (i:Int) < (p.size:Int):=by omega
   have e:Hid (res = true):=by show _ = _;rw [HX.out,Txt.exts_end (by omega)]
   clear HX
   go_wp2
   go_ret
   exact ⟨ret_bool e.out.symm,HB.out⟩
def has (u:ByteArray):Bool:=decide (u ≠ Txt.em)
def joinTo (ws:List ByteArray):Nat → ByteArray
 | 0 => Txt.em
 | k + 1 => joinTo ws k ++ ws.getD k Txt.em
def Rf (w:World) (bF:Nat) (st:Txt.St):Prop:=∃ (lv wv:Value) (full:List ByteArray),
 w.heap[bF]? = some (.cells #[.int .i64 (Txt.numTo st.u st.u.size),.int .i64 (Txt.numTo st.x st.x.size),lv,.string st.dg,.bool (has st.u),.bool (has st.x),.bool (has st.h),wv] 143 (0,0)) ∧
 w.ownsRow (bF + 1) 46 2 lv st.ls.length (flat st.ls) ∧ w.ownsRow (bF + 1) 9 1 wv full.length (full.map Value.string) ∧ (st.h ≠ Txt.em → full.length = 5 ∧ joinTo full 5 = st.h)
theorem own_away {w:World} {B e size n g cap b:Nat} {xs:List Value} {t:TypeId} {cs:Array Value} {fr:Nat × Nat} (h:w.ownsRow B e size (.slice (some ⟨g,0,none⟩) n cap) n xs) (hb:w.heap[b]? = some (.cells cs t fr)) (hne:t ≠ e):¬ g = b:=fun q => by
 rcases h.2 with ⟨h,_⟩ | ⟨g',cap',cur,h,_,hh,_⟩
 ·cases h
 ·cases h;subst q;rw [hh] at hb;simp at hb;exact hne hb.2.1.symm
theorem has_no {u:ByteArray} (h:u = Txt.em):has u = false:=by unfold has;simp [h]
theorem has_yes {u:ByteArray} (h:¬ u = Txt.em):has u = true:=by unfold has;simp [h]
theorem num_em {s:ByteArray} (h:Txt.isNum s = true):¬ s = Txt.em:=fun e => by
 have:=(Txt.isNum_is h).1
 rw [e] at this
 exact this (.inl rfl)
theorem ref_special_u (bF:Nat) (st:Txt.St) (v:Value) (ws:List ByteArray) (w:World) (n:Nat) (hR:Rf w bF st) (hO:Txt.Ok st n) (hn:n ≤ 100000) (hW:Ws w v ws) :
  Calls Tryz.prog 124 #[.pointer (some ⟨bF,0,none⟩),.int .u8 36,v] w fun e w' => e = .returned (.int .i64 (Txt.takeU st ws).1) ∧ ((Txt.takeU st ws).1 = 0 → Rf w' bF (Txt.takeU st ws).2) ∧ Below bF w w':=by
 obtain ⟨lv,wv,full,hrow,hown,hwv,hfull⟩:=hR
 have H:Hid ((Txt.takeU st ws).1 = Txt.once ws st.u):=rfl
 have HS:Hid ((Txt.takeU st ws).2 = { st with u:=ws.getD 0 Txt.em,dg:=st.dg ++ ws.getD 0 Txt.em }):=rfl
 have hlen:=hW.len
 have hdg:=hO.dg
 by_cases h1:ws.length = 1
 ·obtain ⟨Bw,hwo⟩:=hW.own
  obtain ⟨g,cap,rfl,hgl,hc⟩:=hW.at' (by omega)
  have hne:=own_away hwo hrow (by decide)
  have hne':¬ bF = g:=fun q => hne q.symm
  have c0:=hc 0 (by omega)
  have hsz:=hW.sz 0
  have HN:=hid' (ref_number (ws.getD 0 Txt.em) w (by omega))
  rw [h1]
  clear hc hwo
  cases hx:Txt.isNum (ws.getD 0 Txt.em) with
  | false =>
   have hE:Txt.once ws st.u = 3:=by unfold Txt.once;rw [if_neg (by omega),if_pos hx]
   rw [hE] at H
   rw [Txt.number_neg hx] at HN
   clear hx hE h1 hW hO hrow hown hwv hfull
   generalize ws.getD 0 Txt.em = s0 at *
   go_enter Tryz.func124,Tryz.ntmps124
   go_wp2_with (go_at_call 167;refine HN.out.mono ?_;rintro e w' ⟨rfl,rfl⟩)
   go_ret
   exact ⟨ret_int H.out.symm,no_err H.out (by decide),Below.refl _ _⟩
  | true =>
   rw [Txt.number_of hx] at HN
   have hv:=Txt.numTo_le hx
   have h11:=Txt.size_num hx
   have HNE:=hid' (num_em hx)
   have q4:=cell_of_row _ _ 4 _ _ _ hrow
   have q3:=cell_of_row _ _ 3 _ _ _ hrow
   have q0:=cell_of_row _ _ 0 _ _ _ hrow
   simp at q4 q3 q0
   have z4:=frozen_of_row _ _ 4 _ _ hrow
   have z3:=frozen_of_row _ _ 3 _ _ hrow
   have z0:=frozen_of_row _ _ 0 _ _ hrow
   by_cases hb:st.u = Txt.em
   ·have hE:Txt.once ws st.u = 0:=by unfold Txt.once;rw [if_neg (by omega),if_neg (by rw [hx];decide),if_neg (by simpa using hb)]
    rw [hE] at H
    rw [has_no hb] at q4
    have HROW:=hid' hrow
    have HOWN:=hid' hown
    have HWV:=hid' hwv
    have HF:=hid' hfull
    clear hx hE h1 hW hO hrow hown hwv hfull hb
    generalize ws.getD 0 Txt.em = s0 at *
    generalize hnu:Txt.numTo s0 s0.size = nu at *
    have HNU:=hid' hnu
    clear hnu
    go_enter Tryz.func124,Tryz.ntmps124
    go_wp2_with (go_at_call 167;refine HN.out.mono ?_;rintro e w' ⟨rfl,rfl⟩)
    go_region
    all_goals
     go_wp2
     go_ret
     refine ⟨ret_int H.out.symm,fun _ => ?_,((((Below.refl bF _).setCell (p:=⟨bF,4,none⟩) (Nat.le_refl _) _).setCell (p:=⟨bF,0,none⟩) (Nat.le_refl _) _).setCell (p:=⟨bF,3,none⟩) (Nat.le_refl _) _).drew⟩
     rw [HS.out]
     have e1:=heap_setCell_same _ bF 4 _ _ (.bool true) HROW.out
     have e2:=heap_setCell_same _ bF 0 _ _ (.int .i64 nu) e1
     have e3:=heap_setCell_same _ bF 3 _ _ (.string (st.dg ++ s0)) e2
     refine ⟨lv,wv,full,?_,own_set (p:=⟨bF,3,none⟩) (own_set (p:=⟨bF,0,none⟩) (own_set (p:=⟨bF,4,none⟩) HOWN.out HROW.out (by decide) _) e1 (by decide) _) e2 (by decide) _,own_set (p:=⟨bF,3,none⟩) (own_set (p:=⟨bF,0,none⟩) (own_set (p:=⟨bF,4,none⟩) HWV.out HROW.out (by decide) _) e1 (by decide) _) e2 (by decide) _,HF.out⟩
     show _ = some (Obj.cells #[.int .i64 (Txt.numTo s0 s0.size),.int .i64 (Txt.numTo st.x st.x.size),lv,.string (st.dg ++ s0),.bool (has s0),.bool (has st.x),.bool (has st.h),wv] 143 (0,0))
     rw [HNU.out,has_yes HNE.out]
     refine Eq.trans (by rfl) (Eq.trans e3 ?_)
     simp
   ·have hE:Txt.once ws st.u = 4:=by unfold Txt.once;rw [if_neg (by omega),if_neg (by rw [hx];decide),if_pos hb]
    rw [hE] at H
    rw [has_yes hb] at q4
    clear hx hE h1 hW hO hrow hown hwv hfull hb
    generalize ws.getD 0 Txt.em = s0 at *
    generalize Txt.numTo s0 s0.size = nu at *
    go_enter Tryz.func124,Tryz.ntmps124
    go_wp2_with (go_at_call 167;refine HN.out.mono ?_;rintro e w' ⟨rfl,rfl⟩)
    go_ret
    exact ⟨ret_int H.out.symm,no_err H.out (by decide),Below.refl _ _⟩
 ·have hE:Txt.once ws st.u = 3:=by unfold Txt.once;rw [if_pos h1]
  rw [hE] at H
  obtain ⟨ao,cap,rfl⟩:=hW.form
  have h1':((ws.length:Int) != 1) = true:=bne_iff_ne.2 (by omega)
  clear h1 hW hE hO hrow hown hwv hfull
  go_enter Tryz.func124,Tryz.ntmps124
  go_wp2
  go_ret
  exact ⟨ret_int H.out.symm,no_err H.out (by decide),Below.refl _ _⟩
theorem ref_special_x (bF:Nat) (st:Txt.St) (v:Value) (ws:List ByteArray) (w:World) (n:Nat) (hR:Rf w bF st) (hO:Txt.Ok st n) (hn:n ≤ 100000) (hW:Ws w v ws) :
  Calls Tryz.prog 124 #[.pointer (some ⟨bF,0,none⟩),.int .u8 64,v] w fun e w' => e = .returned (.int .i64 (Txt.takeX st ws).1) ∧ ((Txt.takeX st ws).1 = 0 → Rf w' bF (Txt.takeX st ws).2) ∧ Below bF w w':=by
 obtain ⟨lv,wv,full,hrow,hown,hwv,hfull⟩:=hR
 have H:Hid ((Txt.takeX st ws).1 = Txt.once ws st.x):=rfl
 have HS:Hid ((Txt.takeX st ws).2 = { st with x:=ws.getD 0 Txt.em,dg:=st.dg ++ ws.getD 0 Txt.em }):=rfl
 have hlen:=hW.len
 have hdg:=hO.dg
 by_cases h1:ws.length = 1
 ·obtain ⟨Bw,hwo⟩:=hW.own
  obtain ⟨g,cap,rfl,hgl,hc⟩:=hW.at' (by omega)
  have hne:=own_away hwo hrow (by decide)
  have hne':¬ bF = g:=fun q => hne q.symm
  have c0:=hc 0 (by omega)
  have hsz:=hW.sz 0
  have HN:=hid' (ref_number (ws.getD 0 Txt.em) w (by omega))
  rw [h1]
  clear hc hwo
  cases hx:Txt.isNum (ws.getD 0 Txt.em) with
  | false =>
   have hE:Txt.once ws st.x = 3:=by unfold Txt.once;rw [if_neg (by omega),if_pos hx]
   rw [hE] at H
   rw [Txt.number_neg hx] at HN
   clear hx hE h1 hW hO hrow hown hwv hfull
   generalize ws.getD 0 Txt.em = s0 at *
   go_enter Tryz.func124,Tryz.ntmps124
   go_wp2_with (go_at_call 167;refine HN.out.mono ?_;rintro e w' ⟨rfl,rfl⟩)
   go_ret
   exact ⟨ret_int H.out.symm,no_err H.out (by decide),Below.refl _ _⟩
  | true =>
   rw [Txt.number_of hx] at HN
   have hv:=Txt.numTo_le hx
   have h11:=Txt.size_num hx
   have HNE:=hid' (num_em hx)
   have q4:=cell_of_row _ _ 5 _ _ _ hrow
   have q3:=cell_of_row _ _ 3 _ _ _ hrow
   have q0:=cell_of_row _ _ 1 _ _ _ hrow
   simp at q4 q3 q0
   have z4:=frozen_of_row _ _ 5 _ _ hrow
   have z3:=frozen_of_row _ _ 3 _ _ hrow
   have z0:=frozen_of_row _ _ 1 _ _ hrow
   by_cases hb:st.x = Txt.em
   ·have hE:Txt.once ws st.x = 0:=by unfold Txt.once;rw [if_neg (by omega),if_neg (by rw [hx];decide),if_neg (by simpa using hb)]
    rw [hE] at H
    rw [has_no hb] at q4
    have HROW:=hid' hrow
    have HOWN:=hid' hown
    have HWV:=hid' hwv
    have HF:=hid' hfull
    clear hx hE h1 hW hO hrow hown hwv hfull hb
    generalize ws.getD 0 Txt.em = s0 at *
    generalize hnu:Txt.numTo s0 s0.size = nu at *
    have HNU:=hid' hnu
    clear hnu
    go_enter Tryz.func124,Tryz.ntmps124
    go_wp2_with (go_at_call 167;refine HN.out.mono ?_;rintro e w' ⟨rfl,rfl⟩)
    go_region
    all_goals
     go_wp2
     go_ret
     refine ⟨ret_int H.out.symm,fun _ => ?_,((((Below.refl bF _).setCell (p:=⟨bF,5,none⟩) (Nat.le_refl _) _).setCell (p:=⟨bF,1,none⟩) (Nat.le_refl _) _).setCell (p:=⟨bF,3,none⟩) (Nat.le_refl _) _).drew⟩
     rw [HS.out]
     have e1:=heap_setCell_same _ bF 5 _ _ (.bool true) HROW.out
     have e2:=heap_setCell_same _ bF 1 _ _ (.int .i64 nu) e1
     have e3:=heap_setCell_same _ bF 3 _ _ (.string (st.dg ++ s0)) e2
     refine ⟨lv,wv,full,?_,own_set (p:=⟨bF,3,none⟩) (own_set (p:=⟨bF,1,none⟩) (own_set (p:=⟨bF,5,none⟩) HOWN.out HROW.out (by decide) _) e1 (by decide) _) e2 (by decide) _,own_set (p:=⟨bF,3,none⟩) (own_set (p:=⟨bF,1,none⟩) (own_set (p:=⟨bF,5,none⟩) HWV.out HROW.out (by decide) _) e1 (by decide) _) e2 (by decide) _,HF.out⟩
     show _ = some (Obj.cells #[.int .i64 (Txt.numTo st.u st.u.size),.int .i64 (Txt.numTo s0 s0.size),lv,.string (st.dg ++ s0),.bool (has st.u),.bool (has s0),.bool (has st.h),wv] 143 (0,0))
     rw [HNU.out,has_yes HNE.out]
     refine Eq.trans (by rfl) (Eq.trans e3 ?_)
     simp
   ·have hE:Txt.once ws st.x = 4:=by unfold Txt.once;rw [if_neg (by omega),if_neg (by rw [hx];decide),if_pos hb]
    rw [hE] at H
    rw [has_yes hb] at q4
    clear hx hE h1 hW hO hrow hown hwv hfull hb
    generalize ws.getD 0 Txt.em = s0 at *
    generalize Txt.numTo s0 s0.size = nu at *
    go_enter Tryz.func124,Tryz.ntmps124
    go_wp2_with (go_at_call 167;refine HN.out.mono ?_;rintro e w' ⟨rfl,rfl⟩)
    go_ret
    exact ⟨ret_int H.out.symm,no_err H.out (by decide),Below.refl _ _⟩
 ·have hE:Txt.once ws st.x = 3:=by unfold Txt.once;rw [if_pos h1]
  rw [hE] at H
  obtain ⟨ao,cap,rfl⟩:=hW.form
  have h1':((ws.length:Int) != 1) = true:=bne_iff_ne.2 (by omega)
  clear h1 hW hE hO hrow hown hwv hfull
  go_enter Tryz.func124,Tryz.ntmps124
  go_wp2
  go_ret
  exact ⟨ret_int H.out.symm,no_err H.out (by decide),Below.refl _ _⟩
end Go.Proofs.YtmmkhodaljpjgaaGreatDoor
