import Derived.Test.YtmmkhodaljpjgaaGreatDoorV14
import Derived.Handy
import Derived.Deep.QuietTactic
import Derived.BigQuiet
import Derived.Deep.RegionLaw
namespace Go.Proofs.YtmmkhodaljpjgaaGreatDoor
open Go.RowKit
namespace Tab
end Tab
theorem ref_first (sec:Int) (w:World) (w0:(Lit.int .i64 sec).wf = true) :
  Calls Tryz.prog 168 #[.int .i64 sec] w fun e w' => e = .returned (.bool (Tab.first sec)) ∧ w' = w:=by
 have hb:=bounds_i64 w0
 clear w0
 by_cases h0:sec < 0
 ·have H:Hid (Tab.first sec = false):=Tab.first_no fun h => by have:=h.1;omega
  go_enter Tryz.func168,Tryz.ntmps168
  go_wp2
  go_ret
  exact ⟨ret_bool H.out.symm,rfl⟩
 ·by_cases h1:sec % 86400 = 0
  ·by_cases h2:401767 ≤ sec / 86400
   ·have H:Hid (Tab.first sec = false):=Tab.first_no fun h => by
     obtain ⟨_,_,y,m,hi,_⟩:=h
     have a:=hi.year
     have b:=Cal.yb_mono (y + 1) 3000 (by have:=hi.y2;omega)
     rw [Cal.yb_last] at b
     omega
    go_enter Tryz.func168,Tryz.ntmps168
    go_wp2_with fail
    refine (ref_civil_no (sec / 86400) _ (.inr h2)).mono ?_
    rintro e w' ⟨rfl,rfl⟩
    go_wp2
    go_ret
    exact ⟨ret_bool H.out.symm,rfl⟩
   ·go_enter Tryz.func168,Tryz.ntmps168
    go_wp2_with fail
    refine (ref_civil_yes (sec / 86400) _ (by omega) (by omega)).mono ?_
    rintro e w' ⟨⟨y,m,rfl,hin⟩,rfl⟩
    have HI:=hid' hin
    clear hin
    by_cases h3:sec / 86400 = Cal.yb y + Cal.cum y m
    ·have H:Hid (Tab.first sec = true):=Tab.first_yes ⟨by omega,h1,y,m,HI.out,h3⟩
     have hd:(sec / 86400 - Cal.yb y - Cal.cum y m + 1 == 1) = true:=by rw [beq_iff_eq];omega
     generalize sec / 86400 - Cal.yb y - Cal.cum y m + 1 = v at *
     clear h3
     go_wp2
     go_ret
     exact ⟨ret_bool H.out.symm,rfl⟩
    ·have H:Hid (Tab.first sec = false):=Tab.first_no fun h => by
      obtain ⟨_,_,z,o,hi,hq⟩:=h
      obtain ⟨rfl,rfl⟩:=hi.only HI.out
      exact h3 hq
     have hd:(sec / 86400 - Cal.yb y - Cal.cum y m + 1 == 1) = false:=by rw [beq_eq_false_iff_ne];omega
     generalize sec / 86400 - Cal.yb y - Cal.cum y m + 1 = v at *
     clear h3
     go_wp2
     go_ret
     exact ⟨ret_bool H.out.symm,rfl⟩
  ·have H:Hid (Tab.first sec = false):=Tab.first_no fun h => h1 h.2.1
   have h1':(sec % 86400 == 0) = false:=by rw [beq_eq_false_iff_ne];exact h1
   go_enter Tryz.func168,Tryz.ntmps168
   go_wp2
   go_ret
   exact ⟨ret_bool H.out.symm,rfl⟩
namespace Tab
end Tab
set_option maxRecDepth 100000 in
set_option maxHeartbeats 1000000 in
theorem follows_any (B:Nat) (v:Value) (ls:List (Int × Int)) (a o:Int) (w:World) (wa:(Lit.int .i64 a).wf = true) (wo:(Lit.int .i64 o).wf = true)
  (hv:w.ownsRow B 46 2 v ls.length (flat ls)) (hn:ls.length ≤ 100000) (hok:∀ p ∈ ls,0 ≤ p.2 ∧ p.2 ≤ 200) :
  Calls Tryz.prog 126 #[v,.agg #[.int .i64 a,.int .i64 o]] w fun e w' => e = .returned (.bool (Tab.follows ls a o)) ∧ Below w.heap.size w w':=by
 have HFst:=hid' (ref_first a (w.alloc (.cells #[.int .i64 a,.int .i64 o] 46)) wa)
 have bo:=bounds_i64 wo
 have HBel:=hid' ((Below.refl w.heap.size w).alloc (Nat.le_refl _) (.cells #[.int .i64 a,.int .i64 o] 46))
 clear wa wo
 by_cases hz:ls.length = 0
 ·have hls:ls = []:=List.eq_nil_of_length_eq_zero hz
  subst hls
  obtain ⟨ao,cap,htv⟩:∃ ao cap,v = .slice ao 0 cap:=by
   rcases hv.2 with ⟨rfl,_⟩ | ⟨g,cap,cur,rfl,_⟩
   ·exact ⟨_,_,rfl⟩
   ·exact ⟨_,_,rfl⟩
  subst htv
  clear hv hn hok hz
  cases hf:Tab.first a with
  | false =>
   rw [hf] at HFst
   have H:Hid (Tab.follows [] a o = false):=Tab.follows_no1 hf
   clear hf
   go_enter Tryz.func126,Tryz.ntmps126
   go_wp2_with (go_at_call 168;refine HFst.out.mono ?_;rintro e w' ⟨rfl,rfl⟩)
   go_ret
   exact ⟨ret_bool H.out.symm,HBel.out⟩
  | true =>
   rw [hf] at HFst
   by_cases h0:o < 0
   ·have H:Hid (Tab.follows [] a o = false):=Tab.follows_no2 h0
    clear hf
    go_enter Tryz.func126,Tryz.ntmps126
    go_wp2_with (go_at_call 168;refine HFst.out.mono ?_;rintro e w' ⟨rfl,rfl⟩)
    go_ret
    exact ⟨ret_bool H.out.symm,HBel.out⟩
   ·by_cases h1:200 < o
    ·have H:Hid (Tab.follows [] a o = false):=Tab.follows_no3 h1
     clear hf
     go_enter Tryz.func126,Tryz.ntmps126
     go_wp2_with (go_at_call 168;refine HFst.out.mono ?_;rintro e w' ⟨rfl,rfl⟩)
     go_ret
     exact ⟨ret_bool H.out.symm,HBel.out⟩
    ·have H:Hid (Tab.follows [] a o = true):=Tab.follows_nil hf (by omega) (by omega)
     clear hf
     go_enter Tryz.func126,Tryz.ntmps126
     go_wp2_with (go_at_call 168;refine HFst.out.mono ?_;rintro e w' ⟨rfl,rfl⟩)
     go_ret
     exact ⟨ret_bool H.out.symm,HBel.out⟩
 ·obtain ⟨q,hq⟩:∃ q,ls.length = q + 1:=⟨ls.length - 1,by omega⟩
  obtain ⟨g,cap,htv⟩:∃ g cap,v = .slice (some ⟨g,0,none⟩) (q + 1) cap:=by
   rcases hv.2 with ⟨rfl,h⟩ | ⟨g,cap,cur,rfl,_⟩
   ·omega
   ·exact ⟨_,_,by rw [hq]⟩
  subst htv
  have hp:=hok (ls[q]'(by omega)) (List.getElem_mem _)
  have c0:=(hv.alloc (.cells #[.int .i64 a,.int .i64 o] 46))
  rw [hq] at c0
  have c1:=c0.cellAt (q * 2) (by omega)
  have c2:=c0.cellAt (q * 2 + 1) (by omega)
  rw [flat_at0 ls q (by omega)] at c1
  rw [flat_at1 ls q (by omega)] at c2
  have hlast:=fun h h0 h1 h2 => Tab.follows_last (ls:=ls) (a:=a) (o:=o) h h0 h1 h2 q hq
  have HLAST:=hid' hlast
  clear c0 hlast
  rw [hq] at hn
  generalize ls[q]'(by omega) = p at *
  obtain ⟨pa,po⟩:=p
  simp only at hp c1 c2
  have hq40:ls.length = 40 ↔ q = 39:=by omega
  have H40:=hid' hq40
  clear hv hok hz hq hq40
  cases hf:Tab.first a with
  | false =>
   rw [hf] at HFst
   have H:Hid (Tab.follows ls a o = false):=Tab.follows_no1 hf
   clear hf c1 c2
   go_enter Tryz.func126,Tryz.ntmps126
   go_wp2_with (go_at_call 168;refine HFst.out.mono ?_;rintro e w' ⟨rfl,rfl⟩)
   go_ret
   exact ⟨ret_bool H.out.symm,HBel.out⟩
  | true =>
   rw [hf] at HFst
   by_cases h0:o < 0
   ·have H:Hid (Tab.follows ls a o = false):=Tab.follows_no2 h0
    clear hf c1 c2
    go_enter Tryz.func126,Tryz.ntmps126
    go_wp2_with (go_at_call 168;refine HFst.out.mono ?_;rintro e w' ⟨rfl,rfl⟩)
    go_ret
    exact ⟨ret_bool H.out.symm,HBel.out⟩
   ·by_cases h1:200 < o
    ·have H:Hid (Tab.follows ls a o = false):=Tab.follows_no3 h1
     clear hf c1 c2
     go_enter Tryz.func126,Tryz.ntmps126
     go_wp2_with (go_at_call 168;refine HFst.out.mono ?_;rintro e w' ⟨rfl,rfl⟩)
     go_ret
     exact ⟨ret_bool H.out.symm,HBel.out⟩
    ·by_cases h2:q = 39
     ·have H:Hid (Tab.follows ls a o = false):=Tab.follows_no4 (H40.out.2 h2)
      clear hf c1 c2 H40 HLAST
      subst h2
      go_enter Tryz.func126,Tryz.ntmps126
      go_wp2_with (go_at_call 168;refine HFst.out.mono ?_;rintro e w' ⟨rfl,rfl⟩)
      go_ret
      exact ⟨ret_bool H.out.symm,HBel.out⟩
     ·have H:Hid (Tab.follows ls a o = Tab.behindB (pa,po) a o):=HLAST.out hf (by omega) (by omega) (fun h => h2 (H40.out.1 h))
      have h2':((q:Int) + 1 == 40) = false:=by rw [beq_eq_false_iff_ne];omega
      clear hf HLAST H40 h2
      go_enter Tryz.func126,Tryz.ntmps126
      go_wp2_with (go_at_call 168;refine HFst.out.mono ?_;rintro e w' ⟨rfl,rfl⟩)
      all_goals
       go_ret
       refine ⟨ret_bool ?_,((Below.refl w.heap.size w).alloc (Nat.le_refl _) _).alloc (by simp) _⟩
       rw [H.out]
       unfold Tab.behindB
       simp
       try omega
namespace Tab
end Tab
set_option maxRecDepth 100000 in
set_option maxHeartbeats 3200000 in
theorem whole_any (B:Nat) (lv:Value) (ls:List (Int × Int)) (up ex:Int) (w:World) (wu:(Lit.int .i64 up).wf = true) (wx:(Lit.int .i64 ex).wf = true)
  (hv:w.ownsRow B 46 2 lv ls.length (flat ls)) (hn:ls.length ≤ 100000) (hwf:∀ p ∈ ls,WfP p) :
  Calls Tryz.prog 79 #[.agg #[.int .i64 up,.int .i64 ex,lv]] w fun e w' => e = .returned (.bool (Tab.whole up ex ls)) ∧ Below w.heap.size w w':=by
 obtain ⟨i0,hi0,hz0,hz1,hz2⟩:=info_parts infoLeap
 have bu:=bounds_i64 wu
 have bx:=bounds_i64 wx
 clear wu wx
 have HBel:=hid' ((Below.refl w.heap.size w).alloc (Nat.le_refl _) (.cells #[.int .i64 up,.int .i64 ex,lv] 33))
 by_cases h3:ls.length = 0
 ·obtain ⟨ao,cap,hlv⟩:∃ ao cap,lv = .slice ao 0 cap:=by
   rcases hv.2 with ⟨rfl,_⟩ | ⟨g,cap,cur,rfl,_⟩
   ·exact ⟨_,_,rfl⟩
   ·exact ⟨_,_,by rw [h3]⟩
  subst hlv
  have H:Hid (Tab.whole up ex ls = false):=Tab.whole_no4 h3
  clear hv hwf hn h3
  by_cases h0:up < 0
  ·go_enter Tryz.func79,Tryz.ntmps79
   go_wp2
   go_ret
   exact ⟨ret_bool H.out.symm,HBel.out⟩
  ·by_cases h1:ex ≤ up
   ·go_enter Tryz.func79,Tryz.ntmps79
    go_wp2
    go_ret
    exact ⟨ret_bool H.out.symm,HBel.out⟩
   ·by_cases h2:34000000000 < ex
    ·go_enter Tryz.func79,Tryz.ntmps79
     go_wp2
     go_ret
     exact ⟨ret_bool H.out.symm,HBel.out⟩
    ·go_enter Tryz.func79,Tryz.ntmps79
     go_wp2
     go_ret
     exact ⟨ret_bool H.out.symm,HBel.out⟩
 ·obtain ⟨g,cap,hlv⟩:∃ g cap,lv = .slice (some ⟨g,0,none⟩) ls.length cap:=by
   rcases hv.2 with ⟨rfl,h⟩ | ⟨g,cap,cur,rfl,_⟩
   ·omega
   ·exact ⟨_,_,rfl⟩
  subst hlv
  have hgl:=(hv.lt _ rfl).2
  have HV:=hid' hv
  have HWF:=hid' hwf
  clear hv hwf
  by_cases h0:up < 0
  ·have H:Hid (Tab.whole up ex ls = false):=Tab.whole_no1 h0
   go_enter Tryz.func79,Tryz.ntmps79
   go_wp2
   go_ret
   exact ⟨ret_bool H.out.symm,HBel.out⟩
  ·by_cases h1:ex ≤ up
   ·have H:Hid (Tab.whole up ex ls = false):=Tab.whole_no2 h1
    go_enter Tryz.func79,Tryz.ntmps79
    go_wp2
    go_ret
    exact ⟨ret_bool H.out.symm,HBel.out⟩
   ·by_cases h2:34000000000 < ex
    ·have H:Hid (Tab.whole up ex ls = false):=Tab.whole_no3 h2
     go_enter Tryz.func79,Tryz.ntmps79
     go_wp2
     go_ret
     exact ⟨ret_bool H.out.symm,HBel.out⟩
    ·have H:Hid (Tab.whole up ex ls = Tab.okUpTo ls ls.length):=Tab.whole_is h0 h1 h2 h3
     have HROW:=hid' (heap_alloc_new w (.cells #[.int .i64 up,.int .i64 ex,.slice (some ⟨g,0,none⟩) ls.length cap] 33))
     have hl0:((ls.length:Int) == 0) = false:=by rw [beq_eq_false_iff_ne];omega
     generalize hln:ls.length = n at *
     have HLN:=hid' hln
     clear hln
     go_enter Tryz.func79,Tryz.ntmps79
     go_wp2_with fail
     go_loopw [3,4,5] (fun l i _ wr => ∃ k:Nat,k ≤ n ∧ i = .int .i64 k ∧ Tab.okUpTo ls k = true ∧ wr.ownsRow (w.heap.size + 1) 46 2 l k (flat (ls.take k)) ∧ Below w.heap.size w wr ∧ wr.heap[w.heap.size]? = some (.cells #[.int .i64 up,.int .i64 ex,.slice (some ⟨g,0,none⟩) n cap] 33 (0,0))) (fun _ i _ _ => n - (intOf i).toNat)
     case atStart => exact ⟨0,by omega,rfl,rfl,World.ownsRow_nil _ _ _ _,HBel.out,HROW.out⟩
     case round =>
      obtain ⟨k,hk,rfl,hokk,hown,hbw,hrow⟩:=hrel
      have t2:=cell_of_row _ _ 2 _ _ _ hrow
      simp at t2
      have hsw:=lt_of_heap hrow
      have HOK:=hid' hokk
      have OWN:=hid' hown
      have HBW:=hid' hbw
      have HR:=hid' hrow
      clear hokk hown hbw hrow HROW
      by_cases hlt:k < n
      ·have hkl:k < ls.length:=by rw [HLN.out];exact hlt
       have hlk:(ls.take k).length = k:=by simp;omega
       have hwp:=HWF.out _ (List.getElem_mem hkl)
       have c1:wr.cell? ⟨g,k * 2,none⟩ = some (.int .i64 ls[k].1):=by
        rw [HBW.out.cell (p:=⟨g,k * 2,none⟩) hgl,HV.out.cellAt (k * 2) (by omega)];exact flat_at0 ls k hkl
       have c2:wr.cell? ⟨g,k * 2 + 1,none⟩ = some (.int .i64 ls[k].2):=by
        rw [HBW.out.cell (p:=⟨g,k * 2 + 1,none⟩) hgl,HV.out.cellAt (k * 2 + 1) (by omega)];exact flat_at1 ls k hkl
       have hfo:=follows_any (w.heap.size + 1) u3 (ls.take k) ls[k].1 ls[k].2 wr hwp.1 hwp.2 (by rw [hlk];exact OWN.out) (by omega) (Tab.okUpTo_off k (by omega) HOK.out)
       have HFO:=hid' hfo
       have HSU:=hid' (Tab.okUpTo_succ ls k hkl)
       have HFL:=hid' (flat_take_succ ls k hkl)
       clear hfo hwp hlk
       generalize ls[k] = p at *
       clear hkl
       obtain ⟨pa,po⟩:=p
       simp only at c1 c2
       have hcap:g < wr.heap.size:=by omega
       cases hf:Tab.follows (ls.take k) pa po with
       | false =>
        simp only [hf] at HFO HSU
        have H2:Hid (Tab.whole up ex ls = false):=by
         show _ = _;rw [H.out];exact Tab.okUpTo_no (k:=k + 1) (by rw [HSU.out];simp) (by omega)
        clear hf
        go_wp2_with (go_at_call 126;refine HFO.out.mono ?_;rintro e w2 ⟨rfl,hb2⟩;have HB2:=hid' hb2;clear hb2)
        go_ret
        exact ⟨ret_bool H2.out.symm,HBW.out.trans (HB2.out.mono HBW.out.size)⟩
       | true =>
        simp only [hf] at HFO HSU
        have H2:Hid (Tab.okUpTo ls (k + 1) = true):=by show _ = _;rw [HSU.out,HOK.out];rfl
        clear hf HSU
        go_wp2_with (first
         | (go_at_call 126;refine HFO.out.mono ?_;rintro e w2 ⟨rfl,hb2⟩;have d1:=(hb2.cell (p:=⟨g,k * 2,none⟩) hcap).trans c1;have d2:=(hb2.cell (p:=⟨g,k * 2 + 1,none⟩) hcap).trans c2;have d3:=(hb2.cell (p:=⟨w.heap.size,2,none⟩) hsw).trans t2;have OWN2:=hid' (own_down OWN.out hb2);have HR2:=hid' ((hb2.block _ hsw).trans HR.out);have HB2:=hid' (HBW.out.trans (hb2.mono HBW.out.size));have hs2:=hb2.size;clear hb2)
         | (at_builtin;refine wpList_append_lies _ (by rfl) (.tmp 43) (.tmp 49) 31 (by rfl) (w.heap.size + 1) 46 i0 (.agg #[.int .i64 0,.int .i64 0]) 2 16 Tryz.underlying31 hi0 hz0 hz1 hz2 rfl (by decide) u3 k (flat (ls.take k)) (by rfl) (OWN2.out.alloc _) ⟨w2.heap.size,0,none⟩ 1 1 [.int .i64 pa,.int .i64 po] (by rfl) (by rfl) (World.news_of_block (cs:=#[.int .i64 pa,.int .i64 po]) (heap_alloc_new w2 _)) (by simp [Value.oneCell']) (by decide) (by unfold maxLen;omega) (by omega) (by simp;omega) (w2.heap.size + 1) (by simp) ?_;intro g3 cap3 w3 own3 hg3 _ hlt3;(rw [HFL.out] at own3);have HR3:=hid' (grown_heap hg3 (OWN2.out.alloc _) ((Below.heap_alloc _ _ _ (by omega)).trans HR2.out) (by decide));have HB3:=hid' ((HB2.out.alloc (by omega) _).grown hg3 (by simp;omega) (fun k hk => Nat.le_of_succ_le (own_ge OWN2.out k hk)));have OWN3:=hid' own3;clear own3 hg3))
        go_roundw
        case rel => exact ⟨k + 1,by omega,by go_num,H2.out,OWN3.out,HB3.out,HR3.out⟩
        case measure => simp [intOf];omega
      ·have ek:k = n:=by omega
       have H2:Hid (Tab.whole up ex ls = true):=by show _ = _;rw [H.out,← ek];exact HOK.out
       have hnk:¬ (k:Int) < (n:Int):=by omega
       clear ek
       go_wp2
       go_ret
       exact ⟨ret_bool H2.out.symm,HBW.out⟩
theorem lies_of_own {w:World} {B g cap:Nat} {ls:List (Int × Int)} (h:w.ownsRow B 46 2 (.slice (some ⟨g,0,none⟩) ls.length cap) ls.length (flat ls)):Lies w g ls:=fun i hi =>
 ⟨by rw [h.cellAt (i * 2) (by omega)];exact flat_at0 ls i hi,by rw [h.cellAt (i * 2 + 1) (by omega)];exact flat_at1 ls i hi⟩
set_option maxRecDepth 100000 in
theorem ref_when (g cap i n:Nat) (ls:List (Int × Int)) (w:World) (hn:ls.length = n) (hi:i < n) (hl:Lies w g ls) (hf:Fine ls) (hb:n ≤ 100000) :
  Calls Tryz.prog 111 #[.slice (some ⟨g,0,none⟩) n cap,.int .i64 i] w fun e w' => e = .returned (.int .i64 (Tab.when ls i)) ∧ w' = w:=by
 have c:=hl i (by omega)
 have f:=hf _ (List.getElem_mem (show i < ls.length by omega))
 cases i with
 | zero =>
  have H:Hid (Tab.when ls 0 = (ls[0]'(by omega)).1 + (ls[0]'(by omega)).2):=by
   show _ = _;unfold Tab.when;rw [getD_at 0 (by omega)];simp
  generalize ls[0]'(by omega) = p at *
  obtain ⟨pa,po⟩:=p
  obtain ⟨c1,c2⟩:=c
  simp only [Nat.zero_mul,Nat.zero_add] at c1 c2
  simp only at f
  clear hl hf hn
  go_enter Tryz.func111,Tryz.ntmps111
  go_wp2
  go_ret
  exact ⟨ret_int H.out.symm,rfl⟩
 | succ j =>
  have d:=hl j (by omega)
  have e:=hf _ (List.getElem_mem (show j < ls.length by omega))
  have H:Hid (Tab.when ls (j + 1) = (ls[j + 1]'(by omega)).1 + (if (ls[j]'(by omega)).2 < (ls[j + 1]'(by omega)).2 then (ls[j]'(by omega)).2 else (ls[j + 1]'(by omega)).2)):=by
   show _ = _;unfold Tab.when;rw [getD_at (j + 1) (by omega),show j + 1 - 1 = j from rfl,getD_at j (by omega)];simp
  generalize ls[j + 1]'(by omega) = p at *
  generalize ls[j]'(by omega) = q at *
  obtain ⟨pa,po⟩:=p
  obtain ⟨qa,qo⟩:=q
  obtain ⟨c1,c2⟩:=c
  obtain ⟨_,d2⟩:=d
  simp only at f c1 c2 d2 e
  clear hl hf hn
  by_cases hlt:qo < po
  ·have H2:Hid (Tab.when ls (j + 1) = pa + qo):=by show _ = _;rw [H.out];simp only;rw [if_pos hlt]
   go_enter Tryz.func111,Tryz.ntmps111
   go_wp2
   go_ret
   exact ⟨ret_int H2.out.symm,rfl⟩
  ·have H2:Hid (Tab.when ls (j + 1) = pa + po):=by show _ = _;rw [H.out];simp only;rw [if_neg hlt]
   go_enter Tryz.func111,Tryz.ntmps111
   go_wp2
   go_ret
   exact ⟨ret_int H2.out.symm,rfl⟩
set_option maxRecDepth 100000 in
theorem ref_at (g cap n:Nat) (ls:List (Int × Int)) (sec:Int) (w:World) (hn:ls.length = n) (hl:Lies w g ls) (hf:Fine ls) (hb:n ≤ 100000) :
  Calls Tryz.prog 83 #[.slice (some ⟨g,0,none⟩) n cap,.int .i64 sec] w fun e w' => e = .returned (.int .i64 (Tab.lastAt ls sec n)) ∧ w' = w:=by
 have HL:=hid' hl
 have HF:=hid' hf
 have HN:=hid' hn
 clear hl hf hn
 go_enter Tryz.func83,Tryz.ntmps83
 go_wp2
 go_loop [5,6,7] (fun r i _ => ∃ k:Nat,k ≤ n ∧ i = .int .i64 k ∧ r = .int .i64 (Tab.lastAt ls sec k)) (fun _ i _ => n - (intOf i).toNat)
 case atStart => exact ⟨0,by omega,rfl,rfl⟩
 case round =>
  obtain ⟨k,hk,rfl,rfl⟩:=hrel
  by_cases hlt:k < n
  ·have HW:=hid' (ref_when g cap k n ls w HN.out hlt HL.out HF.out hb)
   by_cases hle:Tab.when ls k ≤ sec
   ·have H:Hid (Tab.lastAt ls sec (k + 1) = (k:Int)):=by show _ = _;simp only [Tab.lastAt];rw [if_pos hle]
    generalize Tab.when ls k = v at *
    go_wp2_with (go_at_call 111;refine HW.out.mono ?_;rintro e w' ⟨rfl,rfl⟩)
    exact ⟨⟨k + 1,by omega,by go_num,by rw [H.out]⟩,by simp [intOf];omega⟩
   ·have H:Hid (Tab.lastAt ls sec (k + 1) = Tab.lastAt ls sec k):=by show _ = _;rw [Tab.lastAt];rw [if_neg hle]
    generalize Tab.when ls k = v at *
    go_wp2_with (go_at_call 111;refine HW.out.mono ?_;rintro e w' ⟨rfl,rfl⟩)
    exact ⟨⟨k + 1,by omega,by go_num,by rw [H.out]⟩,by simp [intOf];omega⟩
  ·have ek:k = n:=by omega
   have HK:Hid (Tab.lastAt ls sec k = Tab.lastAt ls sec n):=by show _ = _;rw [ek]
   clear ek
   go_wp2
   go_ret
   exact ⟨ret_int HK.out,rfl⟩
theorem ref_is (s f:Int) (w:World) :
  Calls Tryz.prog 90 #[.agg #[.int .i64 s,.int .i64 f]] w fun e w' => e = .returned (.bool (isT s f)) ∧ Below w.heap.size w w':=by
 have B0:=hid' ((Below.refl w.heap.size w).alloc (Nat.le_refl _) (.cells #[.int .i64 s,.int .i64 f] 35))
 have no:¬ (0 ≤ s ∧ s ≤ 34000000000 ∧ 0 ≤ f ∧ f < 4294967296) → isT s f = false:=fun h => decide_eq_false h
 have HNO:=hid' no
 clear no
 by_cases h1:0 ≤ s
 ·by_cases h2:s ≤ 34000000000
  ·by_cases h3:0 ≤ f
   ·by_cases h4:f < 4294967296
    ·have H:Hid (isT s f = true):=decide_eq_true ⟨h1,h2,h3,h4⟩
     go_enter Tryz.func90,Tryz.ntmps90
     go_wp2
     go_ret
     exact ⟨ret_bool H.out.symm,B0.out⟩
    ·have H:=hid' (HNO.out (fun h => h4 h.2.2.2))
     go_enter Tryz.func90,Tryz.ntmps90
     go_wp2
     go_ret
     exact ⟨ret_bool H.out.symm,B0.out⟩
   ·have H:=hid' (HNO.out (fun h => h3 h.2.2.1))
    go_enter Tryz.func90,Tryz.ntmps90
    go_wp2
    go_ret
    exact ⟨ret_bool H.out.symm,B0.out⟩
  ·have H:=hid' (HNO.out (fun h => h2 h.2.1))
   go_enter Tryz.func90,Tryz.ntmps90
   go_wp2
   go_ret
   exact ⟨ret_bool H.out.symm,B0.out⟩
 ·have H:=hid' (HNO.out (fun h => h1 h.1))
  go_enter Tryz.func90,Tryz.ntmps90
  go_wp2
  go_ret
  exact ⟨ret_bool H.out.symm,B0.out⟩
theorem ref_later (s f z g:Int) (w:World) :
  Calls Tryz.prog 140 #[.agg #[.int .i64 s,.int .i64 f],.agg #[.int .i64 z,.int .i64 g]] w fun e w' => e = .returned (.bool (tLater s f z g)) ∧ Below w.heap.size w w':=by
 have B0:=hid' (((Below.refl w.heap.size w).alloc (Nat.le_refl _) (.cells #[.int .i64 s,.int .i64 f] 35)).alloc (by simp) (.cells #[.int .i64 z,.int .i64 g] 35))
 by_cases h1:z < s
 ·have H:Hid (tLater s f z g = true):=decide_eq_true (.inl h1)
  go_enter Tryz.func140,Tryz.ntmps140
  go_wp2
  go_ret
  exact ⟨ret_bool H.out.symm,B0.out⟩
 ·by_cases h2:s = z
  ·subst h2
   have e1:(s == s) = true:=by simp
   by_cases h3:g < f
   ·have H:Hid (tLater s f s g = true):=decide_eq_true (.inr ⟨rfl,h3⟩)
    go_enter Tryz.func140,Tryz.ntmps140
    go_wp2
    go_ret
    exact ⟨ret_bool H.out.symm,B0.out⟩
   ·have H:Hid (tLater s f s g = false):=decide_eq_false (by omega)
    go_enter Tryz.func140,Tryz.ntmps140
    go_wp2
    go_ret
    exact ⟨ret_bool H.out.symm,B0.out⟩
  ·have H:Hid (tLater s f z g = false):=decide_eq_false (by omega)
   have e1:(s == z) = false:=by rw [beq_eq_false_iff_ne];exact h2
   clear h2
   go_enter Tryz.func140,Tryz.ntmps140
   go_wp2
   go_ret
   exact ⟨ret_bool H.out.symm,B0.out⟩
set_option maxRecDepth 100000 in
theorem ref_sum (s f z g:Int) (w:World) (h1:-1000000000000 ≤ s) (h2:s ≤ 1000000000000) (h3:-1000000000000 ≤ z) (h4:z ≤ 1000000000000) (h5:0 ≤ f) (h6:f ≤ 1000000000000) (h7:0 ≤ g) (h8:g ≤ 1000000000000) :
  Calls Tryz.prog 101 #[.agg #[.int .i64 s,.int .i64 f],.agg #[.int .i64 z,.int .i64 g]] w fun e w' => e = .returned (.agg #[.int .i64 (tSum s f z g).1,.int .i64 (tSum s f z g).2]) ∧ Below w.heap.size w w':=by
 have B0:=hid' ((((Below.refl w.heap.size w).alloc (Nat.le_refl _) (.cells #[.int .i64 s,.int .i64 f] 35)).alloc (by simp) (.cells #[.int .i64 z,.int .i64 g] 35)).alloc (by simp;omega) (.cells #[.int .i64 (s + z + (f + g) / 4294967296),.int .i64 ((f + g) % 4294967296)] 35))
 have z0:0 ≤ f + g:=by omega
 go_enter Tryz.func101,Tryz.ntmps101
 go_wp2
 go_returns
 exact ⟨rfl,B0.out⟩
set_option maxRecDepth 100000 in
set_option maxHeartbeats 1600000 in
theorem ref_opens (b:Nat) (x:Sv) (dv bv cv hv:Value) (t:Int) (w:World) (hr:RSrv b x dv bv cv hv w) (h0:0 ≤ x.win) (h1:x.win ≤ 1000000) (t0:0 ≤ t) (t1:t ≤ 1000000000000) :
  Calls Tryz.prog 112 #[.pointer (some ⟨b,0,none⟩),.int .i64 t] w fun e w' => e = .returned (.agg #[.int .i64 (x.opens t).1,.int .i64 (x.opens t).2]) ∧ Below w.heap.size w w':=by
 obtain ⟨mode,win,fresh,ns,nf,ld,up,ex,done,began,com,ref,said⟩:=x
 have q1:=cell_of_row _ _ 1 _ _ _ hr.row
 have q3:=cell_of_row _ _ 3 _ _ _ hr.row
 have q4:=cell_of_row _ _ 4 _ _ _ hr.row
 have lb:=lt_of_heap hr.row
 simp at q1 q3 q4
 simp only at h0 h1
 clear hr
 have HLA:=hid' (fun W => ref_later ns nf (t - win / 2) 0 W)
 have HOP:Hid (Sv.opens ⟨mode,win,fresh,ns,nf,ld,up,ex,done,began,com,ref,said⟩ t = if tLater ns nf (t - win / 2) 0 = true then (ns,nf) else (t - win / 2,0)):=rfl
 generalize Sv.opens ⟨mode,win,fresh,ns,nf,ld,up,ex,done,began,com,ref,said⟩ t = r at *
 generalize tLater ns nf (t - win / 2) 0 = lt at *
 have HB0:=hid' (((Below.refl w.heap.size w).alloc (Nat.le_refl _) (.cells #[.int .i64 0,.int .i64 0] 35)).alloc (by simp) (.cells #[.int .i64 (t - win / 2),.int .i64 0] 35)).drew
 have HR0:=hid' (heap_alloc2_old w (.cells #[.int .i64 0,.int .i64 0] 35) (.cells #[.int .i64 (t - win / 2),.int .i64 0] 35))
 have HR1:=hid' (heap_alloc2_new w (.cells #[.int .i64 0,.int .i64 0] 35) (.cells #[.int .i64 (t - win / 2),.int .i64 0] 35))
 go_enter Tryz.func112,Tryz.ntmps112
 go_wp2_with fail
 go_region_with (go_at_call 140;refine (HLA.out _).mono ?_;rintro e w1 ⟨rfl,hb1⟩;have HB1:=hid' (HB0.out.trans (hb1.mono (by exact HB0.out.size)));have a0:=(hb1.block _ (by simp <;> omega)).trans HR0.out;have a1:=(hb1.block _ (by simp <;> omega)).trans HR1.out;have HA0:=hid' a0;have HA1:=hid' a1;clear hb1 a0 a1)
 all_goals
  have x0:=cell_of_row _ _ 0 _ _ _ HA0.out
  have x1:=cell_of_row _ _ 1 _ _ _ HA0.out
  have f0:=frozen_of_row _ _ 0 _ _ HA0.out
  have f1:=frozen_of_row _ _ 1 _ _ HA0.out
  have y0:=cell_of_row _ _ 0 _ _ _ HA1.out
  have y1:=cell_of_row _ _ 1 _ _ _ HA1.out
  have p3:=(HB1.out.cell (p:=⟨b,3,none⟩) lb).trans q3
  have p4:=(HB1.out.cell (p:=⟨b,4,none⟩) lb).trans q4
  simp at x0 x1 y0 y1
  clear q1 q3 q4
  cases lt with
  | true =>
   have H:Hid (r = (ns,nf)):=HOP.out
   go_wp2
   try simp only [Exit.inBlock,Exit.then]
   refine bodyPost_ret (results_cell_row rfl _ _ w.heap.size 35 #[.int .i64 ns,.int .i64 nf] (0,0) _ rfl (two_row HA0.out) Tryz.underlying35 rfl (by kernel_rfl)) rfl ?_
   exact ⟨ret_agg2 (by rw [H.out]) (by rw [H.out]),(HB1.out.setCell (p:=⟨w.heap.size,0,none⟩) (Nat.le_refl _) _).setCell (p:=⟨w.heap.size,1,none⟩) (Nat.le_refl _) _⟩
  | false =>
   have H:Hid (r = (t - win / 2,0)):=HOP.out
   go_wp2
   try simp only [Exit.inBlock,Exit.then]
   refine bodyPost_ret (results_cell_row rfl _ _ w.heap.size 35 #[.int .i64 (t - win / 2),.int .i64 0] (0,0) _ rfl (two_row HA0.out) Tryz.underlying35 rfl (by kernel_rfl)) rfl ?_
   exact ⟨ret_agg2 (by rw [H.out]) (by rw [H.out]),(HB1.out.setCell (p:=⟨w.heap.size,0,none⟩) (Nat.le_refl _) _).setCell (p:=⟨w.heap.size,1,none⟩) (Nat.le_refl _) _⟩
set_option maxRecDepth 100000 in
set_option maxHeartbeats 1600000 in
theorem ref_utc (b:Nat) (x:Sv) (dv bv cv hv:Value) (w:World) (hr:RSrv b x dv bv cv hv w) (hf:Fine x.done) (hl:x.done.length ≤ 1000) (h0:0 ≤ Tab.lastAt x.done x.ns x.done.length) (n0:0 ≤ x.ns) (n1:x.ns ≤ 1000000000000) :
  Calls Tryz.prog 92 #[.pointer (some ⟨b,0,none⟩)] w fun e w' => e = .returned (.int .i64 x.utc) ∧ ∃ m,w' = w.drewN m:=by
 obtain ⟨mode,win,fresh,ns,nf,ld,up,ex,done,began,com,ref,said⟩:=x
 simp only at hf hl h0 n0 n1
 have q3:=cell_of_row _ _ 3 _ _ _ hr.row
 have q8:=cell_of_row _ _ 8 _ _ _ hr.row
 have hlb:=Tab.lastAt_bd done ns done.length
 have hpos:0 < done.length:=by omega
 obtain ⟨g,cap,hdv⟩:=own_some hr.dd hpos
 subst hdv
 have HL:=hid' (lies_of hr.dd rfl)
 simp at q3 q8
 obtain ⟨k,hk⟩:∃ k:Nat,Tab.lastAt done ns done.length = (k:Int):=⟨(Tab.lastAt done ns done.length).toNat,by omega⟩
 have hkl:k < done.length:=by omega
 have HAT:∀ w1,Lies w1 g done → Hid (Calls Tryz.prog 83 #[.slice (some ⟨g,0,none⟩) done.length cap,.int .i64 ns] w1 fun e w' => e = .returned (.int .i64 (k:Int)) ∧ w' = w1):=fun w1 h => by rw [← hk];exact ref_at g cap done.length done ns w1 rfl h hf (by omega)
 have H:Hid (Sv.utc ⟨mode,win,fresh,ns,nf,ld,up,ex,done,began,com,ref,said⟩ = ns - done[k].2):=by
  show ns - (done.getD (Tab.lastAt done ns done.length).toNat (0,0)).2 = _
  rw [hk,Int.toNat_natCast,getD_at k hkl]
 have a1:=(HL.out k hkl).2
 have fk:=(hf _ (List.getElem_mem hkl)).2
 have HA:=hid' (fun m:Nat => HAT (w.drewN m) HL.out)
 generalize Sv.utc ⟨mode,win,fresh,ns,nf,ld,up,ex,done,began,com,ref,said⟩ = r at *
 generalize done[k] = p at *
 obtain ⟨pa,po⟩:=p
 simp only at a1 fk H
 have z0:(0:Int) ≤ (k:Int):=by omega
 have z1:(k:Int) < (done.length:Int):=by omega
 clear hr hf hk hlb HAT h0
 go_enter Tryz.func92,Tryz.ntmps92
 go_wp2_with fail
 go_quiet (first | (go_at_call 83;exact Calls.quiet_of_same (HA.out _).out))
 go_wp2_with fail
 go_quiet (fail)
 go_wp2
 go_ret
 exact ⟨ret_int H.out.symm,_,World.drewN_drewN _ _ _⟩
end Go.Proofs.YtmmkhodaljpjgaaGreatDoor
namespace Go.Proofs.YtmmkhodaljpjgaaGreatDoor
open Go.RowKit
attribute [local go_sem ↓] Go.wp_at_zero Go.wp_at_succ
theorem infoRComing:(Tryz.prog.info? 123).map (fun i => (i.zero,i.size,i.bytes)) = some (some (.agg #[.int .i64 0,.int .i64 0,.int .i64 0,.int .i64 0,.bool false]),5,40):=by kernel_rfl
theorem infoRTime:(Tryz.prog.info? 35).map (fun i => (i.zero,i.size,i.bytes)) = some (some (.agg #[.int .i64 0,.int .i64 0]),2,16):=by kernel_rfl
def RPost (b:Nat) (F:Nat → Prop) (w:World) (s:Sv) (w':World):Prop:=∃ dv bv cv hv,RSrv b s dv bv cv hv w' ∧ Off F w w' ∧ ∀ k,rFoot b dv bv cv hv k → F k ∨ w.heap.size ≤ k
theorem RSrv.post {b:Nat} {s:Sv} {dv bv cv hv:Value} {w:World} (h:RSrv b s dv bv cv hv w):RPost b (rFoot b dv bv cv hv) w s w:=⟨dv,bv,cv,hv,h,Off.refl _ w,fun _ e => .inl e⟩
theorem RPost.below {b:Nat} {F:Nat → Prop} {s:Sv} {w w' w'':World} (h:RPost b F w s w') (hb:Below w'.heap.size w' w''):RPost b F w s w'':=by
 obtain ⟨dv,bv,cv,hv,r,o,f⟩:=h
 exact ⟨dv,bv,cv,hv,r.below hb,o.then hb,f⟩
theorem RSrv.putD {b:Nat} {s:Sv} {dv bv cv hv dv':Value} {w w1:World} {L:List (Int × Int)} (h:RSrv b s dv bv cv hv w) (hg:w.grownBy w1 dv.ownBlock) (ho:w1.ownsRow 0 46 2 dv' L.length (flat L)) :
  RSrv b { s with done:=L } dv' bv cv hv (w1.setCell ⟨b,8,none⟩ dv'):=by
 have row:=grown_heap (t:=119) hg h.dd h.row (by decide)
 have kb:=own_grown h.bb hg h.dd (by decide)
 have kc:=own_grown h.cc hg h.dd (by decide)
 have ks:=own_grown h.ss hg h.dd (by decide)
 refine ⟨?_,own_set (p:=⟨b,8,none⟩) ho row (by decide) _,own_set (p:=⟨b,8,none⟩) kb row (by decide) _,own_set (p:=⟨b,8,none⟩) kc row (by decide) _,own_set (p:=⟨b,8,none⟩) ks row (by decide) _⟩
 rw [heap_setCell_same _ _ _ _ _ _ row];rfl
theorem RSrv.putB {b:Nat} {s:Sv} {dv bv cv hv bv':Value} {w w1:World} {L:List (Int × Int)} (h:RSrv b s dv bv cv hv w) (hg:w.grownBy w1 bv.ownBlock) (ho:w1.ownsRow 0 35 2 bv' L.length (flat L)) :
  RSrv b { s with began:=L } dv bv' cv hv (w1.setCell ⟨b,9,none⟩ bv'):=by
 have row:=grown_heap (t:=119) hg h.bb h.row (by decide)
 have kb:=own_grown h.dd hg h.bb (by decide)
 have kc:=own_grown h.cc hg h.bb (by decide)
 have ks:=own_grown h.ss hg h.bb (by decide)
 refine ⟨?_,own_set (p:=⟨b,9,none⟩) kb row (by decide) _,own_set (p:=⟨b,9,none⟩) ho row (by decide) _,own_set (p:=⟨b,9,none⟩) kc row (by decide) _,own_set (p:=⟨b,9,none⟩) ks row (by decide) _⟩
 rw [heap_setCell_same _ _ _ _ _ _ row];rfl
theorem RSrv.putC {b:Nat} {s:Sv} {dv bv cv hv cv':Value} {w:World} {L:List Cm} (h:RSrv b s dv bv cv hv w) (ho:w.ownsRow 0 123 5 cv' L.length (flatC L)) :
  RSrv b { s with com:=L } dv bv cv' hv (w.setCell ⟨b,10,none⟩ cv'):=by
 have row:=h.row
 refine ⟨?_,own_set (p:=⟨b,10,none⟩) h.dd row (by decide) _,own_set (p:=⟨b,10,none⟩) h.bb row (by decide) _,own_set (p:=⟨b,10,none⟩) ho row (by decide) _,own_set (p:=⟨b,10,none⟩) h.ss row (by decide) _⟩
 rw [heap_setCell_same _ _ _ _ _ _ row];rfl
theorem coming_size:∀ w:World,(sizeOf (Tryz.prog.elem 116)).run Tryz.prog w = .ok 5 w:=fun _ => by kernel_rfl
theorem tail_run (g n cap:Nat) (h:1 ≤ n) (w:World) :
  (Instr.slice 116 (.slice (some ⟨g,0,none⟩) n cap) (some (.int .i64 1)) none none).run Tryz.prog w = .ok (.slice (some (if cap = 1 then ⟨g,0,none⟩ else ⟨g,5,none⟩)) (n - 1) (cap - 1)) w:=by
 rw [run_slice_l (P:=Tryz.prog) w 116 (some ⟨g,0,none⟩) n cap (by kernel_rfl) .i64 1 (by omega) (by omega),coming_size]
 by_cases c:cap = 1
 ·simp [sliced,Result.andThen,c]
 ·simp [sliced,Addr.add,Result.andThen,c]
end Go.Proofs.YtmmkhodaljpjgaaGreatDoor
