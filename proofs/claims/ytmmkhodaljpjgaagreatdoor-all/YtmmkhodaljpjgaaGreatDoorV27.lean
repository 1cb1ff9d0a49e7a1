import Derived.Test.YtmmkhodaljpjgaaGreatDoorV26
import Derived.StillTactics
import Derived.Deep.DrawnRows
import Derived.Deep.RegionLaw
import Derived.Deep.QuietTactic
import Derived.BigQuiet
import Derived.BigRegion
namespace Go.Proofs.YtmmkhodaljpjgaaGreatDoor
open Go.RowKit
attribute [local go_sem ↓] Go.wp_at_zero Go.wp_at_succ
set_option maxRecDepth 100000 in
set_option maxHeartbeats 3200000 in
theorem ref_agrees (b B:Nat) (x:Sv) (dv bv cv hv lv:Value) (ls:List (Int × Int)) (w:World) (hr:RSrv b x dv bv cv hv w) (ho:w.ownsRow B 46 2 lv ls.length (flat ls)) (hp:0 < ls.length) (hn:ls.length ≤ 1000) (hd:x.done.length ≤ 1000) (hf:Fine ls) :
  Calls Tryz.prog 110 #[.pointer (some ⟨b,0,none⟩),lv] w fun e w' => e = .returned (.bool (x.agrees ls)) ∧ ∃ m,w' = w.drewN m:=by
 obtain ⟨g,cap,hlv⟩:=own_some ho hp
 subst hlv
 have HL:=hid' (lies_of ho rfl)
 have q5:=cell_of_row _ _ 5 _ _ _ hr.row
 have q3:=cell_of_row _ _ 3 _ _ _ hr.row
 have q8:=cell_of_row _ _ 8 _ _ _ hr.row
 simp at q5 q3 q8
 have HR:=hid' hr
 cases hld:x.ld with
 | false =>
  have H:Hid (x.agrees ls = decide (Tab.when ls 0 ≤ x.ns)):=by show _ = _;unfold Sv.agrees;rw [if_pos hld]
  rw [hld] at q5
  have WH:Hid (∀ m:Nat,Calls Tryz.prog 111 #[.slice (some ⟨g,0,none⟩) ls.length cap,.int .i64 0] (w.drewN m) fun e w' => e = .returned (.int .i64 (Tab.when ls 0)) ∧ w' = w.drewN m):=fun m => ref_when g cap 0 ls.length ls (w.drewN m) rfl hp HL.out hf (by omega)
  generalize Tab.when ls 0 = wn at *
  clear hr hld ho hf
  by_cases c:wn ≤ x.ns
  ·have H2:Hid (x.agrees ls = true):=by show _ = _;rw [H.out];exact decide_eq_true c
   go_enter Tryz.func110,Tryz.ntmps110
   go_wp2_with fail
   go_quiet (first | (go_at_call 111;exact Calls.quiet_of_same (WH.out _)))
   go_wp2
   go_ret
   exact ⟨ret_bool H2.out.symm,_,rfl⟩
  ·go_enter Tryz.func110,Tryz.ntmps110
   go_wp2_with fail
   go_quiet (first | (go_at_call 111;exact Calls.quiet_of_same (WH.out _)))
   go_wp2
   go_ret
   exact ⟨ret_bool H.out.symm,_,rfl⟩
 | true =>
  rw [hld] at q5
  obtain ⟨da,dcp,hdv⟩:=own_slice hr.dd
  subst hdv
  have H:Hid (x.agrees ls = if ls.length < x.done.length then false else if ls.take x.done.length = x.done then decide (ls.length = x.done.length) || decide (x.ns < Tab.when ls x.done.length) else false):=by
   show _ = _;unfold Sv.agrees;rw [if_neg (by rw [hld];simp)]
  generalize x.agrees ls = res at *
  clear hld hr
  by_cases hlt:ls.length < x.done.length
  ·have H2:Hid (res = false):=by show _ = _;rw [H.out,if_pos hlt]
   have zi:(ls.length:Int) < (x.done.length:Int):=by omega
   clear hlt
   go_enter Tryz.func110,Tryz.ntmps110
   go_wp2
   go_ret
   exact ⟨ret_bool H2.out.symm,0,rfl⟩
  ·have H2:Hid (res = if ls.take x.done.length = x.done then decide (ls.length = x.done.length) || decide (x.ns < Tab.when ls x.done.length) else false):=by show _ = _;rw [H.out,if_neg hlt]
   have hle:x.done.length ≤ ls.length:=by omega
   have zi:¬ (ls.length:Int) < (x.done.length:Int):=by omega
   clear hlt H
   go_enter Tryz.func110,Tryz.ntmps110
   go_wp2_with fail
   go_loopw [5] (fun i wr => ∃ k m:Nat,k ≤ x.done.length ∧ i = .int .i64 k ∧ ls.take k = x.done.take k ∧ wr = w.drewN m) (fun i _ => x.done.length - (intOf i).toNat)
   case atStart => exact ⟨0,0,by omega,rfl,rfl,rfl⟩
   case round =>
    obtain ⟨k,m,hk,rfl,htk,hwr⟩:=hrel
    have HTK:=hid' htk
    have HWR:=hid' hwr
    have p8:wr.cell? ⟨b,8,none⟩ = some (.slice da x.done.length dcp):=by rw [hwr];exact q8
    have p3:wr.cell? ⟨b,3,none⟩ = some (.int .i64 x.ns):=by rw [hwr];exact q3
    clear htk
    by_cases hkl:k < x.done.length
    ·obtain ⟨g',cap',hg'⟩:=own_some HR.out.dd (show 0 < x.done.length by omega)
     obtain ⟨rfl,_,rfl⟩:=Value.slice.inj hg'
     have a0:wr.cell? ⟨g,k * 2,none⟩ = some (.int .i64 (ls.getD k (0,0)).1):=by rw [hwr,getD_at k (by omega)];exact (HL.out k (by omega)).1
     have a1:wr.cell? ⟨g,k * 2 + 1,none⟩ = some (.int .i64 (ls.getD k (0,0)).2):=by rw [hwr,getD_at k (by omega)];exact (HL.out k (by omega)).2
     have b0:wr.cell? ⟨g',k * 2,none⟩ = some (.int .i64 (x.done.getD k (0,0)).1):=by rw [hwr,getD_at k hkl];exact (lies_of HR.out.dd rfl k hkl).1
     have b1:wr.cell? ⟨g',k * 2 + 1,none⟩ = some (.int .i64 (x.done.getD k (0,0)).2):=by rw [hwr,getD_at k hkl];exact (lies_of HR.out.dd rfl k hkl).2
     have HS:=hid' (take_same (a:=ls) k hkl hle HTK.out)
     have HN:=hid' (take_not (a:=ls) k hkl hle)
     generalize ls.getD k (0,0) = pl at *
     generalize x.done.getD k (0,0) = pd at *
     obtain ⟨la,lo⟩:=pl
     obtain ⟨ea,eo⟩:=pd
     simp only at a0 a1 b0 b1
     have z0:(0:Int) ≤ (k:Int):=by omega
     have z1:(k:Int) < (x.done.length:Int):=by omega
     have z2:(k:Int) < (ls.length:Int):=by omega
     clear hwr hg' q3 q5 q8 p3
     by_cases e1:la = ea
     ·by_cases e2:lo = eo
      ·have HS2:=hid' (HS.out (by rw [e1,e2]))
       subst e1 e2
       have n0':(la != la) = false:=by simp
       have n1':(lo != lo) = false:=by simp
       clear HS HN
       go_wp2_with fail
       go_quiet (fail)
       go_wp2
       go_roundw
       case rel => exact ⟨k + 1,m + nq,by omega,by go_num,HS2.out,by rw [HWR.out,World.drewN_drewN]⟩
       case measure => simp [intOf];omega
      ·have H3:Hid (res = false):=by show _ = _;rw [H2.out,if_neg (HN.out (fun q => e2 (congrArg Prod.snd q)))]
       subst e1
       have n0':(la != la) = false:=by simp
       have n1':(lo != eo) = true:=bne_iff_ne.2 e2
       clear HS HN e2
       go_wp2_with fail
       go_quiet (fail)
       go_wp2
       go_ret
       exact ⟨ret_bool H3.out.symm,m + nq,by rw [HWR.out,World.drewN_drewN]⟩
     ·have H3:Hid (res = false):=by show _ = _;rw [H2.out,if_neg (HN.out (fun q => e1 (congrArg Prod.fst q)))]
      have n0':(la != ea) = true:=bne_iff_ne.2 e1
      clear HS HN e1
      go_wp2_with fail
      go_quiet (fail)
      go_wp2
      go_ret
      exact ⟨ret_bool H3.out.symm,m + nq,by rw [HWR.out,World.drewN_drewN]⟩
    ·have ek:k = x.done.length:=by omega
     have heq:ls.take x.done.length = x.done:=by
      have:=HTK.out;rw [ek,List.take_length] at this;exact this
     have H3:Hid (res = (decide (ls.length = x.done.length) || decide (x.ns < Tab.when ls x.done.length))):=by show _ = _;rw [H2.out,if_pos heq]
     have znl:¬ (k:Int) < (x.done.length:Int):=by omega
     clear hwr ek heq q3 q5 q8
     by_cases c1:ls.length = x.done.length
     ·have H4:Hid (res = true):=by show _ = _;rw [H3.out,decide_eq_true c1];rfl
      have zz:((ls.length:Int) == (x.done.length:Int)) = true:=by rw [c1];simp
      clear c1
      go_wp2_with fail
      go_quiet (fail)
      go_wp2
      go_ret
      exact ⟨ret_bool H4.out.symm,m + nq,by rw [HWR.out,World.drewN_drewN]⟩
     ·have zz:((ls.length:Int) == (x.done.length:Int)) = false:=by rw [beq_eq_false_iff_ne];omega
      have WH:=hid' (fun mm:Nat => ref_when g cap x.done.length ls.length ls (wr.drewN mm) rfl (by omega) (by rw [HWR.out];exact HL.out) hf (by omega))
      have H4:Hid (res = decide (x.ns < Tab.when ls x.done.length)):=by show _ = _;rw [H3.out,decide_eq_false c1];rfl
      generalize Tab.when ls x.done.length = wn at *
      clear c1
      by_cases c2:x.ns < wn
      ·have H5:Hid (res = true):=by show _ = _;rw [H4.out];exact decide_eq_true c2
       go_wp2_with fail
       go_quiet (first | (go_at_call 111;exact Calls.quiet_of_same (WH.out _)))
       go_wp2
       go_ret
       exact ⟨ret_bool H5.out.symm,m + nq,by rw [HWR.out,World.drewN_drewN]⟩
      ·go_wp2_with fail
       go_quiet (first | (go_at_call 111;exact Calls.quiet_of_same (WH.out _)))
       go_wp2
       go_ret
       exact ⟨ret_bool H4.out.symm,m + nq,by rw [HWR.out,World.drewN_drewN]⟩
end Go.Proofs.YtmmkhodaljpjgaaGreatDoor
namespace Go.Proofs.YtmmkhodaljpjgaaGreatDoor
open Go.RowKit
namespace Txt
end Txt
set_option maxRecDepth 100000 in
theorem ref_number (s:ByteArray) (w:World) (hs:s.size ≤ 1000000000) :
  Calls Tryz.prog 167 #[.string s] w fun e w' => e = .returned (.int .i64 (Txt.number s)) ∧ w' = w:=by
 by_cases h0:s.size = 0
 ·have H:Hid (Txt.number s = -1):=Txt.number_no1 (.inl h0)
  have h0':((s.size:Int) == 0) = true:=by rw [beq_iff_eq];omega
  clear h0
  go_enter Tryz.func167,Tryz.ntmps167
  go_wp2
  go_ret
  exact ⟨ret_int H.out.symm,rfl⟩
 ·have h0':((s.size:Int) == 0) = false:=by rw [beq_eq_false_iff_ne];omega
  by_cases h1:11 < s.size
  ·have H:Hid (Txt.number s = -1):=Txt.number_no1 (.inr h1)
   go_enter Tryz.func167,Tryz.ntmps167
   go_wp2
   go_ret
   exact ⟨ret_int H.out.symm,rfl⟩
  ·go_enter Tryz.func167,Tryz.ntmps167
   go_wp2
   go_loop [3,4] (fun r i => ∃ k:Nat,k ≤ s.size ∧ i = .int .i64 k ∧ r = .int .i64 (Txt.numTo s k) ∧ Txt.Digits s k) (fun _ i => s.size - (intOf i).toNat)
   case atStart => exact ⟨0,by omega,rfl,rfl,fun i hi => by omega⟩
   case round =>
    obtain ⟨k,hk,rfl,rfl,hdg⟩:=hrel
    by_cases hlt:k < s.size
    ·have hbd:=Txt.numTo_bd k hdg
     have hpw:=Txt.pow10_le k (by omega)
     have hby:=Txt.byte_at s k hlt
     have HBY:=hid' hby
     have HDG:=hid' hdg
     have h8:=s[k].toNat_lt
     generalize hN:Txt.numTo s k = v at *
     have HNV:=hid' hN
     clear hdg hby hN
     generalize hP:(10:Int) ^ k = p10 at *
     clear hP
     by_cases c1:s[k].toNat < 48
     ·have H:Hid (Txt.number s = -1):=Txt.number_no2 fun h => by have:=(h k hlt).1;rw [HBY.out] at this;omega
      go_wp2
      go_ret
      exact ⟨ret_int H.out.symm,rfl⟩
     ·by_cases c2:57 < s[k].toNat
      ·have H:Hid (Txt.number s = -1):=Txt.number_no2 fun h => by have:=(h k hlt).2;rw [HBY.out] at this;omega
       go_wp2
       go_ret
       exact ⟨ret_int H.out.symm,rfl⟩
      ·have HS:Hid (Txt.numTo s (k + 1) = 10 * v + ((s[k].toNat:Int) - 48)):=by show _ = _;simp only [Txt.numTo];rw [HNV.out,HBY.out]
       have HD2:Hid (Txt.Digits s (k + 1)):=fun i hi => by
        by_cases e:i = k
        ·subst e;rw [HBY.out];omega
        ·exact HDG.out i (by omega)
       go_wp2
       exact ⟨⟨k + 1,by omega,by go_num,by rw [HS.out],HD2.out⟩,by simp [intOf];omega⟩
    ·have ek:k = s.size:=by omega
     have H:Hid (Txt.number s = Txt.numTo s k):=by show _ = _;rw [ek];exact Txt.number_yes (by omega) (by rw [← ek];exact hdg)
     clear ek hdg
     go_wp2
     go_ret
     exact ⟨ret_int H.out.symm,rfl⟩
namespace Txt
end Txt
set_option maxRecDepth 100000 in
set_option maxHeartbeats 1000000 in
theorem ref_word (s:ByteArray) (w:World) (hs:s.size ≤ 1000000000) :
  Calls Tryz.prog 166 #[.string s] w fun e w' => e = .returned (.string (Txt.word s)) ∧ w' = w:=by
 by_cases h0:s.size = 0
 ·have H:Hid (Txt.word s = ⟨#[]⟩):=Txt.word_no1 (.inl h0)
  have h0':((s.size:Int) == 0) = true:=by rw [beq_iff_eq];omega
  clear h0
  go_enter Tryz.func166,Tryz.ntmps166
  go_wp2
  go_ret
  exact ⟨ret_str H.out.symm,rfl⟩
 ·have h0':((s.size:Int) == 0) = false:=by rw [beq_eq_false_iff_ne];omega
  by_cases h1:8 < s.size
  ·have H:Hid (Txt.word s = ⟨#[]⟩):=Txt.word_no1 (.inr h1)
   go_enter Tryz.func166,Tryz.ntmps166
   go_wp2
   go_ret
   exact ⟨ret_str H.out.symm,rfl⟩
  ·go_enter Tryz.func166,Tryz.ntmps166
   go_wp2
   go_loop [3,4,5] (fun i _ _ => ∃ k:Nat,k ≤ s.size ∧ i = .int .i64 k ∧ Txt.Hexes s k) (fun i _ _ => s.size - (intOf i).toNat)
   case atStart => exact ⟨0,by omega,rfl,fun i hi => by omega⟩
   case round =>
    obtain ⟨k,hk,rfl,hdg⟩:=hrel
    by_cases hlt:k < s.size
    ·have hby:=Txt.byte_at s k hlt
     have HBY:=hid' hby
     have HDG:=hid' hdg
     have h8:=s[k].toNat_lt
     clear hdg hby
     by_cases c:Txt.HexB (s[k].toNat:Int)
     ·have HD2:Hid (Txt.Hexes s (k + 1)):=fun i hi => by
       by_cases e:i = k
       ·subst e;rw [HBY.out];exact c
       ·exact HDG.out i (by omega)
      rcases c with ⟨c1,c2⟩ | ⟨c1,c2⟩
      ·go_wp2
       exact ⟨⟨k + 1,by omega,by go_num,HD2.out⟩,by simp [intOf];omega⟩
      ·go_wp2
       exact ⟨⟨k + 1,by omega,by go_num,HD2.out⟩,by simp [intOf];omega⟩
     ·have H:Hid (Txt.word s = ⟨#[]⟩):=Txt.word_no2 fun h => c (by have:=h k hlt;rw [HBY.out] at this;exact this)
      unfold Txt.HexB at c
      by_cases c1:(s[k].toNat:Int) < 48
      ·clear c
       go_wp2
       go_ret
       exact ⟨ret_str H.out.symm,rfl⟩
      ·by_cases c2:(s[k].toNat:Int) < 97
       ·have c3:decide ((s[k].toNat:Int) ≤ 57) = false:=by simp;omega
        clear c
        go_wp2
        go_ret
        exact ⟨ret_str H.out.symm,rfl⟩
       ·have c3:decide ((s[k].toNat:Int) ≤ 57) = false:=by simp;omega
        have c4:decide ((s[k].toNat:Int) ≤ 102) = false:=by simp;omega
        clear c
        go_wp2
        go_ret
        exact ⟨ret_str H.out.symm,rfl⟩
    ·have ek:k = s.size:=by omega
     have H:Hid (Txt.word s = Txt.noughts.extract s.size 8 ++ s):=Txt.word_yes (by omega) (by rw [← ek];exact hdg)
     clear ek hdg
     go_wp2
     go_ret
     exact ⟨ret_str H.out.symm,rfl⟩
namespace Txt
end Txt
set_option maxRecDepth 100000 in
set_option maxHeartbeats 1000000 in
theorem ref_words (s:ByteArray) (w:World) (hs:s.size ≤ 1000000) :
  Calls Tryz.prog 123 #[.string s] w fun e w' => ∃ v,e = .returned v ∧ w'.ownsRow w.heap.size 9 1 v (Txt.words s).length ((Txt.words s).map Value.string) ∧ Below w.heap.size w w':=by
 obtain ⟨i0,hi0,hz0,hz1,hz2⟩:=info_parts infoString
 go_enter Tryz.func123,Tryz.ntmps123
 go_wp2
 go_loopw [3,4,5] (fun l t i wr => ∃ k:Nat,k ≤ s.size + 1 ∧ i = .int .i64 k ∧ t = .string (Txt.scan s k).2 ∧ wr.ownsRow w.heap.size 9 1 l (Txt.scan s k).1.length ((Txt.scan s k).1.map Value.string) ∧ Below w.heap.size w wr) (fun _ _ i _ => s.size + 1 - (intOf i).toNat)
 case atStart => exact ⟨0,by omega,rfl,rfl,World.ownsRow_nil _ _ _ _,Below.refl _ _⟩
 case round =>
  obtain ⟨k,hk,rfl,rfl,hown,hbw⟩:=hrel
  have hbd:=Txt.scan_bd s k
  by_cases hle:k < s.size + 1
  ·have hsw:=hbw.size
   have OWN:=hid' hown
   have HBW:=hid' hbw
   clear hown hbw
   by_cases hin:Txt.inWord s k
   ·have HSC:Hid (Txt.scan s (k + 1) = ((Txt.scan s k).1,(Txt.scan s k).2 ++ s.extract k (k + 1))):=by show _ = _;rw [Txt.scan,if_pos hin]
    obtain ⟨hlt,n32,n9⟩:=hin
    rw [Txt.byte_at s k hlt] at n32 n9
    have b32:((s[k].toNat:Int) != 32) = true:=bne_iff_ne.2 n32
    have b9:((s[k].toNat:Int) != 9) = true:=bne_iff_ne.2 n9
    have hx:=Txt.size_ext s k hlt
    clear n32 n9
    generalize Txt.scan s k = st at *
    obtain ⟨out,wd⟩:=st
    simp only at hbd OWN HSC
    go_wp2
    go_roundw
    case rel => exact ⟨k + 1,by omega,by go_num,by rw [HSC.out],by rw [HSC.out];exact OWN.out,HBW.out⟩
    case measure => simp [intOf];omega
   ·have hB:k = s.size ∨ (∃ h:k < s.size,(s[k].toNat:Int) = 32) ∨ (∃ h:k < s.size,¬ (s[k].toNat:Int) = 32 ∧ (s[k].toNat:Int) = 9):=by
     by_cases c:k < s.size
     ·by_cases e:(s[k].toNat:Int) = 32
      ·exact .inr (.inl ⟨c,e⟩)
      ·refine .inr (.inr ⟨c,e,?_⟩)
       by_cases e9:(s[k].toNat:Int) = 9
       ·exact e9
       ·exact absurd ⟨c,by rw [Txt.byte_at s k c];exact e,by rw [Txt.byte_at s k c];exact e9⟩ hin
     ·exact .inl (by omega)
    by_cases hwd:(Txt.scan s k).2 = ⟨#[]⟩
    ·have HSC:Hid (Txt.scan s (k + 1) = Txt.scan s k):=by show _ = _;rw [Txt.scan,if_neg hin,if_pos hwd]
     clear hin
     generalize Txt.scan s k = st at *
     obtain ⟨out,wd⟩:=st
     simp only at hbd OWN hwd
     subst hwd
     rcases hB with hE | ⟨hlt,hE⟩ | ⟨hlt,hN,hE⟩
     ·have hE1:¬ (k:Int) < (s.size:Int):=by omega
      have hE2:(k:Int) ≤ (s.size:Int):=by omega
      clear hE
      go_wp2
      go_roundw
      case rel => exact ⟨k + 1,by omega,by go_num,by rw [HSC.out],by rw [HSC.out];exact OWN.out,HBW.out⟩
      case measure => simp [intOf];omega
     ·have q32:((s[k].toNat:Int) != 32) = false:=by rw [bne_eq_false_iff_eq];exact hE
      clear hE
      go_wp2
      go_roundw
      case rel => exact ⟨k + 1,by omega,by go_num,by rw [HSC.out],by rw [HSC.out];exact OWN.out,HBW.out⟩
      case measure => simp [intOf];omega
     ·have q32:((s[k].toNat:Int) != 32) = true:=bne_iff_ne.2 hN
      have q9:((s[k].toNat:Int) != 9) = false:=by rw [bne_eq_false_iff_eq];exact hE
      clear hE hN
      go_wp2
      go_roundw
      case rel => exact ⟨k + 1,by omega,by go_num,by rw [HSC.out],by rw [HSC.out];exact OWN.out,HBW.out⟩
      case measure => simp [intOf];omega
    ·have HSC:Hid (Txt.scan s (k + 1) = ((Txt.scan s k).1 ++ [(Txt.scan s k).2],⟨#[]⟩)):=by show _ = _;rw [Txt.scan,if_neg hin,if_neg hwd]
     clear hin
     generalize Txt.scan s k = st at *
     obtain ⟨out,wd⟩:=st
     simp only at hbd OWN hwd HSC
     have hwe:wd.toList.isEmpty = false:=Txt.not_empty hwd
     clear hwd
     rcases hB with hE | ⟨hlt,hE⟩ | ⟨hlt,hN,hE⟩
     ·have hE1:¬ (k:Int) < (s.size:Int):=by omega
      have hE2:(k:Int) ≤ (s.size:Int):=by omega
      clear hE
      go_wp2_with (first
       | (at_builtin;refine wpList_append_lies _ (by rfl) (.tmp 37) (.tmp 39) 30 (by rfl) w.heap.size 9 i0 (.string ByteArray.empty) 1 16 Tryz.underlying30 hi0 hz0 hz1 hz2 rfl (by decide) u3 out.length (out.map Value.string) (by rfl) (OWN.out.alloc _) ⟨wr.heap.size,0,none⟩ 1 1 [.string wd] (by rfl) (by rfl) (World.news_of_block (cs:=#[.string wd]) (heap_alloc_new wr _)) (by simp [Value.oneCell']) (by decide) (by unfold maxLen;omega) (by omega) (by simp;omega) (wr.heap.size + 1) (by simp) ?_;intro g3 cap3 w3 own3 hg3 _ hlt3;have HB3:=hid' ((HBW.out.alloc hsw _).grown hg3 (by simp;omega) (own_ge OWN.out));have OWN3:=hid' own3;clear own3 hg3))
      go_roundw
      case rel => exact ⟨k + 1,by omega,by go_num,by rw [HSC.out],by rw [HSC.out];simpa using OWN3.out,HB3.out⟩
      case measure => simp [intOf];omega
     ·have q32:((s[k].toNat:Int) != 32) = false:=by rw [bne_eq_false_iff_eq];exact hE
      clear hE
      go_wp2_with (first
       | (at_builtin;refine wpList_append_lies _ (by rfl) (.tmp 37) (.tmp 39) 30 (by rfl) w.heap.size 9 i0 (.string ByteArray.empty) 1 16 Tryz.underlying30 hi0 hz0 hz1 hz2 rfl (by decide) u3 out.length (out.map Value.string) (by rfl) (OWN.out.alloc _) ⟨wr.heap.size,0,none⟩ 1 1 [.string wd] (by rfl) (by rfl) (World.news_of_block (cs:=#[.string wd]) (heap_alloc_new wr _)) (by simp [Value.oneCell']) (by decide) (by unfold maxLen;omega) (by omega) (by simp;omega) (wr.heap.size + 1) (by simp) ?_;intro g3 cap3 w3 own3 hg3 _ hlt3;have HB3:=hid' ((HBW.out.alloc hsw _).grown hg3 (by simp;omega) (own_ge OWN.out));have OWN3:=hid' own3;clear own3 hg3))
      go_roundw
      case rel => exact ⟨k + 1,by omega,by go_num,by rw [HSC.out],by rw [HSC.out];simpa using OWN3.out,HB3.out⟩
      case measure => simp [intOf];omega
     ·have q32:((s[k].toNat:Int) != 32) = true:=bne_iff_ne.2 hN
      have q9:((s[k].toNat:Int) != 9) = false:=by rw [bne_eq_false_iff_eq];exact hE
      clear hE hN
      go_wp2_with (first
       | (at_builtin;refine wpList_append_lies _ (by rfl) (.tmp 37) (.tmp 39) 30 (by rfl) w.heap.size 9 i0 (.string ByteArray.empty) 1 16 Tryz.underlying30 hi0 hz0 hz1 hz2 rfl (by decide) u3 out.length (out.map Value.string) (by rfl) (OWN.out.alloc _) ⟨wr.heap.size,0,none⟩ 1 1 [.string wd] (by rfl) (by rfl) (World.news_of_block (cs:=#[.string wd]) (heap_alloc_new wr _)) (by simp [Value.oneCell']) (by decide) (by unfold maxLen;omega) (by omega) (by simp;omega) (wr.heap.size + 1) (by simp) ?_;intro g3 cap3 w3 own3 hg3 _ hlt3;have HB3:=hid' ((HBW.out.alloc hsw _).grown hg3 (by simp;omega) (own_ge OWN.out));have OWN3:=hid' own3;clear own3 hg3))
      go_roundw
      case rel => exact ⟨k + 1,by omega,by go_num,by rw [HSC.out],by rw [HSC.out];simpa using OWN3.out,HB3.out⟩
      case measure => simp [intOf];omega
  ·have ek:k = s.size + 1:=by omega
   have HW:Hid ((Txt.scan s k).1 = Txt.words s):=by show _ = _;rw [ek];rfl
   have hnk:¬ (k:Int) ≤ (s.size:Int):=by omega
   rw [HW.out] at hown
   have OWN:=hid' hown
   have HBW:=hid' hbw
   clear ek hown hbw
   go_wp2
   go_ret
   exact ⟨_,rfl,OWN.out,HBW.out⟩
def has (u:ByteArray):Bool:=decide (u ≠ Txt.em)
def joinTo (ws:List ByteArray):Nat → ByteArray
 | 0 => Txt.em
 | k + 1 => joinTo ws k ++ ws.getD k Txt.em
def Rf (w:World) (bF:Nat) (st:Txt.St):Prop:=∃ (lv wv:Value) (full:List ByteArray),
 w.heap[bF]? = some (.cells #[.int .i64 (Txt.numTo st.u st.u.size),.int .i64 (Txt.numTo st.x st.x.size),lv,.string st.dg,.bool (has st.u),.bool (has st.x),.bool (has st.h),wv] 143 (0,0)) ∧
 w.ownsRow (bF + 1) 46 2 lv st.ls.length (flat st.ls) ∧ w.ownsRow (bF + 1) 9 1 wv full.length (full.map Value.string) ∧ (st.h ≠ Txt.em → full.length = 5 ∧ joinTo full 5 = st.h)
theorem own_away {w:World} {B e size n g cap b:Nat} {xs:List Value} {t:TypeId} {cs:Array Value} {fr:Nat × Nat} (h:w.ownsRow B e size (.slice (some ⟨g,0,none⟩) n cap) n xs) (hb:w.heap[b]? = some (.cells cs t fr)) (hne:t ≠ e):¬ g = b:=fun q => by
 rcases h.2 with ⟨h,_⟩ | ⟨g',cap',cur,h,_,hh,_⟩
 ·cases h
 ·cases h;subst q;rw [hh] at hb;simp at hb;exact hne hb.2.1.symm
theorem has_no {u:ByteArray} (h:u = Txt.em):has u = false:=by unfold has;simp [h]
theorem has_yes {u:ByteArray} (h:¬ u = Txt.em):has u = true:=by unfold has;simp [h]
theorem num_em {s:ByteArray} (h:Txt.isNum s = true):¬ s = Txt.em:=fun e => by
 have:=(Txt.isNum_is h).1
 rw [e] at this
 exact this (.inl rfl)
set_option maxRecDepth 100000 in
set_option maxHeartbeats 1600000 in
theorem ref_special_u (bF:Nat) (st:Txt.St) (v:Value) (ws:List ByteArray) (w:World) (n:Nat) (hR:Rf w bF st) (hO:Txt.Ok st n) (hn:n ≤ 100000) (hW:Ws w v ws) :
  Calls Tryz.prog 124 #[.pointer (some ⟨bF,0,none⟩),.int .u8 36,v] w fun e w' => e = .returned (.int .i64 (Txt.takeU st ws).1) ∧ ((Txt.takeU st ws).1 = 0 → Rf w' bF (Txt.takeU st ws).2) ∧ Below bF w w':=by
 obtain ⟨lv,wv,full,hrow,hown,hwv,hfull⟩:=hR
 have H:Hid ((Txt.takeU st ws).1 = Txt.once ws st.u):=rfl
 have HS:Hid ((Txt.takeU st ws).2 = { st with u:=ws.getD 0 Txt.em,dg:=st.dg ++ ws.getD 0 Txt.em }):=rfl
 have hlen:=hW.len
 have hdg:=hO.dg
 by_cases h1:ws.length = 1
 ·obtain ⟨Bw,hwo⟩:=hW.own
  obtain ⟨g,cap,rfl,hgl,hc⟩:=hW.at' (by omega)
  have hne:=own_away hwo hrow (by decide)
  have hne':¬ bF = g:=fun q => hne q.symm
  have c0:=hc 0 (by omega)
  have hsz:=hW.sz 0
  have HN:=hid' (ref_number (ws.getD 0 Txt.em) w (by omega))
  rw [h1]
  clear hc hwo
  cases hx:Txt.isNum (ws.getD 0 Txt.em) with
  | false =>
   have hE:Txt.once ws st.u = 3:=by unfold Txt.once;rw [if_neg (by omega),if_pos hx]
   rw [hE] at H
   rw [Txt.number_neg hx] at HN
   clear hx hE h1 hW hO hrow hown hwv hfull
   generalize ws.getD 0 Txt.em = s0 at *
   go_enter Tryz.func124,Tryz.ntmps124
   go_wp2_with (go_at_call 167;refine HN.out.mono ?_;rintro e w' ⟨rfl,rfl⟩)
   go_ret
   exact ⟨ret_int H.out.symm,no_err H.out (by decide),Below.refl _ _⟩
  | true =>
   rw [Txt.number_of hx] at HN
   have hv:=Txt.numTo_le hx
   have h11:=Txt.size_num hx
   have HNE:=hid' (num_em hx)
   have q4:=cell_of_row _ _ 4 _ _ _ hrow
   have q3:=cell_of_row _ _ 3 _ _ _ hrow
   have q0:=cell_of_row _ _ 0 _ _ _ hrow
   simp at q4 q3 q0
   have z4:=frozen_of_row _ _ 4 _ _ hrow
   have z3:=frozen_of_row _ _ 3 _ _ hrow
   have z0:=frozen_of_row _ _ 0 _ _ hrow
   by_cases hb:st.u = Txt.em
   ·have hE:Txt.once ws st.u = 0:=by unfold Txt.once;rw [if_neg (by omega),if_neg (by rw [hx];decide),if_neg (by simpa using hb)]
    rw [hE] at H
    rw [has_no hb] at q4
    have HROW:=hid' hrow
    have HOWN:=hid' hown
    have HWV:=hid' hwv
    have HF:=hid' hfull
    clear hx hE h1 hW hO hrow hown hwv hfull hb
    generalize ws.getD 0 Txt.em = s0 at *
    generalize hnu:Txt.numTo s0 s0.size = nu at *
    have HNU:=hid' hnu
    clear hnu
    go_enter Tryz.func124,Tryz.ntmps124
    go_wp2_with (go_at_call 167;refine HN.out.mono ?_;rintro e w' ⟨rfl,rfl⟩)
    go_region
    all_goals
     go_wp2
     go_ret
     refine ⟨ret_int H.out.symm,fun _ => ?_,((((Below.refl bF _).setCell (p:=⟨bF,4,none⟩) (Nat.le_refl _) _).setCell (p:=⟨bF,0,none⟩) (Nat.le_refl _) _).setCell (p:=⟨bF,3,none⟩) (Nat.le_refl _) _).drew⟩
     rw [HS.out]
     have e1:=heap_setCell_same _ bF 4 _ _ (.bool true) HROW.out
     have e2:=heap_setCell_same _ bF 0 _ _ (.int .i64 nu) e1
     have e3:=heap_setCell_same _ bF 3 _ _ (.string (st.dg ++ s0)) e2
     refine ⟨lv,wv,full,?_,own_set (p:=⟨bF,3,none⟩) (own_set (p:=⟨bF,0,none⟩) (own_set (p:=⟨bF,4,none⟩) HOWN.out HROW.out (by decide) _) e1 (by decide) _) e2 (by decide) _,own_set (p:=⟨bF,3,none⟩) (own_set (p:=⟨bF,0,none⟩) (own_set (p:=⟨bF,4,none⟩) HWV.out HROW.out (by decide) _) e1 (by decide) _) e2 (by decide) _,HF.out⟩
     show _ = some (Obj.cells #[.int .i64 (Txt.numTo s0 s0.size),.int .i64 (Txt.numTo st.x st.x.size),lv,.string (st.dg ++ s0),.bool (has s0),.bool (has st.x),.bool (has st.h),wv] 143 (0,0))
     rw [HNU.out,has_yes HNE.out]
     refine Eq.trans (by rfl) (Eq.trans e3 ?_)
     simp
   ·have hE:Txt.once ws st.u = 4:=by unfold Txt.once;rw [if_neg (by omega),if_neg (by rw [hx];decide),if_pos hb]
    rw [hE] at H
    rw [has_yes hb] at q4
    clear hx hE h1 hW hO hrow hown hwv hfull hb
    generalize ws.getD 0 Txt.em = s0 at *
    generalize Txt.numTo s0 s0.size = nu at *
    go_enter Tryz.func124,Tryz.ntmps124
    go_wp2_with (go_at_call 167;refine HN.out.mono ?_;rintro e w' ⟨rfl,rfl⟩)
    go_ret
    exact ⟨ret_int H.out.symm,no_err H.out (by decide),Below.refl _ _⟩
 ·have hE:Txt.once ws st.u = 3:=by unfold Txt.once;rw [if_pos h1]
  rw [hE] at H
  obtain ⟨ao,cap,rfl⟩:=hW.form
  have h1':((ws.length:Int) != 1) = true:=bne_iff_ne.2 (by omega)
  clear h1 hW hE hO hrow hown hwv hfull
  go_enter Tryz.func124,Tryz.ntmps124
  go_wp2
  go_ret
  exact ⟨ret_int H.out.symm,no_err H.out (by decide),Below.refl _ _⟩
set_option maxRecDepth 100000 in
set_option maxHeartbeats 1600000 in
theorem ref_special_x (bF:Nat) (st:Txt.St) (v:Value) (ws:List ByteArray) (w:World) (n:Nat) (hR:Rf w bF st) (hO:Txt.Ok st n) (hn:n ≤ 100000) (hW:Ws w v ws) :
  Calls Tryz.prog 124 #[.pointer (some ⟨bF,0,none⟩),.int .u8 64,v] w fun e w' => e = .returned (.int .i64 (Txt.takeX st ws).1) ∧ ((Txt.takeX st ws).1 = 0 → Rf w' bF (Txt.takeX st ws).2) ∧ Below bF w w':=by
 obtain ⟨lv,wv,full,hrow,hown,hwv,hfull⟩:=hR
 have H:Hid ((Txt.takeX st ws).1 = Txt.once ws st.x):=rfl
 have HS:Hid ((Txt.takeX st ws).2 = { st with x:=ws.getD 0 Txt.em,dg:=st.dg ++ ws.getD 0 Txt.em }):=rfl
 have hlen:=hW.len
 have hdg:=hO.dg
 by_cases h1:ws.length = 1
 ·obtain ⟨Bw,hwo⟩:=hW.own
  obtain ⟨g,cap,rfl,hgl,hc⟩:=hW.at' (by omega)
  have hne:=own_away hwo hrow (by decide)
  have hne':¬ bF = g:=fun q => hne q.symm
  have c0:=hc 0 (by omega)
  have hsz:=hW.sz 0
  have HN:=hid' (ref_number (ws.getD 0 Txt.em) w (by omega))
  rw [h1]
  clear hc hwo
  cases hx:Txt.isNum (ws.getD 0 Txt.em) with
  | false =>
   have hE:Txt.once ws st.x = 3:=by unfold Txt.once;rw [if_neg (by omega),if_pos hx]
   rw [hE] at H
   rw [Txt.number_neg hx] at HN
   clear hx hE h1 hW hO hrow hown hwv hfull
   generalize ws.getD 0 Txt.em = s0 at *
   go_enter Tryz.func124,Tryz.ntmps124
   go_wp2_with (go_at_call 167;refine HN.out.mono ?_;rintro e w' ⟨rfl,rfl⟩)
   go_ret
   exact ⟨ret_int H.out.symm,no_err H.out (by decide),Below.refl _ _⟩
  | true =>
   rw [Txt.number_of hx] at HN
   have hv:=Txt.numTo_le hx
   have h11:=Txt.size_num hx
   have HNE:=hid' (num_em hx)
   have q4:=cell_of_row _ _ 5 _ _ _ hrow
   have q3:=cell_of_row _ _ 3 _ _ _ hrow
   have q0:=cell_of_row _ _ 1 _ _ _ hrow
   simp at q4 q3 q0
   have z4:=frozen_of_row _ _ 5 _ _ hrow
   have z3:=frozen_of_row _ _ 3 _ _ hrow
   have z0:=frozen_of_row _ _ 1 _ _ hrow
   by_cases hb:st.x = Txt.em
   ·have hE:Txt.once ws st.x = 0:=by unfold Txt.once;rw [if_neg (by omega),if_neg (by rw [hx];decide),if_neg (by simpa using hb)]
    rw [hE] at H
    rw [has_no hb] at q4
    have HROW:=hid' hrow
    have HOWN:=hid' hown
    have HWV:=hid' hwv
    have HF:=hid' hfull
    clear hx hE h1 hW hO hrow hown hwv hfull hb
    generalize ws.getD 0 Txt.em = s0 at *
    generalize hnu:Txt.numTo s0 s0.size = nu at *
    have HNU:=hid' hnu
    clear hnu
    go_enter Tryz.func124,Tryz.ntmps124
    go_wp2_with (go_at_call 167;refine HN.out.mono ?_;rintro e w' ⟨rfl,rfl⟩)
    go_region
    all_goals
     go_wp2
     go_ret
     refine ⟨ret_int H.out.symm,fun _ => ?_,((((Below.refl bF _).setCell (p:=⟨bF,5,none⟩) (Nat.le_refl _) _).setCell (p:=⟨bF,1,none⟩) (Nat.le_refl _) _).setCell (p:=⟨bF,3,none⟩) (Nat.le_refl _) _).drew⟩
     rw [HS.out]
     have e1:=heap_setCell_same _ bF 5 _ _ (.bool true) HROW.out
     have e2:=heap_setCell_same _ bF 1 _ _ (.int .i64 nu) e1
     have e3:=heap_setCell_same _ bF 3 _ _ (.string (st.dg ++ s0)) e2
     refine ⟨lv,wv,full,?_,own_set (p:=⟨bF,3,none⟩) (own_set (p:=⟨bF,1,none⟩) (own_set (p:=⟨bF,5,none⟩) HOWN.out HROW.out (by decide) _) e1 (by decide) _) e2 (by decide) _,own_set (p:=⟨bF,3,none⟩) (own_set (p:=⟨bF,1,none⟩) (own_set (p:=⟨bF,5,none⟩) HWV.out HROW.out (by decide) _) e1 (by decide) _) e2 (by decide) _,HF.out⟩
     show _ = some (Obj.cells #[.int .i64 (Txt.numTo st.u st.u.size),.int .i64 (Txt.numTo s0 s0.size),lv,.string (st.dg ++ s0),.bool (has st.u),.bool (has s0),.bool (has st.h),wv] 143 (0,0))
     rw [HNU.out,has_yes HNE.out]
     refine Eq.trans (by rfl) (Eq.trans e3 ?_)
     simp
   ·have hE:Txt.once ws st.x = 4:=by unfold Txt.once;rw [if_neg (by omega),if_neg (by rw [hx];decide),if_pos hb]
    rw [hE] at H
    rw [has_yes hb] at q4
    clear hx hE h1 hW hO hrow hown hwv hfull hb
    generalize ws.getD 0 Txt.em = s0 at *
    generalize Txt.numTo s0 s0.size = nu at *
    go_enter Tryz.func124,Tryz.ntmps124
    go_wp2_with (go_at_call 167;refine HN.out.mono ?_;rintro e w' ⟨rfl,rfl⟩)
    go_ret
    exact ⟨ret_int H.out.symm,no_err H.out (by decide),Below.refl _ _⟩
 ·have hE:Txt.once ws st.x = 3:=by unfold Txt.once;rw [if_pos h1]
  rw [hE] at H
  obtain ⟨ao,cap,rfl⟩:=hW.form
  have h1':((ws.length:Int) != 1) = true:=bne_iff_ne.2 (by omega)
  clear h1 hW hE hO hrow hown hwv hfull
  go_enter Tryz.func124,Tryz.ntmps124
  go_wp2
  go_ret
  exact ⟨ret_int H.out.symm,no_err H.out (by decide),Below.refl _ _⟩
def fulls (ws:List ByteArray) (k:Nat):List ByteArray:=(ws.take k).map Txt.word
theorem fulls_succ (ws:List ByteArray) (k:Nat) (h:k < ws.length):fulls ws (k + 1) = fulls ws k ++ [Txt.word (ws.getD k Txt.em)]:=by
 unfold fulls
 rw [List.take_succ_eq_append_getElem h,List.map_append,List.getD_eq_getElem?_getD,List.getElem?_eq_getElem h]
 rfl
theorem fulls_len (ws:List ByteArray) (k:Nat) (h:k ≤ ws.length):(fulls ws k).length = k:=by unfold fulls;simp;omega
theorem join_fulls (ws:List ByteArray) (n:Nat) (hn:n ≤ ws.length) (k:Nat) (h:k ≤ n):joinTo (fulls ws n) k = Txt.hexTo ws k:=by
 induction k with
 | zero => rfl
 | succ k ih =>
  rw [joinTo,Txt.hexTo,ih (by omega)]
  congr 1
  unfold fulls
  rw [List.getD_eq_getElem?_getD,List.getElem?_map,List.getElem?_take_of_lt (by omega),List.getD_eq_getElem?_getD,List.getElem?_eq_getElem (by omega)]
  rfl
theorem word_em {s:ByteArray} (h:Txt.isHex s = true):¬ Txt.word s = Txt.em:=fun e => by
 have h8:=(Txt.isHex_is h).1
 rw [Txt.word_of h] at e
 have:(Txt.noughts.extract s.size 8 ++ s).size = 0:=by rw [e];rfl
 rw [ByteArray.size_append] at this
 omega
theorem hexTo_em (ws:List ByteArray) (h:Txt.isHex (ws.getD 4 Txt.em) = true):¬ Txt.hexTo ws 5 = Txt.em:=fun e => by
 have h1:(Txt.hexTo ws 5).size = 0:=by rw [e];rfl
 rw [Txt.hexTo,ByteArray.size_append] at h1
 apply word_em h
 have h2:(Txt.word (ws.getD 4 Txt.em)).size = 0:=by omega
 generalize Txt.word (ws.getD 4 Txt.em) = x at *
 obtain ⟨d⟩:=x
 have:d = #[]:=by apply Array.eq_empty_of_size_eq_zero;exact h2
 subst this;rfl
theorem own_mono' {w:World} {B B' e size n:Nat} {v:Value} {xs:List Value} (h:w.ownsRow B e size v n xs) (hb:B' ≤ B):w.ownsRow B' e size v n xs:=by
 refine ⟨h.1,?_⟩
 rcases h.2 with h | ⟨g,cap,cur,rfl,a,r⟩
 ·exact .inl h
 ·exact .inr ⟨g,cap,cur,rfl,by omega,r⟩
set_option maxRecDepth 100000 in
set_option maxHeartbeats 1600000 in
theorem ref_special_h (bF:Nat) (st:Txt.St) (v:Value) (ws:List ByteArray) (w:World) (hR:Rf w bF st) (hW:Ws w v ws) :
  Calls Tryz.prog 124 #[.pointer (some ⟨bF,0,none⟩),.int .u8 104,v] w fun e w' => e = .returned (.int .i64 (Txt.takeH st ws).1) ∧ ((Txt.takeH st ws).1 = 0 → Rf w' bF (Txt.takeH st ws).2) ∧ Below bF w w':=by
 obtain ⟨i0,hi0,hz0,hz1,hz2⟩:=info_parts infoStr
 obtain ⟨lv,wv,full,hrow,hown,hwv,hfull⟩:=hR
 have H:Hid ((Txt.takeH st ws).1 = Txt.hashErr ws st.h):=rfl
 have HS:Hid ((Txt.takeH st ws).2 = { st with h:=Txt.hexTo ws 5 }):=rfl
 have hlen:=hW.len
 have hbF:=lt_of_heap hrow
 by_cases h5:ws.length = 5
 ·obtain ⟨Bw,hwo⟩:=hW.own
  obtain ⟨g,cap,rfl,hgl,hc⟩:=hW.at' (by omega)
  have HSZ:=hid' hW.sz
  rw [h5] at hc ⊢
  have HC:=hid' hc
  have HROW:=hid' hrow
  have HOWN:=hid' hown
  clear hc hW hrow hown hwv hfull hwo hlen
  go_enter Tryz.func124,Tryz.ntmps124
  go_wp2
  go_loopw [7,8,9] (fun l i _ wr => ∃ k:Nat,k ≤ 5 ∧ i = .int .i64 k ∧ Txt.Hexed ws k ∧ wr.ownsRow w.heap.size 9 1 l k ((fulls ws k).map Value.string) ∧ Below w.heap.size w wr) (fun _ i _ _ => 5 - (intOf i).toNat)
  case atStart => exact ⟨0,by omega,rfl,fun i hi => by omega,World.ownsRow_nil _ _ _ _,Below.refl _ _⟩
  case round =>
   obtain ⟨k,hk,rfl,hhex,hol,hbw⟩:=hrel
   have HHX:=hid' hhex
   have OL:=hid' hol
   have HBW:=hid' hbw
   have hsw:=hbw.size
   clear hhex hol hbw
   by_cases hlt:k < 5
   ·have ck:=(HBW.out.cell (p:=⟨g,k,none⟩) hgl).trans (HC.out k hlt)
    have hsz:=HSZ.out k
    have HW:=hid' (ref_word (ws.getD k Txt.em) wr (by omega))
    cases hx:Txt.isHex (ws.getD k Txt.em) with
    | false =>
     have hE:Txt.hashErr ws st.h = 3:=by
      unfold Txt.hashErr
      rw [if_neg (by omega),if_pos (Txt.hexedB_no (fun h => by have:=h k hlt;rw [hx] at this;cases this))]
     rw [hE] at H
     rw [Txt.word_none hx] at HW
     clear hx hE
     generalize ws.getD k Txt.em = sk at *
     go_wp2_with (go_at_call 166;refine HW.out.mono ?_;rintro e w' ⟨rfl,rfl⟩)
     go_ret
     exact ⟨ret_int H.out.symm,no_err H.out (by decide),HBW.out.mono (by omega)⟩
    | true =>
     have hwe:=em_test (word_em hx)
     have HF:=hid' (fulls_succ ws k (by omega))
     have HH2:Hid (Txt.Hexed ws (k + 1)):=fun i hi => by
      by_cases e:i = k
      ·subst e;exact hx
      ·exact HHX.out i (by omega)
     clear hx
     generalize ws.getD k Txt.em = sk at *
     generalize Txt.word sk = wk at *
     go_wp2_with (first
      | (go_at_call 166;refine HW.out.mono ?_;rintro e w1 ⟨rfl,rfl⟩)
      | (at_builtin;refine wpList_append_lies _ (by rfl) (.tmp 27) (.tmp 29) 30 (by rfl) w.heap.size 9 i0 (.string ByteArray.empty) 1 16 Tryz.underlying30 hi0 hz0 hz1 hz2 rfl (by decide) u7 k ((fulls ws k).map Value.string) (by rfl) (OL.out.alloc _) ⟨w1.heap.size,0,none⟩ 1 1 [.string wk] (by rfl) (by rfl) (World.news_of_block (cs:=#[.string wk]) (heap_alloc_new w1 _)) (by simp [Value.oneCell']) (by decide) (by unfold maxLen;omega) (by omega) (by simp;omega) (w1.heap.size + 1) (by simp) ?_;intro g3 cap3 w3 own3 hg3 _ hlt3;have HB3:=hid' ((HBW.out.alloc hsw _).grown hg3 (by simp;omega) (own_ge OL.out));have OWN3:=hid' own3;clear own3 hg3))
     go_roundw
     case rel => exact ⟨k + 1,by omega,by go_num,HH2.out,by rw [HF.out];simpa using OWN3.out,HB3.out⟩
     case measure => simp [intOf];omega
   ·have ek:k = 5:=by omega
    have hD:¬ (Txt.hexedB ws 5 = false):=by
     rw [(Txt.hexedB_iff ws 5).2 (by rw [← ek];exact HHX.out)];decide
    have row:=(HBW.out.block _ hbF).trans HROW.out
    have q6:=cell_of_row _ _ 6 _ _ _ row
    have q7:=cell_of_row _ _ 7 _ _ _ row
    simp at q6 q7
    have z6:=frozen_of_row _ _ 6 _ _ row
    have z7:=frozen_of_row _ _ 7 _ _ row
    by_cases hb:st.h = Txt.em
    ·have hE:Txt.hashErr ws st.h = 0:=by unfold Txt.hashErr;rw [if_neg (by omega),if_neg hD,if_neg (by simpa using hb)]
     rw [hE] at H
     rw [has_no hb] at q6
     have HHE:=hid' (hexTo_em ws (HHX.out 4 (by omega)))
     have HJ:=hid' (join_fulls ws 5 (by omega) 5 (by omega))
     have HFL:=hid' (fulls_len ws 5 (by omega))
     have OW:=hid' (own_down HOWN.out HBW.out)
     have ROW:=hid' row
     rw [ek] at OL
     clear hE hD row hb ek
     obtain ⟨g5,cap5,hu7⟩:=own_some OL.out (by omega)
     subst hu7
     go_wp2
     go_ret
     refine ⟨ret_int H.out.symm,fun _ => ?_,((show Below bF w wr from HBW.out.mono (by omega)).setCell (p:=⟨bF,6,none⟩) (Nat.le_refl _) _).setCell (p:=⟨bF,7,none⟩) (Nat.le_refl _) _⟩
     rw [HS.out]
     have e1:=heap_setCell_same _ bF 6 _ _ (.bool true) ROW.out
     have e2:=heap_setCell_same _ bF 7 _ _ (.slice (some ⟨g5,0,none⟩) 5 cap5) e1
     refine ⟨lv,.slice (some ⟨g5,0,none⟩) 5 cap5,fulls ws 5,?_,own_set (p:=⟨bF,7,none⟩) (own_set (p:=⟨bF,6,none⟩) OW.out ROW.out (by decide) _) e1 (by decide) _,?_,fun _ => ⟨HFL.out,HJ.out⟩⟩
     ·show _ = some (Obj.cells #[.int .i64 (Txt.numTo st.u st.u.size),.int .i64 (Txt.numTo st.x st.x.size),lv,.string st.dg,.bool (has st.u),.bool (has st.x),.bool (has (Txt.hexTo ws 5)),.slice (some ⟨g5,0,none⟩) 5 cap5] 143 (0,0))
      rw [has_yes HHE.out]
      refine Eq.trans (by rfl) (Eq.trans e2 ?_)
      simp
     ·rw [HFL.out]
      exact own_set (p:=⟨bF,7,none⟩) (own_set (p:=⟨bF,6,none⟩) (own_mono' OL.out (by omega)) ROW.out (by decide) _) e1 (by decide) _
    ·have hE:Txt.hashErr ws st.h = 4:=by unfold Txt.hashErr;rw [if_neg (by omega),if_neg hD,if_pos hb]
     rw [hE] at H
     rw [has_yes hb] at q6
     clear hE hD ek hb
     go_wp2
     go_ret
     exact ⟨ret_int H.out.symm,no_err H.out (by decide),HBW.out.mono (by omega)⟩
 ·have hE:Txt.hashErr ws st.h = 3:=by unfold Txt.hashErr;rw [if_pos h5]
  rw [hE] at H
  obtain ⟨ao,cap,rfl⟩:=hW.form
  have h5':((ws.length:Int) != 5) = true:=bne_iff_ne.2 (by omega)
  clear h5 hW hE hrow hown hwv hfull
  go_enter Tryz.func124,Tryz.ntmps124
  go_wp2
  go_ret
  exact ⟨ret_int H.out.symm,no_err H.out (by decide),Below.refl _ _⟩
namespace Txt
theorem ext_list (s:ByteArray) (n:Nat):(s.extract 0 n).data.toList = s.data.toList.take n:=by
 rw [ByteArray.data_extract]
 simp
theorem beg_iff (s p:ByteArray):beg s p = true ↔ p.size ≤ s.size ∧ ∀ i,i < p.size → byte s i = byte p i:=by
 have hsz:∀ b:ByteArray,b.size = b.data.toList.length:=fun b => by obtain ⟨d⟩:=b;show d.size = d.toList.length;rw [Array.length_toList]
 have hb:∀ (b:ByteArray) i (h:i < b.data.toList.length),byte b i = ((b.data.toList[i]).toNat:Int):=fun b i h => by
  unfold byte;rw [List.getD_eq_getElem?_getD,List.getElem?_eq_getElem h];rfl
 unfold beg
 rw [decide_eq_true_iff]
 constructor
 ·rintro ⟨h,e⟩
  refine ⟨h,fun i hi => ?_⟩
  have e2:p.data.toList = s.data.toList.take p.size:=by rw [← ext_list,e]
  rw [hb s i (by rw [← hsz];omega),hb p i (by rw [← hsz];exact hi)]
  congr 2
  have:p.data.toList[i]'(by rw [← hsz];exact hi) = (s.data.toList.take p.size)[i]'(by rw [← e2,← hsz];exact hi):=by congr 1
  rw [this,List.getElem_take]
 ·rintro ⟨h,e⟩
  refine ⟨h,ByteArray.ext (Array.toList_inj.mp ?_)⟩
  rw [ext_list]
  apply List.ext_getElem
  ·rw [List.length_take,← hsz,← hsz];omega
  ·intro i h1 h2
   rw [List.getElem_take]
   have hi:i < p.size:=by rw [hsz];exact h2
   have:=e i hi
   rw [hb s i (by rw [← hsz];omega),hb p i h2] at this
   have h3:(s.data.toList[i]'(by rw [← hsz];omega)).toNat = (p.data.toList[i]).toNat:=by omega
   exact UInt8.toNat_inj.mp h3
theorem beg_one (s:ByteArray):beg s ⟨#[35]⟩ = true ↔ 1 ≤ s.size ∧ byte s 0 = 35:=by
 rw [beg_iff]
 constructor
 ·rintro ⟨h,e⟩;exact ⟨h,e 0 (by decide)⟩
 ·rintro ⟨h,e⟩
  refine ⟨h,fun i hi => ?_⟩
  have:i = 0:=by have:(ByteArray.mk #[35]).size = 1:=rfl;omega
  subst this;exact e
theorem beg_two (s:ByteArray) (a b:UInt8):beg s ⟨#[a,b]⟩ = true ↔ 2 ≤ s.size ∧ byte s 0 = (a.toNat:Int) ∧ byte s 1 = (b.toNat:Int):=by
 rw [beg_iff]
 constructor
 ·rintro ⟨h,e⟩;exact ⟨h,e 0 (by show 0 < 2;omega),e 1 (by show 1 < 2;omega)⟩
 ·rintro ⟨h,e,e'⟩
  refine ⟨h,fun i hi => ?_⟩
  have:i = 0 ∨ i = 1:=by have:(ByteArray.mk #[a,b]).size = 2:=rfl;omega
  rcases this with rfl | rfl
  ·exact e
  ·exact e'
theorem scan_ne (s:ByteArray) (k:Nat):∀ t ∈ (scan s k).1,¬ t = em:=by
 induction k with
 | zero => intro t h;simp [scan] at h
 | succ k ih =>
  intro t h
  by_cases c:inWord s k
  ·rw [scan_word c] at h;exact ih t h
  ·by_cases e:(scan s k).2 = ⟨#[]⟩
   ·rw [scan_gap c e] at h;exact ih t h
   ·rw [scan_end c e] at h
    rcases List.mem_append.1 h with h | h
    ·exact ih t h
    ·simp at h;subst h;exact e
theorem size_pos {s:ByteArray} (h:¬ s = em):0 < s.size:=by
 by_cases c:s.size = 0
 ·exfalso;apply h
  obtain ⟨d⟩:=s
  have:d = #[]:=by apply Array.eq_empty_of_size_eq_zero;exact c
  subst this;rfl
 ·omega
theorem words_pos (s:ByteArray) (i:Nat) (h:i < (words s).length):0 < ((words s).getD i em).size:=by
 rw [List.getD_eq_getElem?_getD,List.getElem?_eq_getElem h]
 exact size_pos (scan_ne s (s.size + 1) _ (List.getElem_mem h))
end Txt
set_option maxRecDepth 100000 in
set_option maxHeartbeats 1000000 in
theorem ref_entry_text (bF:Nat) (st:Txt.St) (v:Value) (ws:List ByteArray) (w:World) (hW:Ws w v ws) (h0:¬ ws.length = 0) (hpos:∀ i,i < ws.length → 0 < (ws.getD i Txt.em).size)
  (h:ws.length < 2 ∨ Txt.isNum (ws.getD 0 Txt.em) = false ∨ Txt.isNum (ws.getD 1 Txt.em) = false ∨ (2 < ws.length ∧ Txt.beg (ws.getD 2 Txt.em) ⟨#[35]⟩ = false)) :
  Calls Tryz.prog 125 #[.pointer (some ⟨bF,0,none⟩),v] w fun e w' => e = .returned (.int .i64 (Txt.takeE st ws).1) ∧ ((Txt.takeE st ws).1 = 0 → Rf w' bF (Txt.takeE st ws).2) ∧ Below bF w w':=by
 have hlen:=hW.len
 have H:Hid ((Txt.takeE st ws).1 = 3):=entry_text h0 h
 obtain ⟨g,cap,rfl,hgl,hc⟩:=hW.at' (by omega)
 by_cases h2:ws.length < 2
 ·clear h h0 hc hW hpos
  go_enter Tryz.func125,Tryz.ntmps125
  go_wp2
  go_ret
  exact ⟨ret_int H.out.symm,no_err H.out (by decide),Below.refl _ _⟩
 have c0:=hc 0 (by omega)
 have c1:=hc 1 (by omega)
 have z0:=hW.sz 0
 have z1:=hW.sz 1
 have N0:=hid' (ref_number (ws.getD 0 Txt.em) w (by omega))
 have N1:=hid' (ref_number (ws.getD 1 Txt.em) w (by omega))
 have b0:-1 ≤ Txt.number (ws.getD 0 Txt.em):=by
  cases hx:Txt.isNum (ws.getD 0 Txt.em) with
  | false => rw [Txt.number_neg hx];omega
  | true => rw [Txt.number_of hx];have:=Txt.numTo_le hx;omega
 by_cases h3:2 < ws.length ∧ Txt.beg (ws.getD 2 Txt.em) ⟨#[35]⟩ = false
 ·obtain ⟨h3,hb⟩:=h3
  have c2:=hc 2 h3
  have hp2:=hpos 2 h3
  have hz2:=hW.sz 2
  have hn:¬ ((ws.getD 2 Txt.em)[0]'hp2).toNat = 35:=fun e => by
   have:Txt.beg (ws.getD 2 Txt.em) ⟨#[35]⟩ = true:=(Txt.beg_one _).2 ⟨hp2,by rw [Txt.byte_at _ 0 hp2];omega⟩
   rw [hb] at this;cases this
  have hn':((((ws.getD 2 Txt.em)[0]'hp2).toNat:Int) != 35) = true:=bne_iff_ne.2 (by omega)
  clear h h0 hc hW hpos hb hn N0 N1 b0 c0 c1 z0 z1
  generalize ws.getD 2 Txt.em = s2 at *
  go_enter Tryz.func125,Tryz.ntmps125
  go_wp2
  go_ret
  exact ⟨ret_int H.out.symm,no_err H.out (by decide),Below.refl _ _⟩
 have h3':ws.length = 2 ∨ (2 < ws.length ∧ Txt.beg (ws.getD 2 Txt.em) ⟨#[35]⟩ = true):=by
  by_cases e:ws.length = 2
  ·exact .inl e
  ·refine .inr ⟨by omega,?_⟩
   cases hb:Txt.beg (ws.getD 2 Txt.em) ⟨#[35]⟩ with
   | true => rfl
   | false => exact absurd ⟨by omega,hb⟩ h3
 have hneg:Txt.number (ws.getD 0 Txt.em) < 0 ∨ (0 ≤ Txt.number (ws.getD 0 Txt.em) ∧ Txt.number (ws.getD 1 Txt.em) < 0):=by
  by_cases c:Txt.number (ws.getD 0 Txt.em) < 0
  ·exact .inl c
  ·refine .inr ⟨by omega,?_⟩
   rcases h with h | h | h | h
   ·exact absurd h h2
   ·rw [Txt.number_neg h] at c;omega
   ·rw [Txt.number_neg h];omega
   ·exact absurd h h3
 rcases h3' with h3' | ⟨h3',hb⟩
 ·clear h h0 hc hW hpos h3
  generalize ws.getD 0 Txt.em = s0 at *
  generalize ws.getD 1 Txt.em = s1 at *
  generalize Txt.number s0 = n0 at *
  generalize Txt.number s1 = n1 at *
  rcases hneg with hn | ⟨hn,hm⟩
  ·go_enter Tryz.func125,Tryz.ntmps125
   go_wp2_with fail
   refine N0.out.mono ?_
   rintro e w' ⟨rfl,rfl⟩
   go_wp2_with fail
   refine N1.out.mono ?_
   rintro e w' ⟨rfl,rfl⟩
   go_wp2
   go_ret
   exact ⟨ret_int H.out.symm,no_err H.out (by decide),Below.refl _ _⟩
  ·go_enter Tryz.func125,Tryz.ntmps125
   go_wp2_with fail
   refine N0.out.mono ?_
   rintro e w' ⟨rfl,rfl⟩
   go_wp2_with fail
   refine N1.out.mono ?_
   rintro e w' ⟨rfl,rfl⟩
   go_wp2
   go_ret
   exact ⟨ret_int H.out.symm,no_err H.out (by decide),Below.refl _ _⟩
 ·have c2:=hc 2 h3'
  have hp2:=hpos 2 h3'
  have hz2:=hW.sz 2
  have hn35:((ws.getD 2 Txt.em)[0]'hp2).toNat = 35:=by
   have:=((Txt.beg_one _).1 hb).2;rw [Txt.byte_at _ 0 hp2] at this;omega
  have hn':((((ws.getD 2 Txt.em)[0]'hp2).toNat:Int) != 35) = false:=by rw [bne_eq_false_iff_eq];omega
  clear h h0 hc hW hpos hb h3 hn35
  generalize ws.getD 0 Txt.em = s0 at *
  generalize ws.getD 1 Txt.em = s1 at *
  generalize ws.getD 2 Txt.em = s2 at *
  generalize Txt.number s0 = n0 at *
  generalize Txt.number s1 = n1 at *
  rcases hneg with hn | ⟨hn,hm⟩
  ·go_enter Tryz.func125,Tryz.ntmps125
   go_wp2_with fail
   refine N0.out.mono ?_
   rintro e w' ⟨rfl,rfl⟩
   go_wp2_with fail
   refine N1.out.mono ?_
   rintro e w' ⟨rfl,rfl⟩
   go_wp2
   go_ret
   exact ⟨ret_int H.out.symm,no_err H.out (by decide),Below.refl _ _⟩
  ·go_enter Tryz.func125,Tryz.ntmps125
   go_wp2_with fail
   refine N0.out.mono ?_
   rintro e w' ⟨rfl,rfl⟩
   go_wp2_with fail
   refine N1.out.mono ?_
   rintro e w' ⟨rfl,rfl⟩
   go_wp2
   go_ret
   exact ⟨ret_int H.out.symm,no_err H.out (by decide),Below.refl _ _⟩
end Go.Proofs.YtmmkhodaljpjgaaGreatDoor
