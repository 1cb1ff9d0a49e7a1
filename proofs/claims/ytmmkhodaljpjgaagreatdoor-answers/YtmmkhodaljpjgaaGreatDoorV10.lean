import Derived.Test.YtmmkhodaljpjgaaGreatDoorV08
import Derived.Test.YtmmkhodaljpjgaaGreatDoorV09
import Derived.StillTactics
import Derived.Deep.DrawnRows
import Derived.Deep.RegionLaw
import Derived.Deep.QuietTactic
import Derived.BigQuiet
import Derived.Deep.DeepMust
import Derived.Deep.Cut
import Derived.Deep.CutBlock
set_option maxRecDepth 100000
set_option maxHeartbeats 6400000
namespace Go.Proofs.YtmmkhodaljpjgaaGreatDoor
open Go.RowKit
namespace Tab
end Tab
theorem ref_first (sec:Int) (w:World) (w0:(Lit.int .i64 sec).wf = true) :
  Calls Tryz.prog 168 #[.int .i64 sec] w fun e w' => e = .returned (.bool (Tab.first sec)) ∧ w' = w:=by
 have hb:=bounds_i64 w0
 clear w0
 by_cases h0:sec < 0
 ·have H:Hid (Tab.first sec = false):=Tab.first_no fun h => by have:=h.1;omega
  go_enter Tryz.func168,Tryz.ntmps168
  go_wp2
  go_ret
  exact ⟨ret_bool H.out.symm,rfl⟩
 ·by_cases h1:sec % 86400 = 0
  ·by_cases h2:401767 ≤ sec / 86400
   ·have H:Hid (Tab.first sec = false):=Tab.first_no fun h => by
     obtain ⟨_,_,y,m,hi,_⟩:=h
     have a:=hi.year
     have b:=Cal.yb_mono (y + 1) 3000 (by have:=hi.y2;omega)
     rw [Cal.yb_last] at b
     omega
    go_enter Tryz.func168,Tryz.ntmps168
    go_wp2_with fail
    refine (ref_civil_no (sec / 86400) _ (.inr h2)).mono ?_
    rintro e w' ⟨rfl,rfl⟩
    go_wp2
    go_ret
    exact ⟨ret_bool H.out.symm,rfl⟩
   ·go_enter Tryz.func168,Tryz.ntmps168
    go_wp2_with fail
    refine (ref_civil_yes (sec / 86400) _ (by omega) (by omega)).mono ?_
    rintro e w' ⟨⟨y,m,rfl,hin⟩,rfl⟩
    have HI:=hid' hin
    clear hin
    by_cases h3:sec / 86400 = Cal.yb y + Cal.cum y m
    ·have H:Hid (Tab.first sec = true):=Tab.first_yes ⟨by omega,h1,y,m,HI.out,h3⟩
     have hd:(sec / 86400 - Cal.yb y - Cal.cum y m + 1 == 1) = true:=by rw [beq_iff_eq];omega
     generalize sec / 86400 - Cal.yb y - Cal.cum y m + 1 = v at *
     clear h3
     go_wp2
     go_ret
     exact ⟨ret_bool H.out.symm,rfl⟩
    ·have H:Hid (Tab.first sec = false):=Tab.first_no fun h => by
      obtain ⟨_,_,z,o,hi,hq⟩:=h
      obtain ⟨rfl,rfl⟩:=hi.only HI.out
      exact h3 hq
     have hd:(sec / 86400 - Cal.yb y - Cal.cum y m + 1 == 1) = false:=by rw [beq_eq_false_iff_ne];omega
     generalize sec / 86400 - Cal.yb y - Cal.cum y m + 1 = v at *
     clear h3
     go_wp2
     go_ret
     exact ⟨ret_bool H.out.symm,rfl⟩
  ·have H:Hid (Tab.first sec = false):=Tab.first_no fun h => h1 h.2.1
   have h1':(sec % 86400 == 0) = false:=by rw [beq_eq_false_iff_ne];exact h1
   go_enter Tryz.func168,Tryz.ntmps168
   go_wp2
   go_ret
   exact ⟨ret_bool H.out.symm,rfl⟩
theorem hash_line (h:ByteArray) (w:World) (hs:h.size = 40) :
  Calls Tryz.prog 129 #[.string h] w fun e w' => e = .returned (.string (Txt.hl h)) ∧ w' = w:=by
 have H:Hid (Txt.hl h = Txt.hlTo h 5 ++ ⟨#[10]⟩):=rfl
 go_enter Tryz.func129,Tryz.ntmps129
 go_wp2
 go_loop [3,4] (fun l i => ∃ k:Nat,k ≤ 5 ∧ i = .int .i64 ((k * 8:Nat):Int) ∧ l = .string (Txt.hlTo h k)) (fun _ i => 40 - (intOf i).toNat)
 case atStart => exact ⟨0,by omega,rfl,rfl⟩
 case round =>
  obtain ⟨k,hk,rfl,rfl⟩:=hrel
  have hz:=Txt.hlTo_size h k
  by_cases hlt:k < 5
  ·obtain ⟨b,hb⟩:∃ b,k * 8 = b:=⟨_,rfl⟩
   have HK:Hid (Txt.hlTo h (k + 1) = Txt.hlTo h k ++ (⟨#[32]⟩ ++ h.extract b (b + 8))):=by show _ = _;rw [Txt.hlTo,hb]
   rw [hb]
   have HB:=hid' hb
   have hb8:b + 8 ≤ 40:=by omega
   have hx:(h.extract b (b + 8)).size ≤ 8:=by rw [ByteArray.size_extract];omega
   clear hb
   generalize Txt.hlTo h k = l at *
   go_wp2
   exact ⟨⟨k + 1,by omega,by have:=HB.out;go_num;try omega,by rw [HK.out]⟩,by simp [intOf];omega⟩
  ·have ek:k = 5:=by omega
   subst ek
   generalize Txt.hlTo h 5 = l at *
   go_wp2
   go_ret
   exact ⟨ret_str H.out.symm,rfl⟩
structure Op.Ok (o:Op):Prop where
 k:(Lit.int .i64 o.kind).wf = true
 x:(Lit.int .i64 o.x).wf = true
 a:(Lit.int .i64 o.a).wf = true
 b:(Lit.int .i64 o.b).wf = true
 c:(Lit.int .i64 o.c).wf = true
 d:(Lit.int .i64 o.d).wf = true
 s:o.s.size ≤ 16384
theorem owner_yes {X:Xs} (B bW n:Nat) (o:Op) (w:World) (ho:o.Ok) (hn:n ≤ 100000) (hk:1 ≤ o.kind ∧ o.kind ≤ 6) (hI:Inv X B bW n w) (hB:B ≤ w.heap.size) :
  Calls Tryz.prog 16 #[.pointer (some ⟨bW,0,none⟩),.agg #[.int .i64 o.kind,.int .i64 o.x,.int .i64 o.a,.int .i64 o.b,.int .i64 o.c,.int .i64 o.d,.string o.s]] w fun e w' => e = .returned (.bool true) ∧ Left X B bW n w w':=by
 obtain ⟨k,x,a,b,c,d,s⟩:=o
 obtain ⟨h1,h2,h3,h4,h5,h6,h7⟩:=ho
 simp only at *
 have hc:k = 1 ∨ k = 2 ∨ k = 3 ∨ k = 4 ∨ k = 5 ∨ k = 6:=by omega
 rcases hc with rfl | rfl | rfl | rfl | rfl | rfl
 ·exact owner_text B bW n x a b c d s w hn h7 hI hB
 ·exact owner_turn B bW n x a b c d s w h3 h4 hn hI hB
 ·exact owner_stamps B bW n x a b c d s w h3 h4 hI hB
 ·exact owner_entry B bW n x a b c d s w h3 h4 hn hI hB
 ·exact owner_none B bW n x a b c d s w hI hB
 ·exact owner_time B bW n x a b c d s w h3 h4 hI hB
theorem owner_no {X:Xs} (B bW n:Nat) (o:Op) (w:World) (hk:o.kind < 1 ∨ 6 < o.kind) (hI:Inv X B bW n w) (hB:B ≤ w.heap.size) :
  Calls Tryz.prog 16 #[.pointer (some ⟨bW,0,none⟩),.agg #[.int .i64 o.kind,.int .i64 o.x,.int .i64 o.a,.int .i64 o.b,.int .i64 o.c,.int .i64 o.d,.string o.s]] w fun e w' => e = .returned (.bool false) ∧ Inv X B bW n w' ∧ Keeps w w' ∧ Below B w w' :=
 owner_other B bW n _ _ _ _ _ _ _ w hk hI hB
theorem Inv.below {X:Xs} {B bW n:Nat} {w w':World} (h:Inv X B bW n w) (hb:Below w.heap.size w w'):Inv X B bW n w':=by
 obtain ⟨le,tv,lv,xv,F,ts,ls,up,ex,se,fr,hb',ht,hl,h1,h2,h3,h4⟩:=h
 have hk:∀ k o,w.heap[k]? = some o → w'.heap[k]? = some o:=fun k o e => by rw [hb.block k (lt_of_heap e)];exact e
 have hown:∀ {e size:Nat} {v:Value} {m:Nat} {xs:List Value},w.ownsRow B e size v m xs → w'.ownsRow B e size v m xs:=by
  intro e size v m xs h
  refine ⟨h.1,?_⟩
  rcases h.2 with h | ⟨g,cap,cur,q,a,hh,b⟩
  ·exact .inl h
  ·exact .inr ⟨g,cap,cur,q,a,hk _ _ hh,b⟩
 exact ⟨le,tv,lv,xv,F,ts,ls,up,ex,se,fr,hk _ _ hb',hown ht,hown hl,h1,h2,h3,h4.keeps (Keeps.below hb) (Nat.le_refl _)⟩
theorem Inv.up {X:Xs} {B bW n m:Nat} {w:World} (h:Inv X B bW n w) (hm:n ≤ m):Inv X B bW m w:=by
 obtain ⟨le,tv,lv,xv,F,ts,ls,up,ex,se,fr,hb',ht,hl,h1,h2,h3,h4⟩:=h
 exact ⟨le,tv,lv,xv,F,ts,ls,up,ex,se,fr,hb',ht,hl,by omega,by omega,h3,h4.keeps (Keeps.refl w) hm⟩
theorem Keep.below {t:TypeId} {w w':World} (hb:Below w.heap.size w w'):Keep t w w':=fun k cs fr e => by rw [hb.block k (lt_of_heap e)];exact e
theorem pure_low (bW:Nat) (o:Op) (w:World) (hk:o.kind < 1) :
  Calls Tryz.prog 17 #[.pointer (some ⟨bW,0,none⟩),.agg #[.int .i64 o.kind,.int .i64 o.x,.int .i64 o.a,.int .i64 o.b,.int .i64 o.c,.int .i64 o.d,.string o.s]] w fun e w' => e = .returned (.bool true) ∧ Below w.heap.size w w':=by
 obtain ⟨k,x,a,b,c,d,s⟩:=o
 simp only at *
 have k7:(k == 7) = false:=by rw [beq_eq_false_iff_ne];omega
 have k8:(k == 8) = false:=by rw [beq_eq_false_iff_ne];omega
 have k9:(k == 9) = false:=by rw [beq_eq_false_iff_ne];omega
 have k10:(k == 10) = false:=by rw [beq_eq_false_iff_ne];omega
 have k11:(k == 11) = false:=by rw [beq_eq_false_iff_ne];omega
 have k12:(k == 12) = false:=by rw [beq_eq_false_iff_ne];omega
 have k13:(k == 13) = false:=by rw [beq_eq_false_iff_ne];omega
 have k14:(k == 14) = false:=by rw [beq_eq_false_iff_ne];omega
 have k15:(k == 15) = false:=by rw [beq_eq_false_iff_ne];omega
 have k16:(k == 16) = false:=by rw [beq_eq_false_iff_ne];omega
 clear hk
 go_enter Tryz.func17,Tryz.ntmps17
 go_wp2
 go_ret
 exact ⟨rfl,(Below.refl _ _).alloc (Nat.le_refl _) _⟩
theorem dated_agg (k x a b c d:Int) (s:ByteArray) (w:World) :
  Calls Tryz.prog 21 #[.agg #[.int .i64 k,.int .i64 x,.int .i64 a,.int .i64 b,.int .i64 c,.int .i64 d,.string s]] w fun e w' => e = .returned (.bool true) ∧ Below w.heap.size w w':=by
 by_cases h:k = 7
 ·exact dated_day k x a b c d s w h
 ·exact dated_civil k x a b c d s w h
theorem pure_dated (bW:Nat) (o:Op) (w:World) (hk:o.kind = 7 ∨ o.kind = 8) :
  Calls Tryz.prog 17 #[.pointer (some ⟨bW,0,none⟩),.agg #[.int .i64 o.kind,.int .i64 o.x,.int .i64 o.a,.int .i64 o.b,.int .i64 o.c,.int .i64 o.d,.string o.s]] w fun e w' => e = .returned (.bool true) ∧ Below w.heap.size w w':=by
 obtain ⟨k,x,a,b,c,d,s⟩:=o
 simp only at *
 rcases hk with rfl | rfl
 all_goals
  go_enter Tryz.func17,Tryz.ntmps17
  go_wp2_with fail
  refine (dated_agg _ x a b c d s _).mono ?_
  rintro e w1 ⟨rfl,hb⟩
  have HB:=hid' hb
  clear hb
  go_wp2
  go_ret
  exact ⟨rfl,((Below.refl w.heap.size w).alloc (Nat.le_refl _) _).trans (HB.out.mono (by simp))⟩
theorem turn1 (x:Int) (w:World) :
  Calls Tryz.prog 76 #[.int .u32 x,.int .i64 1] w fun e w' => e = .returned (.int .u32 (Sha.rol1 x)) ∧ ∃ m,w' = w.drewN m:=by
 go_enter Tryz.func76,Tryz.ntmps76
 go_wp2_with fail
 go_quiet (fail)
 go_wp2
 go_ret
 exact ⟨rfl,nq,rfl⟩
theorem turn5 (x:Int) (w:World) :
  Calls Tryz.prog 76 #[.int .u32 x,.int .i64 5] w fun e w' => e = .returned (.int .u32 (Sha.rol5 x)) ∧ ∃ m,w' = w.drewN m:=by
 go_enter Tryz.func76,Tryz.ntmps76
 go_wp2_with fail
 go_quiet (fail)
 go_wp2
 go_ret
 exact ⟨rfl,nq,rfl⟩
theorem turn30 (x:Int) (w:World) :
  Calls Tryz.prog 76 #[.int .u32 x,.int .i64 30] w fun e w' => e = .returned (.int .u32 (Sha.rol30 x)) ∧ ∃ m,w' = w.drewN m:=by
 go_enter Tryz.func76,Tryz.ntmps76
 go_wp2_with fail
 go_quiet (fail)
 go_wp2
 go_ret
 exact ⟨rfl,nq,rfl⟩
theorem digit_at (x:Int) (h0:0 ≤ x) (h1:x < 4294967296) (k:Nat) (hk:k < 8):x * 16 ^ k % 4294967296 / 268435456 = x / 16 ^ (7 - k) % 16:=by
 match k,hk with
 | 0,_ => simp;omega
 | 1,_ => simp;omega
 | 2,_ => simp;omega
 | 3,_ => simp;omega
 | 4,_ => simp;omega
 | 5,_ => simp;omega
 | 6,_ => simp;omega
 | 7,_ => simp;omega
theorem hexs_at (x:Int) (n k:Nat) (h:k < n):(Sha.hexs x n)[k]? = some (Sha.hexd (x * 16 ^ k % 4294967296 / 268435456)):=by
 induction n with
 | zero => omega
 | succ n ih =>
  have hl:=Sha.hexs_length x n
  by_cases e:k = n
  ·subst e
   simp only [Sha.hexs]
   rw [List.getElem?_append_right (by omega)]
   simp [hl]
  ·simp only [Sha.hexs]
   rw [List.getElem?_append_left (by omega)]
   exact ih (by omega)
def zeros8:Array Value:=(List.replicate 8 (Value.int .u8 0)).toArray
theorem make8:∀ w,(Instr.makeSlice 44 (.int .i64 8) (.int .i64 8)).run Tryz.prog w = .ok (.slice (some ⟨w.heap.size,0,none⟩) 8 8) (w.alloc (.cells zeros8 5)):=fun _ => by kernel_rfl
structure Digs (x:Int) (k:Nat) (cs:Array Value):Prop where
 size:cs.size = 8
 at':∀ j,k ≤ j → j < 8 → cs[j]? = some (.int .u8 ((Sha.hexd (x / 16 ^ (7 - j) % 16)).toNat:Int))
theorem Digs.put {x:Int} {k:Nat} {cs:Array Value} (h:Digs x (k + 1) cs) (hk:k < 8):Digs x k (cs.setIfInBounds k (.int .u8 ((Sha.hexd (x / 16 ^ (7 - k) % 16)).toNat:Int))):=by
 refine ⟨by simp [h.size],fun j h1 h2 => ?_⟩
 by_cases e:j = k
 ·subst e;simp [h.size,hk]
 ·rw [Array.getElem?_setIfInBounds_ne (by omega)];exact h.at' j (by omega) h2
theorem and15 (x:Int) (h0:0 ≤ x) (h1:x < 2 ^ 62):bits .and .i64 x 15 = x % 16:=by
 have:=bits_mask .i64 62 (by decide) (fun n a b => by rw [IntKind.wrap_i64];omega) 4 (by decide) x h0 h1
 simpa using this
theorem and255 (x:Int) (h0:0 ≤ x) (h1:x < 2 ^ 62):bits .and .i64 x 255 = x % 256:=by
 have:=bits_mask .i64 62 (by decide) (fun n a b => by rw [IntKind.wrap_i64];omega) 8 (by decide) x h0 h1
 simpa using this
theorem hexd_low (d:Int) (h0:0 ≤ d) (h1:d < 10):((Sha.hexd d).toNat:Int) = 48 + d:=by
 unfold Sha.hexd;rw [if_pos h1];simp;omega
theorem hexd_high (d:Int) (h0:10 ≤ d) (h1:d < 16):((Sha.hexd d).toNat:Int) = 87 + d:=by
 unfold Sha.hexd;rw [if_neg (by omega)];simp;omega
theorem ref_hex (x:Int) (w:World) (h0:0 ≤ x) (h1:x < 4294967296) :
  Calls Tryz.prog 39 #[.int .i64 x,.int .i64 8] w fun e w' => e = .returned (.string ⟨(Sha.hexs x 8).toArray⟩) ∧ Below w.heap.size w w':=by
 have mk:=make8
 go_enter Tryz.func39,Tryz.ntmps39
 go_wp2
 clear mk
 go_loopw [0,6,7] (fun n i _ wr => ∃ (k:Nat) (cs:Array Value),k ≤ 8 ∧ i = .int .i64 ((k:Int) - 1) ∧ n = .int .i64 (x / 16 ^ (8 - k)) ∧ wr = w.alloc (.cells cs 5) ∧ Digs x k cs) (fun _ i _ _ => (intOf i + 1).toNat)
 case atStart => exact ⟨8,zeros8,by omega,rfl,by simp,rfl,⟨by simp [zeros8],fun j a b => by omega⟩⟩
 case round =>
  obtain ⟨k,cs,hk,rfl,rfl,rfl,hd⟩:=hrel
  cases k with
  | zero =>
   have hconv:=bytes_back (V:=w.alloc (.cells cs 5)) (t:=Sha.hexs x 8) (cs:=cs) (fr:=(0,0)) (g:=w.heap.size) (cap:=8) (n:=8) (heap_alloc_new _ _) ⟨by simp [hd.size,Sha.hexs_length],fun j hj => by
    rw [hd.at' j (by omega) (by simpa [Sha.hexs_length] using hj)]
    have h8:j < 8:=by simpa [Sha.hexs_length] using hj
    have:=hexs_at x 8 j h8
    rw [List.getElem?_eq_getElem hj] at this
    rw [Option.some.inj this,digit_at x h0 h1 j h8]⟩ (by simp [Sha.hexs_length]) 0
   have HC:(convert 44 9 (.slice (some ⟨w.heap.size,0,none⟩) 8 8)).run Tryz.prog (w.alloc (.cells cs 5)) = .ok (.string ⟨(Sha.hexs x 8).toArray⟩) (w.alloc (.cells cs 5)):=hconv
   clear hconv hd
   go_wp2
   go_ret
   exact ⟨rfl,(Below.refl _ _).alloc (Nat.le_refl _) _⟩
  | succ k =>
   have HPUT:=hid' (hd.put (by omega))
   obtain ⟨v0,hv0⟩:∃ v,cs[k]? = some v:=⟨_,Array.getElem?_eq_getElem (by have:=hd.size;omega)⟩
   have e7:8 - (k + 1) = 7 - k:=by omega
   have HN:Hid (x / 16 ^ (7 - k) / 16 = x / 16 ^ (8 - k)):=by
    show _ = _
    rw [Int.ediv_ediv_of_nonneg (Int.le_of_lt (Int.pow_pos (by omega))),← Int.pow_succ,show (7 - k).succ = 8 - k from by omega]
   rw [e7]
   have y0:0 ≤ x / 16 ^ (7 - k):=Int.ediv_nonneg h0 (Int.le_of_lt (Int.pow_pos (by omega)))
   have y1:x / 16 ^ (7 - k) ≤ x:=Int.ediv_le_self _ h0
   generalize x / 16 ^ (7 - k) = y at *
   have hand:=and15 y y0 (by omega)
   generalize hdg:y % 16 = dg at *
   have d0:0 ≤ dg:=by omega
   have d1:dg < 16:=by omega
   clear hdg hd e7
   by_cases hlo:dg < 10
   ·have HV:=hid' (hexd_low dg d0 hlo)
    go_wp2
    refine ⟨⟨k,_,by omega,rfl,by rw [HN.out],?_,HPUT.out⟩,by simp [intOf]⟩
    rw [HV.out]
   ·have HV:=hid' (hexd_high dg (by omega) d1)
    go_wp2
    refine ⟨⟨k,_,by omega,rfl,by rw [HN.out],?_,HPUT.out⟩,by simp [intOf]⟩
    rw [HV.out]
    congr 4
    omega
namespace Txt
end Txt
theorem ref_number (s:ByteArray) (w:World) (hs:s.size ≤ 1000000000) :
  Calls Tryz.prog 167 #[.string s] w fun e w' => e = .returned (.int .i64 (Txt.number s)) ∧ w' = w:=by
 by_cases h0:s.size = 0
 ·have H:Hid (Txt.number s = -1):=Txt.number_no1 (.inl h0)
  have h0':((s.size:Int) == 0) = true:=by rw [beq_iff_eq];omega
  clear h0
  go_enter Tryz.func167,Tryz.ntmps167
  go_wp2
  go_ret
  exact ⟨ret_int H.out.symm,rfl⟩
 ·have h0':((s.size:Int) == 0) = false:=by rw [beq_eq_false_iff_ne];omega
  by_cases h1:11 < s.size
  ·have H:Hid (Txt.number s = -1):=Txt.number_no1 (.inr h1)
   go_enter Tryz.func167,Tryz.ntmps167
   go_wp2
   go_ret
   exact ⟨ret_int H.out.symm,rfl⟩
  ·go_enter Tryz.func167,Tryz.ntmps167
   go_wp2
   go_loop [3,4] (fun r i => ∃ k:Nat,k ≤ s.size ∧ i = .int .i64 k ∧ r = .int .i64 (Txt.numTo s k) ∧ Txt.Digits s k) (fun _ i => s.size - (intOf i).toNat)
   case atStart => exact ⟨0,by omega,rfl,rfl,fun i hi => by omega⟩
   case round =>
    obtain ⟨k,hk,rfl,rfl,hdg⟩:=hrel
    by_cases hlt:k < s.size
    ·have hbd:=Txt.numTo_bd k hdg
     have hpw:=Txt.pow10_le k (by omega)
     have hby:=Txt.byte_at s k hlt
     have HBY:=hid' hby
     have HDG:=hid' hdg
     have h8:=s[k].toNat_lt
     generalize hN:Txt.numTo s k = v at *
     have HNV:=hid' hN
     clear hdg hby hN
     generalize hP:(10:Int) ^ k = p10 at *
     clear hP
     by_cases c1:s[k].toNat < 48
     ·have H:Hid (Txt.number s = -1):=Txt.number_no2 fun h => by have:=(h k hlt).1;rw [HBY.out] at this;omega
      go_wp2
      go_ret
      exact ⟨ret_int H.out.symm,rfl⟩
     ·by_cases c2:57 < s[k].toNat
      ·have H:Hid (Txt.number s = -1):=Txt.number_no2 fun h => by have:=(h k hlt).2;rw [HBY.out] at this;omega
       go_wp2
       go_ret
       exact ⟨ret_int H.out.symm,rfl⟩
      ·have HS:Hid (Txt.numTo s (k + 1) = 10 * v + ((s[k].toNat:Int) - 48)):=by show _ = _;simp only [Txt.numTo];rw [HNV.out,HBY.out]
       have HD2:Hid (Txt.Digits s (k + 1)):=fun i hi => by
        by_cases e:i = k
        ·subst e;rw [HBY.out];omega
        ·exact HDG.out i (by omega)
       go_wp2
       exact ⟨⟨k + 1,by omega,by go_num,by rw [HS.out],HD2.out⟩,by simp [intOf];omega⟩
    ·have ek:k = s.size:=by omega
     have H:Hid (Txt.number s = Txt.numTo s k):=by show _ = _;rw [ek];exact Txt.number_yes (by omega) (by rw [← ek];exact hdg)
     clear ek hdg
     go_wp2
     go_ret
     exact ⟨ret_int H.out.symm,rfl⟩
def Does (X:Xs) (B bW n:Nat) (o:Op) (w:World):Prop :=
 ∀ w1,Inv X B bW n w1 → B ≤ w1.heap.size → Below B w w1 →
  Calls Tryz.prog 15 #[.pointer (some ⟨bW,0,none⟩),.agg #[.int .i64 o.kind,.int .i64 o.x,.int .i64 o.a,.int .i64 o.b,.int .i64 o.c,.int .i64 o.d,.string o.s]] w1 fun e w' =>
   e = .returned (.bool true) ∧ Inv X B bW (n + 1) w' ∧ Below B w1 w'
def DoesP (X:Xs) (B bW n:Nat) (o:Op) (w:World):Prop :=
 ∀ w1,Inv X B bW n w1 → B ≤ w1.heap.size → Below B w w1 →
  Calls Tryz.prog 17 #[.pointer (some ⟨bW,0,none⟩),.agg #[.int .i64 o.kind,.int .i64 o.x,.int .i64 o.a,.int .i64 o.b,.int .i64 o.c,.int .i64 o.d,.string o.s]] w1 fun e w' =>
   e = .returned (.bool true) ∧ Inv X B bW (n + 1) w' ∧ Keep 27 w1 w' ∧ Below B w1 w'
theorem DoesP.of_below {X:Xs} {B bW n:Nat} {o:Op} {w:World} (h:∀ w1,Calls Tryz.prog 17 #[.pointer (some ⟨bW,0,none⟩),.agg #[.int .i64 o.kind,.int .i64 o.x,.int .i64 o.a,.int .i64 o.b,.int .i64 o.c,.int .i64 o.d,.string o.s]] w1 fun e w' => e = .returned (.bool true) ∧ Below w1.heap.size w1 w'):DoesP X B bW n o w:=by
 intro w1 hI hB _
 refine (h w1).mono ?_
 rintro e w' ⟨rfl,hb⟩
 exact ⟨rfl,(hI.below hb).up (Nat.le_succ _),Keep.below hb,hb.mono hB⟩
theorem inv_alloc {X:Xs} {B bW n:Nat} {w:World} (h:Inv X B bW n w) (o:Obj):Inv X B bW n (w.alloc o):=h.below ((Below.refl _ _).alloc (Nat.le_refl _) _)
theorem step_yes {X:Xs} (B bW n:Nat) (o:Op) (w:World) (ho:o.Ok) (hn:n ≤ 100000) (hk:1 ≤ o.kind ∧ o.kind ≤ 6) (hI:Inv X B bW n w) (hB:B ≤ w.heap.size) :
  Calls Tryz.prog 15 #[.pointer (some ⟨bW,0,none⟩),.agg #[.int .i64 o.kind,.int .i64 o.x,.int .i64 o.a,.int .i64 o.b,.int .i64 o.c,.int .i64 o.d,.string o.s]] w fun e w' => e = .returned (.bool true) ∧ Left X B bW n w w':=by
 have hOw:=owner_yes B bW n o (w.alloc (.cells #[.int .i64 o.kind,.int .i64 o.x,.int .i64 o.a,.int .i64 o.b,.int .i64 o.c,.int .i64 o.d,.string o.s] 27)) ho hn hk (inv_alloc hI _) (by simp;omega)
 have HOw:=hid' hOw
 clear hOw ho hk hI
 obtain ⟨k,x,a,b,c,d,s⟩:=o
 simp only at *
 go_enter Tryz.func15,Tryz.ntmps15
 go_wp2_with fail
 refine HOw.out.mono ?_
 rintro e w1 ⟨rfl,hleft⟩
 have HLF:=hid' hleft
 clear hleft HOw
 go_wp2
 go_ret
 exact ⟨rfl,HLF.out.1,((Keeps.refl w).alloc _).trans HLF.out.2.1,((Below.refl B w).alloc hB _).trans HLF.out.2.2⟩
theorem step_no {X:Xs} (B bW n:Nat) (o:Op) (w:World) (hk:o.kind < 1 ∨ 6 < o.kind) (hk17:o.kind < 17) (hI:Inv X B bW n w) (hB:B ≤ w.heap.size) (hD:DoesP X B bW n o w) :
  Calls Tryz.prog 15 #[.pointer (some ⟨bW,0,none⟩),.agg #[.int .i64 o.kind,.int .i64 o.x,.int .i64 o.a,.int .i64 o.b,.int .i64 o.c,.int .i64 o.d,.string o.s]] w fun e w' => e = .returned (.bool true) ∧ Inv X B bW (n + 1) w' ∧ Keep 27 w w' ∧ Below B w w':=by
 have hOw:=owner_no B bW n o (w.alloc (.cells #[.int .i64 o.kind,.int .i64 o.x,.int .i64 o.a,.int .i64 o.b,.int .i64 o.c,.int .i64 o.d,.string o.s] 27)) hk (inv_alloc hI _) (by simp;omega)
 have HOw:=hid' hOw
 have HD:=hid' hD
 clear hOw hk hI hD
 obtain ⟨k,x,a,b,c,d,s⟩:=o
 simp only at *
 go_enter Tryz.func15,Tryz.ntmps15
 go_wp2_with fail
 refine HOw.out.mono ?_
 rintro e w1 ⟨rfl,hleft⟩
 have hrow:=hleft.2.1.op _ _ _ (heap_alloc_new w (.cells #[.int .i64 k,.int .i64 x,.int .i64 a,.int .i64 b,.int .i64 c,.int .i64 d,.string s] 27))
 have p0:w1.cell? ⟨w.heap.size,0,none⟩ = some (.int .i64 k):=by rw [cell_of_row _ _ _ _ _ _ hrow];rfl
 have p1:w1.cell? ⟨w.heap.size,1,none⟩ = some (.int .i64 x):=by rw [cell_of_row _ _ _ _ _ _ hrow];rfl
 have p2:w1.cell? ⟨w.heap.size,2,none⟩ = some (.int .i64 a):=by rw [cell_of_row _ _ _ _ _ _ hrow];rfl
 have p3:w1.cell? ⟨w.heap.size,3,none⟩ = some (.int .i64 b):=by rw [cell_of_row _ _ _ _ _ _ hrow];rfl
 have p4:w1.cell? ⟨w.heap.size,4,none⟩ = some (.int .i64 c):=by rw [cell_of_row _ _ _ _ _ _ hrow];rfl
 have p5:w1.cell? ⟨w.heap.size,5,none⟩ = some (.int .i64 d):=by rw [cell_of_row _ _ _ _ _ _ hrow];rfl
 have p6:w1.cell? ⟨w.heap.size,6,none⟩ = some (.string s):=by rw [cell_of_row _ _ _ _ _ _ hrow];rfl
 have HLF:=hid' hleft
 have hs1:=hleft.2.2.size
 simp at hs1
 clear hleft HOw hrow
 go_wp2_with fail
 refine (HD.out w1 HLF.out.1 (by omega) (((Below.refl B w).alloc hB _).trans HLF.out.2.2)).mono ?_
 rintro e w2 ⟨rfl,hI2,hk2,hb2⟩
 have HI2:=hid' hI2
 have HK2:=hid' hk2
 have HB2:=hid' hb2
 clear hI2 hk2 hb2 HD
 go_wp2
 go_ret
 exact ⟨rfl,HI2.out,(((Keep.refl _ w).alloc _).trans HLF.out.2.1.op).trans HK2.out,(((Below.refl B w).alloc hB _).trans HLF.out.2.2).trans HB2.out⟩
theorem does_own {X:Xs} {B bW n:Nat} {o:Op} {w:World} (ho:o.Ok) (hn:n ≤ 100000) (hk:1 ≤ o.kind ∧ o.kind ≤ 6):Does X B bW n o w:=by
 intro w1 hI hB _
 refine (step_yes B bW n o w1 ho hn hk hI hB).mono ?_
 rintro e w' ⟨rfl,h1,h2,h3⟩
 exact ⟨rfl,h1,h3⟩
theorem does_pure {X:Xs} {B bW n:Nat} {o:Op} {w:World} (hk:o.kind < 1 ∨ 6 < o.kind) (hk17:o.kind < 17) (hD:DoesP X B bW n o w):Does X B bW n o w:=by
 intro w1 hI hB hb
 refine (step_no B bW n o w1 hk hk17 hI hB (fun w2 hI2 hB2 hb2 => hD w2 hI2 hB2 (hb.trans hb2))).mono ?_
 rintro e w' ⟨rfl,h1,h2,h3⟩
 exact ⟨rfl,h1,h3⟩
theorem turn_any (g cap i n:Nat) (ls:List (Int × Int)) (w:World) (hn:ls.length = n) (hi:i < n) (hl:Lies w g ls) (hf:Fine ls) (hb:n ≤ 100000) :
  Calls Tryz.prog 171 #[.slice (some ⟨g,0,none⟩) n cap,.int .i64 i] w fun e w' => e = .returned (.int .i64 (Tab.when ls i)) ∧ w' = w:=by
 have c:=hl i (by omega)
 have f:=hf _ (List.getElem_mem (show i < ls.length by omega))
 cases i with
 | zero =>
  have H:Hid (Tab.when ls 0 = (ls[0]'(by omega)).1 + (ls[0]'(by omega)).2):=by
   show _ = _;unfold Tab.when;rw [getD_at 0 (by omega)];simp
  generalize ls[0]'(by omega) = p at *
  obtain ⟨pa,po⟩:=p
  obtain ⟨c1,c2⟩:=c
  simp only [Nat.zero_mul,Nat.zero_add] at c1 c2
  simp only at f
  clear hl hf hn
  go_enter Tryz.func171,Tryz.ntmps171
  go_wp2
  go_ret
  exact ⟨ret_int H.out.symm,rfl⟩
 | succ j =>
  have d:=hl j (by omega)
  have e:=hf _ (List.getElem_mem (show j < ls.length by omega))
  have H:Hid (Tab.when ls (j + 1) = (ls[j + 1]'(by omega)).1 + (if (ls[j]'(by omega)).2 < (ls[j + 1]'(by omega)).2 then (ls[j]'(by omega)).2 else (ls[j + 1]'(by omega)).2)):=by
   show _ = _;unfold Tab.when;rw [getD_at (j + 1) (by omega),show j + 1 - 1 = j from rfl,getD_at j (by omega)];simp
  generalize ls[j + 1]'(by omega) = p at *
  generalize ls[j]'(by omega) = q at *
  obtain ⟨pa,po⟩:=p
  obtain ⟨qa,qo⟩:=q
  obtain ⟨c1,c2⟩:=c
  obtain ⟨_,d2⟩:=d
  simp only at f c1 c2 d2 e
  clear hl hf hn
  by_cases hlt:qo < po
  ·have H2:Hid (Tab.when ls (j + 1) = pa + qo):=by show _ = _;rw [H.out];simp only;rw [if_pos hlt]
   go_enter Tryz.func171,Tryz.ntmps171
   go_wp2
   go_ret
   exact ⟨ret_int H2.out.symm,rfl⟩
  ·have H2:Hid (Tab.when ls (j + 1) = pa + po):=by show _ = _;rw [H.out];simp only;rw [if_neg hlt]
   go_enter Tryz.func171,Tryz.ntmps171
   go_wp2
   go_ret
   exact ⟨ret_int H2.out.symm,rfl⟩
theorem holder_any (g cap n:Nat) (ls:List (Int × Int)) (sec:Int) (w:World) (hn:ls.length = n) (hl:Lies w g ls) (hf:Fine ls) (hb:n ≤ 100000) :
  Calls Tryz.prog 130 #[.slice (some ⟨g,0,none⟩) n cap,.int .i64 sec] w fun e w' => e = .returned (.int .i64 (Tab.lastAt ls sec n)) ∧ w' = w:=by
 have HL:=hid' hl
 have HF:=hid' hf
 have HN:=hid' hn
 clear hl hf hn
 go_enter Tryz.func130,Tryz.ntmps130
 go_wp2
 go_loop [5] (fun i => ∃ k:Nat,k ≤ n ∧ i = .int .i64 ((k:Int) - 1) ∧ Tab.lastAt ls sec n = Tab.lastAt ls sec k) (fun i => (intOf i + 1).toNat)
 case atStart => exact ⟨n,by omega,rfl,rfl⟩
 case round =>
  obtain ⟨k,hk,rfl,hrl⟩:=hrel
  have HRL:=hid' hrl
  clear hrl
  cases k with
  | zero =>
   have H:Hid (Tab.lastAt ls sec n = -1):=by show _ = _;rw [HRL.out];rfl
   go_wp2
   go_ret
   exact ⟨ret_int H.out.symm,rfl⟩
  | succ k =>
   have HW:=hid' (turn_any g cap k n ls w HN.out (by omega) HL.out HF.out hb)
   have hc:(((k + 1:Nat):Int) - 1) = (k:Int):=by omega
   rw [hc]
   clear hc
   by_cases hle:Tab.when ls k ≤ sec
   ·have H:Hid (Tab.lastAt ls sec n = (k:Int)):=by show _ = _;rw [HRL.out];simp only [Tab.lastAt];rw [if_pos hle]
    generalize Tab.when ls k = v at *
    go_wp2_with (go_at_call 171;refine HW.out.mono ?_;rintro e w' ⟨rfl,rfl⟩)
    go_ret
    exact ⟨ret_int H.out.symm,rfl⟩
   ·have H:Hid (Tab.lastAt ls sec n = Tab.lastAt ls sec k):=by show _ = _;rw [HRL.out];rw [Tab.lastAt];rw [if_neg hle]
    generalize Tab.when ls k = v at *
    go_wp2_with (go_at_call 171;refine HW.out.mono ?_;rintro e w' ⟨rfl,rfl⟩)
    exact ⟨⟨k,by omega,by go_num,H.out⟩,by simp [intOf]⟩
theorem held_below {w w':World} {lv:Value} {ls:List (Int × Int)} (h:Held w lv ls) (hb:Below w.heap.size w w'):Held w' lv ls:=by
 rcases h with h | ⟨h3,g,cap,rfl,hcap,hgl,hlies⟩
 ·exact .inl h
 ·exact .inr ⟨h3,g,cap,rfl,hcap,by have:=hb.size;omega,hlies.below hgl hb⟩
theorem itoa_int (n:Int) (w:World) (h0:0 ≤ n) (hn:n ≤ 1000000000000) (hP:Pows w) :
  Calls Tryz.prog 128 #[.int .i64 n] w fun e w' => e = .returned (.string (Txt.db n)) ∧ Below w.heap.size w w':=by
 obtain ⟨m,rfl⟩:=Int.eq_ofNat_of_zero_le h0
 exact itoa_any m w (by omega) hP
theorem Tab.whole_bd {up ex:Int} {ls:List (Int × Int)} (h:Tab.whole up ex ls = true):0 ≤ up ∧ up < ex ∧ ex ≤ 34000000000:=by
 unfold Tab.whole at h
 simp only [Bool.and_eq_true,decide_eq_true_eq] at h
 exact ⟨h.1,h.2.1,h.2.2.1⟩
theorem Fine.getD {ls:List (Int × Int)} (h:Fine ls) (i:Nat):(0 ≤ (ls.getD i (0,0)).1 ∧ (ls.getD i (0,0)).1 ≤ 34712668800) ∧ (0 ≤ (ls.getD i (0,0)).2 ∧ (ls.getD i (0,0)).2 ≤ 200):=by
 by_cases c:i < ls.length
 ·rw [getD_at i c];exact h _ (List.getElem_mem c)
 ·rw [List.getD_eq_getElem?_getD,List.getElem?_eq_none (by omega)];simp
theorem ret_str_num {a b:ByteArray} {n:Int} (h:a = b):Ending.returned (.tuple #[.string a,.int .i64 n]) = .returned (.tuple #[.string b,.int .i64 n]):=by rw [h]
theorem file_print_no (lv:Value) (ls:List (Int × Int)) (up ex:Int) (w:World) (wu:(Lit.int .i64 up).wf = true) (wx:(Lit.int .i64 ex).wf = true)
  (hv:Held w lv ls) (hn:ls.length ≤ 100000) (hwf:∀ p ∈ ls,WfP p) (hwh:Tab.whole up ex ls = false) :
  Calls Tryz.prog 80 #[.agg #[.int .i64 up,.int .i64 ex,lv]] w fun e w' =>
   e = .returned (.tuple #[.string ⟨#[]⟩,.int .i64 8]) ∧ Below w.heap.size w w':=by
 have HBel:=hid' ((Below.refl w.heap.size w).alloc (Nat.le_refl _) (.cells #[.int .i64 up,.int .i64 ex,lv] 78))
 have HW:=hid' (is_table lv ls up ex (w.alloc (.cells #[.int .i64 up,.int .i64 ex,lv] 78)) wu wx (held_below hv HBel.out) hn hwf)
 rw [hwh] at HW
 clear hwh hv wu wx hwf hn
 go_enter Tryz.func80,Tryz.ntmps80
 go_wp2_with (go_at_call 127;refine HW.out.mono ?_;rintro e w1 ⟨rfl,hb1⟩;have HB1:=hid' hb1;clear hb1)
 go_ret2
 exact ⟨rfl,HBel.out.trans (HB1.out.mono HBel.out.size)⟩
theorem file_print_yes (lv:Value) (ls:List (Int × Int)) (up ex:Int) (w:World) (wu:(Lit.int .i64 up).wf = true) (wx:(Lit.int .i64 ex).wf = true)
  (hv:Held w lv ls) (hn:ls.length ≤ 100000) (hwf:∀ p ∈ ls,WfP p) (hwh:Tab.whole up ex ls = true) (hT:Table w) (hP:Pows w) :
  Calls Tryz.prog 80 #[.agg #[.int .i64 up,.int .i64 ex,lv]] w fun e w' =>
   e = .returned (.tuple #[.string (Txt.print up ex ls),.int .i64 0]) ∧ Below w.heap.size w w':=by
 have HBel:=hid' ((Below.refl w.heap.size w).alloc (Nat.le_refl _) (.cells #[.int .i64 up,.int .i64 ex,lv] 78))
 have HW:=hid' (is_table lv ls up ex (w.alloc (.cells #[.int .i64 up,.int .i64 ex,lv] 78)) wu wx (held_below hv HBel.out) hn hwf)
 have HROW:=hid' (heap_alloc_new w (.cells #[.int .i64 up,.int .i64 ex,lv] 78))
 rw [hwh] at HW
 have hG:=Tab.good_of_whole hwh
 have hpos:=hG.pos
 have hlen:=hG.len
 obtain ⟨hu0,hux,hx0⟩:=Tab.whole_bd hwh
 have HF:=hid' hG.fine.getD
 clear hwh hwf hG wu wx hn
 have HT:=hid' hT
 have HP:=hid' hP
 clear hT hP
 rcases hv with ⟨rfl,_⟩ | ⟨_,g,cap,rfl,hcap,hgl,hlies⟩
 ·simp at hpos
 have HLies:=hid' hlies
 clear hlies
 have hsu:=Txt.db_size up (by omega)
 have hsx:=Txt.db_size ex (by omega)
 have IU:=hid' (fun w' h => itoa_int up w' hu0 (by omega) h)
 have IX:=hid' (fun w' h => itoa_int ex w' (by omega) (by omega) h)
 have HH:Hid (Txt.head up ex = ⟨#[35,36,32]⟩ ++ Txt.db up ++ ⟨#[10,35,64,32]⟩ ++ Txt.db ex ++ ⟨#[10]⟩):=rfl
 have HD0:Hid (Txt.dgTo up ex ls 0 = Txt.db up ++ Txt.db ex):=rfl
 have HZ:=hid' (fun k => Txt.prTo_size (u:=up) (x:=ex) (ls:=ls) (by omega) (by omega) (fun i => by have:=HF.out i;omega) k)
 have HZD:=hid' (fun k => Txt.dgTo_size (u:=up) (x:=ex) (ls:=ls) (by omega) (by omega) (fun i => by have:=HF.out i;omega) k)
 generalize Txt.db up = su at *
 generalize Txt.db ex = sx at *
 go_enter Tryz.func80,Tryz.ntmps80
 go_wp2_with fail
 refine HW.out.mono ?_
 rintro e w1 ⟨rfl,hb1⟩
 have HB1:=hid' (HBel.out.trans (hb1.mono HBel.out.size))
 have HR1:=hid' ((hb1.block _ (lt_of_heap HROW.out)).trans HROW.out)
 clear hb1
 have t0:=cell_of_row _ _ 0 _ _ _ HR1.out
 simp at t0
 go_wp2_with fail
 refine (IU.out w1 (HP.out.below HB1.out)).mono ?_
 clear t0
 rintro e w2 ⟨rfl,hb2⟩
 have HB2:=hid' (HB1.out.trans (hb2.mono HB1.out.size))
 have HR2:=hid' ((hb2.block _ (lt_of_heap HR1.out)).trans HR1.out)
 clear hb2
 have t1:=cell_of_row _ _ 1 _ _ _ HR2.out
 simp at t1
 go_wp2_with fail
 refine (IX.out w2 (HP.out.below HB2.out)).mono ?_
 clear t1
 rintro e w3 ⟨rfl,hb3⟩
 have HB3:=hid' (HB2.out.trans (hb3.mono HB2.out.size))
 have HR3:=hid' ((hb3.block _ (lt_of_heap HR2.out)).trans HR2.out)
 clear hb3
 go_wp2
 go_loopw [6,7,8,9,10] (fun t d i _ _ wr => ∃ k:Nat,k ≤ ls.length ∧ i = .int .i64 k ∧ t = .string (Txt.prTo up ex ls k) ∧ d = .string (Txt.dgTo up ex ls k) ∧ Below w.heap.size w wr ∧ wr.heap[w.heap.size]? = some (.cells #[.int .i64 up,.int .i64 ex,.slice (some ⟨g,0,none⟩) ls.length cap] 78 (0,0))) (fun _ _ i _ _ _ => ls.length - (intOf i).toNat)
 case atStart => exact ⟨0,by omega,rfl,by rw [Txt.prTo,HH.out],by rw [HD0.out],HB3.out,HR3.out⟩
 case round =>
  obtain ⟨k,hk,rfl,rfl,rfl,hb,hr⟩:=hrel
  have HB:=hid' hb
  have HR:=hid' hr
  clear hb hr
  have hz:=HZ.out k
  have hzd:=HZD.out k
  have t2:=cell_of_row _ _ 2 _ _ _ HR.out
  simp at t2
  by_cases hlt:k < ls.length
  ·have hcell:=HLies.out k hlt
   have hf:=HF.out k
   have HN:Hid (Txt.prTo up ex ls (k + 1) = Txt.prTo up ex ls k ++ (Txt.db ls[k].1 ++ ⟨#[32]⟩ ++ Txt.db ls[k].2 ++ ⟨#[10]⟩)):=by show _ = _;rw [Txt.prTo,getD_at k hlt];rfl
   have HND:Hid (Txt.dgTo up ex ls (k + 1) = Txt.dgTo up ex ls k ++ (Txt.db ls[k].1 ++ Txt.db ls[k].2)):=by show _ = _;rw [Txt.dgTo,getD_at k hlt]
   rw [getD_at k hlt] at hf
   generalize ls[k] = p at *
   obtain ⟨pa,po⟩:=p
   simp only at hcell hf HN HND
   have hsa:=Txt.db_size pa (by omega)
   have hso:=Txt.db_size po (by omega)
   have IA:=hid' (fun w' h => itoa_int pa w' hf.1.1 (by omega) h)
   have IO:=hid' (fun w' h => itoa_int po w' hf.2.1 (by omega) h)
   generalize Txt.db pa = sa at *
   generalize Txt.db po = so at *
   generalize Txt.prTo up ex ls k = pt at *
   generalize Txt.dgTo up ex ls k = dt at *
   have HC:=hid' hcell
   have hc:=(HB.out.cell (p:=⟨g,k * 2,none⟩) hgl).trans hcell.1
   clear hcell
   go_wp2_with fail
   refine (IA.out _ (HP.out.below HB.out)).mono ?_
   clear hc t2
   rintro e w4 ⟨rfl,hb4⟩
   have HB4:=hid' (HB.out.trans (hb4.mono HB.out.size))
   have HR4:=hid' ((hb4.block _ (lt_of_heap HR.out)).trans HR.out)
   clear hb4
   have t2:=cell_of_row _ _ 2 _ _ _ HR4.out
   simp at t2
   have hc:=(HB4.out.cell (p:=⟨g,k * 2 + 1,none⟩) hgl).trans HC.out.2
   go_wp2_with fail
   refine (IO.out _ (HP.out.below HB4.out)).mono ?_
   clear hc t2
   rintro e w5 ⟨rfl,hb5⟩
   have HB5:=hid' (HB4.out.trans (hb5.mono HB4.out.size))
   have HR5:=hid' ((hb5.block _ (lt_of_heap HR4.out)).trans HR4.out)
   clear hb5
   go_wp2
   go_roundw
   case rel => exact ⟨k + 1,by omega,by go_num,by rw [HN.out],by rw [HND.out],HB5.out,HR5.out⟩
   case measure => simp [intOf];omega
  ·have ek:k = ls.length:=by omega
   subst ek
   have HPR:Hid (Txt.print up ex ls = Txt.prTo up ex ls ls.length ++ Txt.hl (Txt.dgst up ex ls)):=rfl
   have HDG:Hid (Txt.dgst up ex ls = ⟨(Sha.digest (Txt.dgTo up ex ls ls.length)).toArray⟩):=rfl
   have hds:=Txt.digest_size (Txt.dgTo up ex ls ls.length)
   rw [← HDG.out] at hds
   have OFF:=hid' (fun w' h => of_any (Txt.dgTo up ex ls ls.length) w' (by omega) h)
   rw [← HDG.out] at OFF
   have HLN:=hid' (fun w' => hash_line (Txt.dgst up ex ls) w' hds)
   have hhl:=Txt.hlTo_size (Txt.dgst up ex ls) 5
   have hhz:(Txt.hl (Txt.dgst up ex ls)).size ≤ 48:=by
    rw [Txt.hl,Txt.size_app];have:(ByteArray.mk #[10]).size = 1:=rfl
    omega
   clear hhl HDG
   generalize Txt.prTo up ex ls ls.length = pt at *
   generalize Txt.dgTo up ex ls ls.length = dt at *
   generalize Txt.dgst up ex ls = dg at *
   generalize Txt.hl dg = hh at *
   go_wp2_with fail
   refine (OFF.out _ (HT.out.below HB.out)).mono ?_
   clear t2
   rintro e w4 ⟨rfl,hb4⟩
   have HB4:=hid' (HB.out.trans (hb4.mono HB.out.size))
   clear hb4
   go_wp2_with fail
   refine (HLN.out _).mono ?_
   rintro e w5 ⟨rfl,rfl⟩
   go_wp2
   go_ret2
   exact ⟨ret_str_num HPR.out.symm,HB4.out⟩
theorem lies_api {w:World} {B g cap:Nat} {ls:List (Int × Int)} (h:w.ownsRow B 84 2 (.slice (some ⟨g,0,none⟩) ls.length cap) ls.length (flat ls)):Lies w g ls:=fun i hi =>
 ⟨by rw [h.cellAt (i * 2) (by omega)];exact flat_at0 ls i hi,by rw [h.cellAt (i * 2 + 1) (by omega)];exact flat_at1 ls i hi⟩
theorem can_follow_own (B:Nat) (lv:Value) (ls:List (Int × Int)) (a o:Int) (w:World) (wa:(Lit.int .i64 a).wf = true) (wo:(Lit.int .i64 o).wf = true) (hv:w.ownsRow B 84 2 lv ls.length (flat ls)) (h40:ls.length ≤ 40)
  (hok:∀ p ∈ ls,0 ≤ p.2 ∧ p.2 ≤ 200):Calls Tryz.prog 169 #[lv,.agg #[.int .i64 a,.int .i64 o]] w fun e w' => e = .returned (.bool (Tab.follows ls a o)) ∧ Below w.heap.size w w':=by
 rcases hv.2 with ⟨rfl,e⟩ | ⟨g,cap,cur,rfl,_⟩
 ·obtain rfl:ls = []:=List.eq_nil_of_length_eq_zero e
  exact can_follow_nil none 0 a o w wa wo
 ·have:=can_follow g cap ls.length ls a o w wa wo (Nat.le_refl _) h40 (lies_api hv) (hv.lt _ rfl).2 (by rw [List.take_length];exact hok)
  rw [List.take_length] at this
  exact this
theorem entry_text {ls:List (Int × Int)} {ws:List ByteArray} (h0:¬ ws.length = 0) (h:ws.length < 2 ∨ Txt.isNum (ws.getD 0 Txt.em) = false ∨ Txt.isNum (ws.getD 1 Txt.em) = false ∨ (2 < ws.length ∧ Txt.beg (ws.getD 2 Txt.em) ⟨#[35]⟩ = false)):Txt.entryErr ls ws = 3:=by
 unfold Txt.entryErr
 rw [if_neg h0]
 by_cases a:ws.length < 2
 ·rw [if_pos a]
 ·rw [if_neg a]
  by_cases b:Txt.isNum (ws.getD 0 Txt.em) = false
  ·rw [if_pos b]
  ·rw [if_neg b]
   by_cases c:Txt.isNum (ws.getD 1 Txt.em) = false
   ·rw [if_pos c]
   ·rw [if_neg c,if_pos]
    rcases h with h | h | h | h
    ·exact absurd h a
    ·exact absurd h b
    ·exact absurd h c
    ·exact h
theorem take_entry_text (bR:Nat) (st:Txt.St) (v:Value) (ws:List ByteArray) (w:World) (hR:Rd w bR st) (hW:Ws w v ws)
  (h:ws.length < 2 ∨ Txt.isNum (ws.getD 0 Txt.em) = false ∨ Txt.isNum (ws.getD 1 Txt.em) = false ∨ (2 < ws.length ∧ Txt.beg (ws.getD 2 Txt.em) ⟨#[35]⟩ = false)) :
  Calls Tryz.prog 164 #[.pointer (some ⟨bR,0,none⟩),v] w fun e w' => e = .returned (.int .i64 (Txt.takeE st ws).1) ∧ ((Txt.takeE st ws).1 = 0 → Rd w' bR (Txt.takeE st ws).2) ∧ Below bR w w':=by
 have hlen:=hW.len
 by_cases h0:ws.length = 0
 ·have H:Hid ((Txt.takeE st ws).1 = 0):=by show Txt.entryErr st.ls ws = 0;unfold Txt.entryErr;rw [if_pos h0]
  have HS:Hid ((Txt.takeE st ws).2 = st):=by show (if _ then _ else _) = _;rw [if_pos h0]
  obtain ⟨ao,cap,rfl⟩:=hW.form
  rw [h0]
  have HR:=hid' hR
  clear hR hW h h0 hlen
  go_enter Tryz.func164,Tryz.ntmps164
  go_wp2
  go_ret
  exact ⟨ret_int H.out.symm,fun _ => by rw [HS.out];exact HR.out,Below.refl _ _⟩
 have H:Hid ((Txt.takeE st ws).1 = 3):=entry_text h0 h
 obtain ⟨g,cap,rfl,hgl,hc⟩:=hW.at' (by omega)
 have hl0:((ws.length:Int) == 0) = false:=by rw [beq_eq_false_iff_ne];omega
 by_cases h2:ws.length < 2
 ·clear h h0 hc hW hR
  go_enter Tryz.func164,Tryz.ntmps164
  go_wp2
  go_ret
  exact ⟨ret_int H.out.symm,no_err H.out (by decide),Below.refl _ _⟩
 have c0:=hc 0 (by omega)
 have c1:=hc 1 (by omega)
 have z0:=hW.sz 0
 have z1:=hW.sz 1
 have N0:=hid' (is_number (ws.getD 0 Txt.em) w (by omega))
 have N1:=hid' (is_number (ws.getD 1 Txt.em) w (by omega))
 by_cases n0:Txt.isNum (ws.getD 0 Txt.em) = false
 ·rw [n0] at N0
  clear h h0 hc hW hR n0 N1 c1 z1
  generalize ws.getD 0 Txt.em = s0 at *
  go_enter Tryz.func164,Tryz.ntmps164
  go_wp2_with (go_at_call 190;refine N0.out.mono ?_;rintro e w' ⟨rfl,rfl⟩)
  go_ret
  exact ⟨ret_int H.out.symm,no_err H.out (by decide),Below.refl _ _⟩
 have n0':Txt.isNum (ws.getD 0 Txt.em) = true:=by simpa using n0
 rw [n0'] at N0
 by_cases n1:Txt.isNum (ws.getD 1 Txt.em) = false
 ·rw [n1] at N1
  clear h h0 hc hW hR n0 n0' n1
  generalize ws.getD 0 Txt.em = s0 at *
  generalize ws.getD 1 Txt.em = s1 at *
  go_enter Tryz.func164,Tryz.ntmps164
  go_wp2_with fail
  refine N0.out.mono ?_
  rintro e w' ⟨rfl,rfl⟩
  go_wp2_with fail
  refine N1.out.mono ?_
  rintro e w' ⟨rfl,rfl⟩
  go_wp2
  go_ret
  exact ⟨ret_int H.out.symm,no_err H.out (by decide),Below.refl _ _⟩
 have n1':Txt.isNum (ws.getD 1 Txt.em) = true:=by simpa using n1
 rw [n1'] at N1
 have h3:2 < ws.length ∧ Txt.beg (ws.getD 2 Txt.em) ⟨#[35]⟩ = false:=by
  rcases h with h | h | h | h
  ·exact absurd h h2
  ·exact absurd h n0
  ·exact absurd h n1
  ·exact h
 obtain ⟨h3,hb⟩:=h3
 have c2:=hc 2 h3
 have HB:=hid' (begins_any (ws.getD 2 Txt.em) ⟨#[35]⟩ w)
 rw [hb] at HB
 clear h h0 hc hW hR n0 n0' n1 n1' hb
 generalize ws.getD 0 Txt.em = s0 at *
 generalize ws.getD 1 Txt.em = s1 at *
 generalize ws.getD 2 Txt.em = s2 at *
 go_enter Tryz.func164,Tryz.ntmps164
 go_wp2_with fail
 refine N0.out.mono ?_
 rintro e w' ⟨rfl,rfl⟩
 go_wp2_with fail
 refine N1.out.mono ?_
 rintro e w' ⟨rfl,rfl⟩
 go_wp2_with (go_at_call 159;refine HB.out.mono ?_;rintro e w' ⟨rfl,rfl⟩)
 go_ret
 exact ⟨ret_int H.out.symm,no_err H.out (by decide),Below.refl _ _⟩
end Go.Proofs.YtmmkhodaljpjgaaGreatDoor
