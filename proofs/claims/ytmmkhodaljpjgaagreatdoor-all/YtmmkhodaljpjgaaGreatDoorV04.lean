import Derived.Test.YtmmkhodaljpjgaaGreatDoorV03
set_option maxRecDepth 100000
set_option maxHeartbeats 6400000
namespace Go.Proofs.YtmmkhodaljpjgaaGreatDoor
open Go.RowKit
theorem first_ok:Sha.first.Ok:=⟨by decide,by decide,by decide,by decide,by decide⟩
theorem behind_ok (s:ByteArray) (e:Int) (n:Nat):(Sha.behind s e n).Ok:=by
 cases n with
 | zero => exact first_ok
 | succ n => exact Sha.mixed_ok _ _
theorem blocks_bd (n:Nat) (h:n ≤ 1000000000):Sha.blocks n ≤ 20000000:=by
 unfold Sha.blocks;split <;> omega
theorem mix_cells (x:Sha.St) (l:List Int) (w:World) (hx:x.Ok) (hl:l.length = 80) (hlb:∀ j,0 ≤ l.getD j 0 ∧ l.getD j 0 < 4294967296) (hT:Table w) :
  Calls Tryz.prog 74 #[.agg x.cells,.agg (l.map (Value.int .u32)).toArray] w fun q w' => q = .returned (.agg (Sha.mixed l x).cells) ∧ Below w.heap.size w w' :=
 mix_any x l w hx hl hlb hT
theorem words_size (l:List Int) (h:l.length = 80):((l.map (Value.int .u32)).toArray).size = 80:=by simp [h]
theorem st_one (x:Sha.St):x.cells.all (·.oneCell') = true:=by simp [Sha.St.cells,Value.oneCell']
theorem of_any (s:ByteArray) (w:World) (hs:s.size ≤ 1000000000) (hT:Table w) :
  Calls Tryz.prog 37 #[.string s] w fun q w' => q = .returned (.string ⟨(Sha.digest s).toArray⟩) ∧ Below w.heap.size w w':=by
 have hz:=zero80.1
 have hp:=hT.pos
 have hbl:=blocks_bd s.size hs
 generalize hbn:Sha.blocks s.size = bn at *
 have HBN:=hid hbn
 have HT:=hid hT
 clear hbn hT
 go_enter Tryz.func37,Tryz.ntmps37
 go_wp2_with (go_at_call 72;refine (count_any _ _ hs).mono ?_;rw [HBN.out];rintro q w' ⟨rfl,rfl⟩)
 go_loopw [5,6] (fun i _ wr => ∃ k:Nat,k ≤ bn ∧ i = .int .i64 k ∧ Below w.heap.size w wr ∧ w.heap.size < wr.heap.size ∧ wr.heap[w.heap.size]? = some (.cells (Sha.behind s (bn * 64) k).cells 73 (0,0))) (fun i _ _ => bn - (intOf i).toNat)
 case atStart => exact ⟨0,by omega,rfl,(Below.refl _ _).alloc (Nat.le_refl _) _,by simp,heap_alloc_new _ _⟩
 case round =>
  obtain ⟨k,hk,rfl,hbw,hlt0,hg⟩:=hrel
  by_cases hlt:k < bn
  ·have HB:=hid hbw
   have HG:=hid hg
   have HTr:=hid (HT.out.below hbw)
   clear hbw hg
   go_wp2_with fail
   refine (sched_any s (k * 64) (bn * 64) _ (by omega) (by omega) (by omega) (by omega) hs).mono ?_
   rintro q w1 ⟨rfl,hb1⟩
   have hw1:=hb1.size
   have HB1:=hid hb1
   have hl80:=Sha.wl_length s (k * 64) (bn * 64) 80
   have hlb:=Sha.wl_bd s (k * 64) (bn * 64) 80
   have HN:Hid (Sha.behind s (bn * 64) (k + 1) = Sha.mixed (Sha.wl s (k * 64) (bn * 64) 80) (Sha.behind s (bn * 64) k)):=rfl
   have HOK:=hid (behind_ok s (bn * 64) k)
   generalize Sha.wl s (k * 64) (bn * 64) 80 = l at *
   generalize Sha.behind s (bn * 64) k = x at *
   have HL:=hid hl80
   have HLB:=hid hlb
   have HW:=hid (words_size l hl80)
   have HW1:=hid (words_one l)
   clear hl80 hlb hb1
   generalize hcs:(l.map (Value.int .u32)).toArray = cs at *
   have HCS:=hid hcs
   clear hcs
   have GS:Hid ((w1.alloc (.cells (zeros 80) 135)).heap[w1.heap.size]? = some (.cells (zeros 80) 135 (0,0))):=heap_alloc_new _ _
   have GX6:Hid (((w1.alloc (.cells (zeros 80) 135)).setRow w1.heap.size cs).heap[w1.heap.size]? = some (.cells cs 135 (0,0))):=setRow_heap _ _ _ _ _ _ GS.out
   have G1:Hid (w1.heap[w.heap.size]? = some (.cells x.cells 73 (0,0))):=by
    show _ = _;rw [HB1.out.block _ hlt0];exact HG.out
   have GX3:Hid (((w1.alloc (.cells (zeros 80) 135)).setRow w1.heap.size cs).heap[w.heap.size]? = some (.cells x.cells 73 (0,0))):=by
    show _ = _;rw [setRow_other _ _ _ _ (by omega),Below.heap_alloc _ _ _ (by omega)];exact G1.out
   have BX:Hid (Below w1.heap.size w1 ((w1.alloc (.cells (zeros 80) 135)).setRow w1.heap.size cs)):=below_setRow ((Below.refl _ _).alloc (Nat.le_refl _) _) (Nat.le_refl _)
   have SX:((w1.alloc (.cells (zeros 80) 135)).setRow w1.heap.size cs).heap.size = w1.heap.size + 1:=by simp
   have I80:Hid ((Tryz.prog.info? 135).map (·.size) = some cs.size):=by show _ = _;rw [HW.out];exact zero80.2
   have I5:Hid ((Tryz.prog.info? 73).map (·.size) = some x.cells.size):=zero5.2
   have SXH:=hid SX
   clear SX
   go_wp2_with (first
    | ((with_reducible refine wpl_store (g:=w1.heap.size) (cells:=cs) GS.out I80.out ?_ HW1.out ?_ ?_ ?_);(rw [zeros_size,HW.out]);exact rfl;exact rfl)
    | ((with_reducible refine wpl_load (g:=w.heap.size) GX3.out Tryz.underlying73 ?_ I5.out ?_ ?_);exact rfl;exact rfl)
    | ((with_reducible refine wpl_load (g:=w1.heap.size) GX6.out Tryz.underlying135 ?_ I80.out ?_ ?_);exact rfl;exact rfl))
   generalize hX:(w1.alloc (.cells (zeros 80) 135)).setRow w1.heap.size cs = X at *
   clear hX
   have hsx:=SXH.out
   have HTX:Table X:=(HTr.out.below HB1.out).below BX.out
   have hm:=mix_cells x l X HOK.out HL.out HLB.out HTX
   rw [HCS.out] at hm
   refine hm.mono ?_
   clear hm HTX
   rintro q w2 ⟨rfl,hb2⟩
   have G2:Hid (w2.heap[w.heap.size]? = some (.cells x.cells 73 (0,0))):=by show _ = _;rw [hb2.block _ (by omega)];exact GX3.out
   have I5':Hid ((Tryz.prog.info? 73).map (·.size) = some (Sha.mixed l x).cells.size):=zero5.2
   have H1':=hid (st_one (Sha.mixed l x))
   have hw2:=hb2.size
   have HB2:=hid hb2
   clear hb2
   go_wp2_with ((with_reducible refine wpl_store (g:=w.heap.size) (cells:=(Sha.mixed l x).cells) G2.out I5'.out ?_ H1'.out ?_ ?_ ?_);exact rfl;exact rfl;exact rfl)
   go_roundw
   case rel =>
    refine ⟨k + 1,by omega,by go_num,?_,by simp;omega,?_⟩
    ·exact below_setRow (((HB.out.trans (HB1.out.mono (by omega))).trans (BX.out.mono (by omega))).trans (HB2.out.mono (by omega))) (Nat.le_refl _)
    ·rw [HN.out];exact setRow_heap _ _ _ _ _ _ G2.out
   case measure => simp [intOf];omega
  ·have ek:k = bn:=by omega
   subst ek
   have HOK:=hid (behind_ok s (k * 64) k)
   have HD:Hid (Sha.digest s = (Sha.behind s (k * 64) k).text 5):=by show _ = _;unfold Sha.digest;rw [HBN.out]
   generalize Sha.behind s (k * 64) k = x at *
   have HBW:=hid hbw
   have HG:=hid hg
   clear hbw hg
   go_wp2
   go_loop [7,8] (fun t i => ∃ j:Nat,j ≤ 5 ∧ i = .int .i64 j ∧ t = .string ⟨(x.text j).toArray⟩) (fun _ i => 5 - (intOf i).toNat)
   case atStart => exact ⟨0,by omega,rfl,rfl⟩
   case round =>
    obtain ⟨j,hj,rfl,rfl⟩:=hrel
    by_cases hlt5:j < 5
    ·have hcell:wr.cell? ⟨w.heap.size,j,none⟩ = some (.int .u32 (x.word j)):=by
      rw [cell_of_row _ _ _ _ _ _ HG.out];exact x.cells_at j hlt5
     have hwd:=HOK.out.word j
     have htl:=x.text_length j
     have HX:Hid (x.text (j + 1) = x.text j ++ Sha.hexs (x.word j) 8):=rfl
     have hxl:=Sha.hexs_length (x.word j) 8
     have h1:(ByteArray.mk (x.text j).toArray).size = 8 * j:=by simpa [ByteArray.size] using htl
     have h2:(ByteArray.mk (Sha.hexs (x.word j) 8).toArray).size = 8:=by simpa [ByteArray.size] using hxl
     clear htl hxl
     have HE:Hid (ByteArray.mk (x.text j).toArray ++ ByteArray.mk (Sha.hexs (x.word j) 8).toArray = ByteArray.mk (x.text (j + 1)).toArray):=by
      show _ = _;rw [HX.out];congr 1
     have hcall:=hex_any (x.word j) wr hwd.1 hwd.2
     have HCALL:=hid hcall
     clear hcall
     generalize hA:ByteArray.mk (x.text j).toArray = A at *
     generalize hB:ByteArray.mk (Sha.hexs (x.word j) 8).toArray = B at *
     clear hA hB
     go_wp2_with (go_at_call 75;refine HCALL.out.mono ?_;rintro q w' ⟨rfl,rfl⟩)
     exact ⟨⟨j + 1,by omega,by go_num,by rw [HE.out]⟩,by simp [intOf];omega⟩
    ·have e5:j = 5:=by omega
     subst e5
     go_wp2
     go_ret
     exact ⟨ret_str (by rw [HD.out]),HBW.out⟩
theorem digest_any (s:ByteArray) (w:World) (hs:s.size ≤ 1000000000) (hT:Table w) :
  Calls Tryz.prog 22 #[.string s] w fun q w' => q = .returned (.string ⟨(Sha.digest s).toArray⟩) ∧ Below w.heap.size w w':=by
 have HT:=hid hT
 clear hT
 go_enter Tryz.func22,Tryz.ntmps22
 go_wp2_with fail
 refine (of_any s _ hs HT.out).mono ?_
 rintro q w1 ⟨rfl,hb⟩
 go_wp2
 go_ret
 exact ⟨rfl,hb⟩
namespace Tab
theorem Good.lenFrom_three {ls:List (Int × Int)} (h:Good ls) (D:Int) (m i:Nat) (hi:1 ≤ i) (hm:i + m ≤ ls.length):86399 ≤ lenFrom ls D i m ∧ lenFrom ls D i m ≤ 86401:=by
 induction m generalizing i with
 | zero => simp [lenFrom]
 | succ m ih =>
  simp only [lenFrom]
  split
  ·have:=h.off (i - 1) (by omega)
   rw [show i - 1 + 1 = i from by omega] at this
   omega
  ·exact ih (i + 1) (by omega) (by omega)
theorem Good.three {ls:List (Int × Int)} (h:Good ls) (d:Int):86399 ≤ length ls d ∧ length ls d ≤ 86401 :=
 h.lenFrom_three _ _ _ (Nat.le_refl _) (by have:=h.pos;omega)
end Tab
namespace Txt
def isGap (c:Int):Bool:=c == 32 || c == 9
def beg (s p:ByteArray):Bool:=decide (p.size ≤ s.size ∧ s.extract 0 p.size = p)
def eolF (t:ByteArray):Nat → Nat → Nat
 | 0,b => b
 | f + 1,b => if b < t.size ∧ byte t b ≠ 10 then eolF t f (b + 1) else b
def eol (t:ByteArray) (b:Nat):Nat:=eolF t (t.size - b) b
theorem eol_go {t:ByteArray} {b:Nat} (h:b < t.size) (hn:byte t b ≠ 10):eol t b = eol t (b + 1):=by
 unfold eol
 rw [show t.size - b = (t.size - (b + 1)) + 1 from by omega,eolF,if_pos ⟨h,hn⟩]
theorem eol_stop {t:ByteArray} {b:Nat} (h:¬ (b < t.size ∧ byte t b ≠ 10)):eol t b = b:=by
 unfold eol
 cases hf:t.size - b with
 | zero => rfl
 | succ f => rw [eolF,if_neg h]
theorem eol_bd (t:ByteArray) (b:Nat) (h:b ≤ t.size):b ≤ eol t b ∧ eol t b ≤ t.size:=by
 unfold eol
 generalize hf:t.size - b = f
 induction f generalizing b with
 | zero => simp only [eolF];omega
 | succ f ih =>
  simp only [eolF]
  split
  ·have:=ih (b + 1) (by omega) (by omega);omega
  ·omega
theorem scan_word {s:ByteArray} {k:Nat} (h:inWord s k):scan s (k + 1) = ((scan s k).1,(scan s k).2 ++ s.extract k (k + 1)):=by rw [scan,if_pos h]
theorem scan_gap {s:ByteArray} {k:Nat} (h:¬ inWord s k) (he:(scan s k).2 = ⟨#[]⟩):scan s (k + 1) = scan s k:=by rw [scan,if_neg h,if_pos he]
theorem scan_end {s:ByteArray} {k:Nat} (h:¬ inWord s k) (he:¬ (scan s k).2 = ⟨#[]⟩):scan s (k + 1) = ((scan s k).1 ++ [(scan s k).2],⟨#[]⟩):=by rw [scan,if_neg h,if_neg he]
theorem extract_more (s:ByteArray) (b j:Nat) (h:b ≤ j):s.extract b j ++ s.extract j (j + 1) = s.extract b (j + 1):=by
 rw [ByteArray.extract_append_extract]
 congr 1 <;> omega
theorem extract_none (s:ByteArray) (b:Nat):s.extract b b = ⟨#[]⟩:=by
 have h:(s.extract b b).size = 0:=by rw [ByteArray.size_extract];omega
 generalize s.extract b b = x at *
 obtain ⟨d⟩:=x
 have:d = #[]:=by apply Array.eq_empty_of_size_eq_zero;exact h
 subst this;rfl
theorem extract_some (s:ByteArray) (b j:Nat) (h:b < j) (hj:j ≤ s.size):¬ s.extract b j = ⟨#[]⟩:=fun e => by
 have h1:(s.extract b j).size = 0:=by rw [e];rfl
 rw [ByteArray.size_extract] at h1
 omega
end Txt
theorem str_eq (a b:ByteArray):(a.toList == b.toList) = decide (a = b):=by
 rw [ByteArray.toList_eq,ByteArray.toList_eq]
 by_cases h:a = b
 ·subst h;simp
 ·have h':¬ a.data = b.data:=fun e => h (ByteArray.ext e)
  simp [h,h']
theorem is_gap (c:Int) (w:World):Calls Tryz.prog 187 #[.int .u8 c] w fun e w' => e = .returned (.bool (Txt.isGap c)) ∧ w' = w:=by
 by_cases h0:c = 32
 ·subst h0
  go_enter Tryz.func187,Tryz.ntmps187
  go_wp2
  go_ret
  exact ⟨rfl,rfl⟩
 ·have h0':(c == 32) = false:=by rw [beq_eq_false_iff_ne];exact h0
  have H:Hid (Txt.isGap c = (c == 9)):=by show _ = _;unfold Txt.isGap;rw [h0'];rfl
  go_enter Tryz.func187,Tryz.ntmps187
  go_wp2
  all_goals
   go_ret
   exact ⟨ret_bool H.out.symm,rfl⟩
theorem begins_any (s p:ByteArray) (w:World) :
  Calls Tryz.prog 159 #[.string s,.string p] w fun e w' => e = .returned (.bool (Txt.beg s p)) ∧ w' = w:=by
 by_cases h:p.size ≤ s.size
 ·have H:Hid (Txt.beg s p = decide (s.extract 0 p.size = p)):=by show _ = _;unfold Txt.beg;simp [h]
  go_enter Tryz.func159,Tryz.ntmps159
  go_wp2
  all_goals
   go_ret
   exact ⟨ret_bool (by rw [H.out,str_eq]),rfl⟩
 ·have H:Hid (Txt.beg s p = false):=by show _ = _;unfold Txt.beg;simp [h]
  go_enter Tryz.func159,Tryz.ntmps159
  go_wp2
  go_ret
  exact ⟨ret_bool H.out.symm,rfl⟩
theorem line_end (t:ByteArray) (b:Nat) (w:World) (hb:b ≤ t.size) (hs:t.size ≤ 1000000000) :
  Calls Tryz.prog 120 #[.string t,.int .i64 b] w fun e w' => e = .returned (.int .i64 (Txt.eol t b)) ∧ w' = w:=by
 go_enter Tryz.func120,Tryz.ntmps120
 go_wp2
 go_loop [5] (fun i => ∃ k:Nat,k ≤ t.size ∧ i = .int .i64 k ∧ Txt.eol t b = Txt.eol t k) (fun i => t.size - (intOf i).toNat)
 case atStart => exact ⟨b,by omega,rfl,rfl⟩
 case round =>
  obtain ⟨k,hk,rfl,hrl⟩:=hrel
  have HRL:=hid' hrl
  clear hrl
  by_cases hlt:k < t.size
  ·by_cases hn:(t[k].toNat:Int) = 10
   ·have H:Hid (Txt.eol t b = k):=by show _ = _;rw [HRL.out];exact Txt.eol_stop fun h => h.2 (by rw [Txt.byte_at t k hlt];exact hn)
    have hn':((t[k].toNat:Int) != 10) = false:=by rw [bne_eq_false_iff_eq];exact hn
    clear hn
    go_wp2
    go_ret
    exact ⟨ret_int (by rw [H.out]),rfl⟩
   ·have H:Hid (Txt.eol t b = Txt.eol t (k + 1)):=by show _ = _;rw [HRL.out];exact Txt.eol_go hlt (by rw [Txt.byte_at t k hlt];exact hn)
    have hn':((t[k].toNat:Int) != 10) = true:=bne_iff_ne.2 hn
    clear hn
    go_wp2
    exact ⟨⟨k + 1,by omega,by go_num,H.out⟩,by simp [intOf];omega⟩
  ·have H:Hid (Txt.eol t b = k):=by show _ = _;rw [HRL.out];exact Txt.eol_stop fun h => hlt h.1
   have hnl:¬ (k:Int) < (t.size:Int):=by omega
   go_wp2
   go_ret
   exact ⟨ret_int (by rw [H.out]),rfl⟩
theorem infoStr:(Tryz.prog.info? 9).map (fun i => (i.zero,i.size,i.bytes)) = some (some (.string ByteArray.empty),1,16):=by kernel_rfl
theorem words_of (s:ByteArray) (w:World) (hs:s.size ≤ 1000000) :
  Calls Tryz.prog 161 #[.string s] w fun e w' => ∃ v,e = .returned v ∧ w'.ownsRow w.heap.size 9 1 v (Txt.words s).length ((Txt.words s).map Value.string) ∧ Below w.heap.size w w':=by
 obtain ⟨i0,hi0,hz0,hz1,hz2⟩:=info_parts infoStr
 go_enter Tryz.func161,Tryz.ntmps161
 go_wp2
 go_loopw [3,4,5] (fun l i _ wr => ∃ b:Nat,b ≤ s.size + 1 ∧ i = .int .i64 b ∧ (Txt.scan s b).2 = ⟨#[]⟩ ∧ wr.ownsRow w.heap.size 9 1 l (Txt.scan s b).1.length ((Txt.scan s b).1.map Value.string) ∧ Below w.heap.size w wr) (fun _ i _ _ => s.size + 1 - (intOf i).toNat)
 case atStart => exact ⟨0,by omega,rfl,rfl,World.ownsRow_nil _ _ _ _,Below.refl _ _⟩
 case round =>
  obtain ⟨b,hb,rfl,hemp,hown,hbw⟩:=hrel
  have hsw:=hbw.size
  have OWN:=hid' hown
  have HBW:=hid' hbw
  have HEMP:=hid' hemp
  clear hown hbw hemp
  by_cases hlt:b < s.size
  ·go_wp2_with fail
   go_loop [5] (fun i => ∃ j:Nat,b ≤ j ∧ j ≤ s.size ∧ i = .int .i64 j ∧ (Txt.scan s j).1 = (Txt.scan s b).1 ∧ (Txt.scan s j).2 = s.extract b j) (fun i => s.size - (intOf i).toNat)
   case atStart => exact ⟨b,by omega,by omega,rfl,rfl,by rw [HEMP.out,Txt.extract_none]⟩
   case round =>
    obtain ⟨j,hbj,hj,rfl,hs1,hs2⟩:=hrel
    have HS1:=hid' hs1
    have HS2:=hid' hs2
    clear hs1 hs2
    by_cases hjl:j < s.size
    ·have HG:=hid' (is_gap (s[j].toNat:Int) wr)
     by_cases hg:Txt.isGap (s[j].toNat:Int) = true
     ·rw [hg] at HG
      have hnw:¬ Txt.inWord s j:=fun h => by
       have h1:=h.2.1
       have h2:=h.2.2
       rw [Txt.byte_at s j hjl] at h1 h2
       unfold Txt.isGap at hg
       simp at hg
       omega
      have HNW:=hid' hnw
      clear hnw hg
      have hbd:=Txt.scan_bd s b
      by_cases hwd:b < j
      ·have HSC:Hid (Txt.scan s (j + 1) = ((Txt.scan s b).1 ++ [s.extract b j],⟨#[]⟩)):=by show _ = _;rw [Txt.scan_end HNW.out (by rw [HS2.out];exact Txt.extract_some s b j hwd hj),HS1.out,HS2.out]
       go_wp2_with (first
        | (go_at_call 187;refine HG.out.mono ?_;rintro e w1 ⟨rfl,rfl⟩)
        | (at_builtin;refine wpList_append_lies _ (by rfl) (.tmp 27) (.tmp 32) 30 (by rfl) w.heap.size 9 i0 (.string ByteArray.empty) 1 16 Tryz.underlying30 hi0 hz0 hz1 hz2 rfl (by decide) u3 (Txt.scan s b).1.length ((Txt.scan s b).1.map Value.string) (by rfl) (OWN.out.alloc _) ⟨w1.heap.size,0,none⟩ 1 1 [.string (s.extract b j)] (by rfl) (by rfl) (World.news_of_block (cs:=#[.string (s.extract b j)]) (heap_alloc_new w1 _)) (by simp [Value.oneCell']) (by decide) (by unfold maxLen;omega) (by omega) (by simp;omega) (w1.heap.size + 1) (by simp) ?_;intro g3 cap3 w3 own3 hg3 _ hlt3;have HB3:=hid' ((HBW.out.alloc hsw _).grown hg3 (by simp;omega) (own_ge OWN.out));have OWN3:=hid' own3;clear own3 hg3))
       go_roundw
       case rel => exact ⟨j + 1,by omega,by go_num,by rw [HSC.out],by rw [HSC.out];simpa using OWN3.out,HB3.out⟩
       case measure => simp [intOf];omega
      ·have ebj:j = b:=by omega
       have HSC:Hid (Txt.scan s (j + 1) = Txt.scan s b):=by show _ = _;rw [ebj] at HNW ⊢;exact Txt.scan_gap HNW.out HEMP.out
       have hnb:¬ (b:Int) < (j:Int):=by omega
       clear ebj
       go_wp2_with ((go_at_call 187;refine HG.out.mono ?_;rintro e w1 ⟨rfl,rfl⟩))
       go_roundw
       case rel => exact ⟨j + 1,by omega,by go_num,by rw [HSC.out];exact HEMP.out,by rw [HSC.out];exact OWN.out,HBW.out⟩
       case measure => simp [intOf];omega
     ·have hg':Txt.isGap (s[j].toNat:Int) = false:=by simpa using hg
      rw [hg'] at HG
      have hiw:Txt.inWord s j:=by
       unfold Txt.isGap at hg'
       simp at hg'
       exact ⟨hjl,by rw [Txt.byte_at s j hjl];exact hg'.1,by rw [Txt.byte_at s j hjl];exact hg'.2⟩
      have H1:Hid ((Txt.scan s (j + 1)).1 = (Txt.scan s b).1):=by show _ = _;rw [Txt.scan_word hiw];exact HS1.out
      have H2:Hid ((Txt.scan s (j + 1)).2 = s.extract b (j + 1)):=by show _ = _;rw [Txt.scan_word hiw];simp only;rw [HS2.out,Txt.extract_more s b j hbj]
      clear hg hg' hiw
      go_wp2_with (go_at_call 187;refine HG.out.mono ?_;rintro e w' ⟨rfl,rfl⟩)
      exact ⟨⟨j + 1,by omega,by omega,by go_num,H1.out,H2.out⟩,by simp [intOf];omega⟩
    ·have ej:j = s.size:=by omega
     have hnl:¬ (j:Int) < (s.size:Int):=by omega
     have HNW:Hid (¬ Txt.inWord s j):=fun h => hjl h.1
     have hbd:=Txt.scan_bd s b
     clear ej
     by_cases hwd:b < j
     ·have HSC:Hid (Txt.scan s (j + 1) = ((Txt.scan s b).1 ++ [s.extract b j],⟨#[]⟩)):=by show _ = _;rw [Txt.scan_end HNW.out (by rw [HS2.out];exact Txt.extract_some s b j hwd hj),HS1.out,HS2.out]
      go_wp2_with (first
       | fail
       | (at_builtin;refine wpList_append_lies _ (by rfl) (.tmp 27) (.tmp 32) 30 (by rfl) w.heap.size 9 i0 (.string ByteArray.empty) 1 16 Tryz.underlying30 hi0 hz0 hz1 hz2 rfl (by decide) u3 (Txt.scan s b).1.length ((Txt.scan s b).1.map Value.string) (by rfl) (OWN.out.alloc _) ⟨wr.heap.size,0,none⟩ 1 1 [.string (s.extract b j)] (by rfl) (by rfl) (World.news_of_block (cs:=#[.string (s.extract b j)]) (heap_alloc_new wr _)) (by simp [Value.oneCell']) (by decide) (by unfold maxLen;omega) (by omega) (by simp;omega) (wr.heap.size + 1) (by simp) ?_;intro g3 cap3 w3 own3 hg3 _ hlt3;have HB3:=hid' ((HBW.out.alloc hsw _).grown hg3 (by simp;omega) (own_ge OWN.out));have OWN3:=hid' own3;clear own3 hg3))
      go_roundw
      case rel => exact ⟨j + 1,by omega,by go_num,by rw [HSC.out],by rw [HSC.out];simpa using OWN3.out,HB3.out⟩
      case measure => simp [intOf];omega
     ·have ebj:j = b:=by omega
      have HSC:Hid (Txt.scan s (j + 1) = Txt.scan s b):=by show _ = _;rw [ebj] at HNW ⊢;exact Txt.scan_gap HNW.out HEMP.out
      have hnb:¬ (b:Int) < (j:Int):=by omega
      clear ebj
      go_wp2_with (fail)
      go_roundw
      case rel => exact ⟨j + 1,by omega,by go_num,by rw [HSC.out];exact HEMP.out,by rw [HSC.out];exact OWN.out,HBW.out⟩
      case measure => simp [intOf];omega
  ·have HW:Hid ((Txt.scan s b).1 = Txt.words s):=by
    show _ = _
    unfold Txt.words
    by_cases e:b = s.size + 1
    ·rw [e]
    ·have eb:b = s.size:=by omega
     rw [← eb,Txt.scan_gap (fun h => hlt h.1) HEMP.out]
   have hnk:¬ (b:Int) < (s.size:Int):=by omega
   rw [HW.out] at OWN
   go_wp2
   go_ret
   exact ⟨_,rfl,OWN.out,HBW.out⟩
namespace Txt
abbrev em:ByteArray:=⟨#[]⟩
structure St where
 u:ByteArray
 x:ByteArray
 h:ByteArray
 ls:List (Int × Int)
 dg:ByteArray
def once (ws:List ByteArray) (before:ByteArray):Int :=
 if ws.length ≠ 1 then 3 else if isNum (ws.getD 0 em) = false then 3 else if before ≠ em then 4 else 0
def hexTo (ws:List ByteArray):Nat → ByteArray
 | 0 => em
 | k + 1 => hexTo ws k ++ word (ws.getD k em)
def Hexed (ws:List ByteArray) (k:Nat):Prop:=∀ i,i < k → isHex (ws.getD i em) = true
def hexedB (ws:List ByteArray):Nat → Bool
 | 0 => true
 | k + 1 => hexedB ws k && isHex (ws.getD k em)
theorem hexedB_iff (ws:List ByteArray) (k:Nat):hexedB ws k = true ↔ Hexed ws k:=by
 induction k with
 | zero => exact ⟨fun _ i hi => by omega,fun _ => rfl⟩
 | succ k ih =>
  simp only [hexedB,Bool.and_eq_true]
  rw [ih]
  refine ⟨fun h i hi => ?_,fun h => ⟨fun i hi => h i (by omega),h k (by omega)⟩⟩
  by_cases e:i = k
  ·subst e;exact h.2
  ·exact h.1 i (by omega)
theorem hexedB_no {ws:List ByteArray} {k:Nat} (h:¬ Hexed ws k):hexedB ws k = false:=by
 cases e:hexedB ws k with
 | false => rfl
 | true => exact absurd ((hexedB_iff ws k).1 e) h
def hashErr (ws:List ByteArray) (before:ByteArray):Int :=
 if ws.length ≠ 5 then 3 else if hexedB ws 5 = false then 3 else if before ≠ em then 4 else 0
def entryErr (ls:List (Int × Int)) (ws:List ByteArray):Int :=
 if ws.length = 0 then 0 else if ws.length < 2 then 3 else if isNum (ws.getD 0 em) = false then 3 else if isNum (ws.getD 1 em) = false then 3
 else if 2 < ws.length ∧ beg (ws.getD 2 em) ⟨#[35]⟩ = false then 3
 else if Tab.follows ls (numTo (ws.getD 0 em) (ws.getD 0 em).size) (numTo (ws.getD 1 em) (ws.getD 1 em).size) = false then 5 else 0
def entryOf (ws:List ByteArray):Int × Int:=(numTo (ws.getD 0 em) (ws.getD 0 em).size,numTo (ws.getD 1 em) (ws.getD 1 em).size)
def takeU (st:St) (ws:List ByteArray):Int × St:=(once ws st.u,{ st with u:=ws.getD 0 em,dg:=st.dg ++ ws.getD 0 em })
def takeX (st:St) (ws:List ByteArray):Int × St:=(once ws st.x,{ st with x:=ws.getD 0 em,dg:=st.dg ++ ws.getD 0 em })
def takeH (st:St) (ws:List ByteArray):Int × St:=(hashErr ws st.h,{ st with h:=hexTo ws 5 })
def takeE (st:St) (ws:List ByteArray):Int × St :=
 (entryErr st.ls ws,if ws.length = 0 then st else { st with ls:=st.ls ++ [entryOf ws],dg:=st.dg ++ (ws.getD 0 em ++ ws.getD 1 em) })
def line (st:St) (s:ByteArray):Int × St :=
 if beg s ⟨#[35,36]⟩ = true then takeU st (words (s.extract 2 s.size))
 else if beg s ⟨#[35,64]⟩ = true then takeX st (words (s.extract 2 s.size))
 else if beg s ⟨#[35,104]⟩ = true then takeH st (words (s.extract 2 s.size))
 else if beg s ⟨#[35]⟩ = true then (0,st) else takeE st (words s)
structure Ok (st:St) (n:Nat):Prop where
 dg:st.dg.size ≤ 22 * n
 u:st.u = em ∨ isNum st.u = true
 x:st.x = em ∨ isNum st.x = true
 ls:Tab.okUpTo st.ls st.ls.length = true
 len:st.ls.length ≤ 40
 wf:∀ p ∈ st.ls,WfP p
 off:∀ p ∈ st.ls,0 ≤ p.2 ∧ p.2 ≤ 200
 h:st.h.size ≤ 40
theorem once_cases {ws:List ByteArray} {b:ByteArray} (h:once ws b = 0):ws.length = 1 ∧ isNum (ws.getD 0 em) = true ∧ b = em:=by
 unfold once at h
 split at h
 ·cases h
 ·split at h
  ·cases h
  ·split at h
   ·cases h
   ·rename_i a b c;refine ⟨by omega,by simpa using b,by simpa using c⟩
theorem size_num {s:ByteArray} (h:isNum s = true):s.size ≤ 11:=by have:=(isNum_is h).1;omega
theorem size_word {s:ByteArray}:(word s).size ≤ 8:=by
 cases h:isHex s with
 | false => rw [word_none h];decide
 | true =>
  have h8:=(isHex_is h).1
  rw [word_of h,ByteArray.size_append,ByteArray.size_extract]
  have:noughts.size = 8:=rfl
  omega
theorem size_hexTo (ws:List ByteArray) (k:Nat):(hexTo ws k).size ≤ 8 * k:=by
 induction k with
 | zero => exact Nat.le_refl _
 | succ k ih => rw [hexTo,ByteArray.size_append];have:=size_word (s:=ws.getD k em);omega
end Txt
theorem ref_day_no (y m d:Int) (w:World) (h:NoDate y m d) :
  Calls Tryz.prog 33 #[.int .i64 y,.int .i64 m,.int .i64 d] w fun e w' => e = .returned (.tuple #[.int .i64 0,.int .i64 1]) ∧ w' = w:=by
 unfold NoDate at h
 by_cases c1:y < 1900
 ·clear h
  go_enter Tryz.func33,Tryz.ntmps33
  go_wp2
  go_ret2
  exact ⟨rfl,rfl⟩
 by_cases c2:2999 < y
 ·clear h
  go_enter Tryz.func33,Tryz.ntmps33
  go_wp2
  go_ret2
  exact ⟨rfl,rfl⟩
 by_cases c3:m < 1
 ·clear h
  go_enter Tryz.func33,Tryz.ntmps33
  go_wp2
  go_ret2
  exact ⟨rfl,rfl⟩
 by_cases c4:12 < m
 ·clear h
  go_enter Tryz.func33,Tryz.ntmps33
  go_wp2
  go_ret2
  exact ⟨rfl,rfl⟩
 by_cases c5:d < 1
 ·clear h
  go_enter Tryz.func33,Tryz.ntmps33
  go_wp2
  go_ret2
  exact ⟨rfl,rfl⟩
 ·have c6:Cal.dim y m < d:=by omega
  clear h
  go_enter Tryz.func33,Tryz.ntmps33
  go_wp2_with (go_at_call 69;refine (month_len _ _ _ (by omega)).mono ?_;rintro e w' ⟨rfl,rfl⟩)
  go_ret2
  exact ⟨rfl,rfl⟩
theorem ref_day_yes (y m d:Int) (w:World) (hy1:1900 ≤ y) (hy2:y ≤ 2999) (hm1:1 ≤ m) (hm2:m ≤ 12) (hd1:1 ≤ d) (hd2:d ≤ Cal.dim y m) :
  Calls Tryz.prog 33 #[.int .i64 y,.int .i64 m,.int .i64 d] w fun e w' => e = .returned (.tuple #[.int .i64 (Cal.yb y + Cal.cum y m + d - 1),.int .i64 0]) ∧ w' = w:=by
 have db:=Cal.dim_bd y m
 go_enter Tryz.func33,Tryz.ntmps33
 go_wp2_with (go_at_call 69;refine (month_len _ _ _ (by omega)).mono ?_;rintro e w' ⟨rfl,rfl⟩)
 go_loop [8,9] (fun s k => ∃ q:Int,1900 ≤ q ∧ q ≤ y ∧ k = .int .i64 q ∧ s = .int .i64 (d - 1 + Cal.yb q)) (fun _ k => (3000 - intOf k).toNat)
 case atStart => exact ⟨1900,by omega,hy1,rfl,by rw [Cal.yb_first];simp⟩
 case round =>
  obtain ⟨q,hq1,hq2,rfl,rfl⟩:=hrel
  have qb:=Cal.yb_bd q hq1 (by omega)
  have l01:=Cal.lp_01 q
  have HS:Hid (Cal.yb (q + 1) = Cal.yb q + 365 + Cal.lp q):=Cal.yb_succ q
  by_cases hlt:q < y
  ·go_wp2_with (go_at_call 70;refine (year_len _ _ (by omega)).mono ?_;rintro e w' ⟨rfl,rfl⟩)
   go_round
   case rel => exact ⟨q + 1,by omega,by omega,rfl,by rw [HS.out];go_num⟩
   case measure => simp [intOf];omega
  ·have e:q = y:=by omega
   subst e
   go_wp2
   go_loop [8,10] (fun s k => ∃ r:Int,1 ≤ r ∧ r ≤ m ∧ k = .int .i64 r ∧ s = .int .i64 (d - 1 + Cal.yb q + Cal.cum q r)) (fun _ k => (12 - intOf k).toNat)
   case atStart => exact ⟨1,by omega,by omega,rfl,by rw [Cal.cum_one];simp⟩
   case round =>
    obtain ⟨r,hr1,hr2,rfl,rfl⟩:=hrel
    have cb:=Cal.cum_bd q r hr1 (by omega)
    have dq:=Cal.dim_bd q r
    have HC:Hid (Cal.cum q (r + 1) = Cal.cum q r + Cal.dim q r):=Cal.cum_succ q r hr1 (by omega)
    by_cases hltr:r < m
    ·go_wp2_with (go_at_call 69;refine (month_len _ _ _ (by omega)).mono ?_;rintro e w' ⟨rfl,rfl⟩)
     go_round
     case rel => exact ⟨r + 1,by omega,by omega,rfl,by rw [HC.out];go_num⟩
     case measure => simp [intOf];omega
    ·have e:r = m:=by omega
     subst e
     have HV:Hid (Cal.yb q + Cal.cum q r + d - 1 = d - 1 + Cal.yb q + Cal.cum q r):=by show _ = _;omega
     go_wp2
     go_ret2
     exact ⟨by rw [HV.out];rfl,rfl⟩
theorem ref_civil_no (n:Int) (w:World) (h:n < 0 ∨ 401767 ≤ n) :
  Calls Tryz.prog 36 #[.int .i64 n] w fun e w' => e = .returned (.tuple #[.int .i64 0,.int .i64 0,.int .i64 0,.int .i64 1]) ∧ w' = w:=by
 rcases h with h | h
 ·go_enter Tryz.func36,Tryz.ntmps36
  go_wp2
  refine bodyPost_ret (results_four rfl _ _ _) rfl ?_
  exact ⟨rfl,rfl⟩
 ·have h':¬ n < 0:=by omega
  go_enter Tryz.func36,Tryz.ntmps36
  go_wp2
  refine bodyPost_ret (results_four rfl _ _ _) rfl ?_
  exact ⟨rfl,rfl⟩
theorem ref_civil_yes (n:Int) (w:World) (h0:0 ≤ n) (h1:n < 401767) :
  Calls Tryz.prog 36 #[.int .i64 n] w fun e w' => (∃ y m:Int,e = .returned (.tuple #[.int .i64 y,.int .i64 m,.int .i64 (n - Cal.yb y - Cal.cum y m + 1),.int .i64 0]) ∧ Cal.In y m n) ∧ w' = w:=by
 go_enter Tryz.func36,Tryz.ntmps36
 go_wp2
 go_loop [0,6] (fun r k => ∃ y:Int,1900 ≤ y ∧ y ≤ 2999 ∧ Cal.yb y ≤ n ∧ k = .int .i64 y ∧ r = .int .i64 (n - Cal.yb y)) (fun _ k => (2999 - intOf k).toNat)
 case atStart => exact ⟨1900,by omega,by omega,by rw [Cal.yb_first];exact h0,rfl,by rw [Cal.yb_first];simp⟩
 case round =>
  obtain ⟨y,hy1,hy2,hy3,rfl,rfl⟩:=hrel
  have qb:=Cal.yb_bd y hy1 (by omega)
  have l01:=Cal.lp_01 y
  have ys:=Cal.yb_succ y
  by_cases hc:365 + Cal.lp y ≤ n - Cal.yb y
  ·have y3:y < 2999:=by
    by_cases e:y = 2999
    ·have h3:=Cal.yb_last
     rw [e] at ys
     have:Cal.yb (2999 + 1) = Cal.yb 3000:=rfl
     rw [e] at hc
     omega
    ·omega
   have hle:Cal.yb (y + 1) ≤ n:=by omega
   have HS:Hid (n - Cal.yb (y + 1) = n - Cal.yb y - (365 + Cal.lp y)):=by show _ = _;omega
   clear ys
   go_wp2_with (go_at_call 70;refine (year_len _ _ (by omega)).mono ?_;rintro e w' ⟨rfl,rfl⟩)
   go_round
   case rel => exact ⟨y + 1,by omega,by omega,hle,rfl,by rw [HS.out]⟩
   case measure => simp [intOf];omega
  ·have HS:Hid (Cal.yb (y + 1) = Cal.yb y + 365 + Cal.lp y):=ys
   clear ys
   go_wp2_with (go_at_call 70;refine (year_len _ _ (by omega)).mono ?_;rintro e w' ⟨rfl,rfl⟩)
   go_loop [0,7] (fun r k => ∃ m:Int,1 ≤ m ∧ m ≤ 12 ∧ k = .int .i64 m ∧ 0 ≤ n - Cal.yb y - Cal.cum y m ∧ r = .int .i64 (n - Cal.yb y - Cal.cum y m)) (fun _ k => (12 - intOf k).toNat)
   case atStart => exact ⟨1,by omega,by omega,rfl,by rw [Cal.cum_one];omega,by rw [Cal.cum_one];simp⟩
   case round =>
    obtain ⟨m,hm1,hm2,rfl,hr,rfl⟩:=hrel
    have cb:=Cal.cum_bd y m hm1 (by omega)
    have db:=Cal.dim_bd y m
    have cs:=Cal.cum_succ y m hm1 hm2
    by_cases hd:Cal.dim y m ≤ n - Cal.yb y - Cal.cum y m
    ·have hm:m < 12:=by
      by_cases e:m = 12
      ·subst e;have h13:Cal.cum y (12 + 1) = 365 + Cal.lp y:=Cal.cum_end y;omega
      ·omega
     have HC:Hid (Cal.cum y (m + 1) = Cal.cum y m + Cal.dim y m):=cs
     clear cs
     go_wp2_with (go_at_call 69;refine (month_len _ _ _ (by omega)).mono ?_;rintro e w' ⟨rfl,rfl⟩)
     go_round
     case rel => exact ⟨m + 1,by omega,by omega,rfl,by rw [HC.out];omega,by rw [HC.out];go_num⟩
     case measure => simp [intOf];omega
    ·clear cs
     go_wp2_with (go_at_call 69;refine (month_len _ _ _ (by omega)).mono ?_;rintro e w' ⟨rfl,rfl⟩)
     refine bodyPost_ret (results_four rfl _ _ _) rfl ?_
     exact ⟨⟨y,m,rfl,⟨hy1,hy2,hm1,hm2,by omega,by omega⟩⟩,rfl⟩
theorem num_any (n:Int) (w:World) :
  Calls Tryz.prog 34 #[.int .i64 n] w fun e w' => e = .returned (.int .i64 n) ∧ w' = w:=by
 go_enter Tryz.func34,Tryz.ntmps34
 go_wp2
 go_ret
 exact ⟨rfl,rfl⟩
namespace Txt
def st0:St:=⟨em,em,em,[],em⟩
def run (t:ByteArray):Nat → Nat → Nat → St → Int × Nat × St
 | 0,_,_,st => (0,0,st)
 | f + 1,b,n,st => if b ≤ t.size then (if (line st (t.extract b (eol t b))).1 = 0 then run t f (eol t b + 1) (n + 1) (line st (t.extract b (eol t b))).2 else ((line st (t.extract b (eol t b))).1,n,st)) else (0,0,st)
theorem run_go {t:ByteArray} {f b n:Nat} {st:St} (h:b ≤ t.size) (he:(line st (t.extract b (eol t b))).1 = 0):run t (f + 1) b n st = run t f (eol t b + 1) (n + 1) (line st (t.extract b (eol t b))).2:=by
 rw [run,if_pos h,if_pos he]
theorem run_err {t:ByteArray} {f b n:Nat} {st:St} (h:b ≤ t.size) (he:¬ (line st (t.extract b (eol t b))).1 = 0):run t (f + 1) b n st = ((line st (t.extract b (eol t b))).1,n,st):=by
 rw [run,if_pos h,if_neg he]
theorem run_end {t:ByteArray} {f b n:Nat} {st:St} (h:¬ b ≤ t.size):run t f b n st = (0,0,st):=by
 cases f with
 | zero => rfl
 | succ f => rw [run,if_neg h]
def fin (st:St):Int :=
 if st.u = em ∨ st.x = em ∨ st.h = em ∨ st.ls.length = 0 then 6
 else if Tab.whole (numTo st.u st.u.size) (numTo st.x st.x.size) st.ls = false then 8
 else if ByteArray.mk (Sha.digest st.dg).toArray ≠ st.h then 7 else 0
structure Got where
 up:Int
 ex:Int
 ls:List (Int × Int)
 err:Int
 num:Nat
def done (st:St):Got:=if fin st = 0 then ⟨numTo st.u st.u.size,numTo st.x st.x.size,st.ls,0,0⟩ else ⟨0,0,[],fin st,0⟩
def parse (t:ByteArray):Got :=
 if 2000 < t.size then ⟨0,0,[],2,0⟩
 else if (run t (t.size + 2) 0 0 st0).1 = 0 then done (run t (t.size + 2) 0 0 st0).2.2 else ⟨0,0,[],(run t (t.size + 2) 0 0 st0).1,(run t (t.size + 2) 0 0 st0).2.1⟩
theorem Ok.start:Ok st0 0:=⟨Nat.zero_le _,.inl rfl,.inl rfl,rfl,Nat.zero_le _,fun p h => by simp [st0] at h,fun p h => by simp [st0] at h,Nat.zero_le _⟩
theorem Ok.more {st:St} {n:Nat} (h:Ok st n):Ok st (n + 1):=⟨by have:=h.dg;omega,h.u,h.x,h.ls,h.len,h.wf,h.off,h.h⟩
theorem wf_num {x:Int} (h0:0 ≤ x) (h1:x < 100000000000):(Lit.int .i64 x).wf = true:=by
 simp [Lit.wf,IntKind.min,IntKind.max,IntKind.signed,IntKind.bits]
 omega
theorem follows_len {ls:List (Int × Int)} {a o:Int} (h:Tab.follows ls a o = true) (hl:ls.length ≤ 40):ls.length < 40:=by
 by_cases c:ls.length = 40
 ·rw [Tab.follows_no4 c] at h;cases h
 ·omega
theorem okUpTo_app (ls:List (Int × Int)) (x:Int × Int) (k:Nat) (hk:k ≤ ls.length):Tab.okUpTo (ls ++ [x]) k = Tab.okUpTo ls k:=by
 induction k with
 | zero => rfl
 | succ k ih =>
  rw [Tab.okUpTo_succ _ _ (by simp;omega),Tab.okUpTo_succ _ _ (by omega),ih (by omega),List.take_append_of_le_length (by omega),List.getElem_append_left (by omega)]
theorem entry_cases {ls:List (Int × Int)} {ws:List ByteArray} (h:entryErr ls ws = 0) (h0:¬ ws.length = 0):isNum (ws.getD 0 em) = true ∧ isNum (ws.getD 1 em) = true ∧ Tab.follows ls (entryOf ws).1 (entryOf ws).2 = true:=by
 unfold entryErr at h
 rw [if_neg h0] at h
 split at h
 ·cases h
 ·split at h
  ·cases h
  ·split at h
   ·cases h
   ·split at h
    ·cases h
    ·split at h
     ·cases h
     ·rename_i a b c d e
      exact ⟨by simpa using b,by simpa using c,by simpa [entryOf] using e⟩
theorem Ok.takeU {st:St} {n:Nat} (h:Ok st n) (ws:List ByteArray) (he:(Txt.takeU st ws).1 = 0):Ok (Txt.takeU st ws).2 (n + 1):=by
 have hd:=h.dg
 obtain ⟨_,a,_⟩:=once_cases he
 have z:=size_num a
 show Ok { st with u:=ws.getD 0 em,dg:=st.dg ++ ws.getD 0 em } (n + 1)
 generalize ws.getD 0 em = w0 at *
 exact ⟨by show (st.dg ++ w0).size ≤ _;rw [ByteArray.size_append];omega,.inr a,h.x,h.ls,h.len,h.wf,h.off,h.h⟩
theorem Ok.takeX {st:St} {n:Nat} (h:Ok st n) (ws:List ByteArray) (he:(Txt.takeX st ws).1 = 0):Ok (Txt.takeX st ws).2 (n + 1):=by
 have hd:=h.dg
 obtain ⟨_,a,_⟩:=once_cases he
 have z:=size_num a
 show Ok { st with x:=ws.getD 0 em,dg:=st.dg ++ ws.getD 0 em } (n + 1)
 generalize ws.getD 0 em = w0 at *
 exact ⟨by show (st.dg ++ w0).size ≤ _;rw [ByteArray.size_append];omega,h.u,.inr a,h.ls,h.len,h.wf,h.off,h.h⟩
theorem Ok.takeH {st:St} {n:Nat} (h:Ok st n) (ws:List ByteArray):Ok (Txt.takeH st ws).2 (n + 1):=by
 have hd:=h.dg
 have hz:=size_hexTo ws 5
 show Ok { st with h:=hexTo ws 5 } (n + 1)
 generalize hexTo ws 5 = w0 at *
 exact ⟨by show st.dg.size ≤ _;omega,h.u,h.x,h.ls,h.len,h.wf,h.off,hz⟩
theorem Ok.takeE {st:St} {n:Nat} (h:Ok st n) (ws:List ByteArray) (he:(Txt.takeE st ws).1 = 0):Ok (Txt.takeE st ws).2 (n + 1):=by
 have hd:=h.dg
 unfold Txt.takeE at he ⊢
 simp only at he ⊢
 by_cases c:ws.length = 0
 ·rw [if_pos c];exact h.more
 ·rw [if_neg c]
  obtain ⟨a,b,f⟩:=entry_cases he c
  have za:=size_num a
  have zb:=size_num b
  have na:=numTo_le a
  have nb:=numTo_le b
  have hl:=follows_len f h.len
  have w1:WfP (entryOf ws):=⟨wf_num na.1 na.2,wf_num nb.1 nb.2⟩
  have o1:=Tab.follows_off f
  generalize entryOf ws = E at *
  generalize ws.getD 0 em = s0 at *
  generalize ws.getD 1 em = s1 at *
  refine ⟨?_,h.u,h.x,?_,?_,?_,?_,h.h⟩
  ·show (st.dg ++ (s0 ++ s1)).size ≤ _
   rw [ByteArray.size_append,ByteArray.size_append];omega
  ·show Tab.okUpTo (st.ls ++ [E]) (st.ls ++ [E]).length = true
   rw [List.length_append]
   show Tab.okUpTo (st.ls ++ [E]) (st.ls.length + 1) = true
   rw [Tab.okUpTo_succ _ _ (by simp),okUpTo_app _ _ _ (Nat.le_refl _),h.ls]
   simp only [List.take_left,List.getElem_concat_length,Bool.true_and]
   exact f
  ·show (st.ls ++ [E]).length ≤ 40
   rw [List.length_append];simp;omega
  ·intro p hp
   rcases List.mem_append.1 hp with hp | hp
   ·exact h.wf p hp
   ·simp at hp;subst hp;exact w1
  ·intro p hp
   rcases List.mem_append.1 hp with hp | hp
   ·exact h.off p hp
   ·simp at hp;subst hp;exact o1
theorem Ok.line {st:St} {n:Nat} (h:Ok st n) (s:ByteArray) (he:(Txt.line st s).1 = 0):Ok (Txt.line st s).2 (n + 1):=by
 unfold Txt.line at he ⊢
 generalize words (s.extract 2 s.size) = ws at *
 generalize words s = wt at *
 by_cases c1:beg s ⟨#[35,36]⟩ = true
 ·rw [if_pos c1] at he ⊢;exact h.takeU ws he
 ·rw [if_neg c1] at he ⊢
  by_cases c2:beg s ⟨#[35,64]⟩ = true
  ·rw [if_pos c2] at he ⊢;exact h.takeX ws he
  ·rw [if_neg c2] at he ⊢
   by_cases c3:beg s ⟨#[35,104]⟩ = true
   ·rw [if_pos c3] at he ⊢;exact h.takeH ws
   ·rw [if_neg c3] at he ⊢
    by_cases c4:beg s ⟨#[35]⟩ = true
    ·rw [if_pos c4] at he ⊢;exact h.more
    ·rw [if_neg c4] at he ⊢;exact h.takeE wt he
end Txt
theorem ref_plus (B C:Nat) (a b:Nat) (va vb:Value) (w:World) (ha:Num B va (digs a) w) (hb:Num C vb (digs b) w) (la:(digs a).length ≤ 1000) (lb:(digs b).length ≤ 1000) (ls:(digs (a + b)).length ≤ 3000) :
  Calls Tryz.prog 142 #[va,vb] w fun e w' => ∃ v,e = .returned v ∧ Num w.heap.size v (digs (a + b)) w' ∧ Below w.heap.size w w':=by
 obtain ⟨i0,hi0,hz0,hz1,hz2⟩:=info_parts infoInt
 obtain ⟨aa,ac,rfl⟩:=ha.slice
 obtain ⟨ba,bc,rfl⟩:=hb.slice
 have HA:=hid' ha
 have HB:=hid' hb
 clear ha hb
 obtain ⟨L,hL⟩:∃ L,(digs a).length = L:=⟨_,rfl⟩
 obtain ⟨M,hM⟩:∃ M,(digs b).length = M:=⟨_,rfl⟩
 have HLA:=hid' hL
 have HLB:=hid' hM
 have HLS:=hid' ls
 rw [hL] at la ⊢
 rw [hM] at lb ⊢
 clear hL hM ls
 go_enter Tryz.func142,Tryz.ntmps142
 go_wp2
 go_loopw [5,6,7] (fun v cv iv wr => ∃ (i a' b' c:Nat) (xs:List Int),Num w.heap.size v xs wr ∧ xs.length = i ∧ i ≤ 3000 ∧ c ≤ 1 ∧ iv = .int .i64 i ∧ cv = .int .i64 c ∧ (digs a).drop i = digs a' ∧ (digs b).drop i = digs b' ∧ xs ++ digs (a' + b' + c) = digs (a + b) ∧ Below w.heap.size w wr) (fun _ _ iv _ => (digs (a + b)).length - (intOf iv).toNat)
 case atStart => exact ⟨0,a,b,0,[],World.ownsRow_nil _ _ _ _,rfl,by omega,by omega,rfl,rfl,rfl,rfl,rfl,Below.refl _ _⟩
 case round =>
  obtain ⟨i,a',b',c,xs,own,hxl,hi,hc,rfl,rfl,hda,hdb,hx,hbl⟩:=hrel
  have OWN:=hid' own
  have HBL:=hid' hbl
  have HDA:=hid' hda
  have HDB:=hid' hdb
  have HX:=hid' hx
  have HXL:=hid' hxl
  have hsz:=hbl.size
  obtain ⟨vo,vcp,hv⟩:=own.slice
  rw [hxl] at hv
  subst hv
  have DA:=hid' (digs_tail hda)
  have DB:=hid' (digs_tail hdb)
  have LEN:Hid (0 < a' + b' + c → i + 1 ≤ (digs (a + b)).length):=fun hp => by
   rw [← hx,List.length_append,hxl,digs_plus hp];simp
  have XX:Hid (0 < a' + b' + c → xs ++ [(((a' % 10000 + b' % 10000 + c) % 10000:Nat):Int)] ++ digs (a' / 10000 + b' / 10000 + (a' % 10000 + b' % 10000 + c) / 10000) = digs (a + b)):=fun hp => by
   rw [← hx,digs_plus hp,List.append_assoc];rfl
  clear own hxl hx
  generalize hP:wr.heap.size = P at *
  by_cases cA:i < L
  ·by_cases cB:i < M
   ·skip
    have hiA:decide ((i:Int) < (L:Int)) = true:=by simp;omega
    have hiA2:(i:Int) < (L:Int):=by omega
    obtain ⟨ga,ca,e1,lga,_,_,qa⟩:=HA.out.lies (by have:=HLA.out;omega)
    obtain ⟨rfl,_,rfl⟩:=Value.slice.inj e1
    have a0:=(hbl.cell (p:=⟨ga,i,none⟩) lga).trans (qa i (by have:=HLA.out;omega))
    have hxa:=digs_head' hda (by have:=HLA.out;omega)
    rw [hxa.1] at a0
    have pos:0 < a' + b' + c:=by omega
    clear e1 qa
    have hiB:decide ((i:Int) < (M:Int)) = true:=by simp;omega
    have hiB2:(i:Int) < (M:Int):=by omega
    obtain ⟨gb,cb,e2,lgb,_,_,qb⟩:=HB.out.lies (by have:=HLB.out;omega)
    obtain ⟨rfl,_,rfl⟩:=Value.slice.inj e2
    have b0:=(hbl.cell (p:=⟨gb,i,none⟩) lgb).trans (qb i (by have:=HLB.out;omega))
    have hxb:=digs_head' hdb (by have:=HLB.out;omega)
    rw [hxb.1] at b0
    clear e2 qb
    have XX2:=hid' (XX.out pos)
    have LEN2:=LEN.out pos
    have HLS2:=HLS.out
    clear XX LEN HLS
    obtain ⟨x,hx⟩:∃ x:Nat,a' % 10000 = x:=⟨_,rfl⟩
    rw [hx] at a0 XX2
    have x1:x < 10000:=by omega
    obtain ⟨y,hy⟩:∃ y:Nat,b' % 10000 = y:=⟨_,rfl⟩
    rw [hy] at b0 XX2
    have y1:y < 10000:=by omega
    obtain ⟨q,hq⟩:∃ q:Nat,(x + y + c) / 10000 = q:=⟨_,rfl⟩
    obtain ⟨r,hr⟩:∃ r:Nat,(x + y + c) % 10000 = r:=⟨_,rfl⟩
    rw [hq,hr] at XX2
    have q1:((c:Int) + (x:Int) + (y:Int)) / 10000 = (q:Int):=by omega
    have r1:((c:Int) + (x:Int) + (y:Int)) % 10000 = (r:Int):=by omega
    have q2:q ≤ 1:=by omega
    have r2:r < 10000:=by omega
    clear hbl hda hdb hq hr hx hxa hy hxb
    go_wp2_with (at_builtin;refine wpList_append_own _ (by rfl) (.tmp 44) (.tmp 47) 24 (by rfl) w.heap.size 3 i0 (.int .i64 0) 1 8 Tryz.underlying24 hi0 hz0 hz1 hz2 rfl (by decide) (.slice vo i vcp) i (nums xs) (by rfl) (by have o:=OWN.out;rw [Num,HXL.out] at o;exact o.alloc _) ⟨P,0,none⟩ 1 1 [.int .i64 r] (by rfl) (by rfl) (by rw [← hP];exact World.news_of_block (cs:=#[.int .i64 r]) (t:=3) (fr:=(0,0)) (heap_alloc_new wr _)) (by simp [Value.oneCell']) (by unfold maxLen;omega) (by omega) (by simp <;> omega) ?_;intro v3 w3 own3 hg3 hn3;have OWN3:=hid' own3;have HG3:=hid' hg3;clear own3 hg3 hn3)
    go_roundw
    case rel =>
     refine ⟨i + 1,a' / 10000,b' / 10000,q,xs ++ [(r:Int)],?_,by rw [List.length_append,HXL.out];rfl,by omega,by omega,by go_num,(by first | rfl | rw [q1]),DA.out,DB.out,XX2.out,?_⟩
     ·show World.ownsRow _ _ _ _ _ _ _
      rw [nums_append,List.length_append,HXL.out];exact OWN3.out
     ·exact (HBL.out.alloc (by omega) _).grown HG3.out (by simp;omega) (own_ge OWN.out)
    case measure => simp [intOf];omega
   ·skip
    have hiA:decide ((i:Int) < (L:Int)) = true:=by simp;omega
    have hiA2:(i:Int) < (L:Int):=by omega
    obtain ⟨ga,ca,e1,lga,_,_,qa⟩:=HA.out.lies (by have:=HLA.out;omega)
    obtain ⟨rfl,_,rfl⟩:=Value.slice.inj e1
    have a0:=(hbl.cell (p:=⟨ga,i,none⟩) lga).trans (qa i (by have:=HLA.out;omega))
    have hxa:=digs_head' hda (by have:=HLA.out;omega)
    rw [hxa.1] at a0
    have pos:0 < a' + b' + c:=by omega
    clear e1 qa
    have hiB:decide ((i:Int) < (M:Int)) = false:=by simp;omega
    have hiB2:¬ (i:Int) < (M:Int):=by omega
    have eb:b' = 0:=digs_end hdb (by have:=HLB.out;omega)
    subst eb
    have XX2:=hid' (XX.out pos)
    have LEN2:=LEN.out pos
    have HLS2:=HLS.out
    clear XX LEN HLS
    obtain ⟨x,hx⟩:∃ x:Nat,a' % 10000 = x:=⟨_,rfl⟩
    rw [hx] at a0 XX2
    have x1:x < 10000:=by omega
    obtain ⟨q,hq⟩:∃ q:Nat,(x + 0 % 10000 + c) / 10000 = q:=⟨_,rfl⟩
    obtain ⟨r,hr⟩:∃ r:Nat,(x + 0 % 10000 + c) % 10000 = r:=⟨_,rfl⟩
    rw [hq,hr] at XX2
    have q1:((c:Int) + (x:Int)) / 10000 = (q:Int):=by omega
    have r1:((c:Int) + (x:Int)) % 10000 = (r:Int):=by omega
    have q2:q ≤ 1:=by omega
    have r2:r < 10000:=by omega
    clear hbl hda hdb hq hr hx hxa
    go_wp2_with (at_builtin;refine wpList_append_own _ (by rfl) (.tmp 44) (.tmp 47) 24 (by rfl) w.heap.size 3 i0 (.int .i64 0) 1 8 Tryz.underlying24 hi0 hz0 hz1 hz2 rfl (by decide) (.slice vo i vcp) i (nums xs) (by rfl) (by have o:=OWN.out;rw [Num,HXL.out] at o;exact o.alloc _) ⟨P,0,none⟩ 1 1 [.int .i64 r] (by rfl) (by rfl) (by rw [← hP];exact World.news_of_block (cs:=#[.int .i64 r]) (t:=3) (fr:=(0,0)) (heap_alloc_new wr _)) (by simp [Value.oneCell']) (by unfold maxLen;omega) (by omega) (by simp <;> omega) ?_;intro v3 w3 own3 hg3 hn3;have OWN3:=hid' own3;have HG3:=hid' hg3;clear own3 hg3 hn3)
    go_roundw
    case rel =>
     refine ⟨i + 1,a' / 10000,0 / 10000,q,xs ++ [(r:Int)],?_,by rw [List.length_append,HXL.out];rfl,by omega,by omega,by go_num,(by first | rfl | rw [q1]),DA.out,DB.out,XX2.out,?_⟩
     ·show World.ownsRow _ _ _ _ _ _ _
      rw [nums_append,List.length_append,HXL.out];exact OWN3.out
     ·exact (HBL.out.alloc (by omega) _).grown HG3.out (by simp;omega) (own_ge OWN.out)
    case measure => simp [intOf];omega
  ·by_cases cB:i < M
   ·skip
    have hiA:decide ((i:Int) < (L:Int)) = false:=by simp;omega
    have hiA2:¬ (i:Int) < (L:Int):=by omega
    have ea:a' = 0:=digs_end hda (by have:=HLA.out;omega)
    subst ea
    have hiB:decide ((i:Int) < (M:Int)) = true:=by simp;omega
    have hiB2:(i:Int) < (M:Int):=by omega
    obtain ⟨gb,cb,e2,lgb,_,_,qb⟩:=HB.out.lies (by have:=HLB.out;omega)
    obtain ⟨rfl,_,rfl⟩:=Value.slice.inj e2
    have b0:=(hbl.cell (p:=⟨gb,i,none⟩) lgb).trans (qb i (by have:=HLB.out;omega))
    have hxb:=digs_head' hdb (by have:=HLB.out;omega)
    rw [hxb.1] at b0
    have pos:0 < 0 + b' + c:=by omega
    clear e2 qb
    have XX2:=hid' (XX.out pos)
    have LEN2:=LEN.out pos
    have HLS2:=HLS.out
    clear XX LEN HLS
    obtain ⟨y,hy⟩:∃ y:Nat,b' % 10000 = y:=⟨_,rfl⟩
    rw [hy] at b0 XX2
    have y1:y < 10000:=by omega
    obtain ⟨q,hq⟩:∃ q:Nat,(0 % 10000 + y + c) / 10000 = q:=⟨_,rfl⟩
    obtain ⟨r,hr⟩:∃ r:Nat,(0 % 10000 + y + c) % 10000 = r:=⟨_,rfl⟩
    rw [hq,hr] at XX2
    have q1:((c:Int) + (y:Int)) / 10000 = (q:Int):=by omega
    have r1:((c:Int) + (y:Int)) % 10000 = (r:Int):=by omega
    have q2:q ≤ 1:=by omega
    have r2:r < 10000:=by omega
    clear hbl hda hdb hq hr hy hxb
    go_wp2_with (at_builtin;refine wpList_append_own _ (by rfl) (.tmp 44) (.tmp 47) 24 (by rfl) w.heap.size 3 i0 (.int .i64 0) 1 8 Tryz.underlying24 hi0 hz0 hz1 hz2 rfl (by decide) (.slice vo i vcp) i (nums xs) (by rfl) (by have o:=OWN.out;rw [Num,HXL.out] at o;exact o.alloc _) ⟨P,0,none⟩ 1 1 [.int .i64 r] (by rfl) (by rfl) (by rw [← hP];exact World.news_of_block (cs:=#[.int .i64 r]) (t:=3) (fr:=(0,0)) (heap_alloc_new wr _)) (by simp [Value.oneCell']) (by unfold maxLen;omega) (by omega) (by simp <;> omega) ?_;intro v3 w3 own3 hg3 hn3;have OWN3:=hid' own3;have HG3:=hid' hg3;clear own3 hg3 hn3)
    go_roundw
    case rel =>
     refine ⟨i + 1,0 / 10000,b' / 10000,q,xs ++ [(r:Int)],?_,by rw [List.length_append,HXL.out];rfl,by omega,by omega,by go_num,(by first | rfl | rw [q1]),DA.out,DB.out,XX2.out,?_⟩
     ·show World.ownsRow _ _ _ _ _ _ _
      rw [nums_append,List.length_append,HXL.out];exact OWN3.out
     ·exact (HBL.out.alloc (by omega) _).grown HG3.out (by simp;omega) (own_ge OWN.out)
    case measure => simp [intOf];omega
   ·skip
    have hiA:decide ((i:Int) < (L:Int)) = false:=by simp;omega
    have hiA2:¬ (i:Int) < (L:Int):=by omega
    have ea:a' = 0:=digs_end hda (by have:=HLA.out;omega)
    subst ea
    have hiB:decide ((i:Int) < (M:Int)) = false:=by simp;omega
    have hiB2:¬ (i:Int) < (M:Int):=by omega
    have eb:b' = 0:=digs_end hdb (by have:=HLB.out;omega)
    subst eb
    by_cases c4:0 < c
    ·have hc4:decide ((0:Int) < (c:Int)) = true:=by simp;omega
     have hc5:(0:Int) < (c:Int):=by omega
     have pos:0 < 0 + 0 + c:=by omega
     have XX2:=hid' (XX.out pos)
     have LEN2:=LEN.out pos
     have HLS2:=HLS.out
     clear XX LEN HLS
     obtain ⟨q,hq⟩:∃ q:Nat,(0 % 10000 + 0 % 10000 + c) / 10000 = q:=⟨_,rfl⟩
     obtain ⟨r,hr⟩:∃ r:Nat,(0 % 10000 + 0 % 10000 + c) % 10000 = r:=⟨_,rfl⟩
     rw [hq,hr] at XX2
     have q1:((c:Int)) / 10000 = (q:Int):=by omega
     have r1:((c:Int)) % 10000 = (r:Int):=by omega
     have q2:q ≤ 1:=by omega
     have r2:r < 10000:=by omega
     clear hbl hda hdb hq hr
     go_wp2_with (at_builtin;refine wpList_append_own _ (by rfl) (.tmp 44) (.tmp 47) 24 (by rfl) w.heap.size 3 i0 (.int .i64 0) 1 8 Tryz.underlying24 hi0 hz0 hz1 hz2 rfl (by decide) (.slice vo i vcp) i (nums xs) (by rfl) (by have o:=OWN.out;rw [Num,HXL.out] at o;exact o.alloc _) ⟨P,0,none⟩ 1 1 [.int .i64 r] (by rfl) (by rfl) (by rw [← hP];exact World.news_of_block (cs:=#[.int .i64 r]) (t:=3) (fr:=(0,0)) (heap_alloc_new wr _)) (by simp [Value.oneCell']) (by unfold maxLen;omega) (by omega) (by simp <;> omega) ?_;intro v3 w3 own3 hg3 hn3;have OWN3:=hid' own3;have HG3:=hid' hg3;clear own3 hg3 hn3)
     go_roundw
     case rel =>
      refine ⟨i + 1,0 / 10000,0 / 10000,q,xs ++ [(r:Int)],?_,by rw [List.length_append,HXL.out];rfl,by omega,by omega,by go_num,(by first | rfl | rw [q1]),DA.out,DB.out,XX2.out,?_⟩
      ·show World.ownsRow _ _ _ _ _ _ _
       rw [nums_append,List.length_append,HXL.out];exact OWN3.out
      ·exact (HBL.out.alloc (by omega) _).grown HG3.out (by simp;omega) (own_ge OWN.out)
     case measure => simp [intOf];omega
    ·have hc4:decide ((0:Int) < (c:Int)) = false:=by simp;omega
     have hc5:¬ (0:Int) < (c:Int):=by omega
     obtain rfl:c = 0:=by omega
     clear hbl hda hdb XX LEN
     go_wp2
     go_ret
     refine ⟨_,rfl,?_,HBL.out⟩
     have e:=HX.out
     rw [show (0 + 0 + 0:Nat) = 0 from rfl,digs_zero,List.append_nil] at e
     rw [← e]
     have o:=OWN.out
     exact o
end Go.Proofs.YtmmkhodaljpjgaaGreatDoor
