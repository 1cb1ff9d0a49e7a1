import Derived.Test.YtmmkhodaljpjgaaGreatDoorV07
import Derived.Laws.IdiomStrings
import Derived.Laws.BitsAllLaws
set_option maxRecDepth 100000
set_option maxHeartbeats 6400000
namespace Go.Proofs.YtmmkhodaljpjgaaGreatDoor
open Go.RowKit
attribute [local go_sem ↓] Go.wp_at_zero Go.wp_at_succ
structure Bytes (t:List UInt8) (cs:Array Value):Prop where
 size:t.length ≤ cs.size
 at':∀ j (h:j < t.length),cs[j]? = some (.int .u8 (t[j].toNat:Int))
theorem bytes_conv (t:ByteArray):∃ (gc:World → Nat) (br:World → Array Value),(∀ wx,(convert 9 44 (.string t)).run Tryz.prog wx = .ok (.slice (some ⟨wx.heap.size,0,none⟩) t.size (gc wx)) (wx.drew.alloc (.cells (br wx) 5 ((br wx).size,(br wx).size + 1)))) ∧ ∀ wx,Bytes t.data.toList (br wx):=by
 refine ⟨fun wx => grownCap wx t.size 0 5,fun wx => bytesRow t (grownCap wx t.size 0 5),fun wx => run_bytes_of_string (P:=Tryz.prog) wx 9 44 5 t Tryz.underlying9 Tryz.underlying44 Tryz.underlying5,fun wx => ⟨by simp [bytesRow],fun j h => ?_⟩⟩
 have h':j < t.data.size:=by simpa using h
 unfold bytesRow
 rw [Array.getElem?_append_left (by simpa using h')]
 simp only [Array.getElem?_map,Array.getElem?_eq_getElem h',Option.map_some]
 simp
theorem Bytes.put {t:List UInt8} {cs:Array Value} (h:Bytes t cs) (q:Nat) (v:UInt8):Bytes (t.set q v) (cs.setIfInBounds q (.int .u8 (v.toNat:Int))):=by
 refine ⟨by simpa using h.size,fun j hj => ?_⟩
 have hj':j < t.length:=by simpa using hj
 by_cases e:q = j
 ·subst e
  have:=h.size
  simp [show q < cs.size by omega]
 ·rw [Array.getElem?_setIfInBounds_ne e,h.at' j hj']
  simp [e]
theorem bytes_back {V:World} {t:List UInt8} {cs:Array Value} {fr:Nat × Nat} {g cap n:Nat} (hg:V.heap[g]? = some (.cells cs 5 fr)) (h:Bytes t cs) (hn:n = t.length) :
  ∀ k,(convert 44 9 (.slice (some ⟨g,0,none⟩) n cap)).run Tryz.prog (V.drewN k) = .ok (.string ⟨t.toArray⟩) (V.drewN k):=by
 subst hn
 intro k
 refine run_convert_bytes_back (P:=Tryz.prog) (V.drewN k) 44 9 5 ⟨g,0,none⟩ cap t Tryz.underlying44 Tryz.underlying5 Tryz.underlying9 (fun j hj => ?_)
 have hadd:(⟨g,0,none⟩:Addr).add j = ⟨g,j,none⟩:=by unfold Addr.add;split <;> simp_all
 rw [hadd]
 show V.cell? ⟨g,j,none⟩ = _
 rw [cell_of_row V g j cs _ fr hg]
 exact h.at' j hj
theorem size_mk (l:List UInt8):(ByteArray.mk l.toArray).size = l.length:=by simp [ByteArray.size]
theorem u8_wrap (c:Int):IntKind.u8.wrap c = ((UInt8.ofNat (c % 256).toNat).toNat:Int):=by
 rw [IntKind.wrap_u8'];simp;omega
structure Mid (B bW:Nat) (w V:World) (tv lv xv:Value) (ts:List ByteArray) (ls:List (Int × Int)) (up ex se fr:Int) (cs oc:Array Value):Prop where
 blk:Blk bW tv up ex lv se fr xv V
 tx:V.ownsRow B 9 1 tv ts.length (ts.map Value.string)
 lp:V.ownsRow B 46 2 lv ls.length (flat ls)
 keep:Keeps w V
 bel:Below B w V
 bew:Below w.heap.size w V
 size:V.heap.size = w.heap.size + 2
 row:V.heap[w.heap.size + 1]? = some (.cells cs 5 (cs.size,cs.size + 1))
 op:V.heap[w.heap.size]? = some (.cells oc 27 (0,0))
theorem Mid.start {B bW:Nat} {w:World} {tv lv xv:Value} {ts:List ByteArray} {ls:List (Int × Int)} {up ex se fr:Int} (cs oc:Array Value) (m:Nat) (hB:B ≤ w.heap.size) (hb:Blk bW tv up ex lv se fr xv w)
  (ht:w.ownsRow B 9 1 tv ts.length (ts.map Value.string)) (hl:w.ownsRow B 46 2 lv ls.length (flat ls)) :
  Mid B bW w (((w.alloc (.cells oc 27)).drewN m).alloc (.cells cs 5 (cs.size,cs.size + 1))) tv lv xv ts ls up ex se fr cs oc where
 blk:=Blk.alloc (w:=(w.alloc (.cells oc 27)).drewN m) (hb.alloc _) _
 tx:=World.ownsRow.alloc (w:=(w.alloc (.cells oc 27)).drewN m) (ht.alloc _) _
 lp:=World.ownsRow.alloc (w:=(w.alloc (.cells oc 27)).drewN m) (hl.alloc _) _
 keep:=Keeps.below ((below_drewN ((Below.refl w.heap.size w).alloc (Nat.le_refl _) _) m).alloc (by simp) _)
 bew:=(below_drewN ((Below.refl w.heap.size w).alloc (Nat.le_refl _) _) m).alloc (by simp) _
 bel:=(below_drewN ((Below.refl B w).alloc hB _) m).alloc (by simp;omega) _
 size:=by simp
 row:=by
  have e:((w.alloc (.cells oc 27)).drewN m).heap.size = w.heap.size + 1:=by simp
  rw [← e];exact heap_alloc_new _ _
 op:=by
  rw [Below.heap_alloc _ _ _ (by simp)];exact heap_alloc_new _ _
theorem Mid.put {B bW:Nat} {w V:World} {tv lv xv:Value} {ts:List ByteArray} {ls:List (Int × Int)} {up ex se fr:Int} {cs oc:Array Value} (h:Mid B bW w V tv lv xv ts ls up ex se fr cs oc) (hB:B ≤ w.heap.size) (k q:Nat) (v:Value) :
  Mid B bW w ((V.drewN k).setCell ⟨w.heap.size + 1,q,none⟩ v) tv lv xv ts ls up ex se fr (cs.setIfInBounds q v) oc where
 blk:=by
  unfold Blk
  rw [heap_setCell_other _ _ _ _ (by intro e;have h1:=h.blk;have h2:=h.row;unfold Blk at h1;simp only at e;subst e;rw [h2] at h1;simp at h1)]
  exact h.blk
 tx:=own_set (w:=V.drewN k) h.tx (p:=⟨w.heap.size + 1,q,none⟩) h.row (by decide) v
 lp:=own_set (w:=V.drewN k) h.lp (p:=⟨w.heap.size + 1,q,none⟩) h.row (by decide) v
 keep:=Keeps.below ((below_drewN h.bew k).setCell (by simp) _)
 bew:=(below_drewN h.bew k).setCell (by simp) _
 bel:=(below_drewN h.bel k).setCell (by simp;omega) _
 size:=by simp [h.size]
 row:=by
  rw [setCell_eq_setRow (V.drewN k) _ q cs 5 _ v h.row,setRow_heap (V.drewN k) _ _ _ _ _ h.row];simp
 op:=by rw [heap_setCell_other _ _ _ _ (by simp)];exact h.op
theorem owner_turn {X:Xs} (B bW n:Nat) (x a b c d:Int) (s:ByteArray) (w:World) (wa:(Lit.int .i64 a).wf = true) (wb:(Lit.int .i64 b).wf = true) (hn:n ≤ 100000) (hI:Inv X B bW n w) (hB:B ≤ w.heap.size) :
  Calls Tryz.prog 16 #[.pointer (some ⟨bW,0,none⟩),.agg #[.int .i64 2,.int .i64 x,.int .i64 a,.int .i64 b,.int .i64 c,.int .i64 d,.string s]] w fun e w' =>
   e = .returned (.bool true) ∧ Left X B bW n w w':=by
 have hI1:Inv X B bW n (w.alloc (.cells #[.int .i64 2,.int .i64 x,.int .i64 a,.int .i64 b,.int .i64 c,.int .i64 d,.string s] 27)):=by
  obtain ⟨le,tv,lv,xv,F,ts,ls,up,ex,se,fr,hb,ht,hl,h1,h2,h3,h4⟩:=hI
  exact ⟨le,tv,lv,xv,F,ts,ls,_,_,_,_,hb.alloc _,ht.alloc _,hl.alloc _,h1,h2,h3,h4.keeps ((Keeps.refl w).alloc _) (Nat.le_refl _)⟩
 have HI1:=hid' hI1
 have WA:=hid' wa
 have WB:=hid' wb
 clear hI1 wa wb
 obtain ⟨le,tv,lv,xv,F,ts,ls,up,ex,se,fr,hb,ht,hl,h1,h2,h3,h4⟩:=hI
 obtain ⟨i0,hi0,hz0,hz1,hz2⟩:=info_parts infoString
 have hlt:=hb.lt
 have c0:=hb.cell 0
 have f0:=hb.free 0
 simp at c0
 have HB:=hid' hb
 have HT:=hid' ht
 have HL:=hid' hl
 have H4:=hid' h4
 clear hb ht hl h4
 go_enter Tryz.func16,Tryz.ntmps16
 go_wp2_with fail
 refine (text_any B bW n a _ WA.out hn HI1.out).mono ?_
 rintro e w' ⟨t,m,rfl,hts,rfl⟩
 obtain ⟨gc,br,kc,hbr⟩:=bytes_conv t
 have HBR:=hid' hbr
 clear hbr
 have HBB:=HBR.out ((w.alloc (.cells #[.int .i64 2,.int .i64 x,.int .i64 a,.int .i64 b,.int .i64 c,.int .i64 d,.string s] 27)).drewN m)
 have HMID:=Mid.start (br ((w.alloc (.cells #[.int .i64 2,.int .i64 x,.int .i64 a,.int .i64 b,.int .i64 c,.int .i64 d,.string s] 27)).drewN m)) #[.int .i64 2,.int .i64 x,.int .i64 a,.int .i64 b,.int .i64 c,.int .i64 d,.string s] (m + 1) hB HB.out HT.out HL.out
 have HBBH:=hid' HBB
 have HM:=hid' HMID
 clear HBB HMID
 by_cases hz:t.size = 0
 ·go_wp2_with fail
  generalize br ((w.alloc (.cells #[.int .i64 2,.int .i64 x,.int .i64 a,.int .i64 b,.int .i64 c,.int .i64 d,.string s] 27)).drewN m) = cs at *
  generalize gc ((w.alloc (.cells #[.int .i64 2,.int .i64 x,.int .i64 a,.int .i64 b,.int .i64 c,.int .i64 d,.string s] 27)).drewN m) = cap at *
  generalize ((w.alloc (.cells #[.int .i64 2,.int .i64 x,.int .i64 a,.int .i64 b,.int .i64 c,.int .i64 d,.string s] 27)).drewN (m + 1)).alloc (.cells cs 5 (cs.size,cs.size + 1)) = V at *
  clear kc
  obtain ⟨tt,htt,hconv,HU⟩:∃ tt:List UInt8,tt.length = 0 ∧ (∀ k,(convert 44 9 (.slice (some ⟨w.heap.size + 1,0,none⟩) 0 cap)).run Tryz.prog (V.drewN k) = .ok (.string ⟨tt.toArray⟩) (V.drewN k)) ∧ Hid ((ByteArray.mk tt.toArray).size ≤ 16384):=by
   have hl:t.data.toList.length = 0:=by simpa using hz
   exact ⟨t.data.toList,hl,bytes_back HM.out.row HBBH.out hl.symm,by show _ ≤ _;rw [size_mk,hl];omega⟩
  clear htt hz
  have hbV:=HM.out.blk
  have v0:=hbV.cell 0
  have fv:=hbV.free 0
  simp at v0
  have hVs:V.heap.size = w.heap.size + 2:=HM.out.size
  have hVB:B ≤ V.heap.size:=by omega
  have hVb:bW < V.heap.size:=hbV.lt
  have HVS:=hid' hVs
  clear hVs hbV
  have cv1:=hconv 1
  have cv0:(convert 44 9 (.slice (some ⟨w.heap.size + 1,0,none⟩) 0 cap)).run Tryz.prog V.drew = .ok (.string ⟨tt.toArray⟩) V.drew:=hconv 1
  clear hconv
  generalize hu:ByteArray.mk tt.toArray = u at *
  go_region_law ((refine step_append_lies _ ?_ (.tmp 46) (.tmp 49) 30 ?_ B 9 i0 (.string ByteArray.empty) 1 16 Tryz.underlying30 hi0 hz0 hz1 hz2 rfl (by decide) tv ts.length (ts.map Value.string) ?_ ?_ ⟨V.heap.size,0,none⟩ 1 1 [.string u] ?_ ?_ ?_ ?_ ?_ ?_ ?_ ?_ (V.heap.size + 1) ?_ ?_;exact rfl;exact rfl;exact rfl;exact (HM.out.tx.alloc _).drew;exact rfl;exact rfl;exact (World.news_of_block (cs:=#[.string u]) (t:=9) (fr:=(0,0)) (heap_alloc_new V _));(simp [Value.oneCell']);decide;(unfold maxLen;omega);omega;(simp;omega);(simp);intro gg cap1 w1 hown1 hgrow hat hlt1;have B1:=hid' (Blk.grown (w:=(V.alloc (.cells #[.string u] 9)).drew) (HM.out.blk.alloc _) hgrow ((HM.out.tx.alloc _).drew) (by decide));have d1:=B1.out.cell 0;have g1:=B1.out.free 0;(simp at d1);have OWN1:=hid' hown1;have HG1:=hid' hgrow;clear hown1 hgrow hat))
  all_goals
   go_wp2
   go_ret
   exact ⟨rfl,text_left HU.out le h1 h2 h3 (HM.out.tx.alloc _).drew (HM.out.lp.alloc _).drew H4.out (HM.out.keep.alloc _) (HM.out.bel.alloc hVB _).drew (by simp;omega) OWN1.out HG1.out B1.out⟩
 ·have hzz:(0:Int) < (t.size:Int):=by omega
  go_wp2_with fail
  generalize br ((w.alloc (.cells #[.int .i64 2,.int .i64 x,.int .i64 a,.int .i64 b,.int .i64 c,.int .i64 d,.string s] 27)).drewN m) = cs at *
  generalize gc ((w.alloc (.cells #[.int .i64 2,.int .i64 x,.int .i64 a,.int .i64 b,.int .i64 c,.int .i64 d,.string s] 27)).drewN m) = cap at *
  generalize ((w.alloc (.cells #[.int .i64 2,.int .i64 x,.int .i64 a,.int .i64 b,.int .i64 c,.int .i64 d,.string s] 27)).drewN (m + 1)).alloc (.cells cs 5 (cs.size,cs.size + 1)) = V at *
  clear kc
  have hp:=pk_bd b t.size (by omega)
  obtain ⟨q,hq⟩:=Int.eq_ofNat_of_zero_le hp.1
  have hq1:q < t.size:=by omega
  have HP:∀ wx,Hid (Calls Tryz.prog 18 #[.int .i64 b,.int .i64 t.size] wx fun e w' => e = .returned (.int .i64 q) ∧ w' = wx):=by
   intro wx
   have:=pick_val b t.size wx WB.out (by omega) (by omega)
   rw [hq] at this
   exact this
  have hql:q < t.data.toList.length:=by simpa using hq1
  have hcs:t.data.toList.length ≤ cs.size:=HBBH.out.size
  have o3:V.cell? ⟨w.heap.size,3,none⟩ = some (.int .i64 b):=by rw [cell_of_row _ _ _ _ _ _ HM.out.op];rfl
  have o4:V.cell? ⟨w.heap.size,4,none⟩ = some (.int .i64 c):=by rw [cell_of_row _ _ _ _ _ _ HM.out.op];rfl
  obtain ⟨vq,rq⟩:∃ vq,V.cell? ⟨w.heap.size + 1,q,none⟩ = some vq:=⟨_,by rw [cell_of_row _ _ _ _ _ _ HM.out.row];exact HBBH.out.at' q hql⟩
  have fq:V.frozen? ⟨w.heap.size + 1,q,none⟩ = false:=by simp [World.frozen?,HM.out.row];omega
  have hqi:(q:Int) < (t.size:Int):=by omega
  have hq0:(0:Int) ≤ (q:Int):=by omega
  clear hp hq
  go_region_held3 (fun w' => w'.cell? ⟨w.heap.size,3,none⟩ = some (.int .i64 b) ∧ w'.cell? ⟨w.heap.size,4,none⟩ = some (.int .i64 c)) (go_keep)
   (first | (go_at_call 18;refine (HP _).out.mono ?_;rintro e w' ⟨rfl,rfl⟩))
  go_wp2_with fail
  have HB2:=HBBH.out.put q (UInt8.ofNat (c % 256).toNat)
  have HM2':=HM.out.put hB 1 q (.int .u8 ((UInt8.ofNat (c % 256).toNat).toNat:Int))
  rw [← u8_wrap] at HB2 HM2'
  have HM2:Hid (Mid B bW w (V.setCell ⟨w.heap.size + 1,q,none⟩ (.int .u8 (IntKind.u8.wrap c))).drew tv lv xv ts ls up ex se fr (cs.setIfInBounds q (.int .u8 (IntKind.u8.wrap c))) _):=HM2'
  have HBB2:=hid' HB2
  clear HB2 HM2' o3 o4 rq fq
  generalize (V.setCell ⟨w.heap.size + 1,q,none⟩ (.int .u8 (IntKind.u8.wrap c))).drew = V2 at *
  generalize cs.setIfInBounds q (.int .u8 (IntKind.u8.wrap c)) = cs2 at *
  obtain ⟨tt,hconv,HU⟩:∃ tt:List UInt8,(∀ k,(convert 44 9 (.slice (some ⟨w.heap.size + 1,0,none⟩) t.size cap)).run Tryz.prog (V2.drewN k) = .ok (.string ⟨tt.toArray⟩) (V2.drewN k)) ∧ Hid ((ByteArray.mk tt.toArray).size ≤ 16384):=by
   have hl:(t.data.toList.set q (UInt8.ofNat (c % 256).toNat)).length = t.size:=by simp
   exact ⟨_,bytes_back HM2.out.row HBB2.out hl.symm,by show _ ≤ _;rw [size_mk,hl];exact hts⟩
  clear HBB2 HBBH HM
  have hbV:=HM2.out.blk
  have v0:=hbV.cell 0
  have fv:=hbV.free 0
  simp at v0
  have hVs:V2.heap.size = w.heap.size + 2:=HM2.out.size
  have hVB:B ≤ V2.heap.size:=by omega
  have hVb:bW < V2.heap.size:=hbV.lt
  have HVS:=hid' hVs
  clear hVs hbV
  have cv1:=hconv 1
  have cv0:(convert 44 9 (.slice (some ⟨w.heap.size + 1,0,none⟩) t.size cap)).run Tryz.prog V2.drew = .ok (.string ⟨tt.toArray⟩) V2.drew:=hconv 1
  clear hconv
  generalize hu:ByteArray.mk tt.toArray = u at *
  go_region_law ((refine step_append_lies _ ?_ (.tmp 46) (.tmp 49) 30 ?_ B 9 i0 (.string ByteArray.empty) 1 16 Tryz.underlying30 hi0 hz0 hz1 hz2 rfl (by decide) tv ts.length (ts.map Value.string) ?_ ?_ ⟨V2.heap.size,0,none⟩ 1 1 [.string u] ?_ ?_ ?_ ?_ ?_ ?_ ?_ ?_ (V2.heap.size + 1) ?_ ?_;exact rfl;exact rfl;exact rfl;exact (HM2.out.tx.alloc _).drew;exact rfl;exact rfl;exact (World.news_of_block (cs:=#[.string u]) (t:=9) (fr:=(0,0)) (heap_alloc_new V2 _));(simp [Value.oneCell']);decide;(unfold maxLen;omega);omega;(simp;omega);(simp);intro gg cap1 w1 hown1 hgrow hat hlt1;have B1:=hid' (Blk.grown (w:=(V2.alloc (.cells #[.string u] 9)).drew) (HM2.out.blk.alloc _) hgrow ((HM2.out.tx.alloc _).drew) (by decide));have d1:=B1.out.cell 0;have g1:=B1.out.free 0;(simp at d1);have OWN1:=hid' hown1;have HG1:=hid' hgrow;clear hown1 hgrow hat))
  all_goals
   go_wp2
   go_ret
   exact ⟨rfl,text_left HU.out le h1 h2 h3 (HM2.out.tx.alloc _).drew (HM2.out.lp.alloc _).drew H4.out (HM2.out.keep.alloc _) (HM2.out.bel.alloc hVB _).drew (by simp;omega) OWN1.out HG1.out B1.out⟩
end Go.Proofs.YtmmkhodaljpjgaaGreatDoor
