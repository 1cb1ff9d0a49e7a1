import Derived.Test.YtmmkhodaljpjgaaGreatDoorV03
import Derived.Maps.AppendAt
import Derived.StillTactics
import Derived.Deep.DrawnRows
import Derived.Deep.RegionLaw
import Derived.Deep.QuietTactic
import Derived.BigQuiet
import Derived.Deep.DeepMust
import Derived.Laws.IdiomStrings
import Derived.Laws.BitsAllLaws
namespace Go.Proofs.YtmmkhodaljpjgaaGreatDoor
open Go.RowKit
theorem infoLeap:(Tryz.prog.info? 46).map (fun i => (i.zero,i.size,i.bytes)) = some (some (.agg #[.int .i64 0,.int .i64 0]),2,16):=by kernel_rfl
theorem infoString:(Tryz.prog.info? 9).map (fun i => (i.zero,i.size,i.bytes)) = some (some (.string ByteArray.empty),1,16):=by kernel_rfl
theorem ownW {w:World} {B B' e size n:Nat} {v:Value} {xs:List Value} (h:w.ownsRow B e size v n xs) (hb:B' ≤ B):w.ownsRow B' e size v n xs:=by
 refine ⟨h.1,?_⟩
 rcases h.2 with h | ⟨g,cap,cur,rfl,a,b⟩
 ·exact .inl h
 ·exact .inr ⟨g,cap,cur,rfl,Nat.le_trans hb a,b⟩
set_option maxRecDepth 100000 in
set_option maxHeartbeats 1000000 in
theorem owner_entry {X:Xs} (B bW n:Nat) (x a b c d:Int) (s:ByteArray) (w:World) (wa:(Lit.int .i64 a).wf = true) (wb:(Lit.int .i64 b).wf = true) (hn:n ≤ 100000) (hI:Inv X B bW n w) (hB:B ≤ w.heap.size) :
  Calls Tryz.prog 16 #[.pointer (some ⟨bW,0,none⟩),.agg #[.int .i64 4,.int .i64 x,.int .i64 a,.int .i64 b,.int .i64 c,.int .i64 d,.string s]] w fun e w' =>
   e = .returned (.bool true) ∧ Left X B bW n w w':=by
 have WA:=hid' wa
 have WB:=hid' wb
 clear wa wb
 obtain ⟨le,tv,lv,xv,F,ts,ls,up,ex,se,fr,hb,ht,hl,h1,h2,h3,h4⟩:=hI
 obtain ⟨i0,hi0,hz0,hz1,hz2⟩:=info_parts infoLeap
 have hlt:=hb.lt
 have c3:=hb.cell 3
 simp at c3
 have HB:=hid' hb
 have HT:=hid' ht
 have HL:=hid' hl
 have H4:=hid' h4
 have HB1:=hid' (hb.alloc (.cells #[.int .i64 4,.int .i64 x,.int .i64 a,.int .i64 b,.int .i64 c,.int .i64 d,.string s] 27))
 have HL1:=hid' (hl.alloc (.cells #[.int .i64 4,.int .i64 x,.int .i64 a,.int .i64 b,.int .i64 c,.int .i64 d,.string s] 27))
 have HO1:=hid' (heap_alloc_new w (.cells #[.int .i64 4,.int .i64 x,.int .i64 a,.int .i64 b,.int .i64 c,.int .i64 d,.string s] 27))
 clear hb ht hl h4
 have hWa:(w.alloc (.cells #[.int .i64 4,.int .i64 x,.int .i64 a,.int .i64 b,.int .i64 c,.int .i64 d,.string s] 27)).heap.size = w.heap.size + 1:=by simp
 have HWA:=hid' hWa
 clear hWa
 rcases HL.out.2 with ⟨rfl,hz⟩ | ⟨g,cap,cur,rfl,hbg,hcur,hcap,hcm,hcs,htk⟩
 ·have hls:ls = []:=List.eq_nil_of_length_eq_zero hz
  subst hls
  clear hz
  go_enter Tryz.func16,Tryz.ntmps16
  go_wp2_with (first
   | (at_builtin;refine wpList_append_own_none (by rfl) (.tmp 69) (.tmp 74) 31 (by rfl) w.heap.size 46 i0 2 Tryz.underlying31 hi0 (.slice none 0 0) 0 [] (by rfl) (World.ownsRow_nil _ _ _ _) (by rfl) ?_)
   | (at_builtin;refine wpList_append_lies _ (by rfl) (.tmp 77) (.tmp 83) 31 (by rfl) w.heap.size 46 i0 (.agg #[.int .i64 0,.int .i64 0]) 2 16 Tryz.underlying31 hi0 hz0 hz1 hz2 rfl (by decide) (.slice none 0 0) 0 [] (by rfl) (World.ownsRow_nil _ _ _ _) ⟨w.heap.size + 1,0,none⟩ 1 1 [.int .i64 a,.int .i64 b] (by rfl) (by rfl) (World.news_of_block (cs:=#[.int .i64 a,.int .i64 b]) (heap_alloc2_new w _ _)) (by simp [Value.oneCell']) (by decide) (by unfold maxLen;omega) (by omega) (by simp <;> omega) (w.heap.size + 1 + 1) (by simp) ?_;intro g3 cap3 w3 own3 hg3 hat3 hlt3;have B3:=hid' ((HB1.out.alloc (.cells #[.int .i64 a,.int .i64 b] 46)).grown hg3 (World.ownsRow_nil _ w.heap.size 46 2) (by decide));have d3:=B3.out.cell 3;have f3:=B3.out.free 3;simp at d3;have OWN3:=hid' own3;have HG3:=hid' hg3;clear own3 hg3 hat3))
  go_ret
  have b4:=B3.out.at3 (.slice (some ⟨g3,0,none⟩) (0 + 1) cap3)
  have t3:w3.ownsRow B 9 1 tv ts.length (ts.map Value.string):=own_grown ((HT.out.alloc (.cells #[.int .i64 4,.int .i64 x,.int .i64 a,.int .i64 b,.int .i64 c,.int .i64 d,.string s] 27)).alloc (.cells #[.int .i64 a,.int .i64 b] 46)) HG3.out (World.ownsRow_nil _ w.heap.size 46 2) (by decide)
  have bel3:Below w.heap.size w w3:=(((Below.refl w.heap.size w).alloc (Nat.le_refl _) (.cells #[.int .i64 4,.int .i64 x,.int .i64 a,.int .i64 b,.int .i64 c,.int .i64 d,.string s] 27)).alloc (by simp <;> omega) (.cells #[.int .i64 a,.int .i64 b] 46)).grown HG3.out (by simp <;> omega) (fun _ h => by simp [Value.ownBlock] at h)
  have kk:=B3.out.keeps (Keeps.below bel3) 3 (.slice (some ⟨g3,0,none⟩) (0 + 1) cap3)
  exact ⟨rfl,⟨le,tv,_,xv,F,ts,[(a,b)],_,_,_,_,b4,B3.out.own t3 (by decide) 3 _,B3.out.own (ownW OWN3.out hB) (by decide) 3 _,by omega,by simp,⟨h3.txt,fun p h => (by simp at h;subst h;exact ⟨WA.out,WB.out⟩),h3.up,h3.ex,h3.se,h3.fr⟩,H4.out.fresh kk (Nat.le_succ _) (own_ge OWN3.out)⟩,kk,(bel3.mono hB).setCell le _⟩
 ·clear hbg hcur hcap hcm hcs htk
  go_enter Tryz.func16,Tryz.ntmps16
  go_wp2_with (first
   | (at_builtin;refine wpList_append_own _ (by rfl) (.tmp 69) (.tmp 74) 31 (by rfl) w.heap.size 46 i0 (.agg #[.int .i64 0,.int .i64 0]) 2 16 Tryz.underlying31 hi0 hz0 hz1 hz2 rfl (by decide) (.slice none 0 0) 0 [] (by rfl) (World.ownsRow_nil _ _ _ _) ⟨g,0,none⟩ ls.length cap (flat ls) (by rfl) (flat_length ls) (own_cells HL1.out) (flat_one ls) (by unfold maxLen;omega) (by omega) (by simp <;> omega) ?_;intro v1 w2 own2 hg2 _;have hs2:w.heap.size + 1 ≤ w2.heap.size:=(by rw [← HWA.out];exact hg2.size);have o2:=grown_heap (v:=.slice none 0 0) (B:=w.heap.size) (u:=46) (size:=2) hg2 (World.ownsRow_nil _ _ _ _) HO1.out (by decide);have q2:=cell_of_row _ _ 2 _ _ _ o2;have q3:=cell_of_row _ _ 3 _ _ _ o2;simp at q2 q3;have B2:=hid' (HB1.out.grown hg2 (World.ownsRow_nil _ w.heap.size 46 2) (by decide));have T2:=hid' (own_grown (HT.out.alloc _) hg2 (World.ownsRow_nil _ w.heap.size 46 2) (by decide));have L2:=hid' (((Below.refl w.heap.size w).alloc (Nat.le_refl _) _).grown hg2 (by simp <;> omega) (fun _ h => by simp [Value.ownBlock] at h));simp only [Nat.zero_add,List.nil_append] at own2;have OWN2:=hid' own2;clear own2 hg2 o2)
   | (at_builtin;refine wpList_append_lies _ (by rfl) (.tmp 77) (.tmp 83) 31 (by rfl) w.heap.size 46 i0 (.agg #[.int .i64 0,.int .i64 0]) 2 16 Tryz.underlying31 hi0 hz0 hz1 hz2 rfl (by decide) v1 ls.length (flat ls) (by rfl) (OWN2.out.alloc _) ⟨w2.heap.size,0,none⟩ 1 1 [.int .i64 a,.int .i64 b] (by rfl) (by rfl) (World.news_of_block (cs:=#[.int .i64 a,.int .i64 b]) (heap_alloc_new w2 _)) (by simp [Value.oneCell']) (by decide) (by unfold maxLen;omega) (by omega) (by simp <;> omega) (w2.heap.size + 1) (by simp) ?_;intro g3 cap3 w3 own3 hg3 hat3 hlt3;have B3:=hid' ((B2.out.alloc (.cells #[.int .i64 a,.int .i64 b] 46)).grown hg3 (OWN2.out.alloc _) (by decide));have d3:=B3.out.cell 3;have f3:=B3.out.free 3;simp at d3;have OWN3:=hid' own3;have HG3:=hid' hg3;clear own3 hg3 hat3))
  go_ret
  have b4:=B3.out.at3 (.slice (some ⟨g3,0,none⟩) (ls.length + 1) cap3)
  have t3:w3.ownsRow B 9 1 tv ts.length (ts.map Value.string):=own_grown (T2.out.alloc _) HG3.out (OWN2.out.alloc (.cells #[.int .i64 a,.int .i64 b] 46)) (by decide)
  have l4:(w3.setCell ⟨bW,3,none⟩ (.slice (some ⟨g3,0,none⟩) (ls.length + 1) cap3)).ownsRow B 46 2 (.slice (some ⟨g3,0,none⟩) (ls.length + 1) cap3) (ls ++ [(a,b)]).length (flat (ls ++ [(a,b)])):=by
   rw [flat_append,List.length_append];exact B3.out.own (ownW OWN3.out hB) (by decide) 3 _
  have bel3:Below w.heap.size w w3:=(L2.out.alloc (by omega) _).grown HG3.out (by simp <;> omega) (own_ge (OWN2.out.alloc (.cells #[.int .i64 a,.int .i64 b] 46)))
  have kk:=B3.out.keeps (Keeps.below bel3) 3 (.slice (some ⟨g3,0,none⟩) (ls.length + 1) cap3)
  exact ⟨rfl,⟨le,tv,_,xv,F,ts,ls ++ [(a,b)],_,_,_,_,b4,B3.out.own t3 (by decide) 3 _,l4,by omega,by simp <;> omega,⟨h3.txt,fun p h => (by
   rcases List.mem_append.1 h with h | h
   ·exact h3.tab p h
   ·simp at h;subst h;exact ⟨WA.out,WB.out⟩),h3.up,h3.ex,h3.se,h3.fr⟩,H4.out.fresh kk (Nat.le_succ _) (own_ge OWN3.out)⟩,kk,(bel3.mono hB).setCell le _⟩
end Go.Proofs.YtmmkhodaljpjgaaGreatDoor
namespace Go.Proofs.YtmmkhodaljpjgaaGreatDoor
open Go.RowKit
attribute [local go_sem ↓] Go.wp_at_zero Go.wp_at_succ
theorem text_left {X:Xs} {F:Nat → Prop} {B bW n:Nat} {w w1 V:World} {tv lv xv:Value} {ts:List ByteArray} {ls:List (Int × Int)} {up ex se fr:Int} {s:ByteArray} {gg cap:Nat} (hs:s.size ≤ 16384) (le:B ≤ bW)
  (h1:ts.length ≤ n) (h2:ls.length ≤ n + 40) (h3:Nums ts ls up ex se fr) (tV:V.ownsRow B 9 1 tv ts.length (ts.map Value.string)) (lV:V.ownsRow B 46 2 lv ls.length (flat ls)) (h4:Srv X n F lv xv w) (kV:Keeps w V) (belV:Below B w V) (hV:B ≤ V.heap.size)
  (own1:w1.ownsRow B 9 1 (.slice (some ⟨gg,0,none⟩) (ts.length + 1) cap) (ts.length + 1) (ts.map Value.string ++ [.string s])) (hg:V.grownBy w1 tv.ownBlock) (b1:Blk bW tv up ex lv se fr xv w1) :
  Left X B bW n w (w1.setCell ⟨bW,0,none⟩ (.slice (some ⟨gg,0,none⟩) (ts.length + 1) cap)):=by
 have k1:Keeps w w1:=kV.grown hg tV
 have kk:=b1.keeps k1 0 (.slice (some ⟨gg,0,none⟩) (ts.length + 1) cap)
 have l1:w1.ownsRow B 46 2 lv ls.length (flat ls):=own_grown lV hg tV (by decide)
 have bel1:Below B w w1:=belV.grown hg hV (own_ge tV)
 refine ⟨⟨le,_,lv,xv,F,ts ++ [s],ls,_,_,_,_,b1.at0 _,?_,b1.own l1 (by decide) 0 _,by simp;omega,by omega,?_,h4.keeps kk (Nat.le_succ _)⟩,kk,bel1.setCell le _⟩
 ·rw [List.length_append,List.map_append];exact b1.own own1 (by decide) 0 _
 ·refine ⟨?_,h3.tab,h3.up,h3.ex,h3.se,h3.fr⟩
  intro t htm
  simp at htm
  rcases htm with htm | rfl
  ·exact h3.txt t htm
  ·exact hs
set_option maxRecDepth 100000 in
set_option maxHeartbeats 3200000 in
theorem owner_text {X:Xs} (B bW n:Nat) (x a b c d:Int) (s:ByteArray) (w:World) (hn:n ≤ 100000) (hs:s.size ≤ 16384) (hI:Inv X B bW n w) (hB:B ≤ w.heap.size) :
  Calls Tryz.prog 16 #[.pointer (some ⟨bW,0,none⟩),.agg #[.int .i64 1,.int .i64 x,.int .i64 a,.int .i64 b,.int .i64 c,.int .i64 d,.string s]] w fun e w' =>
   e = .returned (.bool true) ∧ Left X B bW n w w':=by
 obtain ⟨le,tv,lv,xv,F,ts,ls,up,ex,se,fr,hb,ht,hl,h1,h2,h3,h4⟩:=hI
 obtain ⟨i0,hi0,hz0,hz1,hz2⟩:=info_parts infoString
 have hlt:=hb.lt
 have c0:=hb.cell 0
 have f0:=hb.free 0
 simp at c0
 have ab:tv.ownBlock ≠ some bW:=own_ne ht hb (by decide)
 have ao:tv.ownBlock ≠ some w.heap.size:=fun q => by have:=own_lt ht _ q;omega
 have fz1:∀ o,(w.alloc o).frozen? ⟨bW,0,none⟩ = false:=fun o => (hb.alloc o).free 0
 have fz2:∀ o p,((w.alloc o).alloc p).frozen? ⟨bW,0,none⟩ = false:=fun o p => ((hb.alloc o).alloc p).free 0
 have HB:=hid' hb
 have HT:=hid' ht
 have HL:=hid' hl
 have H4:=hid' h4
 have AB:=hid' ab
 have AO:=hid' ao
 clear hb ht hl ab ao h4
 go_enter Tryz.func16,Tryz.ntmps16
 go_wp2_with fail
 go_region_law ((refine step_append_lies _ ?_ (.tmp 15) (.tmp 18) 30 ?_ B 9 i0 (.string ByteArray.empty) 1 16 Tryz.underlying30 hi0 hz0 hz1 hz2 rfl (by decide) tv ts.length (ts.map Value.string) ?_ ?_ ⟨w.heap.size + 1,0,none⟩ 1 1 [.string s] ?_ ?_ ?_ ?_ ?_ ?_ ?_ ?_ (w.heap.size + 1 + 1) ?_ ?_;exact rfl;exact rfl;exact rfl;exact ((HT.out.alloc _).alloc _).drew;exact rfl;exact rfl;exact (World.news_of_block (cs:=#[.string s]) (t:=9) (fr:=(0,0)) (heap_alloc2_new w _ _));(simp [Value.oneCell']);decide;(unfold maxLen;omega);omega;(simp;omega);(simp);intro gg cap w1 hown1 hgrow hat hlt1;have B1:=hid' (Blk.grown (w:=(((w.alloc (.cells #[.int .i64 1,.int .i64 x,.int .i64 a,.int .i64 b,.int .i64 c,.int .i64 d,.string s] 27)).alloc (.cells #[.string s] 9)).drew)) ((HB.out.alloc _).alloc _) hgrow (((HT.out.alloc _).alloc _).drew) (by decide));have d1:=B1.out.cell 0;have g1:=B1.out.free 0;(simp at d1);have OWN1:=hid' hown1;have HG1:=hid' hgrow;clear hown1 hgrow hat))
 all_goals
  go_wp2
  go_ret
  exact ⟨rfl,text_left hs le h1 h2 h3 ((HT.out.alloc _).alloc _).drew ((HL.out.alloc _).alloc _).drew H4.out (((Keeps.refl w).alloc _).alloc _) (((Below.refl B w).alloc hB _).alloc (by simp;omega) _).drew (by simp;omega) OWN1.out HG1.out B1.out⟩
def pk (c n:Int):Int:=if c < 0 then -((c + 1).tmod n) else c % n
theorem pk_bd (c n:Int) (h:1 ≤ n):0 ≤ pk c n ∧ pk c n < n:=by
 unfold pk
 split
 ·rw [← Int.neg_tmod]
  exact ⟨Int.tmod_nonneg _ (by omega),Int.tmod_lt_of_pos _ (by omega)⟩
 ·exact ⟨Int.emod_nonneg _ (by omega),Int.emod_lt_of_pos _ (by omega)⟩
theorem pick_val (c:Int) (n:Int) (w:World) (w0:(Lit.int .i64 c).wf = true) (h1:1 ≤ n) (h2:n ≤ 1000000) :
  Calls Tryz.prog 18 #[.int .i64 c,.int .i64 n] w fun e w' => e = .returned (.int .i64 (pk c n)) ∧ w' = w:=by
 have hb:=bounds_i64 w0
 clear w0
 by_cases hc:c < 0
 ·have H:Hid (pk c n = -((c + 1).tmod n)):=by show _ = _;unfold pk;rw [if_pos hc]
  go_enter Tryz.func18,Tryz.ntmps18
  go_wp2
  go_ret
  exact ⟨ret_int H.out.symm,rfl⟩
 ·have H:Hid (pk c n = c % n):=by show _ = _;unfold pk;rw [if_neg hc]
  go_enter Tryz.func18,Tryz.ntmps18
  go_wp2
  go_ret
  exact ⟨ret_int H.out.symm,rfl⟩
set_option maxRecDepth 100000 in
theorem text_any {X:Xs} (B bW n:Nat) (c:Int) (w:World) (w0:(Lit.int .i64 c).wf = true) (hn:n ≤ 100000) (hI:Inv X B bW n w) :
  Calls Tryz.prog 19 #[.pointer (some ⟨bW,0,none⟩),.int .i64 c] w fun e w' => ∃ s m,e = .returned (.string s) ∧ s.size ≤ 16384 ∧ w' = w.drewN m:=by
 obtain ⟨le,tv,lv,xv,F,ts,ls,up,ex,se,fr,hb,ht,hl,h1,h2,h3,h4⟩:=hI
 have c0:=hb.cell 0
 simp at c0
 by_cases hz:ts.length = 0
 ·obtain ⟨ao,cap,htv⟩:∃ ao cap,tv = .slice ao 0 cap:=by
   rcases ht.2 with ⟨rfl,_⟩ | ⟨g,cap,cur,rfl,_⟩
   ·exact ⟨_,_,rfl⟩
   ·exact ⟨_,_,by rw [hz]⟩
  rw [htv] at c0
  clear hb ht hl htv hz h4
  go_enter Tryz.func19,Tryz.ntmps19
  go_wp2
  go_ret
  exact ⟨_,0,rfl,by decide,rfl⟩
 ·obtain ⟨g,cap,htv,_,_⟩:=ht.form (by omega)
  rw [htv] at c0 ht
  have hp:=pk_bd c ts.length (by omega)
  obtain ⟨q,hq⟩:=Int.eq_ofNat_of_zero_le hp.1
  have hq1:q < ts.length:=by omega
  have hcell:w.cell? ⟨g,q,none⟩ = some (.string ts[q]):=by
   rw [ht.cellAt q (by omega)];simp [hq1]
  have hsz:=h3.txt ts[q] (List.getElem_mem hq1)
  have HP:∀ wx,Hid (Calls Tryz.prog 18 #[.int .i64 c,.int .i64 ts.length] wx fun e w' => e = .returned (.int .i64 q) ∧ w' = wx):=by
   intro wx
   have:=pick_val c ts.length wx w0 (by omega) (by omega)
   rw [hq] at this
   exact this
  generalize ts[q] = tx at *
  have hqi:(q:Int) < (ts.length:Int):=by omega
  have hq0:(0:Int) ≤ (q:Int):=by omega
  have hlz:((ts.length:Int) == 0) = false:=by rw [beq_eq_false_iff_ne];omega
  generalize ts.length = len at *
  clear hb ht hl htv hp hq h3 w0 hq1 h4
  go_enter Tryz.func19,Tryz.ntmps19
  go_wp2_with fail
  go_quiet ((go_at_call 18;exact Calls.quiet_of_same (HP _).out))
  go_wp2
  go_ret
  exact ⟨_,nq,rfl,hsz,rfl⟩
end Go.Proofs.YtmmkhodaljpjgaaGreatDoor
namespace Go.Proofs.YtmmkhodaljpjgaaGreatDoor
open Go.RowKit
attribute [local go_sem ↓] Go.wp_at_zero Go.wp_at_succ
structure Bytes (t:List UInt8) (cs:Array Value):Prop where
 size:t.length ≤ cs.size
 at':∀ j (h:j < t.length),cs[j]? = some (.int .u8 (t[j].toNat:Int))
theorem bytes_conv (t:ByteArray):∃ (gc:World → Nat) (br:World → Array Value),(∀ wx,(convert 9 44 (.string t)).run Tryz.prog wx = .ok (.slice (some ⟨wx.heap.size,0,none⟩) t.size (gc wx)) (wx.drew.alloc (.cells (br wx) 5 ((br wx).size,(br wx).size + 1)))) ∧ ∀ wx,Bytes t.data.toList (br wx):=by
 refine ⟨fun wx => grownCap wx t.size 0 5,fun wx => bytesRow t (grownCap wx t.size 0 5),fun wx => run_bytes_of_string (P:=Tryz.prog) wx 9 44 5 t Tryz.underlying9 Tryz.underlying44 Tryz.underlying5,fun wx => ⟨by simp [bytesRow],fun j h => ?_⟩⟩
 have h':j < t.data.size:=by simpa using h
 unfold bytesRow
 rw [Array.getElem?_append_left (by simpa using h')]
 simp only [Array.getElem?_map,Array.getElem?_eq_getElem h',Option.map_some]
 simp
theorem Bytes.put {t:List UInt8} {cs:Array Value} (h:Bytes t cs) (q:Nat) (v:UInt8):Bytes (t.set q v) (cs.setIfInBounds q (.int .u8 (v.toNat:Int))):=by
 refine ⟨by simpa using h.size,fun j hj => ?_⟩
 have hj':j < t.length:=by simpa using hj
 by_cases e:q = j
 ·subst e
  have:=h.size
  simp [show q < cs.size by omega]
 ·rw [Array.getElem?_setIfInBounds_ne e,h.at' j hj']
  simp [e]
theorem bytes_back {V:World} {t:List UInt8} {cs:Array Value} {fr:Nat × Nat} {g cap n:Nat} (hg:V.heap[g]? = some (.cells cs 5 fr)) (h:Bytes t cs) (hn:n = t.length) :
  ∀ k,(convert 44 9 (.slice (some ⟨g,0,none⟩) n cap)).run Tryz.prog (V.drewN k) = .ok (.string ⟨t.toArray⟩) (V.drewN k):=by
 subst hn
 intro k
 refine run_convert_bytes_back (P:=Tryz.prog) (V.drewN k) 44 9 5 ⟨g,0,none⟩ cap t Tryz.underlying44 Tryz.underlying5 Tryz.underlying9 (fun j hj => ?_)
 have hadd:(⟨g,0,none⟩:Addr).add j = ⟨g,j,none⟩:=by unfold Addr.add;split <;> simp_all
 rw [hadd]
 show V.cell? ⟨g,j,none⟩ = _
 rw [cell_of_row V g j cs _ fr hg]
 exact h.at' j hj
theorem size_mk (l:List UInt8):(ByteArray.mk l.toArray).size = l.length:=by simp [ByteArray.size]
theorem u8_wrap (c:Int):IntKind.u8.wrap c = ((UInt8.ofNat (c % 256).toNat).toNat:Int):=by
 rw [IntKind.wrap_u8'];simp;omega
structure Mid (B bW:Nat) (w V:World) (tv lv xv:Value) (ts:List ByteArray) (ls:List (Int × Int)) (up ex se fr:Int) (cs oc:Array Value):Prop where
 blk:Blk bW tv up ex lv se fr xv V
 tx:V.ownsRow B 9 1 tv ts.length (ts.map Value.string)
 lp:V.ownsRow B 46 2 lv ls.length (flat ls)
 keep:Keeps w V
 bel:Below B w V
 bew:Below w.heap.size w V
 size:V.heap.size = w.heap.size + 2
 row:V.heap[w.heap.size + 1]? = some (.cells cs 5 (cs.size,cs.size + 1))
 op:V.heap[w.heap.size]? = some (.cells oc 27 (0,0))
theorem Mid.start {B bW:Nat} {w:World} {tv lv xv:Value} {ts:List ByteArray} {ls:List (Int × Int)} {up ex se fr:Int} (cs oc:Array Value) (m:Nat) (hB:B ≤ w.heap.size) (hb:Blk bW tv up ex lv se fr xv w)
  (ht:w.ownsRow B 9 1 tv ts.length (ts.map Value.string)) (hl:w.ownsRow B 46 2 lv ls.length (flat ls)) :
  Mid B bW w (((w.alloc (.cells oc 27)).drewN m).alloc (.cells cs 5 (cs.size,cs.size + 1))) tv lv xv ts ls up ex se fr cs oc where
 blk:=Blk.alloc (w:=(w.alloc (.cells oc 27)).drewN m) (hb.alloc _) _
 tx:=World.ownsRow.alloc (w:=(w.alloc (.cells oc 27)).drewN m) (ht.alloc _) _
 lp:=World.ownsRow.alloc (w:=(w.alloc (.cells oc 27)).drewN m) (hl.alloc _) _
 keep:=Keeps.below ((below_drewN ((Below.refl w.heap.size w).alloc (Nat.le_refl _) _) m).alloc (by simp) _)
 bew:=(below_drewN ((Below.refl w.heap.size w).alloc (Nat.le_refl _) _) m).alloc (by simp) _
 bel:=(below_drewN ((Below.refl B w).alloc hB _) m).alloc (by simp;omega) _
 size:=by simp
 row:=by
  have e:((w.alloc (.cells oc 27)).drewN m).heap.size = w.heap.size + 1:=by simp
  rw [← e];exact heap_alloc_new _ _
 op:=by
  rw [Below.heap_alloc _ _ _ (by simp)];exact heap_alloc_new _ _
theorem Mid.put {B bW:Nat} {w V:World} {tv lv xv:Value} {ts:List ByteArray} {ls:List (Int × Int)} {up ex se fr:Int} {cs oc:Array Value} (h:Mid B bW w V tv lv xv ts ls up ex se fr cs oc) (hB:B ≤ w.heap.size) (k q:Nat) (v:Value) :
  Mid B bW w ((V.drewN k).setCell ⟨w.heap.size + 1,q,none⟩ v) tv lv xv ts ls up ex se fr (cs.setIfInBounds q v) oc where
 blk:=by
  unfold Blk
  rw [heap_setCell_other _ _ _ _ (by intro e;have h1:=h.blk;have h2:=h.row;unfold Blk at h1;simp only at e;subst e;rw [h2] at h1;simp at h1)]
  exact h.blk
 tx:=own_set (w:=V.drewN k) h.tx (p:=⟨w.heap.size + 1,q,none⟩) h.row (by decide) v
 lp:=own_set (w:=V.drewN k) h.lp (p:=⟨w.heap.size + 1,q,none⟩) h.row (by decide) v
 keep:=Keeps.below ((below_drewN h.bew k).setCell (by simp) _)
 bew:=(below_drewN h.bew k).setCell (by simp) _
 bel:=(below_drewN h.bel k).setCell (by simp;omega) _
 size:=by simp [h.size]
 row:=by
  rw [setCell_eq_setRow (V.drewN k) _ q cs 5 _ v h.row,setRow_heap (V.drewN k) _ _ _ _ _ h.row];simp
 op:=by rw [heap_setCell_other _ _ _ _ (by simp)];exact h.op
set_option maxRecDepth 100000 in
set_option maxHeartbeats 3200000 in
theorem owner_turn {X:Xs} (B bW n:Nat) (x a b c d:Int) (s:ByteArray) (w:World) (wa:(Lit.int .i64 a).wf = true) (wb:(Lit.int .i64 b).wf = true) (hn:n ≤ 100000) (hI:Inv X B bW n w) (hB:B ≤ w.heap.size) :
  Calls Tryz.prog 16 #[.pointer (some ⟨bW,0,none⟩),.agg #[.int .i64 2,.int .i64 x,.int .i64 a,.int .i64 b,.int .i64 c,.int .i64 d,.string s]] w fun e w' =>
   e = .returned (.bool true) ∧ Left X B bW n w w':=by
 have hI1:Inv X B bW n (w.alloc (.cells #[.int .i64 2,.int .i64 x,.int .i64 a,.int .i64 b,.int .i64 c,.int .i64 d,.string s] 27)):=by
  obtain ⟨le,tv,lv,xv,F,ts,ls,up,ex,se,fr,hb,ht,hl,h1,h2,h3,h4⟩:=hI
  exact ⟨le,tv,lv,xv,F,ts,ls,_,_,_,_,hb.alloc _,ht.alloc _,hl.alloc _,h1,h2,h3,h4.keeps ((Keeps.refl w).alloc _) (Nat.le_refl _)⟩
 have HI1:=hid' hI1
 have WA:=hid' wa
 have WB:=hid' wb
 clear hI1 wa wb
 obtain ⟨le,tv,lv,xv,F,ts,ls,up,ex,se,fr,hb,ht,hl,h1,h2,h3,h4⟩:=hI
 obtain ⟨i0,hi0,hz0,hz1,hz2⟩:=info_parts infoString
 have hlt:=hb.lt
 have c0:=hb.cell 0
 have f0:=hb.free 0
 simp at c0
 have HB:=hid' hb
 have HT:=hid' ht
 have HL:=hid' hl
 have H4:=hid' h4
 clear hb ht hl h4
 go_enter Tryz.func16,Tryz.ntmps16
 go_wp2_with fail
 refine (text_any B bW n a _ WA.out hn HI1.out).mono ?_
 rintro e w' ⟨t,m,rfl,hts,rfl⟩
 obtain ⟨gc,br,kc,hbr⟩:=bytes_conv t
 have HBR:=hid' hbr
 clear hbr
 have HBB:=HBR.out ((w.alloc (.cells #[.int .i64 2,.int .i64 x,.int .i64 a,.int .i64 b,.int .i64 c,.int .i64 d,.string s] 27)).drewN m)
 have HMID:=Mid.start (br ((w.alloc (.cells #[.int .i64 2,.int .i64 x,.int .i64 a,.int .i64 b,.int .i64 c,.int .i64 d,.string s] 27)).drewN m)) #[.int .i64 2,.int .i64 x,.int .i64 a,.int .i64 b,.int .i64 c,.int .i64 d,.string s] (m + 1) hB HB.out HT.out HL.out
 have HBBH:=hid' HBB
 have HM:=hid' HMID
 clear HBB HMID
 by_cases hz:t.size = 0
 ·go_wp2_with fail
  generalize br ((w.alloc (.cells #[.int .i64 2,.int .i64 x,.int .i64 a,.int .i64 b,.int .i64 c,.int .i64 d,.string s] 27)).drewN m) = cs at *
  generalize gc ((w.alloc (.cells #[.int .i64 2,.int .i64 x,.int .i64 a,.int .i64 b,.int .i64 c,.int .i64 d,.string s] 27)).drewN m) = cap at *
  generalize ((w.alloc (.cells #[.int .i64 2,.int .i64 x,.int .i64 a,.int .i64 b,.int .i64 c,.int .i64 d,.string s] 27)).drewN (m + 1)).alloc (.cells cs 5 (cs.size,cs.size + 1)) = V at *
  clear kc
  obtain ⟨tt,htt,hconv,HU⟩:∃ tt:List UInt8,tt.length = 0 ∧ (∀ k,(convert 44 9 (.slice (some ⟨w.heap.size + 1,0,none⟩) 0 cap)).run Tryz.prog (V.drewN k) = .ok (.string ⟨tt.toArray⟩) (V.drewN k)) ∧ Hid ((ByteArray.mk tt.toArray).size ≤ 16384):=by
   have hl:t.data.toList.length = 0:=by simpa using hz
   exact ⟨t.data.toList,hl,bytes_back HM.out.row HBBH.out hl.symm,by show _ ≤ _;rw [size_mk,hl];omega⟩
  clear htt hz
  have hbV:=HM.out.blk
  have v0:=hbV.cell 0
  have fv:=hbV.free 0
  simp at v0
  have hVs:V.heap.size = w.heap.size + 2:=HM.out.size
  have hVB:B ≤ V.heap.size:=by omega
  have hVb:bW < V.heap.size:=hbV.lt
  have HVS:=hid' hVs
  clear hVs hbV
  have cv1:=hconv 1
  have cv0:(convert 44 9 (.slice (some ⟨w.heap.size + 1,0,none⟩) 0 cap)).run Tryz.prog V.drew = .ok (.string ⟨tt.toArray⟩) V.drew:=hconv 1
  clear hconv
  generalize hu:ByteArray.mk tt.toArray = u at *
  go_region_law ((refine step_append_lies _ ?_ (.tmp 46) (.tmp 49) 30 ?_ B 9 i0 (.string ByteArray.empty) 1 16 Tryz.underlying30 hi0 hz0 hz1 hz2 rfl (by decide) tv ts.length (ts.map Value.string) ?_ ?_ ⟨V.heap.size,0,none⟩ 1 1 [.string u] ?_ ?_ ?_ ?_ ?_ ?_ ?_ ?_ (V.heap.size + 1) ?_ ?_;exact rfl;exact rfl;exact rfl;exact (HM.out.tx.alloc _).drew;exact rfl;exact rfl;exact (World.news_of_block (cs:=#[.string u]) (t:=9) (fr:=(0,0)) (heap_alloc_new V _));(simp [Value.oneCell']);decide;(unfold maxLen;omega);omega;(simp;omega);(simp);intro gg cap1 w1 hown1 hgrow hat hlt1;have B1:=hid' (Blk.grown (w:=(V.alloc (.cells #[.string u] 9)).drew) (HM.out.blk.alloc _) hgrow ((HM.out.tx.alloc _).drew) (by decide));have d1:=B1.out.cell 0;have g1:=B1.out.free 0;(simp at d1);have OWN1:=hid' hown1;have HG1:=hid' hgrow;clear hown1 hgrow hat))
  all_goals
   go_wp2
   go_ret
   exact ⟨rfl,text_left HU.out le h1 h2 h3 (HM.out.tx.alloc _).drew (HM.out.lp.alloc _).drew H4.out (HM.out.keep.alloc _) (HM.out.bel.alloc hVB _).drew (by simp;omega) OWN1.out HG1.out B1.out⟩
 ·have hzz:(0:Int) < (t.size:Int):=by omega
  go_wp2_with fail
  generalize br ((w.alloc (.cells #[.int .i64 2,.int .i64 x,.int .i64 a,.int .i64 b,.int .i64 c,.int .i64 d,.string s] 27)).drewN m) = cs at *
  generalize gc ((w.alloc (.cells #[.int .i64 2,.int .i64 x,.int .i64 a,.int .i64 b,.int .i64 c,.int .i64 d,.string s] 27)).drewN m) = cap at *
  generalize ((w.alloc (.cells #[.int .i64 2,.int .i64 x,.int .i64 a,.int .i64 b,.int .i64 c,.int .i64 d,.string s] 27)).drewN (m + 1)).alloc (.cells cs 5 (cs.size,cs.size + 1)) = V at *
  clear kc
  have hp:=pk_bd b t.size (by omega)
  obtain ⟨q,hq⟩:=Int.eq_ofNat_of_zero_le hp.1
  have hq1:q < t.size:=by omega
  have HP:∀ wx,Hid (Calls Tryz.prog 18 #[.int .i64 b,.int .i64 t.size] wx fun e w' => e = .returned (.int .i64 q) ∧ w' = wx):=by
   intro wx
   have:=pick_val b t.size wx WB.out (by omega) (by omega)
   rw [hq] at this
   exact this
  have hql:q < t.data.toList.length:=by simpa using hq1
  have hcs:t.data.toList.length ≤ cs.size:=HBBH.out.size
  have o3:V.cell? ⟨w.heap.size,3,none⟩ = some (.int .i64 b):=by rw [cell_of_row _ _ _ _ _ _ HM.out.op];rfl
  have o4:V.cell? ⟨w.heap.size,4,none⟩ = some (.int .i64 c):=by rw [cell_of_row _ _ _ _ _ _ HM.out.op];rfl
  obtain ⟨vq,rq⟩:∃ vq,V.cell? ⟨w.heap.size + 1,q,none⟩ = some vq:=⟨_,by rw [cell_of_row _ _ _ _ _ _ HM.out.row];exact HBBH.out.at' q hql⟩
  have fq:V.frozen? ⟨w.heap.size + 1,q,none⟩ = false:=by simp [World.frozen?,HM.out.row];omega
  have hqi:(q:Int) < (t.size:Int):=by omega
  have hq0:(0:Int) ≤ (q:Int):=by omega
  clear hp hq
  go_region_held3 (fun w' => w'.cell? ⟨w.heap.size,3,none⟩ = some (.int .i64 b) ∧ w'.cell? ⟨w.heap.size,4,none⟩ = some (.int .i64 c)) (go_keep)
   (first | (go_at_call 18;refine (HP _).out.mono ?_;rintro e w' ⟨rfl,rfl⟩))
  go_wp2_with fail
  have HB2:=HBBH.out.put q (UInt8.ofNat (c % 256).toNat)
  have HM2':=HM.out.put hB 1 q (.int .u8 ((UInt8.ofNat (c % 256).toNat).toNat:Int))
  rw [← u8_wrap] at HB2 HM2'
  have HM2:Hid (Mid B bW w (V.setCell ⟨w.heap.size + 1,q,none⟩ (.int .u8 (IntKind.u8.wrap c))).drew tv lv xv ts ls up ex se fr (cs.setIfInBounds q (.int .u8 (IntKind.u8.wrap c))) _):=HM2'
  have HBB2:=hid' HB2
  clear HB2 HM2' o3 o4 rq fq
  generalize (V.setCell ⟨w.heap.size + 1,q,none⟩ (.int .u8 (IntKind.u8.wrap c))).drew = V2 at *
  generalize cs.setIfInBounds q (.int .u8 (IntKind.u8.wrap c)) = cs2 at *
  obtain ⟨tt,hconv,HU⟩:∃ tt:List UInt8,(∀ k,(convert 44 9 (.slice (some ⟨w.heap.size + 1,0,none⟩) t.size cap)).run Tryz.prog (V2.drewN k) = .ok (.string ⟨tt.toArray⟩) (V2.drewN k)) ∧ Hid ((ByteArray.mk tt.toArray).size ≤ 16384):=by
   have hl:(t.data.toList.set q (UInt8.ofNat (c % 256).toNat)).length = t.size:=by simp
   exact ⟨_,bytes_back HM2.out.row HBB2.out hl.symm,by show _ ≤ _;rw [size_mk,hl];exact hts⟩
  clear HBB2 HBBH HM
  have hbV:=HM2.out.blk
  have v0:=hbV.cell 0
  have fv:=hbV.free 0
  simp at v0
  have hVs:V2.heap.size = w.heap.size + 2:=HM2.out.size
  have hVB:B ≤ V2.heap.size:=by omega
  have hVb:bW < V2.heap.size:=hbV.lt
  have HVS:=hid' hVs
  clear hVs hbV
  have cv1:=hconv 1
  have cv0:(convert 44 9 (.slice (some ⟨w.heap.size + 1,0,none⟩) t.size cap)).run Tryz.prog V2.drew = .ok (.string ⟨tt.toArray⟩) V2.drew:=hconv 1
  clear hconv
  generalize hu:ByteArray.mk tt.toArray = u at *
  go_region_law ((refine step_append_lies _ ?_ (.tmp 46) (.tmp 49) 30 ?_ B 9 i0 (.string ByteArray.empty) 1 16 Tryz.underlying30 hi0 hz0 hz1 hz2 rfl (by decide) tv ts.length (ts.map Value.string) ?_ ?_ ⟨V2.heap.size,0,none⟩ 1 1 [.string u] ?_ ?_ ?_ ?_ ?_ ?_ ?_ ?_ (V2.heap.size + 1) ?_ ?_;exact rfl;exact rfl;exact rfl;exact (HM2.out.tx.alloc _).drew;exact rfl;exact rfl;exact (World.news_of_block (cs:=#[.string u]) (t:=9) (fr:=(0,0)) (heap_alloc_new V2 _));(simp [Value.oneCell']);decide;(unfold maxLen;omega);omega;(simp;omega);(simp);intro gg cap1 w1 hown1 hgrow hat hlt1;have B1:=hid' (Blk.grown (w:=(V2.alloc (.cells #[.string u] 9)).drew) (HM2.out.blk.alloc _) hgrow ((HM2.out.tx.alloc _).drew) (by decide));have d1:=B1.out.cell 0;have g1:=B1.out.free 0;(simp at d1);have OWN1:=hid' hown1;have HG1:=hid' hgrow;clear hown1 hgrow hat))
  all_goals
   go_wp2
   go_ret
   exact ⟨rfl,text_left HU.out le h1 h2 h3 (HM2.out.tx.alloc _).drew (HM2.out.lp.alloc _).drew H4.out (HM2.out.keep.alloc _) (HM2.out.bel.alloc hVB _).drew (by simp;omega) OWN1.out HG1.out B1.out⟩
end Go.Proofs.YtmmkhodaljpjgaaGreatDoor
namespace Go.Proofs.YtmmkhodaljpjgaaGreatDoor
open Go.RowKit
structure Op.Ok (o:Op):Prop where
 k:(Lit.int .i64 o.kind).wf = true
 x:(Lit.int .i64 o.x).wf = true
 a:(Lit.int .i64 o.a).wf = true
 b:(Lit.int .i64 o.b).wf = true
 c:(Lit.int .i64 o.c).wf = true
 d:(Lit.int .i64 o.d).wf = true
 s:o.s.size ≤ 16384
theorem owner_yes {X:Xs} (B bW n:Nat) (o:Op) (w:World) (ho:o.Ok) (hn:n ≤ 100000) (hk:1 ≤ o.kind ∧ o.kind ≤ 6) (hI:Inv X B bW n w) (hB:B ≤ w.heap.size) :
  Calls Tryz.prog 16 #[.pointer (some ⟨bW,0,none⟩),.agg #[.int .i64 o.kind,.int .i64 o.x,.int .i64 o.a,.int .i64 o.b,.int .i64 o.c,.int .i64 o.d,.string o.s]] w fun e w' => e = .returned (.bool true) ∧ Left X B bW n w w':=by
 obtain ⟨k,x,a,b,c,d,s⟩:=o
 obtain ⟨h1,h2,h3,h4,h5,h6,h7⟩:=ho
 simp only at *
 have hc:k = 1 ∨ k = 2 ∨ k = 3 ∨ k = 4 ∨ k = 5 ∨ k = 6:=by omega
 rcases hc with rfl | rfl | rfl | rfl | rfl | rfl
 ·exact owner_text B bW n x a b c d s w hn h7 hI hB
 ·exact owner_turn B bW n x a b c d s w h3 h4 hn hI hB
 ·exact owner_stamps B bW n x a b c d s w h3 h4 hI hB
 ·exact owner_entry B bW n x a b c d s w h3 h4 hn hI hB
 ·exact owner_none B bW n x a b c d s w hI hB
 ·exact owner_time B bW n x a b c d s w h3 h4 hI hB
theorem owner_no {X:Xs} (B bW n:Nat) (o:Op) (w:World) (hk:o.kind < 1 ∨ 6 < o.kind) (hI:Inv X B bW n w) (hB:B ≤ w.heap.size) :
  Calls Tryz.prog 16 #[.pointer (some ⟨bW,0,none⟩),.agg #[.int .i64 o.kind,.int .i64 o.x,.int .i64 o.a,.int .i64 o.b,.int .i64 o.c,.int .i64 o.d,.string o.s]] w fun e w' => e = .returned (.bool false) ∧ Inv X B bW n w' ∧ Keeps w w' ∧ Below B w w' :=
 owner_other B bW n _ _ _ _ _ _ _ w hk hI hB
theorem Inv.below {X:Xs} {B bW n:Nat} {w w':World} (h:Inv X B bW n w) (hb:Below w.heap.size w w'):Inv X B bW n w':=by
 obtain ⟨le,tv,lv,xv,F,ts,ls,up,ex,se,fr,hb',ht,hl,h1,h2,h3,h4⟩:=h
 have hk:∀ k o,w.heap[k]? = some o → w'.heap[k]? = some o:=fun k o e => by rw [hb.block k (lt_of_heap e)];exact e
 have hown:∀ {e size:Nat} {v:Value} {m:Nat} {xs:List Value},w.ownsRow B e size v m xs → w'.ownsRow B e size v m xs:=by
  intro e size v m xs h
  refine ⟨h.1,?_⟩
  rcases h.2 with h | ⟨g,cap,cur,q,a,hh,b⟩
  ·exact .inl h
  ·exact .inr ⟨g,cap,cur,q,a,hk _ _ hh,b⟩
 exact ⟨le,tv,lv,xv,F,ts,ls,up,ex,se,fr,hk _ _ hb',hown ht,hown hl,h1,h2,h3,h4.keeps (Keeps.below hb) (Nat.le_refl _)⟩
theorem Inv.up {X:Xs} {B bW n m:Nat} {w:World} (h:Inv X B bW n w) (hm:n ≤ m):Inv X B bW m w:=by
 obtain ⟨le,tv,lv,xv,F,ts,ls,up,ex,se,fr,hb',ht,hl,h1,h2,h3,h4⟩:=h
 exact ⟨le,tv,lv,xv,F,ts,ls,up,ex,se,fr,hb',ht,hl,by omega,by omega,h3,h4.keeps (Keeps.refl w) hm⟩
theorem Keep.below {t:TypeId} {w w':World} (hb:Below w.heap.size w w'):Keep t w w':=fun k cs fr e => by rw [hb.block k (lt_of_heap e)];exact e
theorem pure_low (bW:Nat) (o:Op) (w:World) (hk:o.kind < 1) :
  Calls Tryz.prog 17 #[.pointer (some ⟨bW,0,none⟩),.agg #[.int .i64 o.kind,.int .i64 o.x,.int .i64 o.a,.int .i64 o.b,.int .i64 o.c,.int .i64 o.d,.string o.s]] w fun e w' => e = .returned (.bool true) ∧ Below w.heap.size w w':=by
 obtain ⟨k,x,a,b,c,d,s⟩:=o
 simp only at *
 have k7:(k == 7) = false:=by rw [beq_eq_false_iff_ne];omega
 have k8:(k == 8) = false:=by rw [beq_eq_false_iff_ne];omega
 have k9:(k == 9) = false:=by rw [beq_eq_false_iff_ne];omega
 have k10:(k == 10) = false:=by rw [beq_eq_false_iff_ne];omega
 have k11:(k == 11) = false:=by rw [beq_eq_false_iff_ne];omega
 have k12:(k == 12) = false:=by rw [beq_eq_false_iff_ne];omega
 have k13:(k == 13) = false:=by rw [beq_eq_false_iff_ne];omega
 have k14:(k == 14) = false:=by rw [beq_eq_false_iff_ne];omega
 have k15:(k == 15) = false:=by rw [beq_eq_false_iff_ne];omega
 have k16:(k == 16) = false:=by rw [beq_eq_false_iff_ne];omega
 clear hk
 go_enter Tryz.func17,Tryz.ntmps17
 go_wp2
 go_ret
 exact ⟨rfl,(Below.refl _ _).alloc (Nat.le_refl _) _⟩
theorem dated_agg (k x a b c d:Int) (s:ByteArray) (w:World) :
  Calls Tryz.prog 21 #[.agg #[.int .i64 k,.int .i64 x,.int .i64 a,.int .i64 b,.int .i64 c,.int .i64 d,.string s]] w fun e w' => e = .returned (.bool true) ∧ Below w.heap.size w w':=by
 by_cases h:k = 7
 ·exact dated_day k x a b c d s w h
 ·exact dated_civil k x a b c d s w h
theorem pure_dated (bW:Nat) (o:Op) (w:World) (hk:o.kind = 7 ∨ o.kind = 8) :
  Calls Tryz.prog 17 #[.pointer (some ⟨bW,0,none⟩),.agg #[.int .i64 o.kind,.int .i64 o.x,.int .i64 o.a,.int .i64 o.b,.int .i64 o.c,.int .i64 o.d,.string o.s]] w fun e w' => e = .returned (.bool true) ∧ Below w.heap.size w w':=by
 obtain ⟨k,x,a,b,c,d,s⟩:=o
 simp only at *
 rcases hk with rfl | rfl
 all_goals
  go_enter Tryz.func17,Tryz.ntmps17
  go_wp2_with fail
  refine (dated_agg _ x a b c d s _).mono ?_
  rintro e w1 ⟨rfl,hb⟩
  have HB:=hid' hb
  clear hb
  go_wp2
  go_ret
  exact ⟨rfl,((Below.refl w.heap.size w).alloc (Nat.le_refl _) _).trans (HB.out.mono (by simp))⟩
def Does (X:Xs) (B bW n:Nat) (o:Op) (w:World):Prop :=
 ∀ w1,Inv X B bW n w1 → B ≤ w1.heap.size → Below B w w1 →
  Calls Tryz.prog 15 #[.pointer (some ⟨bW,0,none⟩),.agg #[.int .i64 o.kind,.int .i64 o.x,.int .i64 o.a,.int .i64 o.b,.int .i64 o.c,.int .i64 o.d,.string o.s]] w1 fun e w' =>
   e = .returned (.bool true) ∧ Inv X B bW (n + 1) w' ∧ Below B w1 w'
def DoesP (X:Xs) (B bW n:Nat) (o:Op) (w:World):Prop :=
 ∀ w1,Inv X B bW n w1 → B ≤ w1.heap.size → Below B w w1 →
  Calls Tryz.prog 17 #[.pointer (some ⟨bW,0,none⟩),.agg #[.int .i64 o.kind,.int .i64 o.x,.int .i64 o.a,.int .i64 o.b,.int .i64 o.c,.int .i64 o.d,.string o.s]] w1 fun e w' =>
   e = .returned (.bool true) ∧ Inv X B bW (n + 1) w' ∧ Keep 27 w1 w' ∧ Below B w1 w'
theorem DoesP.of_below {X:Xs} {B bW n:Nat} {o:Op} {w:World} (h:∀ w1,Calls Tryz.prog 17 #[.pointer (some ⟨bW,0,none⟩),.agg #[.int .i64 o.kind,.int .i64 o.x,.int .i64 o.a,.int .i64 o.b,.int .i64 o.c,.int .i64 o.d,.string o.s]] w1 fun e w' => e = .returned (.bool true) ∧ Below w1.heap.size w1 w'):DoesP X B bW n o w:=by
 intro w1 hI hB _
 refine (h w1).mono ?_
 rintro e w' ⟨rfl,hb⟩
 exact ⟨rfl,(hI.below hb).up (Nat.le_succ _),Keep.below hb,hb.mono hB⟩
theorem inv_alloc {X:Xs} {B bW n:Nat} {w:World} (h:Inv X B bW n w) (o:Obj):Inv X B bW n (w.alloc o):=h.below ((Below.refl _ _).alloc (Nat.le_refl _) _)
set_option maxHeartbeats 1000000 in
theorem step_yes {X:Xs} (B bW n:Nat) (o:Op) (w:World) (ho:o.Ok) (hn:n ≤ 100000) (hk:1 ≤ o.kind ∧ o.kind ≤ 6) (hI:Inv X B bW n w) (hB:B ≤ w.heap.size) :
  Calls Tryz.prog 15 #[.pointer (some ⟨bW,0,none⟩),.agg #[.int .i64 o.kind,.int .i64 o.x,.int .i64 o.a,.int .i64 o.b,.int .i64 o.c,.int .i64 o.d,.string o.s]] w fun e w' => e = .returned (.bool true) ∧ Left X B bW n w w':=by
 have hOw:=owner_yes B bW n o (w.alloc (.cells #[.int .i64 o.kind,.int .i64 o.x,.int .i64 o.a,.int .i64 o.b,.int .i64 o.c,.int .i64 o.d,.string o.s] 27)) ho hn hk (inv_alloc hI _) (by simp;omega)
 have HOw:=hid' hOw
 clear hOw ho hk hI
 obtain ⟨k,x,a,b,c,d,s⟩:=o
 simp only at *
 go_enter Tryz.func15,Tryz.ntmps15
 go_wp2_with fail
 refine HOw.out.mono ?_
 rintro e w1 ⟨rfl,hleft⟩
 have HLF:=hid' hleft
 clear hleft HOw
 go_wp2
 go_ret
 exact ⟨rfl,HLF.out.1,((Keeps.refl w).alloc _).trans HLF.out.2.1,((Below.refl B w).alloc hB _).trans HLF.out.2.2⟩
set_option maxHeartbeats 1000000 in
theorem step_no {X:Xs} (B bW n:Nat) (o:Op) (w:World) (hk:o.kind < 1 ∨ 6 < o.kind) (hk17:o.kind < 17) (hI:Inv X B bW n w) (hB:B ≤ w.heap.size) (hD:DoesP X B bW n o w) :
  Calls Tryz.prog 15 #[.pointer (some ⟨bW,0,none⟩),.agg #[.int .i64 o.kind,.int .i64 o.x,.int .i64 o.a,.int .i64 o.b,.int .i64 o.c,.int .i64 o.d,.string o.s]] w fun e w' => e = .returned (.bool true) ∧ Inv X B bW (n + 1) w' ∧ Keep 27 w w' ∧ Below B w w':=by
 have hOw:=owner_no B bW n o (w.alloc (.cells #[.int .i64 o.kind,.int .i64 o.x,.int .i64 o.a,.int .i64 o.b,.int .i64 o.c,.int .i64 o.d,.string o.s] 27)) hk (inv_alloc hI _) (by simp;omega)
 have HOw:=hid' hOw
 have HD:=hid' hD
 clear hOw hk hI hD
 obtain ⟨k,x,a,b,c,d,s⟩:=o
 simp only at *
 go_enter Tryz.func15,Tryz.ntmps15
 go_wp2_with fail
 refine HOw.out.mono ?_
 rintro e w1 ⟨rfl,hleft⟩
 have hrow:=hleft.2.1.op _ _ _ (heap_alloc_new w (.cells #[.int .i64 k,.int .i64 x,.int .i64 a,.int .i64 b,.int .i64 c,.int .i64 d,.string s] 27))
 have p0:w1.cell? ⟨w.heap.size,0,none⟩ = some (.int .i64 k):=by rw [cell_of_row _ _ _ _ _ _ hrow];rfl
 have p1:w1.cell? ⟨w.heap.size,1,none⟩ = some (.int .i64 x):=by rw [cell_of_row _ _ _ _ _ _ hrow];rfl
 have p2:w1.cell? ⟨w.heap.size,2,none⟩ = some (.int .i64 a):=by rw [cell_of_row _ _ _ _ _ _ hrow];rfl
 have p3:w1.cell? ⟨w.heap.size,3,none⟩ = some (.int .i64 b):=by rw [cell_of_row _ _ _ _ _ _ hrow];rfl
 have p4:w1.cell? ⟨w.heap.size,4,none⟩ = some (.int .i64 c):=by rw [cell_of_row _ _ _ _ _ _ hrow];rfl
 have p5:w1.cell? ⟨w.heap.size,5,none⟩ = some (.int .i64 d):=by rw [cell_of_row _ _ _ _ _ _ hrow];rfl
 have p6:w1.cell? ⟨w.heap.size,6,none⟩ = some (.string s):=by rw [cell_of_row _ _ _ _ _ _ hrow];rfl
 have HLF:=hid' hleft
 have hs1:=hleft.2.2.size
 simp at hs1
 clear hleft HOw hrow
 go_wp2_with fail
 refine (HD.out w1 HLF.out.1 (by omega) (((Below.refl B w).alloc hB _).trans HLF.out.2.2)).mono ?_
 rintro e w2 ⟨rfl,hI2,hk2,hb2⟩
 have HI2:=hid' hI2
 have HK2:=hid' hk2
 have HB2:=hid' hb2
 clear hI2 hk2 hb2 HD
 go_wp2
 go_ret
 exact ⟨rfl,HI2.out,(((Keep.refl _ w).alloc _).trans HLF.out.2.1.op).trans HK2.out,(((Below.refl B w).alloc hB _).trans HLF.out.2.2).trans HB2.out⟩
theorem does_own {X:Xs} {B bW n:Nat} {o:Op} {w:World} (ho:o.Ok) (hn:n ≤ 100000) (hk:1 ≤ o.kind ∧ o.kind ≤ 6):Does X B bW n o w:=by
 intro w1 hI hB _
 refine (step_yes B bW n o w1 ho hn hk hI hB).mono ?_
 rintro e w' ⟨rfl,h1,h2,h3⟩
 exact ⟨rfl,h1,h3⟩
theorem does_pure {X:Xs} {B bW n:Nat} {o:Op} {w:World} (hk:o.kind < 1 ∨ 6 < o.kind) (hk17:o.kind < 17) (hD:DoesP X B bW n o w):Does X B bW n o w:=by
 intro w1 hI hB hb
 refine (step_no B bW n o w1 hk hk17 hI hB (fun w2 hI2 hB2 hb2 => hD w2 hI2 hB2 (hb.trans hb2))).mono ?_
 rintro e w' ⟨rfl,h1,h2,h3⟩
 exact ⟨rfl,h1,h3⟩
end Go.Proofs.YtmmkhodaljpjgaaGreatDoor
