import Derived.Test.YtmmkhodaljpjgaaGreatDoorV21
import Derived.Laws.ResultCell
import Derived.Test.YtmmkhodaljpjgaaGreatDoorV14
set_option maxRecDepth 100000
set_option maxHeartbeats 6400000
namespace Go.Proofs.YtmmkhodaljpjgaaGreatDoor
open Go.RowKit
theorem Txt.scan_sz (s:ByteArray) (k:Nat):∀ t ∈ (Txt.scan s k).1,t.size ≤ k:=by
 induction k with
 | zero => intro t h;simp [Txt.scan] at h
 | succ k ih =>
  intro t h
  by_cases c:Txt.inWord s k
  ·rw [Txt.scan_word c] at h;have:=ih t h;omega
  ·by_cases e:(Txt.scan s k).2 = ⟨#[]⟩
   ·rw [Txt.scan_gap c e] at h;have:=ih t h;omega
   ·rw [Txt.scan_end c e] at h
    rcases List.mem_append.1 h with h | h
    ·have:=ih t h;omega
    ·simp at h;subst h;have:=(Txt.scan_bd s k).2;omega
theorem Txt.words_sz (s:ByteArray) (i:Nat):((Txt.words s).getD i Txt.em).size ≤ s.size + 1:=by
 rw [List.getD_eq_getElem?_getD]
 by_cases h:i < (Txt.words s).length
 ·rw [List.getElem?_eq_getElem h];exact Txt.scan_sz s (s.size + 1) _ (List.getElem_mem h)
 ·rw [List.getElem?_eq_none (by omega)];exact Nat.zero_le _
theorem ws_of {w w1:World} {v:Value} {s:ByteArray} (hs:s.size ≤ 90000) (h:w1.ownsRow w.heap.size 9 1 v (Txt.words s).length ((Txt.words s).map Value.string)):Ws w1 v (Txt.words s) :=
 ⟨⟨_,h⟩,by have:=(Txt.scan_bd s (s.size + 1)).1;unfold Txt.words;omega,fun i => by have:=Txt.words_sz s i;omega⟩
theorem rd_down {w w1:World} {bR:Nat} {st:Txt.St} (h:Rd w bR st) (hb:Below w.heap.size w w1):Rd w1 bR st:=by
 obtain ⟨lv,a,b⟩:=h
 exact ⟨lv,(hb.block _ (lt_of_heap a)).trans a,own_down b hb⟩
theorem rd_lt {w:World} {bR:Nat} {st:Txt.St} (h:Rd w bR st):bR < w.heap.size:=by obtain ⟨lv,a,b⟩:=h;exact lt_of_heap a
theorem take_entry (bR:Nat) (st:Txt.St) (v:Value) (ws:List ByteArray) (w:World) (n:Nat) (hR:Rd w bR st) (hO:Txt.Ok st n) (hn:n ≤ 100000) (hW:Ws w v ws) :
  Calls Tryz.prog 164 #[.pointer (some ⟨bR,0,none⟩),v] w fun e w' => e = .returned (.int .i64 (Txt.takeE st ws).1) ∧ ((Txt.takeE st ws).1 = 0 → Rd w' bR (Txt.takeE st ws).2) ∧ Below bR w w':=by
 by_cases h:ws.length < 2 ∨ Txt.isNum (ws.getD 0 Txt.em) = false ∨ Txt.isNum (ws.getD 1 Txt.em) = false ∨ (2 < ws.length ∧ Txt.beg (ws.getD 2 Txt.em) ⟨#[35]⟩ = false)
 ·exact take_entry_text bR st v ws w hR hW h
 ·refine take_entry_go bR st v ws w n hR hO hn hW ?_ ?_ ?_ ?_
  ·by_cases c:ws.length < 2
   ·exact absurd (.inl c) h
   ·omega
  ·cases c:Txt.isNum (ws.getD 0 Txt.em) with
   | true => rfl
   | false => exact absurd (.inr (.inl c)) h
  ·cases c:Txt.isNum (ws.getD 1 Txt.em) with
   | true => rfl
   | false => exact absurd (.inr (.inr (.inl c))) h
  ·exact fun c => h (.inr (.inr (.inr c)))
theorem take_line (bR:Nat) (st:Txt.St) (s:ByteArray) (w:World) (n:Nat) (hR:Rd w bR st) (hO:Txt.Ok st n) (hn:n ≤ 100000) (hs:s.size ≤ 90000) :
  Calls Tryz.prog 121 #[.pointer (some ⟨bR,0,none⟩),.string s] w fun e w' => e = .returned (.int .i64 (Txt.line st s).1) ∧ ((Txt.line st s).1 = 0 → Rd w' bR (Txt.line st s).2) ∧ Below bR w w':=by
 have hbR:=rd_lt hR
 have HO:=hid' hO
 have HR:=hid' hR
 have hx:(s.extract 2 s.size).size ≤ 90000:=by rw [ByteArray.size_extract];omega
 have HB1:=hid' (begins_any s ⟨#[35,36]⟩ w)
 have HB2:=hid' (begins_any s ⟨#[35,64]⟩ w)
 have HB3:=hid' (begins_any s ⟨#[35,104]⟩ w)
 have HB4:=hid' (begins_any s ⟨#[35]⟩ w)
 have HWX:=hid' (words_of (s.extract 2 s.size) w (by omega))
 have HWS:=hid' (words_of s w (by omega))
 have hge:∀ p:ByteArray,Txt.beg s p = true → p.size ≤ s.size:=fun p h => by unfold Txt.beg at h;exact (of_decide_eq_true h).1
 have HGE:=hid' hge
 clear hO hR hge
 cases b1:Txt.beg s ⟨#[35,36]⟩ with
 | true =>
  have HL:Hid (Txt.line st s = Txt.takeU st (Txt.words (s.extract 2 s.size))):=by show _ = _;unfold Txt.line;rw [if_pos b1]
  have h2:2 ≤ s.size:=HGE.out _ b1
  rw [b1] at HB1
  clear b1 HB2 HB3 HB4 HWS
  go_enter Tryz.func121,Tryz.ntmps121
  go_wp2_with fail
  refine HB1.out.mono ?_
  rintro e w1 ⟨rfl,rfl⟩
  go_wp2_with fail
  refine HWX.out.mono ?_
  rintro e w2 ⟨v,rfl,hown,hbel⟩
  go_wp2_with fail
  refine (take_update bR st v _ w2 n (rd_down HR.out hbel) HO.out hn (ws_of hx hown)).mono ?_
  rintro e w3 ⟨rfl,hrd,hbel3⟩
  have A:=hid' hrd
  have B:=hid' ((hbel.mono (by omega)).trans hbel3)
  clear hrd hbel3 hown hbel
  go_wp2
  go_ret
  rw [HL.out]
  exact ⟨rfl,A.out,B.out⟩
 | false =>
  rw [b1] at HB1
  cases b2:Txt.beg s ⟨#[35,64]⟩ with
  | true =>
   have HL:Hid (Txt.line st s = Txt.takeX st (Txt.words (s.extract 2 s.size))):=by show _ = _;unfold Txt.line;rw [if_neg (by rw [b1];decide),if_pos b2]
   have h2:2 ≤ s.size:=HGE.out _ b2
   rw [b2] at HB2
   clear b1 b2 HB3 HB4 HWS
   go_enter Tryz.func121,Tryz.ntmps121
   go_wp2_with fail
   refine HB1.out.mono ?_
   rintro e w1 ⟨rfl,rfl⟩
   go_wp2_with fail
   refine HB2.out.mono ?_
   rintro e w1 ⟨rfl,rfl⟩
   go_wp2_with fail
   refine HWX.out.mono ?_
   rintro e w2 ⟨v,rfl,hown,hbel⟩
   go_wp2_with fail
   refine (take_expiry bR st v _ w2 n (rd_down HR.out hbel) HO.out hn (ws_of hx hown)).mono ?_
   rintro e w3 ⟨rfl,hrd,hbel3⟩
   have A:=hid' hrd
   have B:=hid' ((hbel.mono (by omega)).trans hbel3)
   clear hrd hbel3 hown hbel
   go_wp2
   go_ret
   rw [HL.out]
   exact ⟨rfl,A.out,B.out⟩
  | false =>
   rw [b2] at HB2
   cases b3:Txt.beg s ⟨#[35,104]⟩ with
   | true =>
    have HL:Hid (Txt.line st s = Txt.takeH st (Txt.words (s.extract 2 s.size))):=by show _ = _;unfold Txt.line;rw [if_neg (by rw [b1];decide),if_neg (by rw [b2];decide),if_pos b3]
    have h2:2 ≤ s.size:=HGE.out _ b3
    rw [b3] at HB3
    clear b1 b2 b3 HB4 HWS
    go_enter Tryz.func121,Tryz.ntmps121
    go_wp2_with fail
    refine HB1.out.mono ?_
    rintro e w1 ⟨rfl,rfl⟩
    go_wp2_with fail
    refine HB2.out.mono ?_
    rintro e w1 ⟨rfl,rfl⟩
    go_wp2_with fail
    refine HB3.out.mono ?_
    rintro e w1 ⟨rfl,rfl⟩
    go_wp2_with fail
    refine HWX.out.mono ?_
    rintro e w2 ⟨v,rfl,hown,hbel⟩
    go_wp2_with fail
    refine (take_hash bR st v _ w2 n (rd_down HR.out hbel) HO.out (ws_of hx hown)).mono ?_
    rintro e w3 ⟨rfl,hrd,hbel3⟩
    have A:=hid' hrd
    have B:=hid' ((hbel.mono (by omega)).trans hbel3)
    clear hrd hbel3 hown hbel
    go_wp2
    go_ret
    rw [HL.out]
    exact ⟨rfl,A.out,B.out⟩
   | false =>
    rw [b3] at HB3
    cases b4:Txt.beg s ⟨#[35]⟩ with
    | true =>
     have HL:Hid (Txt.line st s = (0,st)):=by show _ = _;unfold Txt.line;rw [if_neg (by rw [b1];decide),if_neg (by rw [b2];decide),if_neg (by rw [b3];decide),if_pos b4]
     rw [b4] at HB4
     clear b1 b2 b3 b4 HWS HWX
     go_enter Tryz.func121,Tryz.ntmps121
     go_wp2_with fail
     refine HB1.out.mono ?_
     rintro e w1 ⟨rfl,rfl⟩
     go_wp2_with fail
     refine HB2.out.mono ?_
     rintro e w1 ⟨rfl,rfl⟩
     go_wp2_with fail
     refine HB3.out.mono ?_
     rintro e w1 ⟨rfl,rfl⟩
     go_wp2_with fail
     refine HB4.out.mono ?_
     rintro e w1 ⟨rfl,rfl⟩
     go_wp2
     go_ret
     rw [HL.out]
     exact ⟨rfl,fun _ => HR.out,Below.refl _ _⟩
    | false =>
     have HL:Hid (Txt.line st s = Txt.takeE st (Txt.words s)):=by show _ = _;unfold Txt.line;rw [if_neg (by rw [b1];decide),if_neg (by rw [b2];decide),if_neg (by rw [b3];decide),if_neg (by rw [b4];decide)]
     rw [b4] at HB4
     clear b1 b2 b3 b4 HWX
     go_enter Tryz.func121,Tryz.ntmps121
     go_wp2_with fail
     refine HB1.out.mono ?_
     rintro e w1 ⟨rfl,rfl⟩
     go_wp2_with fail
     refine HB2.out.mono ?_
     rintro e w1 ⟨rfl,rfl⟩
     go_wp2_with fail
     refine HB3.out.mono ?_
     rintro e w1 ⟨rfl,rfl⟩
     go_wp2_with fail
     refine HB4.out.mono ?_
     rintro e w1 ⟨rfl,rfl⟩
     go_wp2_with fail
     refine HWS.out.mono ?_
     rintro e w2 ⟨v,rfl,hown,hbel⟩
     go_wp2_with fail
     refine (take_entry bR st v _ w2 n (rd_down HR.out hbel) HO.out hn (ws_of hs hown)).mono ?_
     rintro e w3 ⟨rfl,hrd,hbel3⟩
     have A:=hid' hrd
     have B:=hid' ((hbel.mono (by omega)).trans hbel3)
     clear hrd hbel3 hown hbel
     go_wp2
     go_ret
     rw [HL.out]
     exact ⟨rfl,A.out,B.out⟩
theorem results_row_tmp {fn:Func} {p u:Tmp} {ty:TypeId} {P:Program} (h:fn.results = #[.cell p ty,.tmp u]) (tmps:Array Value) (w:World) (g:Nat) (cs:Array Value)
  (hp:tmps.getD p undef = .pointer (some ⟨g,0,none⟩)) (hl:(loadVar ty ⟨g,0,none⟩).run P w = .ok (.agg cs) w) :
  (results fn tmps).run P w = .ok (.tuple #[.agg cs,tmps.getD u undef]) w:=by
 rw [results_cell_tmp h,hp]
 simp [asAddr,hl,Result.andThen]
theorem load_table {w:World} {g:Nat} {cs:Array Value} (hg:w.heap[g]? = some (.cells cs 78 (0,0))) (hs:cs.size = 3):(loadVar 78 ⟨g,0,none⟩).run Tryz.prog w = .ok (.agg cs) w :=
 run_loadVar_row (P:=Tryz.prog) w g 78 78 cs (0,0) _ hg Tryz.underlying78 rfl (by rw [hs];kernel_rfl)
theorem zero3_row {V:World} {b:Nat} {p q r:Value} {t:TypeId} {x y z:Value} (h1:V.heap[b]? = some (.cells #[p,q,r] t (0,0))):(((V.setCell ⟨b,0,none⟩ x).setCell ⟨b,1,none⟩ y).setCell ⟨b,2,none⟩ z).heap[b]? = some (.cells #[x,y,z] t (0,0)):=by
 have e1:=heap_setCell_same _ b 0 _ t x h1
 have e2:=heap_setCell_same _ b 1 _ t y e1
 have e3:=heap_setCell_same _ b 2 _ t z e2
 simpa using e3
theorem below3 {W V:World} {b B:Nat} {x y z:Value} (h:Below B W V) (hb:B ≤ b):Below B W (((V.setCell ⟨b,0,none⟩ x).setCell ⟨b,1,none⟩ y).setCell ⟨b,2,none⟩ z) :=
 ((h.setCell (p:=⟨b,0,none⟩) hb x).setCell (p:=⟨b,1,none⟩) hb y).setCell (p:=⟨b,2,none⟩) hb z
theorem own3 {V:World} {b B n size:Nat} {x y z p q r v:Value} {t e:TypeId} {xs:List Value} (h1:V.heap[b]? = some (.cells #[p,q,r] t (0,0))) (ho:V.ownsRow B e size v n xs) (hne:t ≠ e) :
  (((V.setCell ⟨b,0,none⟩ x).setCell ⟨b,1,none⟩ y).setCell ⟨b,2,none⟩ z).ownsRow B e size v n xs:=by
 have e1:=heap_setCell_same _ b 0 _ t x h1
 have e2:=heap_setCell_same _ b 1 _ t y e1
 exact own_set (p:=⟨b,2,none⟩) (own_set (p:=⟨b,1,none⟩) (own_set (p:=⟨b,0,none⟩) ho h1 hne x) e1 hne y) e2 hne z
def FinSaid (w:World) (bR:Nat) (gt:Txt.Got) (e:Ending) (w':World):Prop:=∃ lv,e = .returned (.tuple #[.agg #[.int .i64 gt.up,.int .i64 gt.ex,lv],.int .i64 gt.err]) ∧ w'.ownsRow (bR + 1) 84 2 lv gt.ls.length (flat gt.ls) ∧ Below w.heap.size w w'
theorem done_no {st:Txt.St} {n:Int} (h:Txt.fin st = n) (hn:n ≠ 0):Txt.done st = ⟨0,0,[],n,0⟩:=by unfold Txt.done;rw [if_neg (by rw [h];exact hn),h]
theorem done_yes {st:Txt.St} (h:Txt.fin st = 0):Txt.done st = ⟨Txt.numTo st.u st.u.size,Txt.numTo st.x st.x.size,st.ls,0,0⟩:=by unfold Txt.done;rw [if_pos h]
theorem fin_six {st:Txt.St} (h:st.u = Txt.em ∨ st.x = Txt.em ∨ st.h = Txt.em ∨ st.ls.length = 0):Txt.fin st = 6:=by unfold Txt.fin;rw [if_pos h]
theorem finish_missing (bR:Nat) (st:Txt.St) (w:World) (hR:Rd w bR st) (h:st.u = Txt.em ∨ st.x = Txt.em ∨ st.h = Txt.em ∨ st.ls.length = 0) :
  Calls Tryz.prog 122 #[.pointer (some ⟨bR,0,none⟩)] w fun e w' => FinSaid w bR (Txt.done st) e w':=by
 have HD:=hid' (done_no (fin_six h) (by decide))
 obtain ⟨lv,hrow,hown⟩:=hR
 have hbR:=lt_of_heap hrow
 have c0:=cell_of_row _ _ 0 _ _ _ hrow
 have c1:=cell_of_row _ _ 1 _ _ _ hrow
 have c2:=cell_of_row _ _ 2 _ _ _ hrow
 have c3:=cell_of_row _ _ 3 _ _ _ hrow
 simp at c0 c1 c2 c3
 have hlv:∃ ao cap,lv = .slice ao st.ls.length cap:=by
  rcases hown.2 with ⟨rfl,e⟩ | ⟨g,cap,cur,rfl,_⟩
  ·exact ⟨_,_,by rw [e]⟩
  ·exact ⟨_,_,rfl⟩
 obtain ⟨ao,cap,rfl⟩:=hlv
 have RN:=hid' (heap_alloc_new w (.cells #[.int .i64 0,.int .i64 0,.slice none 0 0] 78))
 have BN:=hid' ((Below.refl w.heap.size w).alloc (Nat.le_refl _) (.cells #[.int .i64 0,.int .i64 0,.slice none 0 0] 78))
 clear hrow hown
 have fin':∀ e:Ending,e = .returned (.tuple #[.agg #[.int .i64 0,.int .i64 0,.slice none 0 0],.int .i64 6]) → ∀ w',Below w.heap.size w w' → FinSaid w bR (Txt.done st) e w':=fun e he w' hb => by
  rw [HD.out];exact ⟨.slice none 0 0,he,World.ownsRow_nil _ _ _ _,hb⟩
 have FIN:=hid' fin'
 clear fin' HD
 by_cases h0:st.u = Txt.em
 ·rw [h0] at c0
  clear h
  go_enter Tryz.func122,Tryz.ntmps122
  go_wp2
  refine bodyPost_ret (results_row_tmp (p:=2) (u:=3) rfl _ _ w.heap.size #[.int .i64 0,.int .i64 0,.slice none 0 0] rfl (load_table RN.out rfl)) rfl ?_
  exact FIN.out _ rfl _ BN.out
 have h0':=em_test h0
 by_cases h1:st.x = Txt.em
 ·rw [h1] at c1
  clear h h0
  go_enter Tryz.func122,Tryz.ntmps122
  go_wp2
  refine bodyPost_ret (results_row_tmp (p:=2) (u:=3) rfl _ _ w.heap.size #[.int .i64 0,.int .i64 0,.slice none 0 0] rfl (load_table RN.out rfl)) rfl ?_
  exact FIN.out _ rfl _ BN.out
 have h1':=em_test h1
 by_cases h2:st.h = Txt.em
 ·rw [h2] at c2
  clear h h0 h1
  go_enter Tryz.func122,Tryz.ntmps122
  go_wp2
  refine bodyPost_ret (results_row_tmp (p:=2) (u:=3) rfl _ _ w.heap.size #[.int .i64 0,.int .i64 0,.slice none 0 0] rfl (load_table RN.out rfl)) rfl ?_
  exact FIN.out _ rfl _ BN.out
 have h2':=em_test h2
 have h3:st.ls.length = 0:=by
  rcases h with h | h | h | h
  ·exact absurd h h0
  ·exact absurd h h1
  ·exact absurd h h2
  ·exact h
 rw [h3] at c3
 clear h h0 h1 h2 h3
 go_enter Tryz.func122,Tryz.ntmps122
 go_wp2
 refine bodyPost_ret (results_row_tmp (p:=2) (u:=3) rfl _ _ w.heap.size #[.int .i64 0,.int .i64 0,.slice none 0 0] rfl (load_table RN.out rfl)) rfl ?_
 exact FIN.out _ rfl _ BN.out
namespace Txt
theorem ext_list (s:ByteArray) (n:Nat):(s.extract 0 n).data.toList = s.data.toList.take n:=by
 rw [ByteArray.data_extract]
 simp
theorem beg_iff (s p:ByteArray):beg s p = true ↔ p.size ≤ s.size ∧ ∀ i,i < p.size → byte s i = byte p i:=by
 have hsz:∀ b:ByteArray,b.size = b.data.toList.length:=fun b => by obtain ⟨d⟩:=b;show d.size = d.toList.length;rw [Array.length_toList]
 have hb:∀ (b:ByteArray) i (h:i < b.data.toList.length),byte b i = ((b.data.toList[i]).toNat:Int):=fun b i h => by
  unfold byte;rw [List.getD_eq_getElem?_getD,List.getElem?_eq_getElem h];rfl
 unfold beg
 rw [decide_eq_true_iff]
 constructor
 ·rintro ⟨h,e⟩
  refine ⟨h,fun i hi => ?_⟩
  have e2:p.data.toList = s.data.toList.take p.size:=by rw [← ext_list,e]
  rw [hb s i (by rw [← hsz];omega),hb p i (by rw [← hsz];exact hi)]
  congr 2
  have:p.data.toList[i]'(by rw [← hsz];exact hi) = (s.data.toList.take p.size)[i]'(by rw [← e2,← hsz];exact hi):=by congr 1
  rw [this,List.getElem_take]
 ·rintro ⟨h,e⟩
  refine ⟨h,ByteArray.ext (Array.toList_inj.mp ?_)⟩
  rw [ext_list]
  apply List.ext_getElem
  ·rw [List.length_take,← hsz,← hsz];omega
  ·intro i h1 h2
   rw [List.getElem_take]
   have hi:i < p.size:=by rw [hsz];exact h2
   have:=e i hi
   rw [hb s i (by rw [← hsz];omega),hb p i h2] at this
   have h3:(s.data.toList[i]'(by rw [← hsz];omega)).toNat = (p.data.toList[i]).toNat:=by omega
   exact UInt8.toNat_inj.mp h3
theorem beg_one (s:ByteArray):beg s ⟨#[35]⟩ = true ↔ 1 ≤ s.size ∧ byte s 0 = 35:=by
 rw [beg_iff]
 constructor
 ·rintro ⟨h,e⟩;exact ⟨h,e 0 (by decide)⟩
 ·rintro ⟨h,e⟩
  refine ⟨h,fun i hi => ?_⟩
  have:i = 0:=by have:(ByteArray.mk #[35]).size = 1:=rfl;omega
  subst this;exact e
theorem beg_two (s:ByteArray) (a b:UInt8):beg s ⟨#[a,b]⟩ = true ↔ 2 ≤ s.size ∧ byte s 0 = (a.toNat:Int) ∧ byte s 1 = (b.toNat:Int):=by
 rw [beg_iff]
 constructor
 ·rintro ⟨h,e⟩;exact ⟨h,e 0 (by show 0 < 2;omega),e 1 (by show 1 < 2;omega)⟩
 ·rintro ⟨h,e,e'⟩
  refine ⟨h,fun i hi => ?_⟩
  have:i = 0 ∨ i = 1:=by have:(ByteArray.mk #[a,b]).size = 2:=rfl;omega
  rcases this with rfl | rfl
  ·exact e
  ·exact e'
theorem scan_ne (s:ByteArray) (k:Nat):∀ t ∈ (scan s k).1,¬ t = em:=by
 induction k with
 | zero => intro t h;simp [scan] at h
 | succ k ih =>
  intro t h
  by_cases c:inWord s k
  ·rw [scan_word c] at h;exact ih t h
  ·by_cases e:(scan s k).2 = ⟨#[]⟩
   ·rw [scan_gap c e] at h;exact ih t h
   ·rw [scan_end c e] at h
    rcases List.mem_append.1 h with h | h
    ·exact ih t h
    ·simp at h;subst h;exact e
theorem size_pos {s:ByteArray} (h:¬ s = em):0 < s.size:=by
 by_cases c:s.size = 0
 ·exfalso;apply h
  obtain ⟨d⟩:=s
  have:d = #[]:=by apply Array.eq_empty_of_size_eq_zero;exact c
  subst this;rfl
 ·omega
theorem words_pos (s:ByteArray) (i:Nat) (h:i < (words s).length):0 < ((words s).getD i em).size:=by
 rw [List.getD_eq_getElem?_getD,List.getElem?_eq_getElem h]
 exact size_pos (scan_ne s (s.size + 1) _ (List.getElem_mem h))
end Txt
theorem ref_entry_text (bF:Nat) (st:Txt.St) (v:Value) (ws:List ByteArray) (w:World) (hW:Ws w v ws) (h0:¬ ws.length = 0) (hpos:∀ i,i < ws.length → 0 < (ws.getD i Txt.em).size)
  (h:ws.length < 2 ∨ Txt.isNum (ws.getD 0 Txt.em) = false ∨ Txt.isNum (ws.getD 1 Txt.em) = false ∨ (2 < ws.length ∧ Txt.beg (ws.getD 2 Txt.em) ⟨#[35]⟩ = false)) :
  Calls Tryz.prog 125 #[.pointer (some ⟨bF,0,none⟩),v] w fun e w' => e = .returned (.int .i64 (Txt.takeE st ws).1) ∧ ((Txt.takeE st ws).1 = 0 → Rf w' bF (Txt.takeE st ws).2) ∧ Below bF w w':=by
 have hlen:=hW.len
 have H:Hid ((Txt.takeE st ws).1 = 3):=entry_text h0 h
 obtain ⟨g,cap,rfl,hgl,hc⟩:=hW.at' (by omega)
 by_cases h2:ws.length < 2
 ·clear h h0 hc hW hpos
  go_enter Tryz.func125,Tryz.ntmps125
  go_wp2
  go_ret
  exact ⟨ret_int H.out.symm,no_err H.out (by decide),Below.refl _ _⟩
 have c0:=hc 0 (by omega)
 have c1:=hc 1 (by omega)
 have z0:=hW.sz 0
 have z1:=hW.sz 1
 have N0:=hid' (ref_number (ws.getD 0 Txt.em) w (by omega))
 have N1:=hid' (ref_number (ws.getD 1 Txt.em) w (by omega))
 have b0:-1 ≤ Txt.number (ws.getD 0 Txt.em):=by
  cases hx:Txt.isNum (ws.getD 0 Txt.em) with
  | false => rw [Txt.number_neg hx];omega
  | true => rw [Txt.number_of hx];have:=Txt.numTo_le hx;omega
 by_cases h3:2 < ws.length ∧ Txt.beg (ws.getD 2 Txt.em) ⟨#[35]⟩ = false
 ·obtain ⟨h3,hb⟩:=h3
  have c2:=hc 2 h3
  have hp2:=hpos 2 h3
  have hz2:=hW.sz 2
  have hn:¬ ((ws.getD 2 Txt.em)[0]'hp2).toNat = 35:=fun e => by
   have:Txt.beg (ws.getD 2 Txt.em) ⟨#[35]⟩ = true:=(Txt.beg_one _).2 ⟨hp2,by rw [Txt.byte_at _ 0 hp2];omega⟩
   rw [hb] at this;cases this
  have hn':((((ws.getD 2 Txt.em)[0]'hp2).toNat:Int) != 35) = true:=bne_iff_ne.2 (by omega)
  clear h h0 hc hW hpos hb hn N0 N1 b0 c0 c1 z0 z1
  generalize ws.getD 2 Txt.em = s2 at *
  go_enter Tryz.func125,Tryz.ntmps125
  go_wp2
  go_ret
  exact ⟨ret_int H.out.symm,no_err H.out (by decide),Below.refl _ _⟩
 have h3':ws.length = 2 ∨ (2 < ws.length ∧ Txt.beg (ws.getD 2 Txt.em) ⟨#[35]⟩ = true):=by
  by_cases e:ws.length = 2
  ·exact .inl e
  ·refine .inr ⟨by omega,?_⟩
   cases hb:Txt.beg (ws.getD 2 Txt.em) ⟨#[35]⟩ with
   | true => rfl
   | false => exact absurd ⟨by omega,hb⟩ h3
 have hneg:Txt.number (ws.getD 0 Txt.em) < 0 ∨ (0 ≤ Txt.number (ws.getD 0 Txt.em) ∧ Txt.number (ws.getD 1 Txt.em) < 0):=by
  by_cases c:Txt.number (ws.getD 0 Txt.em) < 0
  ·exact .inl c
  ·refine .inr ⟨by omega,?_⟩
   rcases h with h | h | h | h
   ·exact absurd h h2
   ·rw [Txt.number_neg h] at c;omega
   ·rw [Txt.number_neg h];omega
   ·exact absurd h h3
 rcases h3' with h3' | ⟨h3',hb⟩
 ·clear h h0 hc hW hpos h3
  generalize ws.getD 0 Txt.em = s0 at *
  generalize ws.getD 1 Txt.em = s1 at *
  generalize Txt.number s0 = n0 at *
  generalize Txt.number s1 = n1 at *
  rcases hneg with hn | ⟨hn,hm⟩
  ·go_enter Tryz.func125,Tryz.ntmps125
   go_wp2_with fail
   refine N0.out.mono ?_
   rintro e w' ⟨rfl,rfl⟩
   go_wp2_with fail
   refine N1.out.mono ?_
   rintro e w' ⟨rfl,rfl⟩
   go_wp2
   go_ret
   exact ⟨ret_int H.out.symm,no_err H.out (by decide),Below.refl _ _⟩
  ·go_enter Tryz.func125,Tryz.ntmps125
   go_wp2_with fail
   refine N0.out.mono ?_
   rintro e w' ⟨rfl,rfl⟩
   go_wp2_with fail
   refine N1.out.mono ?_
   rintro e w' ⟨rfl,rfl⟩
   go_wp2
   go_ret
   exact ⟨ret_int H.out.symm,no_err H.out (by decide),Below.refl _ _⟩
 ·have c2:=hc 2 h3'
  have hp2:=hpos 2 h3'
  have hz2:=hW.sz 2
  have hn35:((ws.getD 2 Txt.em)[0]'hp2).toNat = 35:=by
   have:=((Txt.beg_one _).1 hb).2;rw [Txt.byte_at _ 0 hp2] at this;omega
  have hn':((((ws.getD 2 Txt.em)[0]'hp2).toNat:Int) != 35) = false:=by rw [bne_eq_false_iff_eq];omega
  clear h h0 hc hW hpos hb h3 hn35
  generalize ws.getD 0 Txt.em = s0 at *
  generalize ws.getD 1 Txt.em = s1 at *
  generalize ws.getD 2 Txt.em = s2 at *
  generalize Txt.number s0 = n0 at *
  generalize Txt.number s1 = n1 at *
  rcases hneg with hn | ⟨hn,hm⟩
  ·go_enter Tryz.func125,Tryz.ntmps125
   go_wp2_with fail
   refine N0.out.mono ?_
   rintro e w' ⟨rfl,rfl⟩
   go_wp2_with fail
   refine N1.out.mono ?_
   rintro e w' ⟨rfl,rfl⟩
   go_wp2
   go_ret
   exact ⟨ret_int H.out.symm,no_err H.out (by decide),Below.refl _ _⟩
  ·go_enter Tryz.func125,Tryz.ntmps125
   go_wp2_with fail
   refine N0.out.mono ?_
   rintro e w' ⟨rfl,rfl⟩
   go_wp2_with fail
   refine N1.out.mono ?_
   rintro e w' ⟨rfl,rfl⟩
   go_wp2
   go_ret
   exact ⟨ret_int H.out.symm,no_err H.out (by decide),Below.refl _ _⟩
end Go.Proofs.YtmmkhodaljpjgaaGreatDoor
