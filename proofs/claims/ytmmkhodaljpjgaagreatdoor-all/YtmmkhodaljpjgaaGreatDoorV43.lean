import Derived.Test.YtmmkhodaljpjgaaGreatDoorV42
namespace Go.Proofs.YtmmkhodaljpjgaaGreatDoor
open Go.RowKit
set_option maxRecDepth 100000 in
theorem hash_line (h:ByteArray) (w:World) (hs:h.size = 40) :
  Calls Tryz.prog 129 #[.string h] w fun e w' => e = .returned (.string (Txt.hl h)) ∧ w' = w:=by
 have H:Hid (Txt.hl h = Txt.hlTo h 5 ++ ⟨#[10]⟩):=rfl
 go_enter Tryz.func129,Tryz.ntmps129
 go_wp2
 go_loop [3,4] (fun l i => ∃ k:Nat,k ≤ 5 ∧ i = .int .i64 ((k * 8:Nat):Int) ∧ l = .string (Txt.hlTo h k)) (fun _ i => 40 - (intOf i).toNat)
 case atStart => exact ⟨0,by omega,rfl,rfl⟩
 case round =>
  obtain ⟨k,hk,rfl,rfl⟩:=hrel
  have hz:=Txt.hlTo_size h k
  by_cases hlt:k < 5
  ·obtain ⟨b,hb⟩:∃ b,k * 8 = b:=⟨_,rfl⟩
   have HK:Hid (Txt.hlTo h (k + 1) = Txt.hlTo h k ++ (⟨#[32]⟩ ++ h.extract b (b + 8))):=by show _ = _;rw [Txt.hlTo,hb]
   rw [hb]
   have HB:=hid' hb
   have hb8:b + 8 ≤ 40:=by omega
   have hx:(h.extract b (b + 8)).size ≤ 8:=by rw [ByteArray.size_extract];omega
   clear hb
   generalize Txt.hlTo h k = l at *
   go_wp2
   exact ⟨⟨k + 1,by omega,by have:=HB.out;go_num;try omega,by rw [HK.out]⟩,by simp [intOf];omega⟩
  ·have ek:k = 5:=by omega
   subst ek
   generalize Txt.hlTo h 5 = l at *
   go_wp2
   go_ret
   exact ⟨ret_str H.out.symm,rfl⟩
theorem held_below {w w':World} {lv:Value} {ls:List (Int × Int)} (h:Held w lv ls) (hb:Below w.heap.size w w'):Held w' lv ls:=by
 rcases h with h | ⟨h3,g,cap,rfl,hcap,hgl,hlies⟩
 ·exact .inl h
 ·exact .inr ⟨h3,g,cap,rfl,hcap,by have:=hb.size;omega,hlies.below hgl hb⟩
theorem itoa_int (n:Int) (w:World) (h0:0 ≤ n) (hn:n ≤ 1000000000000) (hP:Pows w) :
  Calls Tryz.prog 128 #[.int .i64 n] w fun e w' => e = .returned (.string (Txt.db n)) ∧ Below w.heap.size w w':=by
 obtain ⟨m,rfl⟩:=Int.eq_ofNat_of_zero_le h0
 exact itoa_any m w (by omega) hP
theorem Tab.whole_bd {up ex:Int} {ls:List (Int × Int)} (h:Tab.whole up ex ls = true):0 ≤ up ∧ up < ex ∧ ex ≤ 34000000000:=by
 unfold Tab.whole at h
 simp only [Bool.and_eq_true,decide_eq_true_eq] at h
 exact ⟨h.1,h.2.1,h.2.2.1⟩
theorem Fine.getD {ls:List (Int × Int)} (h:Fine ls) (i:Nat):(0 ≤ (ls.getD i (0,0)).1 ∧ (ls.getD i (0,0)).1 ≤ 34712668800) ∧ (0 ≤ (ls.getD i (0,0)).2 ∧ (ls.getD i (0,0)).2 ≤ 200):=by
 by_cases c:i < ls.length
 ·rw [getD_at i c];exact h _ (List.getElem_mem c)
 ·rw [List.getD_eq_getElem?_getD,List.getElem?_eq_none (by omega)];simp
theorem ret_str_num {a b:ByteArray} {n:Int} (h:a = b):Ending.returned (.tuple #[.string a,.int .i64 n]) = .returned (.tuple #[.string b,.int .i64 n]):=by rw [h]
set_option maxRecDepth 100000 in
set_option maxHeartbeats 1000000 in
theorem file_print_no (lv:Value) (ls:List (Int × Int)) (up ex:Int) (w:World) (wu:(Lit.int .i64 up).wf = true) (wx:(Lit.int .i64 ex).wf = true)
  (hv:Held w lv ls) (hn:ls.length ≤ 100000) (hwf:∀ p ∈ ls,WfP p) (hwh:Tab.whole up ex ls = false) :
  Calls Tryz.prog 80 #[.agg #[.int .i64 up,.int .i64 ex,lv]] w fun e w' =>
   e = .returned (.tuple #[.string ⟨#[]⟩,.int .i64 8]) ∧ Below w.heap.size w w':=by
 have HBel:=hid' ((Below.refl w.heap.size w).alloc (Nat.le_refl _) (.cells #[.int .i64 up,.int .i64 ex,lv] 78))
 have HW:=hid' (is_table lv ls up ex (w.alloc (.cells #[.int .i64 up,.int .i64 ex,lv] 78)) wu wx (held_below hv HBel.out) hn hwf)
 rw [hwh] at HW
 clear hwh hv wu wx hwf hn
 go_enter Tryz.func80,Tryz.ntmps80
 go_wp2_with (go_at_call 127;refine HW.out.mono ?_;rintro e w1 ⟨rfl,hb1⟩;have HB1:=hid' hb1;clear hb1)
 go_ret2
 exact ⟨rfl,HBel.out.trans (HB1.out.mono HBel.out.size)⟩
set_option maxRecDepth 100000 in
set_option maxHeartbeats 2000000 in
theorem file_print_yes (lv:Value) (ls:List (Int × Int)) (up ex:Int) (w:World) (wu:(Lit.int .i64 up).wf = true) (wx:(Lit.int .i64 ex).wf = true)
  (hv:Held w lv ls) (hn:ls.length ≤ 100000) (hwf:∀ p ∈ ls,WfP p) (hwh:Tab.whole up ex ls = true) (hT:Table w) (hP:Pows w) :
  Calls Tryz.prog 80 #[.agg #[.int .i64 up,.int .i64 ex,lv]] w fun e w' =>
   e = .returned (.tuple #[.string (Txt.print up ex ls),.int .i64 0]) ∧ Below w.heap.size w w':=by
 have HBel:=hid' ((Below.refl w.heap.size w).alloc (Nat.le_refl _) (.cells #[.int .i64 up,.int .i64 ex,lv] 78))
 have HW:=hid' (is_table lv ls up ex (w.alloc (.cells #[.int .i64 up,.int .i64 ex,lv] 78)) wu wx (held_below hv HBel.out) hn hwf)
 have HROW:=hid' (heap_alloc_new w (.cells #[.int .i64 up,.int .i64 ex,lv] 78))
 rw [hwh] at HW
 have hG:=Tab.good_of_whole hwh
 have hpos:=hG.pos
 have hlen:=hG.len
 obtain ⟨hu0,hux,hx0⟩:=Tab.whole_bd hwh
 have HF:=hid' hG.fine.getD
 clear hwh hwf hG wu wx hn
 have HT:=hid' hT
 have HP:=hid' hP
 clear hT hP
 rcases hv with ⟨rfl,_⟩ | ⟨_,g,cap,rfl,hcap,hgl,hlies⟩
 ·simp at hpos
 have HLies:=hid' hlies
 clear hlies
 have hsu:=Txt.db_size up (by omega)
 have hsx:=Txt.db_size ex (by omega)
 have IU:=hid' (fun w' h => itoa_int up w' hu0 (by omega) h)
 have IX:=hid' (fun w' h => itoa_int ex w' (by omega) (by omega) h)
 have HH:Hid (Txt.head up ex = ⟨#[35,36,32]⟩ ++ Txt.db up ++ ⟨#[10,35,64,32]⟩ ++ Txt.db ex ++ ⟨#[10]⟩):=rfl
 have HD0:Hid (Txt.dgTo up ex ls 0 = Txt.db up ++ Txt.db ex):=rfl
 have HZ:=hid' (fun k => Txt.prTo_size (u:=up) (x:=ex) (ls:=ls) (by omega) (by omega) (fun i => by have:=HF.out i;omega) k)
 have HZD:=hid' (fun k => Txt.dgTo_size (u:=up) (x:=ex) (ls:=ls) (by omega) (by omega) (fun i => by have:=HF.out i;omega) k)
 generalize Txt.db up = su at *
 generalize Txt.db ex = sx at *
 go_enter Tryz.func80,Tryz.ntmps80
 go_wp2_with fail
 refine HW.out.mono ?_
 rintro e w1 ⟨rfl,hb1⟩
 have HB1:=hid' (HBel.out.trans (hb1.mono HBel.out.size))
 have HR1:=hid' ((hb1.block _ (lt_of_heap HROW.out)).trans HROW.out)
 clear hb1
 have t0:=cell_of_row _ _ 0 _ _ _ HR1.out
 simp at t0
 go_wp2_with fail
 refine (IU.out w1 (HP.out.below HB1.out)).mono ?_
 clear t0
 rintro e w2 ⟨rfl,hb2⟩
 have HB2:=hid' (HB1.out.trans (hb2.mono HB1.out.size))
 have HR2:=hid' ((hb2.block _ (lt_of_heap HR1.out)).trans HR1.out)
 clear hb2
 have t1:=cell_of_row _ _ 1 _ _ _ HR2.out
 simp at t1
 go_wp2_with fail
 refine (IX.out w2 (HP.out.below HB2.out)).mono ?_
 clear t1
 rintro e w3 ⟨rfl,hb3⟩
 have HB3:=hid' (HB2.out.trans (hb3.mono HB2.out.size))
 have HR3:=hid' ((hb3.block _ (lt_of_heap HR2.out)).trans HR2.out)
 clear hb3
 go_wp2
 go_loopw [6,7,8,9,10] (fun t d i _ _ wr => ∃ k:Nat,k ≤ ls.length ∧ i = .int .i64 k ∧ t = .string (Txt.prTo up ex ls k) ∧ d = .string (Txt.dgTo up ex ls k) ∧ Below w.heap.size w wr ∧ wr.heap[w.heap.size]? = some (.cells #[.int .i64 up,.int .i64 ex,.slice (some ⟨g,0,none⟩) ls.length cap] 78 (0,0))) (fun _ _ i _ _ _ => ls.length - (intOf i).toNat)
 case atStart => exact ⟨0,by omega,rfl,by rw [Txt.prTo,HH.out],by rw [HD0.out],HB3.out,HR3.out⟩
 case round =>
  obtain ⟨k,hk,rfl,rfl,rfl,hb,hr⟩:=hrel
  have HB:=hid' hb
  have HR:=hid' hr
  clear hb hr
  have hz:=HZ.out k
  have hzd:=HZD.out k
  have t2:=cell_of_row _ _ 2 _ _ _ HR.out
  simp at t2
  by_cases hlt:k < ls.length
  ·have hcell:=HLies.out k hlt
   have hf:=HF.out k
   have HN:Hid (Txt.prTo up ex ls (k + 1) = Txt.prTo up ex ls k ++ (Txt.db ls[k].1 ++ ⟨#[32]⟩ ++ Txt.db ls[k].2 ++ ⟨#[10]⟩)):=by show _ = _;rw [Txt.prTo,getD_at k hlt];rfl
   have HND:Hid (Txt.dgTo up ex ls (k + 1) = Txt.dgTo up ex ls k ++ (Txt.db ls[k].1 ++ Txt.db ls[k].2)):=by show _ = _;rw [Txt.dgTo,getD_at k hlt]
   rw [getD_at k hlt] at hf
   generalize ls[k] = p at *
   obtain ⟨pa,po⟩:=p
   simp only at hcell hf HN HND
   have hsa:=Txt.db_size pa (by omega)
   have hso:=Txt.db_size po (by omega)
   have IA:=hid' (fun w' h => itoa_int pa w' hf.1.1 (by omega) h)
   have IO:=hid' (fun w' h => itoa_int po w' hf.2.1 (by omega) h)
   generalize Txt.db pa = sa at *
   generalize Txt.db po = so at *
   generalize Txt.prTo up ex ls k = pt at *
   generalize Txt.dgTo up ex ls k = dt at *
   have HC:=hid' hcell
   have hc:=(HB.out.cell (p:=⟨g,k * 2,none⟩) hgl).trans hcell.1
   clear hcell
   go_wp2_with fail
   refine (IA.out _ (HP.out.below HB.out)).mono ?_
   clear hc t2
   rintro e w4 ⟨rfl,hb4⟩
   have HB4:=hid' (HB.out.trans (hb4.mono HB.out.size))
   have HR4:=hid' ((hb4.block _ (lt_of_heap HR.out)).trans HR.out)
   clear hb4
   have t2:=cell_of_row _ _ 2 _ _ _ HR4.out
   simp at t2
   have hc:=(HB4.out.cell (p:=⟨g,k * 2 + 1,none⟩) hgl).trans HC.out.2
   go_wp2_with fail
   refine (IO.out _ (HP.out.below HB4.out)).mono ?_
   clear hc t2
   rintro e w5 ⟨rfl,hb5⟩
   have HB5:=hid' (HB4.out.trans (hb5.mono HB4.out.size))
   have HR5:=hid' ((hb5.block _ (lt_of_heap HR4.out)).trans HR4.out)
   clear hb5
   go_wp2
   go_roundw
   case rel => exact ⟨k + 1,by omega,by go_num,by rw [HN.out],by rw [HND.out],HB5.out,HR5.out⟩
   case measure => simp [intOf];omega
  ·have ek:k = ls.length:=by omega
   subst ek
   have HPR:Hid (Txt.print up ex ls = Txt.prTo up ex ls ls.length ++ Txt.hl (Txt.dgst up ex ls)):=rfl
   have HDG:Hid (Txt.dgst up ex ls = ⟨(Sha.digest (Txt.dgTo up ex ls ls.length)).toArray⟩):=rfl
   have hds:=Txt.digest_size (Txt.dgTo up ex ls ls.length)
   rw [← HDG.out] at hds
   have OFF:=hid' (fun w' h => of_any (Txt.dgTo up ex ls ls.length) w' (by omega) h)
   rw [← HDG.out] at OFF
   have HLN:=hid' (fun w' => hash_line (Txt.dgst up ex ls) w' hds)
   have hhl:=Txt.hlTo_size (Txt.dgst up ex ls) 5
   have hhz:(Txt.hl (Txt.dgst up ex ls)).size ≤ 48:=by
    rw [Txt.hl,Txt.size_app];have:(ByteArray.mk #[10]).size = 1:=rfl
    omega
   clear hhl HDG
   generalize Txt.prTo up ex ls ls.length = pt at *
   generalize Txt.dgTo up ex ls ls.length = dt at *
   generalize Txt.dgst up ex ls = dg at *
   generalize Txt.hl dg = hh at *
   go_wp2_with fail
   refine (OFF.out _ (HT.out.below HB.out)).mono ?_
   clear t2
   rintro e w4 ⟨rfl,hb4⟩
   have HB4:=hid' (HB.out.trans (hb4.mono HB.out.size))
   clear hb4
   go_wp2_with fail
   refine (HLN.out _).mono ?_
   rintro e w5 ⟨rfl,rfl⟩
   go_wp2
   go_ret2
   exact ⟨ret_str_num HPR.out.symm,HB4.out⟩
def Txt.printed (up ex:Int) (ls:List (Int × Int)):ByteArray × Int:=if Tab.whole up ex ls = false then (⟨#[]⟩,8) else (Txt.print up ex ls,0)
theorem file_print (lv:Value) (ls:List (Int × Int)) (up ex:Int) (w:World) (wu:(Lit.int .i64 up).wf = true) (wx:(Lit.int .i64 ex).wf = true)
  (hv:Held w lv ls) (hn:ls.length ≤ 100000) (hwf:∀ p ∈ ls,WfP p) (hT:Table w) (hP:Pows w) :
  Calls Tryz.prog 80 #[.agg #[.int .i64 up,.int .i64 ex,lv]] w fun e w' =>
   e = .returned (.tuple #[.string (Txt.printed up ex ls).1,.int .i64 (Txt.printed up ex ls).2]) ∧ Below w.heap.size w w':=by
 cases hwh:Tab.whole up ex ls with
 | false =>
  have e:Txt.printed up ex ls = (⟨#[]⟩,8):=by unfold Txt.printed;rw [if_pos hwh]
  rw [e];exact file_print_no lv ls up ex w wu wx hv hn hwf hwh
 | true =>
  have e:Txt.printed up ex ls = (Txt.print up ex ls,0):=by unfold Txt.printed;rw [if_neg (by rw [hwh];simp)]
  rw [e];exact file_print_yes lv ls up ex w wu wx hv hn hwf hwh hT hP
set_option maxRecDepth 100000 in
theorem smear_print (lv:Value) (ls:List (Int × Int)) (up ex:Int) (w:World) (wu:(Lit.int .i64 up).wf = true) (wx:(Lit.int .i64 ex).wf = true)
  (hv:Held w lv ls) (hn:ls.length ≤ 100000) (hwf:∀ p ∈ ls,WfP p) (hT:Table w) (hP:Pows w) :
  Calls Tryz.prog 44 #[.agg #[.int .i64 up,.int .i64 ex,lv]] w fun e w' =>
   e = .returned (.tuple #[.string (Txt.printed up ex ls).1,.int .i64 (Txt.printed up ex ls).2]) ∧ Below w.heap.size w w':=by
 have HF:=hid' (fun w' h1 h2 h3 => file_print lv ls up ex w' wu wx h1 hn hwf h2 h3)
 have HV:=hid' hv
 have HT:=hid' hT
 have HP:=hid' hP
 clear wu wx hv hn hwf hT hP
 generalize Txt.printed up ex ls = r at *
 obtain ⟨rs,rn⟩:=r
 have HBel:=hid' ((Below.refl w.heap.size w).alloc (Nat.le_refl _) (.cells #[.int .i64 up,.int .i64 ex,lv] 78))
 have HROW:=hid' (heap_alloc_new w (.cells #[.int .i64 up,.int .i64 ex,lv] 78))
 go_enter Tryz.func44,Tryz.ntmps44
 go_wp2_with fail
 first
  | (refine (HF.out _ (held_below HV.out HBel.out) (HT.out.below HBel.out) (HP.out.below HBel.out)).mono ?_
     rintro e w1 ⟨rfl,hb1⟩
     have HB1:=hid' (HBel.out.trans (hb1.mono HBel.out.size))
     clear hb1)
  | (refine (HF.out _ HV.out HT.out HP.out).mono ?_
     rintro e w1 ⟨rfl,hb1⟩
     have HB1:=hid' hb1
     clear hb1)
 go_wp2
 go_ret2
 exact ⟨rfl,HB1.out⟩
theorem ref_digits_int (n:Int) (w:World) (h0:0 ≤ n) (hn:n ≤ 1000000000000) :
  Calls Tryz.prog 81 #[.int .i64 n] w fun e w' => e = .returned (.string (Txt.db n)) ∧ Below w.heap.size w w':=by
 obtain ⟨m,rfl⟩:=Int.eq_ofNat_of_zero_le h0
 exact ref_digits m (by omega) w
theorem Txt.hl_is (pt h:ByteArray):pt ++ ⟨#[35,104,32]⟩ ++ h.extract 0 8 ++ ⟨#[32]⟩ ++ h.extract 8 16 ++ ⟨#[32]⟩ ++ h.extract 16 24 ++ ⟨#[32]⟩ ++ h.extract 24 32 ++ ⟨#[32]⟩ ++ h.extract 32 40 ++ ⟨#[10]⟩ = pt ++ Txt.hl h:=by
 have e:(ByteArray.mk #[35,104,32]) = (ByteArray.mk #[35,104]) ++ (ByteArray.mk #[32]):=rfl
 have u:Txt.hl h = ((((((⟨#[35,104]⟩ ++ (⟨#[32]⟩ ++ h.extract 0 8)) ++ (⟨#[32]⟩ ++ h.extract 8 16)) ++ (⟨#[32]⟩ ++ h.extract 16 24)) ++ (⟨#[32]⟩ ++ h.extract 24 32)) ++ (⟨#[32]⟩ ++ h.extract 32 40)) ++ ⟨#[10]⟩):=rfl
 rw [u,e]
 simp only [ByteArray.append_assoc]
set_option maxRecDepth 100000 in
set_option maxHeartbeats 1000000 in
theorem ref_print_no (B:Nat) (lv:Value) (ls:List (Int × Int)) (up ex:Int) (w:World) (wu:(Lit.int .i64 up).wf = true) (wx:(Lit.int .i64 ex).wf = true)
  (hv:w.ownsRow B 46 2 lv ls.length (flat ls)) (hn:ls.length ≤ 100000) (hwf:∀ p ∈ ls,WfP p) (hwh:Tab.whole up ex ls = false) :
  Calls Tryz.prog 46 #[.agg #[.int .i64 up,.int .i64 ex,lv]] w fun e w' =>
   e = .returned (.tuple #[.string ⟨#[]⟩,.int .i64 8]) ∧ Below w.heap.size w w':=by
 have HBel:=hid' ((Below.refl w.heap.size w).alloc (Nat.le_refl _) (.cells #[.int .i64 up,.int .i64 ex,lv] 33))
 have HW:=hid' (whole_any B lv ls up ex (w.alloc (.cells #[.int .i64 up,.int .i64 ex,lv] 33)) wu wx (hv.alloc _) hn hwf)
 rw [hwh] at HW
 clear hwh hv wu wx hwf hn
 go_enter Tryz.func46,Tryz.ntmps46
 go_wp2_with (go_at_call 79;refine HW.out.mono ?_;rintro e w1 ⟨rfl,hb1⟩;have HB1:=hid' hb1;clear hb1)
 go_ret2
 exact ⟨rfl,HBel.out.trans (HB1.out.mono HBel.out.size)⟩
set_option maxRecDepth 100000 in
set_option maxHeartbeats 4000000 in
theorem ref_print_yes (B:Nat) (lv:Value) (ls:List (Int × Int)) (up ex:Int) (w:World) (wu:(Lit.int .i64 up).wf = true) (wx:(Lit.int .i64 ex).wf = true)
  (hv:w.ownsRow B 46 2 lv ls.length (flat ls)) (hn:ls.length ≤ 100000) (hwf:∀ p ∈ ls,WfP p) (hwh:Tab.whole up ex ls = true) :
  Calls Tryz.prog 46 #[.agg #[.int .i64 up,.int .i64 ex,lv]] w fun e w' =>
   e = .returned (.tuple #[.string (Txt.print up ex ls),.int .i64 0]) ∧ Below w.heap.size w w':=by
 have HBel:=hid' ((Below.refl w.heap.size w).alloc (Nat.le_refl _) (.cells #[.int .i64 up,.int .i64 ex,lv] 33))
 have HW:=hid' (whole_any B lv ls up ex (w.alloc (.cells #[.int .i64 up,.int .i64 ex,lv] 33)) wu wx (hv.alloc _) hn hwf)
 have HROW:=hid' (heap_alloc_new w (.cells #[.int .i64 up,.int .i64 ex,lv] 33))
 rw [hwh] at HW
 have hG:=Tab.good_of_whole hwh
 have hpos:=hG.pos
 have hlen:=hG.len
 obtain ⟨hu0,hux,hx0⟩:=Tab.whole_bd hwh
 have HF:=hid' hG.fine.getD
 clear hwh hwf hG wu wx hn
 obtain ⟨g,cap,rfl⟩:=own_some hv hpos
 have hgl:=(hv.lt _ rfl).2
 have HLies:=hid' (lies_of_own hv)
 clear hv
 have hsu:=Txt.db_size up (by omega)
 have hsx:=Txt.db_size ex (by omega)
 have IU:=hid' (fun w' => ref_digits_int up w' hu0 (by omega))
 have IX:=hid' (fun w' => ref_digits_int ex w' (by omega) (by omega))
 have HH:Hid (Txt.head up ex = ⟨#[35,36,32]⟩ ++ Txt.db up ++ ⟨#[10,35,64,32]⟩ ++ Txt.db ex ++ ⟨#[10]⟩):=rfl
 have HD0:Hid (Txt.dgTo up ex ls 0 = Txt.db up ++ Txt.db ex):=rfl
 have HZ:=hid' (fun k => Txt.prTo_size (u:=up) (x:=ex) (ls:=ls) (by omega) (by omega) (fun i => by have:=HF.out i;omega) k)
 have HZD:=hid' (fun k => Txt.dgTo_size (u:=up) (x:=ex) (ls:=ls) (by omega) (by omega) (fun i => by have:=HF.out i;omega) k)
 generalize Txt.db up = su at *
 generalize Txt.db ex = sx at *
 go_enter Tryz.func46,Tryz.ntmps46
 go_wp2_with fail
 refine HW.out.mono ?_
 rintro e w1 ⟨rfl,hb1⟩
 have HB1:=hid' (HBel.out.trans (hb1.mono HBel.out.size))
 have HR1:=hid' ((hb1.block _ (lt_of_heap HROW.out)).trans HROW.out)
 clear hb1
 have t0:=cell_of_row _ _ 0 _ _ _ HR1.out
 simp at t0
 go_wp2_with fail
 refine (IU.out w1).mono ?_
 clear t0
 rintro e w2 ⟨rfl,hb2⟩
 have HB2:=hid' (HB1.out.trans (hb2.mono HB1.out.size))
 have HR2:=hid' ((hb2.block _ (lt_of_heap HR1.out)).trans HR1.out)
 clear hb2
 have t1:=cell_of_row _ _ 1 _ _ _ HR2.out
 simp at t1
 go_wp2_with fail
 refine (IX.out w2).mono ?_
 clear t1
 rintro e w3 ⟨rfl,hb3⟩
 have HB3:=hid' (HB2.out.trans (hb3.mono HB2.out.size))
 have HR3:=hid' ((hb3.block _ (lt_of_heap HR2.out)).trans HR2.out)
 clear hb3
 go_wp2
 go_loopw [7,8,9,10,11] (fun t d i _ _ wr => ∃ k:Nat,k ≤ ls.length ∧ i = .int .i64 k ∧ t = .string (Txt.prTo up ex ls k) ∧ d = .string (Txt.dgTo up ex ls k) ∧ Below w.heap.size w wr ∧ wr.heap[w.heap.size]? = some (.cells #[.int .i64 up,.int .i64 ex,.slice (some ⟨g,0,none⟩) ls.length cap] 33 (0,0))) (fun _ _ i _ _ _ => ls.length - (intOf i).toNat)
 case atStart => exact ⟨0,by omega,rfl,by rw [Txt.prTo,HH.out],by rw [HD0.out],HB3.out,HR3.out⟩
 case round =>
  obtain ⟨k,hk,rfl,rfl,rfl,hb,hr⟩:=hrel
  have HB:=hid' hb
  have HR:=hid' hr
  clear hb hr
  have hz:=HZ.out k
  have hzd:=HZD.out k
  have t2:=cell_of_row _ _ 2 _ _ _ HR.out
  simp at t2
  by_cases hlt:k < ls.length
  ·have hcell:=HLies.out k hlt
   have hf:=HF.out k
   have HN:Hid (Txt.prTo up ex ls (k + 1) = Txt.prTo up ex ls k ++ Txt.db ls[k].1 ++ ⟨#[32]⟩ ++ Txt.db ls[k].2 ++ ⟨#[10]⟩):=by
    show _ = _;rw [Txt.prTo,getD_at k hlt];unfold Txt.eline;simp only [ByteArray.append_assoc]
   have HND:Hid (Txt.dgTo up ex ls (k + 1) = Txt.dgTo up ex ls k ++ Txt.db ls[k].1 ++ Txt.db ls[k].2):=by
    show _ = _;rw [Txt.dgTo,getD_at k hlt];simp only [ByteArray.append_assoc]
   rw [getD_at k hlt] at hf
   generalize ls[k] = p at *
   obtain ⟨pa,po⟩:=p
   simp only at hcell hf HN HND
   have hsa:=Txt.db_size pa (by omega)
   have hso:=Txt.db_size po (by omega)
   have IA:=hid' (fun w' => ref_digits_int pa w' hf.1.1 (by omega))
   have IO:=hid' (fun w' => ref_digits_int po w' hf.2.1 (by omega))
   generalize Txt.db pa = sa at *
   generalize Txt.db po = so at *
   generalize Txt.prTo up ex ls k = pt at *
   generalize Txt.dgTo up ex ls k = dt at *
   have HC:=hid' hcell
   have hc:=(HB.out.cell (p:=⟨g,k * 2,none⟩) hgl).trans hcell.1
   clear hcell
   go_wp2_with fail
   refine (IA.out _).mono ?_
   clear hc t2
   rintro e w4 ⟨rfl,hb4⟩
   have HB4:=hid' (HB.out.trans (hb4.mono HB.out.size))
   have HR4:=hid' ((hb4.block _ (lt_of_heap HR.out)).trans HR.out)
   clear hb4
   have t2:=cell_of_row _ _ 2 _ _ _ HR4.out
   simp at t2
   have hc:=(HB4.out.cell (p:=⟨g,k * 2 + 1,none⟩) hgl).trans HC.out.2
   go_wp2_with fail
   refine (IO.out _).mono ?_
   clear hc t2
   rintro e w5 ⟨rfl,hb5⟩
   have HB5:=hid' (HB4.out.trans (hb5.mono HB4.out.size))
   have HR5:=hid' ((hb5.block _ (lt_of_heap HR4.out)).trans HR4.out)
   clear hb5
   go_wp2
   go_roundw
   case rel => exact ⟨k + 1,by omega,by go_num,by rw [HN.out],by rw [HND.out],HB5.out,HR5.out⟩
   case measure => simp [intOf];omega
  ·have ek:k = ls.length:=by omega
   subst ek
   have HPR:Hid (Txt.print up ex ls = Txt.prTo up ex ls ls.length ++ Txt.hl (Txt.dgst up ex ls)):=rfl
   have HDG:Hid (Txt.dgst up ex ls = ⟨(Sha.digest (Txt.dgTo up ex ls ls.length)).toArray⟩):=rfl
   have hds:=Txt.digest_size (Txt.dgTo up ex ls ls.length)
   rw [← HDG.out] at hds
   have OFF:=hid' (fun w' => ref_of (Txt.dgTo up ex ls ls.length) w' (by omega))
   rw [← HDG.out] at OFF
   clear HDG
   rw [← Txt.hl_is] at HPR
   generalize Txt.prTo up ex ls ls.length = pt at *
   generalize Txt.dgTo up ex ls ls.length = dt at *
   generalize Txt.dgst up ex ls = dg at *
   go_wp2_with fail
   refine (OFF.out _).mono ?_
   clear t2
   rintro e w4 ⟨rfl,hb4⟩
   have HB4:=hid' (HB.out.trans (hb4.mono HB.out.size))
   clear hb4
   have z1:(dg.extract 0 8).size ≤ 8:=by rw [ByteArray.size_extract];omega
   have z2:(dg.extract 8 16).size ≤ 8:=by rw [ByteArray.size_extract];omega
   have z3:(dg.extract 16 24).size ≤ 8:=by rw [ByteArray.size_extract];omega
   have z4:(dg.extract 24 32).size ≤ 8:=by rw [ByteArray.size_extract];omega
   have z5:(dg.extract 32 40).size ≤ 8:=by rw [ByteArray.size_extract];omega
   go_wp2
   go_region
   all_goals
    go_wp2
    go_ret2
    exact ⟨ret_str_num HPR.out.symm,HB4.out.drew⟩
theorem ref_print (B:Nat) (lv:Value) (ls:List (Int × Int)) (up ex:Int) (w:World) (wu:(Lit.int .i64 up).wf = true) (wx:(Lit.int .i64 ex).wf = true)
  (hv:w.ownsRow B 46 2 lv ls.length (flat ls)) (hn:ls.length ≤ 100000) (hwf:∀ p ∈ ls,WfP p) :
  Calls Tryz.prog 46 #[.agg #[.int .i64 up,.int .i64 ex,lv]] w fun e w' =>
   e = .returned (.tuple #[.string (Txt.printed up ex ls).1,.int .i64 (Txt.printed up ex ls).2]) ∧ Below w.heap.size w w':=by
 cases hwh:Tab.whole up ex ls with
 | false =>
  have e:Txt.printed up ex ls = (⟨#[]⟩,8):=by unfold Txt.printed;rw [if_pos hwh]
  rw [e];exact ref_print_no B lv ls up ex w wu wx hv hn hwf hwh
 | true =>
  have e:Txt.printed up ex ls = (Txt.print up ex ls,0):=by unfold Txt.printed;rw [if_neg (by rw [hwh];simp)]
  rw [e];exact ref_print_yes B lv ls up ex w wu wx hv hn hwf hwh
structure PX (w:World) (up ex:Int) (tv:Value) (ls:List (Int × Int)) (b g B:Nat) (wx:World):Prop where
 t:wx.heap[w.heap.size]? = some (.cells #[.int .i64 up,.int .i64 ex,tv] 33 (0,0))
 a:wx.heap[b]? = some (.cells #[.int .i64 up,.int .i64 ex,.slice (some ⟨g,0,none⟩) ls.length (ls.length + 2)] 78 (0,0))
 h:Handed wx g ls
 own:wx.ownsRow B 46 2 tv ls.length (flat ls)
 bel:Below w.heap.size w wx
theorem PX.below {w wx wy:World} {up ex:Int} {tv:Value} {ls:List (Int × Int)} {b g B:Nat} (h:PX w up ex tv ls b g B wx) (hb:Below wx.heap.size wx wy):PX w up ex tv ls b g B wy :=
 ⟨(hb.block _ (lt_of_heap h.t)).trans h.t,(hb.block _ (lt_of_heap h.a)).trans h.a,h.h.below hb,own_down h.own hb,h.bel.trans (hb.mono h.bel.size)⟩
set_option maxRecDepth 100000 in
set_option maxHeartbeats 3200000 in
theorem printed_any (B:Nat) (up ex:Int) (tv:Value) (ls:List (Int × Int)) (w:World) (wu:(Lit.int .i64 up).wf = true) (wx:(Lit.int .i64 ex).wf = true)
  (hown:w.ownsRow B 46 2 tv ls.length (flat ls)) (hn:ls.length ≤ 100000) (hwf:∀ p ∈ ls,WfP p) (hT:Table w) (hP:Pows w) :
  Calls Tryz.prog 25 #[.agg #[.int .i64 up,.int .i64 ex,tv]] w fun e w' => e = .returned (.tuple #[.string (Txt.printed up ex ls).1,.bool true]) ∧ Below w.heap.size w w':=by
 have B0:=hid' ((Below.refl w.heap.size w).alloc (Nat.le_refl _) (.cells #[.int .i64 up,.int .i64 ex,tv] 33))
 have R0:=hid' (heap_alloc_new w (.cells #[.int .i64 up,.int .i64 ex,tv] 33))
 have HHA:=hid' (handed_any up ex tv ls _ (held_below (held_ref hown) B0.out) hn)
 have HOW:=hid' hown
 have HT:=hid' hT
 have HPW:=hid' hP
 clear hT hP
 have htv:∃ ao l cp,tv = .slice ao l cp:=by
  rcases hown.2 with ⟨h,_⟩ | ⟨g,cap,cur,h,_⟩
  ·exact ⟨_,_,_,h⟩
  ·exact ⟨_,_,_,h⟩
 obtain ⟨ao,tl,tcp,rfl⟩:=htv
 have HP:=hid' (fun (W:World) (av:Value) (h:Held W av ls) (h2:Table W) (h3:Pows W) => smear_print av ls up ex W wu wx h hn hwf h2 h3)
 have HR:=hid' (fun (W:World) (h:W.ownsRow B 46 2 (.slice ao tl tcp) ls.length (flat ls)) => ref_print B _ ls up ex W wu wx h hn hwf)
 generalize Txt.printed up ex ls = r at *
 obtain ⟨rs,rn⟩:=r
 simp only at HP HR
 have HST:=hid' (fun (g:Nat) (W:World) (hg:w.heap.size + 1 ≤ g) (h:Handed W g ls) (ht:Held W (.slice ao tl tcp) ls) => still_yes (w.heap.size + 1) g up ex (.slice ao tl tcp) ls W hg h ht hn)
 clear hown wu wx hwf
 go_enter Tryz.func25,Tryz.ntmps25
 go_wp2_with fail
 refine HHA.out.mono ?_
 rintro e w1 ⟨g,hg,rfl,hH,hb⟩
 have hg1:w.heap.size + 1 ≤ g:=by simpa using hg
 have rt1:=(hb.block _ (lt_of_heap R0.out)).trans R0.out
 have bel1:=B0.out.trans (hb.mono B0.out.size)
 have a1:=(Below.refl w1.heap.size w1).alloc (Nat.le_refl _) (.cells #[.int .i64 up,.int .i64 ex,.slice (some ⟨g,0,none⟩) ls.length (ls.length + 2)] 78)
 have L1:PX w up ex (.slice ao tl tcp) ls w1.heap.size g B (w1.alloc (.cells #[.int .i64 up,.int .i64 ex,.slice (some ⟨g,0,none⟩) ls.length (ls.length + 2)] 78)) :=
  ⟨(a1.block _ (lt_of_heap rt1)).trans rt1,heap_alloc_new _ _,hH.below a1,own_down HOW.out (bel1.trans (a1.mono bel1.size)),bel1.trans (a1.mono bel1.size)⟩
 have t01:=cell_of_row _ _ 0 _ _ _ rt1
 have t11:=cell_of_row _ _ 1 _ _ _ rt1
 have t21:=cell_of_row _ _ 2 _ _ _ rt1
 simp at t01 t11 t21
 have l1:=lt_of_heap rt1
 clear hg hH hb HHA rt1 bel1 a1
 have L1:=hid' L1
 go_wp2_with fail
 refine (HP.out _ _ L1.out.h.held (HT.out.below L1.out.bel) (HPW.out.below L1.out.bel)).mono ?_
 rintro e w2 ⟨rfl,hb2⟩
 have L2:=L1.out.below hb2
 clear hb2 t01 t11 t21
 have t02:=cell_of_row _ _ 0 _ _ _ L2.t
 have t12:=cell_of_row _ _ 1 _ _ _ L2.t
 have t22:=cell_of_row _ _ 2 _ _ _ L2.t
 have a02:=cell_of_row _ _ 0 _ _ _ L2.a
 have a12:=cell_of_row _ _ 1 _ _ _ L2.a
 have a22:=cell_of_row _ _ 2 _ _ _ L2.a
 simp at t02 t12 t22 a02 a12 a22
 have L2:=hid' L2
 go_wp2_with fail
 refine (HST.out g _ hg1 L2.out.h (held_ref L2.out.own)).mono ?_
 rintro e w3 ⟨rfl,hb3⟩
 have rt3:=(hb3.block _ (Nat.lt_succ_self _)).trans L2.out.t
 have bel3:=L2.out.bel.trans (hb3.mono (Nat.le_succ _))
 have OW3:=hid' (own_down HOW.out bel3)
 have BEL3:=hid' bel3
 clear hb3 bel3 t02 t12 t22 a02 a12 a22
 have t03:=cell_of_row _ _ 0 _ _ _ rt3
 have t13:=cell_of_row _ _ 1 _ _ _ rt3
 have t23:=cell_of_row _ _ 2 _ _ _ rt3
 simp at t03 t13 t23
 clear rt3
 go_wp2_with fail
 refine (HR.out w3 OW3.out).mono ?_
 rintro e w4 ⟨rfl,hb4⟩
 have BEL4:=hid' (BEL3.out.trans (hb4.mono BEL3.out.size))
 clear hb4 t03 t13 t23
 have e2:(rn == rn) = true:=by simp
 go_wp2_with (go_at_call 34;refine (num_any _ _).mono ?_;rintro e w5 ⟨rfl,rfl⟩)
 go_ret2
 exact ⟨rfl,BEL4.out⟩
theorem printed_size (up ex:Int) (ls:List (Int × Int)):(Txt.printed up ex ls).1.size ≤ 16384:=by
 cases hwh:Tab.whole up ex ls with
 | false =>
  have e:Txt.printed up ex ls = (⟨#[]⟩,8):=by unfold Txt.printed;rw [if_pos hwh]
  rw [e];decide
 | true =>
  have e:Txt.printed up ex ls = (Txt.print up ex ls,0):=by unfold Txt.printed;rw [if_neg (by rw [hwh];simp)]
  have hG:=Tab.good_of_whole hwh
  obtain ⟨hu0,hux,hx0⟩:=Tab.whole_bd hwh
  have a:=Txt.prTo_size (u:=up) (x:=ex) (ls:=ls) (by omega) (by omega) (fun i => by have:=hG.fine.getD i;omega) ls.length
  have b:=Txt.hlTo_size (Txt.dgst up ex ls) 5
  have c:(ByteArray.mk #[10]).size = 1:=rfl
  have l:=hG.len
  rw [e]
  show (Txt.print up ex ls).size ≤ 16384
  unfold Txt.print Txt.hl
  rw [Txt.size_app,Txt.size_app]
  omega
set_option maxRecDepth 100000 in
set_option maxHeartbeats 3200000 in
theorem pure_print {X:Xs} (B bW n:Nat) (o:Op) (w:World) (hn:n ≤ 90000) (hI:Inv X B bW n w) (hB:B ≤ w.heap.size) (hT:Table w) (hP:Pows w) (hk:o.kind = 11) :
  Calls Tryz.prog 17 #[.pointer (some ⟨bW,0,none⟩),.agg #[.int .i64 o.kind,.int .i64 o.x,.int .i64 o.a,.int .i64 o.b,.int .i64 o.c,.int .i64 o.d,.string o.s]] w fun e w' => e = .returned (.bool true) ∧ Left X B bW n w w':=by
 obtain ⟨k,x,a,b,c,d,s⟩:=o
 simp only at *
 subst hk
 obtain ⟨i0,hi0,hz0,hz1,hz2⟩:=info_parts infoString
 obtain ⟨le,tv,lv,xv,F,ts,ls,up,ex,se,fr,hb,ht,hl,h1,h2,h3,h4⟩:=hI
 have HB0:=hid' ((Below.refl w.heap.size w).alloc (Nat.le_refl _) (.cells #[.int .i64 11,.int .i64 x,.int .i64 a,.int .i64 b,.int .i64 c,.int .i64 d,.string s] 27))
 have HPR:=hid' (fun (W:World) (h:W.ownsRow B 46 2 lv ls.length (flat ls)) (hT:Table W) (hP:Pows W) => printed_any B up ex lv ls W h3.up h3.ex h (by omega) h3.tab hT hP)
 have HSZ:=hid' (printed_size up ex ls)
 generalize (Txt.printed up ex ls).1 = u at *
 have HB:=hid' hb
 have HT:=hid' ht
 have HL:=hid' hl
 have H4:=hid' h4
 have HTB:=hid' hT
 have HPW:=hid' hP
 have hlt:=hb.lt
 have c1:=hb.cell 1
 have c2:=hb.cell 2
 have c3:=hb.cell 3
 simp at c1 c2 c3
 clear hb ht hl h4 hT hP
 go_enter Tryz.func17,Tryz.ntmps17
 go_wp2_with fail
 refine (HPR.out _ (own_down HL.out HB0.out) (HTB.out.below HB0.out) (HPW.out.below HB0.out)).mono ?_
 rintro e w1 ⟨rfl,hb1⟩
 have HB1:=hid' (HB0.out.trans (hb1.mono HB0.out.size))
 have hs1:=HB1.out.size
 have BL1:Blk bW tv up ex lv se fr xv w1:=(HB1.out.block _ hlt).trans HB.out
 have T1:=hid' (own_down HT.out HB1.out)
 have L1:=hid' (own_down HL.out HB1.out)
 have v0:=BL1.cell 0
 have fv:=BL1.free 0
 have hlt1:=BL1.lt
 simp at v0
 have BL:=hid' BL1
 clear hb1 BL1 c1 c2 c3
 have fz1:∀ o,(w1.alloc o).frozen? ⟨bW,0,none⟩ = false:=fun o => (BL.out.alloc o).free 0
 go_wp2_with (at_builtin;refine wpList_append_lies _ (by rfl) (.tmp 60) (.tmp 62) 30 (by rfl) B 9 i0 (.string ByteArray.empty) 1 16 Tryz.underlying30 hi0 hz0 hz1 hz2 rfl (by decide) tv ts.length (ts.map Value.string) (by rfl) (T1.out.alloc _) ⟨w1.heap.size,0,none⟩ 1 1 [.string u] (by rfl) (by rfl) (World.news_of_block (cs:=#[.string u]) (t:=9) (fr:=(0,0)) (heap_alloc_new w1 _)) (by simp [Value.oneCell']) (by decide) (by unfold maxLen;omega) (by omega) (by simp <;> omega) (w1.heap.size + 1) (by simp) ?_;intro g3 cap3 w3 own3 hg3 hat3 hlt3;have B3:=hid' ((BL.out.alloc (.cells #[.string u] 9)).grown hg3 (T1.out.alloc _) (by decide));have d3:=B3.out.cell 0;have f3:=B3.out.free 0;simp at d3;have OWN3:=hid' own3;have HG3:=hid' hg3;clear own3 hg3 hat3)
 go_ret
 exact ⟨rfl,text_left HSZ.out le h1 h2 h3 (T1.out.alloc _) (L1.out.alloc _) H4.out ((Keeps.below HB1.out).alloc _) ((HB1.out.mono hB).alloc (by omega) _) (by simp <;> omega) OWN3.out HG3.out B3.out⟩
theorem does_print {X:Xs} (w:World) (hT:Table w) (hP:Pows w) (o:Op) (hk:o.kind = 11) (B n:Nat) (wr:World) (hB:w.heap.size ≤ B) (hn:n ≤ 90000) (hb:Below w.heap.size w wr):Does X B B n o wr:=by
 refine does_pure (.inr (by omega)) (by omega) ?_
 intro w1 hI hB1 hb1
 refine (pure_print B B n o w1 hn hI hB1 (hT.below (hb.trans (hb1.mono hB))) (hP.below (hb.trans (hb1.mono hB))) hk).mono ?_
 rintro e w' ⟨rfl,h1,h2,h3⟩
 exact ⟨rfl,h1,h2.op,h3⟩
set_option maxRecDepth 100000 in
set_option maxHeartbeats 1000000 in
theorem pure_digest {X:Xs} (B bW n:Nat) (o:Op) (w:World) (ho:o.Ok) (hn:n ≤ 100000) (hI:Inv X B bW n w) (hT:Table w) (hk:o.kind = 9) :
  Calls Tryz.prog 17 #[.pointer (some ⟨bW,0,none⟩),.agg #[.int .i64 o.kind,.int .i64 o.x,.int .i64 o.a,.int .i64 o.b,.int .i64 o.c,.int .i64 o.d,.string o.s]] w fun e w' => e = .returned (.bool true) ∧ Below w.heap.size w w':=by
 have hTx:=text_any B bW n o.a (w.alloc (.cells #[.int .i64 o.kind,.int .i64 o.x,.int .i64 o.a,.int .i64 o.b,.int .i64 o.c,.int .i64 o.d,.string o.s] 27)) ho.a hn (inv_alloc hI _)
 have HTx:=hid' hTx
 have HT:=hid' hT
 clear hTx ho hI hT
 obtain ⟨k,x,a,b,c,d,s⟩:=o
 simp only at *
 subst hk
 have HB0:=hid' ((Below.refl w.heap.size w).alloc (Nat.le_refl _) (.cells #[.int .i64 9,.int .i64 x,.int .i64 a,.int .i64 b,.int .i64 c,.int .i64 d,.string s] 27))
 go_enter Tryz.func17,Tryz.ntmps17
 go_wp2_with fail
 refine HTx.out.mono ?_
 rintro e w1 ⟨t,m,rfl,hts,hw1⟩
 have hb1:Below w.heap.size w w1:=by rw [hw1];exact below_drewN HB0.out m
 have HB1:=hid' hb1
 have HT1:=hid' (HT.out.below hb1)
 clear hw1 hb1 HTx
 go_wp2_with fail
 refine (digest_any t w1 (by omega) HT1.out).mono ?_
 rintro e w2 ⟨rfl,hb2⟩
 have HB2:=hid' (HB1.out.trans (hb2.mono HB1.out.size))
 clear hb2
 go_wp2_with fail
 refine (ref_of t w2 (by omega)).mono ?_
 rintro e w3 ⟨rfl,hb3⟩
 have HB3:=hid' (HB2.out.trans (hb3.mono HB2.out.size))
 clear hb3
 generalize ByteArray.mk (Sha.digest t).toArray = D
 go_wp2
 go_ret
 exact ⟨rfl,HB3.out⟩
theorem does_digest {X:Xs} (w:World) (hT:Table w) (o:Op) (hk:o.kind = 9) (hok:o.Ok) (B n:Nat) (wr:World) (hB:w.heap.size ≤ B) (hn:n ≤ 100000) (hb:Below w.heap.size w wr):Does X B B n o wr:=by
 refine does_pure (.inr (by omega)) (by omega) ?_
 intro w1 hI hB1 hb1
 refine (pure_digest B B n o w1 hok hn hI (hT.below (hb.trans (hb1.mono hB))) hk).mono ?_
 rintro e w' ⟨rfl,hbb⟩
 exact ⟨rfl,(hI.below hbb).up (Nat.le_succ _),Keep.below hbb,hbb.mono hB1⟩
end Go.Proofs.YtmmkhodaljpjgaaGreatDoor
