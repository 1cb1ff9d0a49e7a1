import Derived.Test.YtmmkhodaljpjgaaGreatDoorV17
import Derived.Test.YtmmkhodaljpjgaaGreatDoorV16
import Derived.Test.YtmmkhodaljpjgaaGreatDoorV13
import Derived.Handy
set_option maxRecDepth 100000
set_option maxHeartbeats 6400000
namespace Go.Proofs.YtmmkhodaljpjgaaGreatDoor
open Go.RowKit
structure RSrv (b:Nat) (s:Sv) (dv bv cv hv:Value) (w:World):Prop where
 row:w.heap[b]? = some (.cells #[.int .i64 s.mode,.int .i64 s.win,.int .i64 s.fresh,.int .i64 s.ns,.int .i64 s.nf,.bool s.ld,.int .i64 s.up,.int .i64 s.ex,dv,bv,cv,.int .i64 s.ref,hv] 119 (0,0))
 dd:w.ownsRow 0 46 2 dv s.done.length (flat s.done)
 bb:w.ownsRow 0 35 2 bv s.began.length (flat s.began)
 cc:w.ownsRow 0 123 5 cv s.com.length (flatC s.com)
 ss:w.ownsRow 0 160 4 hv s.said.length (flatH s.said)
def rFoot (b:Nat) (dv bv cv hv:Value) (k:Nat):Prop:=k = b ∨ dv.ownBlock = some k ∨ bv.ownBlock = some k ∨ cv.ownBlock = some k ∨ hv.ownBlock = some k
theorem RSrv.keep {b:Nat} {s:Sv} {dv bv cv hv:Value} {w w':World} (h:RSrv b s dv bv cv hv w) (hk:∀ k,rFoot b dv bv cv hv k → w'.heap[k]? = w.heap[k]?):RSrv b s dv bv cv hv w' :=
 ⟨(hk b (.inl rfl)).trans h.row,own_same h.dd (fun k e => hk k (.inr (.inl e))),own_same h.bb (fun k e => hk k (.inr (.inr (.inl e)))),own_same h.cc (fun k e => hk k (.inr (.inr (.inr (.inl e))))),own_same h.ss (fun k e => hk k (.inr (.inr (.inr (.inr e)))))⟩
theorem RSrv.typ {b:Nat} {s:Sv} {dv bv cv hv:Value} {w:World} (h:RSrv b s dv bv cv hv w) {k:Nat} (hk:rFoot b dv bv cv hv k):∃ cs e fr,w.heap[k]? = some (.cells cs e fr) ∧ 38 ≠ e ∧ 9 ≠ e:=by
 rcases hk with rfl | e | e | e | e
 ·exact ⟨_,_,_,h.row,by decide,by decide⟩
 ·obtain ⟨cs,fr,hh⟩:=own_typ h.dd e;exact ⟨_,_,_,hh,by decide,by decide⟩
 ·obtain ⟨cs,fr,hh⟩:=own_typ h.bb e;exact ⟨_,_,_,hh,by decide,by decide⟩
 ·obtain ⟨cs,fr,hh⟩:=own_typ h.cc e;exact ⟨_,_,_,hh,by decide,by decide⟩
 ·obtain ⟨cs,fr,hh⟩:=own_typ h.ss e;exact ⟨_,_,_,hh,by decide,by decide⟩
theorem RSrv.below {b:Nat} {s:Sv} {dv bv cv hv:Value} {w w':World} (h:RSrv b s dv bv cv hv w) (hb:Below w.heap.size w w'):RSrv b s dv bv cv hv w' :=
 h.keep fun k hk => by obtain ⟨cs,e,fr,hh,_⟩:=h.typ hk;exact hb.block k (lt_of_heap hh)
structure VwOk (w:World) (v:Vw):Prop where
 d:Marks w 84 2 v.d v.m v.b
 c:Marks w 121 5 v.c v.m v.b
 m0:0 ≤ v.m
 m1:v.m ≤ 100000000000
 b0:0 ≤ v.b
 b1:v.b ≤ 100000000000
def vwFoot (v:Vw) (k:Nat):Prop:=vFoot v.d k ∨ vFoot v.c k
theorem VwOk.keep {w w':World} {v:Vw} (h:VwOk w v) (hk:∀ k,vwFoot v k → w'.heap[k]? = w.heap[k]?):VwOk w' v :=
 ⟨h.d.keep (fun k e => hk k (.inl e)),h.c.keep (fun k e => hk k (.inr e)),h.m0,h.m1,h.b0,h.b1⟩
theorem VwOk.typ {w:World} {v:Vw} (h:VwOk w v) {k:Nat} (hk:vwFoot v k):(∃ cs fr,w.heap[k]? = some (.cells cs 84 fr)) ∨ ∃ cs fr,w.heap[k]? = some (.cells cs 121 fr):=by
 rcases hk with e | e
 ·exact .inl (h.d.typ e)
 ·exact .inr (h.c.typ e)
theorem VwOk.below {w w':World} {v:Vw} (h:VwOk w v) (hb:Below w.heap.size w w'):VwOk w' v :=
 h.keep fun k hk => by
  rcases h.typ hk with ⟨cs,fr,hh⟩ | ⟨cs,fr,hh⟩
  ·exact hb.block k (lt_of_heap hh)
  ·exact hb.block k (lt_of_heap hh)
def ReadP (w w':World) (bc bx by' br:Nat) (hv:Value) (m:Int) (hs:List Vw):Prop:=∃ (hv':Value) (v1 v2:Vw),
 w'.heap[bc]? = some (.cells #[.pointer (some ⟨bx,0,none⟩),.pointer (some ⟨by',0,none⟩),.pointer (some ⟨br,0,none⟩),hv',.int .i64 (m + 2000)] 60 (0,0)) ∧
 w'.ownsRow 0 126 4 hv' (hs ++ [v1,v2]).length (flatV (hs ++ [v1,v2])) ∧ (∀ v ∈ hs ++ [v1,v2],VwOk w' v) ∧
 Off (fun k => k = bc ∨ hv.ownBlock = some k) w w' ∧ (∀ k,hv'.ownBlock = some k → hv.ownBlock = some k ∨ w.heap.size ≤ k) ∧ (∀ k,vwFoot v1 k ∨ vwFoot v2 k → w.heap.size ≤ k)
theorem ref_digits_int (n:Int) (w:World) (h0:0 ≤ n) (hn:n ≤ 1000000000000) :
  Calls Tryz.prog 81 #[.int .i64 n] w fun e w' => e = .returned (.string (Txt.db n)) ∧ Below w.heap.size w w':=by
 obtain ⟨m,rfl⟩:=Int.eq_ofNat_of_zero_le h0
 exact ref_digits m (by omega) w
theorem Txt.hl_is (pt h:ByteArray):pt ++ ⟨#[35,104,32]⟩ ++ h.extract 0 8 ++ ⟨#[32]⟩ ++ h.extract 8 16 ++ ⟨#[32]⟩ ++ h.extract 16 24 ++ ⟨#[32]⟩ ++ h.extract 24 32 ++ ⟨#[32]⟩ ++ h.extract 32 40 ++ ⟨#[10]⟩ = pt ++ Txt.hl h:=by
 have e:(ByteArray.mk #[35,104,32]) = (ByteArray.mk #[35,104]) ++ (ByteArray.mk #[32]):=rfl
 have u:Txt.hl h = ((((((⟨#[35,104]⟩ ++ (⟨#[32]⟩ ++ h.extract 0 8)) ++ (⟨#[32]⟩ ++ h.extract 8 16)) ++ (⟨#[32]⟩ ++ h.extract 16 24)) ++ (⟨#[32]⟩ ++ h.extract 24 32)) ++ (⟨#[32]⟩ ++ h.extract 32 40)) ++ ⟨#[10]⟩):=rfl
 rw [u,e]
 simp only [ByteArray.append_assoc]
theorem ref_print_no (B:Nat) (lv:Value) (ls:List (Int × Int)) (up ex:Int) (w:World) (wu:(Lit.int .i64 up).wf = true) (wx:(Lit.int .i64 ex).wf = true)
  (hv:w.ownsRow B 46 2 lv ls.length (flat ls)) (hn:ls.length ≤ 100000) (hwf:∀ p ∈ ls,WfP p) (hwh:Tab.whole up ex ls = false) :
  Calls Tryz.prog 46 #[.agg #[.int .i64 up,.int .i64 ex,lv]] w fun e w' =>
   e = .returned (.tuple #[.string ⟨#[]⟩,.int .i64 8]) ∧ Below w.heap.size w w':=by
 have HBel:=hid' ((Below.refl w.heap.size w).alloc (Nat.le_refl _) (.cells #[.int .i64 up,.int .i64 ex,lv] 33))
 have HW:=hid' (whole_any B lv ls up ex (w.alloc (.cells #[.int .i64 up,.int .i64 ex,lv] 33)) wu wx (hv.alloc _) hn hwf)
 rw [hwh] at HW
 clear hwh hv wu wx hwf hn
 go_enter Tryz.func46,Tryz.ntmps46
 go_wp2_with (go_at_call 79;refine HW.out.mono ?_;rintro e w1 ⟨rfl,hb1⟩;have HB1:=hid' hb1;clear hb1)
 go_ret2
 exact ⟨rfl,HBel.out.trans (HB1.out.mono HBel.out.size)⟩
theorem ref_print_yes (B:Nat) (lv:Value) (ls:List (Int × Int)) (up ex:Int) (w:World) (wu:(Lit.int .i64 up).wf = true) (wx:(Lit.int .i64 ex).wf = true)
  (hv:w.ownsRow B 46 2 lv ls.length (flat ls)) (hn:ls.length ≤ 100000) (hwf:∀ p ∈ ls,WfP p) (hwh:Tab.whole up ex ls = true) :
  Calls Tryz.prog 46 #[.agg #[.int .i64 up,.int .i64 ex,lv]] w fun e w' =>
   e = .returned (.tuple #[.string (Txt.print up ex ls),.int .i64 0]) ∧ Below w.heap.size w w':=by
 have HBel:=hid' ((Below.refl w.heap.size w).alloc (Nat.le_refl _) (.cells #[.int .i64 up,.int .i64 ex,lv] 33))
 have HW:=hid' (whole_any B lv ls up ex (w.alloc (.cells #[.int .i64 up,.int .i64 ex,lv] 33)) wu wx (hv.alloc _) hn hwf)
 have HROW:=hid' (heap_alloc_new w (.cells #[.int .i64 up,.int .i64 ex,lv] 33))
 rw [hwh] at HW
 have hG:=Tab.good_of_whole hwh
 have hpos:=hG.pos
 have hlen:=hG.len
 obtain ⟨hu0,hux,hx0⟩:=Tab.whole_bd hwh
 have HF:=hid' hG.fine.getD
 clear hwh hwf hG wu wx hn
 obtain ⟨g,cap,rfl⟩:=own_some hv hpos
 have hgl:=(hv.lt _ rfl).2
 have HLies:=hid' (lies_of_own hv)
 clear hv
 have hsu:=Txt.db_size up (by omega)
 have hsx:=Txt.db_size ex (by omega)
 have IU:=hid' (fun w' => ref_digits_int up w' hu0 (by omega))
 have IX:=hid' (fun w' => ref_digits_int ex w' (by omega) (by omega))
 have HH:Hid (Txt.head up ex = ⟨#[35,36,32]⟩ ++ Txt.db up ++ ⟨#[10,35,64,32]⟩ ++ Txt.db ex ++ ⟨#[10]⟩):=rfl
 have HD0:Hid (Txt.dgTo up ex ls 0 = Txt.db up ++ Txt.db ex):=rfl
 have HZ:=hid' (fun k => Txt.prTo_size (u:=up) (x:=ex) (ls:=ls) (by omega) (by omega) (fun i => by have:=HF.out i;omega) k)
 have HZD:=hid' (fun k => Txt.dgTo_size (u:=up) (x:=ex) (ls:=ls) (by omega) (by omega) (fun i => by have:=HF.out i;omega) k)
 generalize Txt.db up = su at *
 generalize Txt.db ex = sx at *
 go_enter Tryz.func46,Tryz.ntmps46
 go_wp2_with fail
 refine HW.out.mono ?_
 rintro e w1 ⟨rfl,hb1⟩
 have HB1:=hid' (HBel.out.trans (hb1.mono HBel.out.size))
 have HR1:=hid' ((hb1.block _ (lt_of_heap HROW.out)).trans HROW.out)
 clear hb1
 have t0:=cell_of_row _ _ 0 _ _ _ HR1.out
 simp at t0
 go_wp2_with fail
 refine (IU.out w1).mono ?_
 clear t0
 rintro e w2 ⟨rfl,hb2⟩
 have HB2:=hid' (HB1.out.trans (hb2.mono HB1.out.size))
 have HR2:=hid' ((hb2.block _ (lt_of_heap HR1.out)).trans HR1.out)
 clear hb2
 have t1:=cell_of_row _ _ 1 _ _ _ HR2.out
 simp at t1
 go_wp2_with fail
 refine (IX.out w2).mono ?_
 clear t1
 rintro e w3 ⟨rfl,hb3⟩
 have HB3:=hid' (HB2.out.trans (hb3.mono HB2.out.size))
 have HR3:=hid' ((hb3.block _ (lt_of_heap HR2.out)).trans HR2.out)
 clear hb3
 go_wp2
 go_loopw [7,8,9,10,11] (fun t d i _ _ wr => ∃ k:Nat,k ≤ ls.length ∧ i = .int .i64 k ∧ t = .string (Txt.prTo up ex ls k) ∧ d = .string (Txt.dgTo up ex ls k) ∧ Below w.heap.size w wr ∧ wr.heap[w.heap.size]? = some (.cells #[.int .i64 up,.int .i64 ex,.slice (some ⟨g,0,none⟩) ls.length cap] 33 (0,0))) (fun _ _ i _ _ _ => ls.length - (intOf i).toNat)
 case atStart => exact ⟨0,by omega,rfl,by rw [Txt.prTo,HH.out],by rw [HD0.out],HB3.out,HR3.out⟩
 case round =>
  obtain ⟨k,hk,rfl,rfl,rfl,hb,hr⟩:=hrel
  have HB:=hid' hb
  have HR:=hid' hr
  clear hb hr
  have hz:=HZ.out k
  have hzd:=HZD.out k
  have t2:=cell_of_row _ _ 2 _ _ _ HR.out
  simp at t2
  by_cases hlt:k < ls.length
  ·have hcell:=HLies.out k hlt
   have hf:=HF.out k
   have HN:Hid (Txt.prTo up ex ls (k + 1) = Txt.prTo up ex ls k ++ Txt.db ls[k].1 ++ ⟨#[32]⟩ ++ Txt.db ls[k].2 ++ ⟨#[10]⟩):=by
    show _ = _;rw [Txt.prTo,getD_at k hlt];unfold Txt.eline;simp only [ByteArray.append_assoc]
   have HND:Hid (Txt.dgTo up ex ls (k + 1) = Txt.dgTo up ex ls k ++ Txt.db ls[k].1 ++ Txt.db ls[k].2):=by
    show _ = _;rw [Txt.dgTo,getD_at k hlt];simp only [ByteArray.append_assoc]
   rw [getD_at k hlt] at hf
   generalize ls[k] = p at *
   obtain ⟨pa,po⟩:=p
   simp only at hcell hf HN HND
   have hsa:=Txt.db_size pa (by omega)
   have hso:=Txt.db_size po (by omega)
   have IA:=hid' (fun w' => ref_digits_int pa w' hf.1.1 (by omega))
   have IO:=hid' (fun w' => ref_digits_int po w' hf.2.1 (by omega))
   generalize Txt.db pa = sa at *
   generalize Txt.db po = so at *
   generalize Txt.prTo up ex ls k = pt at *
   generalize Txt.dgTo up ex ls k = dt at *
   have HC:=hid' hcell
   have hc:=(HB.out.cell (p:=⟨g,k * 2,none⟩) hgl).trans hcell.1
   clear hcell
   go_wp2_with fail
   refine (IA.out _).mono ?_
   clear hc t2
   rintro e w4 ⟨rfl,hb4⟩
   have HB4:=hid' (HB.out.trans (hb4.mono HB.out.size))
   have HR4:=hid' ((hb4.block _ (lt_of_heap HR.out)).trans HR.out)
   clear hb4
   have t2:=cell_of_row _ _ 2 _ _ _ HR4.out
   simp at t2
   have hc:=(HB4.out.cell (p:=⟨g,k * 2 + 1,none⟩) hgl).trans HC.out.2
   go_wp2_with fail
   refine (IO.out _).mono ?_
   clear hc t2
   rintro e w5 ⟨rfl,hb5⟩
   have HB5:=hid' (HB4.out.trans (hb5.mono HB4.out.size))
   have HR5:=hid' ((hb5.block _ (lt_of_heap HR4.out)).trans HR4.out)
   clear hb5
   go_wp2
   go_roundw
   case rel => exact ⟨k + 1,by omega,by go_num,by rw [HN.out],by rw [HND.out],HB5.out,HR5.out⟩
   case measure => simp [intOf];omega
  ·have ek:k = ls.length:=by omega
   subst ek
   have HPR:Hid (Txt.print up ex ls = Txt.prTo up ex ls ls.length ++ Txt.hl (Txt.dgst up ex ls)):=rfl
   have HDG:Hid (Txt.dgst up ex ls = ⟨(Sha.digest (Txt.dgTo up ex ls ls.length)).toArray⟩):=rfl
   have hds:=Txt.digest_size (Txt.dgTo up ex ls ls.length)
   rw [← HDG.out] at hds
   have OFF:=hid' (fun w' => ref_of (Txt.dgTo up ex ls ls.length) w' (by omega))
   rw [← HDG.out] at OFF
   clear HDG
   rw [← Txt.hl_is] at HPR
   generalize Txt.prTo up ex ls ls.length = pt at *
   generalize Txt.dgTo up ex ls ls.length = dt at *
   generalize Txt.dgst up ex ls = dg at *
   go_wp2_with fail
   refine (OFF.out _).mono ?_
   clear t2
   rintro e w4 ⟨rfl,hb4⟩
   have HB4:=hid' (HB.out.trans (hb4.mono HB.out.size))
   clear hb4
   have z1:(dg.extract 0 8).size ≤ 8:=by rw [ByteArray.size_extract];omega
   have z2:(dg.extract 8 16).size ≤ 8:=by rw [ByteArray.size_extract];omega
   have z3:(dg.extract 16 24).size ≤ 8:=by rw [ByteArray.size_extract];omega
   have z4:(dg.extract 24 32).size ≤ 8:=by rw [ByteArray.size_extract];omega
   have z5:(dg.extract 32 40).size ≤ 8:=by rw [ByteArray.size_extract];omega
   go_wp2
   go_region
   all_goals
    go_wp2
    go_ret2
    exact ⟨ret_str_num HPR.out.symm,HB4.out.drew⟩
theorem ref_print (B:Nat) (lv:Value) (ls:List (Int × Int)) (up ex:Int) (w:World) (wu:(Lit.int .i64 up).wf = true) (wx:(Lit.int .i64 ex).wf = true)
  (hv:w.ownsRow B 46 2 lv ls.length (flat ls)) (hn:ls.length ≤ 100000) (hwf:∀ p ∈ ls,WfP p) :
  Calls Tryz.prog 46 #[.agg #[.int .i64 up,.int .i64 ex,lv]] w fun e w' =>
   e = .returned (.tuple #[.string (Txt.printed up ex ls).1,.int .i64 (Txt.printed up ex ls).2]) ∧ Below w.heap.size w w':=by
 cases hwh:Tab.whole up ex ls with
 | false =>
  have e:Txt.printed up ex ls = (⟨#[]⟩,8):=by unfold Txt.printed;rw [if_pos hwh]
  rw [e];exact ref_print_no B lv ls up ex w wu wx hv hn hwf hwh
 | true =>
  have e:Txt.printed up ex ls = (Txt.print up ex ls,0):=by unfold Txt.printed;rw [if_neg (by rw [hwh];simp)]
  rw [e];exact ref_print_yes B lv ls up ex w wu wx hv hn hwf hwh
theorem served_yes (bc bx by' br b:Nat) (hv:Value) (m ts tf li er:Int) (w:World)
  (hc:w.heap[bc]? = some (.cells #[.pointer (some ⟨bx,0,none⟩),.pointer (some ⟨by',0,none⟩),.pointer (some ⟨br,0,none⟩),hv,.int .i64 m] 60 (0,0)))
  (hN:Tells 55 b ts tf li er w) (hS:∀ W,Below w.heap.size w W → Tells 56 br ts tf li er W) :
  Calls Tryz.prog 28 #[.pointer (some ⟨bc,0,none⟩),.pointer (some ⟨b,0,none⟩)] w fun e w' => e = .returned (.bool true) ∧ Below w.heap.size w w':=by
 have HC:=hid' hc
 have HN:=hid' hN
 have HS:=hid' hS
 clear hc hN hS
 go_enter Tryz.func28,Tryz.ntmps28
 go_wp2_with fail
 refine Calls.mono HN.out ?_
 rintro e w1 ⟨rfl,hb1⟩
 have a1:=(Below.refl w1.heap.size w1).alloc (Nat.le_refl _) (.cells #[.int .i64 ts,.int .i64 tf] 98)
 have B1:=hid' (hb1.trans (a1.mono hb1.size))
 have T1:=hid' (heap_alloc_new w1 (.cells #[.int .i64 ts,.int .i64 tf] 98))
 have C1:=(hb1.block _ (lt_of_heap HC.out)).trans HC.out
 have c2:=cell_of_row _ _ 2 _ _ _ C1
 have lc:=lt_of_heap C1
 simp at c2
 clear hb1 a1 C1
 go_wp2_with fail
 refine Calls.mono (HS.out _ B1.out) ?_
 rintro e w2 ⟨rfl,hb2⟩
 have B2:=hid' (B1.out.trans (hb2.mono B1.out.size))
 have T2:=(hb2.block _ (lt_of_heap T1.out)).trans T1.out
 have t0:=cell_of_row _ _ 0 _ _ _ T2
 have t1:=cell_of_row _ _ 1 _ _ _ T2
 have lt2:=lt_of_heap T2
 simp at t0 t1
 clear hb2 T2 c2
 have e0:(ts == ts) = true:=by simp
 have e1:(tf == tf) = true:=by simp
 have e2:(li == li) = true:=by simp
 have e3:(er == er) = true:=by simp
 go_wp2_with (go_at_call 34;refine (num_any _ _).mono ?_;rintro e w5 ⟨rfl,rfl⟩)
 go_ret
 exact ⟨rfl,B2.out.alloc B2.out.size _⟩
theorem does_now (bc bx by' br:Nat) (hv:Value) (m ts tf li er:Int) (o:Op) (t:ByteArray) (w:World) (hk:o.kind = 19)
  (hc:w.heap[bc]? = some (.cells #[.pointer (some ⟨bx,0,none⟩),.pointer (some ⟨by',0,none⟩),.pointer (some ⟨br,0,none⟩),hv,.int .i64 m] 60 (0,0)))
  (hN:∀ W,Below w.heap.size w W → Tells 55 bx ts tf li er W) (hS:∀ W,Below w.heap.size w W → Tells 56 br ts tf li er W) :
  Calls Tryz.prog 20 #[.pointer (some ⟨bc,0,none⟩),.agg #[.int .i64 o.kind,.int .i64 o.x,.int .i64 o.a,.int .i64 o.b,.int .i64 o.c,.int .i64 o.d,.string o.s],.string t] w fun e w' => e = .returned (.bool true) ∧ Below w.heap.size w w':=by
 obtain ⟨k,x,a,b,c,d,s⟩:=o
 simp only at *
 subst hk
 have B0:=hid' ((Below.refl w.heap.size w).alloc (Nat.le_refl _) (.cells #[.int .i64 19,.int .i64 x,.int .i64 a,.int .i64 b,.int .i64 c,.int .i64 d,.string s] 27))
 have C0:=(B0.out.block _ (lt_of_heap hc)).trans hc
 have SV:=hid' (served_yes bc bx by' br bx hv m ts tf li er _ C0 (hN _ B0.out) (fun W h => hS W (B0.out.trans (h.mono B0.out.size))))
 have c0:=cell_of_row _ _ 0 _ _ _ hc
 have lc:=lt_of_heap hc
 simp at c0
 clear hc hN hS C0
 go_enter Tryz.func20,Tryz.ntmps20
 go_wp2_with fail
 refine SV.out.mono ?_
 rintro e w1 ⟨rfl,hb1⟩
 have B1:=hid' (B0.out.trans (hb1.mono B0.out.size))
 clear hb1 SV
 go_wp2
 go_ret
 exact ⟨rfl,B1.out⟩
theorem answered_yes (bc bx by' br b:Nat) (hv:Value) (m er:Int) (p sv:ByteArray) (w:World)
  (hc:w.heap[bc]? = some (.cells #[.pointer (some ⟨bx,0,none⟩),.pointer (some ⟨by',0,none⟩),.pointer (some ⟨br,0,none⟩),hv,.int .i64 m] 60 (0,0)))
  (hN:Ans 57 b p sv er w) (hS:∀ W,Below w.heap.size w W → Ans 58 br p sv er W) :
  Calls Tryz.prog 29 #[.pointer (some ⟨bc,0,none⟩),.pointer (some ⟨b,0,none⟩),.string p] w fun e w' => e = .returned (.bool true) ∧ Below w.heap.size w w':=by
 have HC:=hid' hc
 have HN:=hid' hN
 have HS:=hid' hS
 clear hc hN hS
 go_enter Tryz.func29,Tryz.ntmps29
 go_wp2_with fail
 refine Calls.mono HN.out ?_
 rintro e w1 ⟨rfl,hb1⟩
 have B1:=hid' hb1
 have C1:=(hb1.block _ (lt_of_heap HC.out)).trans HC.out
 have c2:=cell_of_row _ _ 2 _ _ _ C1
 have lc:=lt_of_heap C1
 simp at c2
 clear hb1 C1
 go_wp2_with fail
 refine Calls.mono (HS.out _ B1.out) ?_
 rintro e w2 ⟨rfl,hb2⟩
 have B2:=hid' (B1.out.trans (hb2.mono B1.out.size))
 clear hb2 c2
 have e3:(er == er) = true:=by simp
 go_wp2_with (go_at_call 34;refine (num_any _ _).mono ?_;rintro e w5 ⟨rfl,rfl⟩)
 go_ret
 exact ⟨rfl,B2.out⟩
theorem does_answer (bc bx by' br:Nat) (hv:Value) (m er:Int) (o:Op) (p sv:ByteArray) (w:World) (hk:o.kind = 21)
  (hc:w.heap[bc]? = some (.cells #[.pointer (some ⟨bx,0,none⟩),.pointer (some ⟨by',0,none⟩),.pointer (some ⟨br,0,none⟩),hv,.int .i64 m] 60 (0,0)))
  (hN:∀ W,Below w.heap.size w W → Ans 57 bx p sv er W) (hS:∀ W,Below w.heap.size w W → Ans 58 br p sv er W) :
  Calls Tryz.prog 20 #[.pointer (some ⟨bc,0,none⟩),.agg #[.int .i64 o.kind,.int .i64 o.x,.int .i64 o.a,.int .i64 o.b,.int .i64 o.c,.int .i64 o.d,.string o.s],.string p] w fun e w' => e = .returned (.bool true) ∧ Below w.heap.size w w':=by
 obtain ⟨k,x,a,b,c,d,s⟩:=o
 simp only at *
 subst hk
 have B0:=hid' ((Below.refl w.heap.size w).alloc (Nat.le_refl _) (.cells #[.int .i64 21,.int .i64 x,.int .i64 a,.int .i64 b,.int .i64 c,.int .i64 d,.string s] 27))
 have C0:=(B0.out.block _ (lt_of_heap hc)).trans hc
 have SV:=hid' (answered_yes bc bx by' br bx hv m er p sv _ C0 (hN _ B0.out) (fun W h => hS W (B0.out.trans (h.mono B0.out.size))))
 have c0:=cell_of_row _ _ 0 _ _ _ hc
 have lc:=lt_of_heap hc
 simp at c0
 clear hc hN hS C0
 go_enter Tryz.func20,Tryz.ntmps20
 go_wp2_with fail
 refine SV.out.mono ?_
 rintro e w1 ⟨rfl,hb1⟩
 have B1:=hid' (B0.out.trans (hb1.mono B0.out.size))
 clear hb1 SV
 go_wp2
 go_ret
 exact ⟨rfl,B1.out⟩
theorem ref_is (s f:Int) (w:World) :
  Calls Tryz.prog 90 #[.agg #[.int .i64 s,.int .i64 f]] w fun e w' => e = .returned (.bool (isT s f)) ∧ Below w.heap.size w w':=by
 have B0:=hid' ((Below.refl w.heap.size w).alloc (Nat.le_refl _) (.cells #[.int .i64 s,.int .i64 f] 35))
 have no:¬ (0 ≤ s ∧ s ≤ 34000000000 ∧ 0 ≤ f ∧ f < 4294967296) → isT s f = false:=fun h => decide_eq_false h
 have HNO:=hid' no
 clear no
 by_cases h1:0 ≤ s
 ·by_cases h2:s ≤ 34000000000
  ·by_cases h3:0 ≤ f
   ·by_cases h4:f < 4294967296
    ·have H:Hid (isT s f = true):=decide_eq_true ⟨h1,h2,h3,h4⟩
     go_enter Tryz.func90,Tryz.ntmps90
     go_wp2
     go_ret
     exact ⟨ret_bool H.out.symm,B0.out⟩
    ·have H:=hid' (HNO.out (fun h => h4 h.2.2.2))
     go_enter Tryz.func90,Tryz.ntmps90
     go_wp2
     go_ret
     exact ⟨ret_bool H.out.symm,B0.out⟩
   ·have H:=hid' (HNO.out (fun h => h3 h.2.2.1))
    go_enter Tryz.func90,Tryz.ntmps90
    go_wp2
    go_ret
    exact ⟨ret_bool H.out.symm,B0.out⟩
  ·have H:=hid' (HNO.out (fun h => h2 h.2.1))
   go_enter Tryz.func90,Tryz.ntmps90
   go_wp2
   go_ret
   exact ⟨ret_bool H.out.symm,B0.out⟩
 ·have H:=hid' (HNO.out (fun h => h1 h.1))
  go_enter Tryz.func90,Tryz.ntmps90
  go_wp2
  go_ret
  exact ⟨ret_bool H.out.symm,B0.out⟩
theorem ref_later (s f z g:Int) (w:World) :
  Calls Tryz.prog 140 #[.agg #[.int .i64 s,.int .i64 f],.agg #[.int .i64 z,.int .i64 g]] w fun e w' => e = .returned (.bool (tLater s f z g)) ∧ Below w.heap.size w w':=by
 have B0:=hid' (((Below.refl w.heap.size w).alloc (Nat.le_refl _) (.cells #[.int .i64 s,.int .i64 f] 35)).alloc (by simp) (.cells #[.int .i64 z,.int .i64 g] 35))
 by_cases h1:z < s
 ·have H:Hid (tLater s f z g = true):=decide_eq_true (.inl h1)
  go_enter Tryz.func140,Tryz.ntmps140
  go_wp2
  go_ret
  exact ⟨ret_bool H.out.symm,B0.out⟩
 ·by_cases h2:s = z
  ·subst h2
   have e1:(s == s) = true:=by simp
   by_cases h3:g < f
   ·have H:Hid (tLater s f s g = true):=decide_eq_true (.inr ⟨rfl,h3⟩)
    go_enter Tryz.func140,Tryz.ntmps140
    go_wp2
    go_ret
    exact ⟨ret_bool H.out.symm,B0.out⟩
   ·have H:Hid (tLater s f s g = false):=decide_eq_false (by omega)
    go_enter Tryz.func140,Tryz.ntmps140
    go_wp2
    go_ret
    exact ⟨ret_bool H.out.symm,B0.out⟩
  ·have H:Hid (tLater s f z g = false):=decide_eq_false (by omega)
   have e1:(s == z) = false:=by rw [beq_eq_false_iff_ne];exact h2
   clear h2
   go_enter Tryz.func140,Tryz.ntmps140
   go_wp2
   go_ret
   exact ⟨ret_bool H.out.symm,B0.out⟩
theorem ref_sum (s f z g:Int) (w:World) (h1:-1000000000000 ≤ s) (h2:s ≤ 1000000000000) (h3:-1000000000000 ≤ z) (h4:z ≤ 1000000000000) (h5:0 ≤ f) (h6:f ≤ 1000000000000) (h7:0 ≤ g) (h8:g ≤ 1000000000000) :
  Calls Tryz.prog 101 #[.agg #[.int .i64 s,.int .i64 f],.agg #[.int .i64 z,.int .i64 g]] w fun e w' => e = .returned (.agg #[.int .i64 (tSum s f z g).1,.int .i64 (tSum s f z g).2]) ∧ Below w.heap.size w w':=by
 have B0:=hid' ((((Below.refl w.heap.size w).alloc (Nat.le_refl _) (.cells #[.int .i64 s,.int .i64 f] 35)).alloc (by simp) (.cells #[.int .i64 z,.int .i64 g] 35)).alloc (by simp;omega) (.cells #[.int .i64 (s + z + (f + g) / 4294967296),.int .i64 ((f + g) % 4294967296)] 35))
 have z0:0 ≤ f + g:=by omega
 go_enter Tryz.func101,Tryz.ntmps101
 go_wp2
 go_returns
 exact ⟨rfl,B0.out⟩
theorem ref_curve (i:Int) (w:World) (h0:0 ≤ i) (h1:i ≤ 1024) :
  Calls Tryz.prog 141 #[.int .i64 i] w fun e w' => e = .returned (.int .i64 (gZ i)) ∧ w' = w:=by
 have a0:0 ≤ 4 * i * i:=Int.mul_nonneg (by omega) h0
 have a1:4 * i * i ≤ 4 * i * 1024:=Int.mul_le_mul_of_nonneg_left h1 (by omega)
 have HG:Hid (gZ i = 4 * i * i * (3072 - 2 * i)):=rfl
 have gb:=gZ_bd h0 h1
 rw [HG.out] at gb
 obtain ⟨a,ha⟩:∃ a,4 * i * i = a:=⟨_,rfl⟩
 rw [ha] at a0 a1 HG gb
 obtain ⟨c,hc⟩:∃ c,a * (3072 - 2 * i) = c:=⟨_,rfl⟩
 rw [hc] at HG gb
 rw [HG.out]
 have a2:a ≤ 4194304:=by omega
 clear HG
 go_enter Tryz.func141,Tryz.ntmps141
 go_wp2
 go_ret
 exact ⟨rfl,rfl⟩
theorem ref_gap (s f z g:Int) (w:World) (h0:0 ≤ z - s) (h1:z - s ≤ 700000) (f0:0 ≤ f) (f1:f < 4294967296) (g0:0 ≤ g) (g1:g < 4294967296) :
  Calls Tryz.prog 95 #[.agg #[.int .i64 s,.int .i64 f],.agg #[.int .i64 z,.int .i64 g]] w fun e w' => e = .returned (.int .i64 ((z - s) * 4294967296 + g - f)) ∧ Below w.heap.size w w':=by
 have B0:=hid' (((Below.refl w.heap.size w).alloc (Nat.le_refl _) (.cells #[.int .i64 s,.int .i64 f] 35)).alloc (by simp) (.cells #[.int .i64 z,.int .i64 g] 35))
 go_enter Tryz.func95,Tryz.ntmps95
 go_wp2
 go_ret
 exact ⟨rfl,B0.out⟩
theorem ref_next (sec y m:Int) (w:World) (h0:0 ≤ sec) (hi:Cal.In y m (sec / 86400)) :
  Calls Tryz.prog 151 #[.int .i64 sec] w fun e w' => e = .returned (.int .i64 (nextOf y m)) ∧ w' = w:=by
 have hyr:=hi.year
 have hym:=Cal.yb_mono (y + 1) 3000 (by have:=hi.y2;omega)
 have h3:Cal.yb 3000 = 401767:=by decide
 have HCI:=hid' (fun W => ref_civil_yes (sec / 86400) W (by omega) (by omega))
 have hs1:sec < 34712668800:=by omega
 have HIN:=hid' hi
 clear hi hyr hym h3
 go_enter Tryz.func151,Tryz.ntmps151
 go_wp2_with fail
 refine (HCI.out _).mono ?_
 rintro e w1 ⟨⟨y',m',rfl,hin⟩,rfl⟩
 obtain ⟨rfl,rfl⟩:y' = y ∧ m' = m:=Cal.In.only hin HIN.out
 have i1:=hin.y1
 have i2:=hin.y2
 have i3:=hin.m1
 have i4:=hin.m2
 generalize sec / 86400 - Cal.yb y' - Cal.cum y' m' + 1 = dd at *
 clear hin HIN HCI
 by_cases c:m' = 12
 ·by_cases cy:y' = 2999
  ·have H:Hid (nextOf y' m' = -1):=by show _ = _;unfold nextOf;rw [if_pos c,if_pos cy]
   have DN:=hid' (fun W => ref_day_no (y' + 1) 1 1 W (by unfold NoDate;omega))
   have e12:(m' == 12) = true:=by rw [c];rfl
   clear c cy
   go_wp2_with fail
   refine (DN.out _).mono ?_
   rintro e w2 ⟨rfl,rfl⟩
   go_wp2
   go_ret
   exact ⟨ret_int H.out.symm,rfl⟩
  ·have H:Hid (nextOf y' m' = (Cal.yb (y' + 1) + Cal.cum (y' + 1) 1) * 86400):=by show _ = _;unfold nextOf;rw [if_pos c,if_neg cy]
   have db:=Cal.dim_bd (y' + 1) 1
   have DY:=hid' (fun W => ref_day_yes (y' + 1) 1 1 W (by omega) (by omega) (by omega) (by omega) (by omega) (by omega))
   have bb:=Cal.yb_bd (y' + 1) (by omega) (by omega)
   have cb:=Cal.cum_bd (y' + 1) 1 (by omega) (by omega)
   have e12:(m' == 12) = true:=by rw [c];rfl
   generalize Cal.yb (y' + 1) = Y at *
   generalize Cal.cum (y' + 1) 1 = C at *
   have HV:Hid ((Y + C) * 86400 = (Y + C + 1 - 1) * 86400):=by show _ = _;omega
   clear c cy
   go_wp2_with fail
   refine (DY.out _).mono ?_
   rintro e w2 ⟨rfl,rfl⟩
   generalize hn:Y + C + 1 - 1 = nn at *
   have nb:0 ≤ nn ∧ nn ≤ 1000000:=by omega
   clear hn DY
   go_wp2
   go_ret
   exact ⟨ret_int (by rw [H.out,HV.out]),rfl⟩
 ·have H:Hid (nextOf y' m' = (Cal.yb y' + Cal.cum y' (m' + 1)) * 86400):=by show _ = _;unfold nextOf;rw [if_neg c]
  have db:=Cal.dim_bd y' (m' + 1)
  have DY:=hid' (fun W => ref_day_yes y' (m' + 1) 1 W (by omega) (by omega) (by omega) (by omega) (by omega) (by omega))
  have bb:=Cal.yb_bd y' (by omega) (by omega)
  have cb:=Cal.cum_bd y' (m' + 1) (by omega) (by omega)
  have e12:(m' == 12) = false:=by rw [beq_eq_false_iff_ne];exact c
  generalize Cal.yb y' = Y at *
  generalize Cal.cum y' (m' + 1) = C at *
  have HV:Hid ((Y + C) * 86400 = (Y + C + 1 - 1) * 86400):=by show _ = _;omega
  clear c
  go_wp2_with fail
  refine (DY.out _).mono ?_
  rintro e w2 ⟨rfl,rfl⟩
  generalize hn:Y + C + 1 - 1 = nn at *
  have nb:0 ≤ nn ∧ nn ≤ 1000000:=by omega
  clear hn DY
  go_wp2
  go_ret
  exact ⟨ret_int (by rw [H.out,HV.out]),rfl⟩
def PullP (U D:Nat) (w:World) (e:Ending) (w':World):Prop:=∃ v1 v2,e = .returned (.tuple #[v1,v2]) ∧ Num w.heap.size v1 (digs U) w' ∧ Num w.heap.size v2 (digs D) w' ∧ Below w.heap.size w w'
theorem Num.up {B C:Nat} {v:Value} {l:List Int} {w:World} (h:Num B v l w) (hc:C ≤ B):Num C v l w:=by
 refine ⟨h.1,?_⟩
 rcases h.2 with h | ⟨g,cap,cur,e,a,b⟩
 ·exact .inl h
 ·exact .inr ⟨g,cap,cur,e,by omega,b⟩
theorem ref_pull (b:Nat) (x:Sv) (dv bv cv hv:Value) (n:Int) (w:World) (hr:RSrv b x dv bv cv hv w) (ok:PullOk x.win n) :
  Calls Tryz.prog 96 #[.pointer (some ⟨b,0,none⟩),.int .i64 n] w fun e w' => PullP (pullU x.mode x.win n).toNat (pullD x.mode x.win).toNat w e w':=by
 have HR:=hid' hr
 have q0:=cell_of_row _ _ 0 _ _ _ hr.row
 have q1:=cell_of_row _ _ 1 _ _ _ hr.row
 simp at q0 q1
 have hxX:=ok.x
 have hxI:=ok.i
 have hxR:=ok.r
 have hxIX:=ok.ix
 have ⟨wl0,wl1,n0,n1⟩:=ok
 have HU:=hid' (ok.u x.mode)
 have n2:n < 2597596220620800:=by omega
 have EU:Hid (pullU x.mode x.win n = if x.mode = 1 then n else gZ (pI x.win n) * pX x.win + (gZ (pI x.win n + 1) - gZ (pI x.win n)) * pR x.win n):=rfl
 have ED:Hid (pullD x.mode x.win = if x.mode = 1 then x.win else pX x.win):=rfl
 generalize pullU x.mode x.win n = U at *
 generalize pullD x.mode x.win = D at *
 generalize x.mode = mode at *
 clear hr ok
 by_cases c:mode = 1
 ·subst c
  obtain ⟨N,hN⟩:∃ N:Nat,n = N:=⟨n.toNat,by omega⟩
  obtain ⟨M,hM⟩:∃ M:Nat,x.win = M:=⟨x.win.toNat,by omega⟩
  rw [hM] at q1 wl0 wl1 hxX
  have E1:Hid (U.toNat = N):=by show _ = _;rw [EU.out,if_pos rfl,hN];rfl
  have E2:Hid (D.toNat = M):=by show _ = _;rw [ED.out,if_pos rfl,hM];rfl
  subst hN
  clear EU ED HU hxI hxR hxIX n1 hM
  go_enter Tryz.func96,Tryz.ntmps96
  go_wp2_with fail
  refine (ref_nat N (by omega) w).mono ?_
  rintro e w1 ⟨v1,rfl,m1,b1⟩
  have M1:=hid' m1
  have B1:=hid' b1
  have p1:=(b1.cell (p:=⟨b,1,none⟩) (lt_of_heap HR.out.row)).trans q1
  clear q0 q1 m1 b1
  go_wp2_with fail
  refine (ref_nat M (by omega) w1).mono ?_
  rintro e w2 ⟨v2,rfl,m2,b2⟩
  have M2:=hid' m2
  have B2:=hid' b2
  clear m2 b2
  go_wp2
  go_ret2
  refine ⟨v1,v2,rfl,?_,?_,B1.out.trans (B2.out.mono B1.out.size)⟩
  ·rw [E1.out];exact M1.out.below B2.out
  ·rw [E2.out];exact M2.out.up B1.out.size
 ·have ne:(mode == 1) = false:=beq_eq_false_iff_ne.2 c
  rw [if_neg c] at EU ED
  have hXe:x.win * 4294967296 = pX x.win:=rfl
  have hIe:1024 * n / pX x.win = pI x.win n:=rfl
  have hRe:1024 * n - pI x.win n * pX x.win = pR x.win n:=rfl
  have gi:=gZ_bd (i:=pI x.win n) hxI.1 (by omega)
  have gj:=gZ_bd (i:=pI x.win n + 1) (by omega) (by omega)
  have gl:=gZ_le_succ hxI.1 hxI.2
  have CI:=hid' (fun W => ref_curve (pI x.win n) W hxI.1 (by omega))
  have CJ:=hid' (fun W => ref_curve (pI x.win n + 1) W (by omega) (by omega))
  obtain ⟨iw,hiw⟩:∃ iw,pI x.win n * x.win = iw:=⟨_,rfl⟩
  have hiw2:iw * 4294967296 = pI x.win n * pX x.win:=by rw [← hiw,← hXe];grind
  obtain ⟨X,hX⟩:∃ X:Nat,pX x.win = X:=⟨(pX x.win).toNat,by omega⟩
  obtain ⟨H,hH⟩:∃ H:Nat,gZ (pI x.win n) = H:=⟨(gZ (pI x.win n)).toNat,by omega⟩
  obtain ⟨J,hJ⟩:∃ J:Nat,gZ (pI x.win n + 1) = J:=⟨(gZ (pI x.win n + 1)).toNat,by omega⟩
  obtain ⟨R,hRR⟩:∃ R:Nat,pR x.win n = R:=⟨(pR x.win n).toNat,by omega⟩
  rw [hH] at gi gl CI EU
  rw [hJ] at gj gl CJ EU
  rw [hRR] at hxR hRe EU
  rw [hX] at hxX hXe hIe hRe hxR hiw2 hxIX EU ED
  generalize pI x.win n = i at *
  obtain ⟨iX,hiX⟩:∃ iX,i * (X:Int) = iX:=⟨_,rfl⟩
  rw [hiX] at hRe hiw2 hxIX
  have hRe2:1024 * n - iw * 4294967296 = (R:Int):=by omega
  obtain ⟨K,hK⟩:∃ K:Nat,(J:Int) - (H:Int) = K:=⟨J - H,by omega⟩
  have hw2:=hid' wl0
  have E1:Hid (U.toNat = H * X + K * R):=by
   show _ = _
   rw [EU.out,hK,← Int.natCast_mul,← Int.natCast_mul,← Int.natCast_add];rfl
  have E2:Hid (D.toNat = X):=by show _ = _;rw [ED.out];rfl
  generalize x.win = W at *
  have k1:K ≤ 4294967296:=by omega
  have x1:(X:Int) ≤ 2597596220620800:=hxX.2
  have iw0:0 ≤ iw ∧ iw ≤ 1000000000:=by omega
  have z0:¬ (X:Int) = 0:=by omega
  have z1:((X:Int) == 0) = false:=beq_eq_false_iff_ne.2 z0
  have z2:0 ≤ 1024 * n:=by omega
  clear EU ED HU hiX hRe hiw2 hxIX hX c
  have lX:(digs X).length ≤ 4:=digs_length (by omega)
  have lH:(digs H).length ≤ 3:=digs_length (by omega)
  have lK:(digs K).length ≤ 3:=digs_length (by omega)
  have lR:(digs R).length ≤ 4:=digs_length (by omega)
  have lHX:(digs (H * X)).length ≤ 7:=digs_length (k:=3 + 4) (by
   have h1:H < 10000 ^ 3:=by omega
   have h2:X < 10000 ^ 4:=by omega
   rw [Nat.pow_add];exact Nat.mul_lt_mul'' h1 h2)
  have lKR:(digs (K * R)).length ≤ 7:=digs_length (k:=3 + 4) (by
   have h1:K < 10000 ^ 3:=by omega
   have h2:R < 10000 ^ 4:=by omega
   rw [Nat.pow_add];exact Nat.mul_lt_mul'' h1 h2)
  have lS:(digs (H * X + K * R)).length ≤ 8:=digs_length (by
   have h1:H * X < 10000 ^ 3 * 10000 ^ 4:=Nat.mul_lt_mul'' (by omega) (by omega)
   have h2:K * R < 10000 ^ 3 * 10000 ^ 4:=Nat.mul_lt_mul'' (by omega) (by omega)
   omega)
  have LL:=hid' (And.intro lX (And.intro lH (And.intro lK (And.intro lR (And.intro lHX (And.intro lKR lS))))))
  clear lX lH lK lR lHX lKR lS
  go_enter Tryz.func96,Tryz.ntmps96
  go_wp2_with fail
  refine (ref_nat X (by omega) w).mono ?_
  rintro e w1 ⟨v1,rfl,m1,b1⟩
  have M1:=hid' m1
  have B1:=hid' b1
  have p1:=(b1.cell (p:=⟨b,1,none⟩) (lt_of_heap HR.out.row)).trans q1
  clear q0 q1 m1 b1
  go_wp2_with fail
  refine (CI.out _).mono ?_
  rintro e _ ⟨rfl,rfl⟩
  go_wp2_with fail
  refine (CJ.out _).mono ?_
  rintro e _ ⟨rfl,rfl⟩
  go_wp2_with fail
  refine (ref_nat H (by omega) _).mono ?_
  rintro e w2 ⟨v2,rfl,m2,b2⟩
  have M2:=hid' m2
  have B2:=hid' (B1.out.trans (b2.mono B1.out.size))
  have b2':=hid' b2
  clear m2 b2
  go_wp2_with fail
  refine (ref_nat K (by omega) w2).mono ?_
  rintro e w3 ⟨v3,rfl,m3,b3⟩
  have M3:=hid' m3
  have B3:=hid' (B2.out.trans (b3.mono B2.out.size))
  have b3':=hid' b3
  clear m3 b3
  go_wp2_with fail
  refine (ref_nat R (by omega) w3).mono ?_
  rintro e w4 ⟨v4,rfl,m4,b4⟩
  have M4:=hid' m4
  have B4:=hid' (B3.out.trans (b4.mono B3.out.size))
  have b4':=hid' b4
  clear m4 b4
  go_wp2_with fail
  refine (ref_times _ _ H X v2 v1 w4 ((M2.out.below b3'.out).below b4'.out) (((M1.out.below b2'.out).below b3'.out).below b4'.out) (by have:=LL.out;omega) (by have:=LL.out;omega)).mono ?_
  rintro e w5 ⟨v5,rfl,m5,b5⟩
  have M5:=hid' m5
  have B5:=hid' (B4.out.trans (b5.mono B4.out.size))
  have b5':=hid' b5
  clear m5 b5
  go_wp2_with fail
  refine (ref_times _ _ K R v3 v4 w5 ((M3.out.below b4'.out).below b5'.out) (M4.out.below b5'.out) (by have:=LL.out;omega) (by have:=LL.out;omega)).mono ?_
  rintro e w6 ⟨v6,rfl,m6,b6⟩
  have M6:=hid' m6
  have B6:=hid' (B5.out.trans (b6.mono B5.out.size))
  have b6':=hid' b6
  clear m6 b6
  go_wp2_with fail
  refine (ref_plus _ _ (H * X) (K * R) v5 v6 w6 (M5.out.below b6'.out) M6.out (by have:=LL.out;omega) (by have:=LL.out;omega) (by have:=LL.out;omega)).mono ?_
  rintro e w7 ⟨v7,rfl,m7,b7⟩
  have M7:=hid' m7
  have B7:=hid' (B6.out.trans (b7.mono B6.out.size))
  have b7':=hid' b7
  clear m7 b7
  go_wp2
  go_ret2
  refine ⟨v7,v1,rfl,?_,?_,B7.out⟩
  ·rw [E1.out];exact M7.out.up B6.out.size
  ·rw [E2.out];exact (((((M1.out.below b2'.out).below b3'.out).below b4'.out).below b5'.out).below b6'.out).below b7'.out
theorem ref_stamp (s f:Int) (w:World) (s0:0 ≤ s) (s1:s ≤ 1000000000000) (f0:0 ≤ f) (f1:f ≤ 1000000000000) :
  Calls Tryz.prog 104 #[.agg #[.int .i64 s,.int .i64 f]] w fun e w' => e = .returned (.string ⟨(four s ++ four f).toArray⟩) ∧ Below w.heap.size w w':=by
 obtain ⟨i0,hi0,hz0,hz1,hz2⟩:=info_parts infoByte
 have R0:=hid' (heap_alloc_new w (.cells #[.int .i64 s,.int .i64 f] 35))
 have B0:=hid' ((Below.refl w.heap.size w).alloc (Nat.le_refl _) (.cells #[.int .i64 s,.int .i64 f] 35))
 have p24:=low8 (s / 16777216) (by omega) (by omega)
 have p16:=low8 (s / 65536) (by omega) (by omega)
 have p8:=low8 (s / 256) (by omega) (by omega)
 have p0:=low8 s (by omega) (by omega)
 have q24:=low8 (f / 16777216) (by omega) (by omega)
 have q16:=low8 (f / 65536) (by omega) (by omega)
 have q8:=low8 (f / 256) (by omega) (by omega)
 have q0:=low8 f (by omega) (by omega)
 go_enter Tryz.func104,Tryz.ntmps104
 go_wp2
 go_loopw [3,4] (fun v sv wr => ∃ (k:Nat) (sh:Int),sv = .int .i64 sh ∧ ((k = 0 ∧ sh = 24) ∨ (k = 1 ∧ sh = 16) ∨ (k = 2 ∧ sh = 8) ∨ (k = 3 ∧ sh = 0) ∨ (k = 4 ∧ sh = -8)) ∧ wr.ownsRow w.heap.size 5 1 v k (cells8 ((four s).take k)) ∧ wr.heap[w.heap.size]? = some (.cells #[.int .i64 s,.int .i64 f] 35 (0,0)) ∧ Below w.heap.size w wr) (fun _ sv _ => (intOf sv + 8).toNat)
 case atStart => exact ⟨0,24,rfl,by omega,World.ownsRow_nil _ _ _ _,R0.out,B0.out⟩
 case round =>
  obtain ⟨k,sh,rfl,hks,own,row,hb⟩:=hrel
  have ROW:=hid' row
  have HB:=hid' hb
  have c0:=cell_of_row _ _ 0 _ _ _ row
  simp at c0
  have hsz:=hb.size
  have hlt:=lt_of_heap row
  obtain ⟨va,vcp,hv⟩:=own_slice own
  subst hv
  have OWN:=hid' own
  rcases hks with ⟨rfl,rfl⟩ | ⟨rfl,rfl⟩ | ⟨rfl,rfl⟩ | ⟨rfl,rfl⟩ | ⟨rfl,rfl⟩
  ·have HQ:=hid' (byteOf_val (s / 16777216))
   have qb:0 ≤ (s / 16777216) % 256 ∧ (s / 16777216) % 256 < 256:=by omega
   have lw:=p24
   obtain ⟨q,hq⟩:∃ q,(s / 16777216) % 256 = q:=⟨_,rfl⟩
   rw [hq] at HQ qb lw
   clear own row hb hq p24 p16 p8 p0 q24 q16 q8 q0
   go_wp2_with (at_builtin;refine wpList_append_own _ (by rfl) (.tmp 10) (.tmp 17) 44 (by rfl) w.heap.size 5 i0 (.int .u8 0) 1 1 Tryz.underlying44 hi0 hz0 hz1 hz2 rfl (by decide) (.slice va 0 vcp) 0 _ (by rfl) (OWN.out.alloc _) ⟨wr.heap.size,0,none⟩ 1 1 [.int .u8 q] (by rfl) (by rfl) (World.news_of_block (cs:=#[.int .u8 q]) (t:=5) (fr:=(0,0)) (heap_alloc_new wr _)) (by simp [Value.oneCell']) (by unfold maxLen;omega) (by omega) (by simp <;> omega) ?_;intro v3 w3 own3 hg3 hn3;have OWN3:=hid' own3;have HG3:=hid' hg3;clear own3 hg3 hn3)
   go_roundw
   case rel =>
    refine ⟨1,16,rfl,by omega,?_,?_,(HB.out.alloc hsz _).grown HG3.out (by simp;omega) (own_ge OWN.out)⟩
    ·have o:=OWN3.out
     rw [← HQ.out] at o
     exact o
    ·exact grown_heap HG3.out (OWN.out.alloc _) ((Keep.refl _ wr).alloc _ _ _ _ ROW.out) (by decide)
   case measure => simp [intOf]
  ·have HQ:=hid' (byteOf_val (s / 65536))
   have qb:0 ≤ (s / 65536) % 256 ∧ (s / 65536) % 256 < 256:=by omega
   have lw:=p16
   obtain ⟨q,hq⟩:∃ q,(s / 65536) % 256 = q:=⟨_,rfl⟩
   rw [hq] at HQ qb lw
   clear own row hb hq p24 p16 p8 p0 q24 q16 q8 q0
   go_wp2_with (at_builtin;refine wpList_append_own _ (by rfl) (.tmp 10) (.tmp 17) 44 (by rfl) w.heap.size 5 i0 (.int .u8 0) 1 1 Tryz.underlying44 hi0 hz0 hz1 hz2 rfl (by decide) (.slice va 1 vcp) 1 _ (by rfl) (OWN.out.alloc _) ⟨wr.heap.size,0,none⟩ 1 1 [.int .u8 q] (by rfl) (by rfl) (World.news_of_block (cs:=#[.int .u8 q]) (t:=5) (fr:=(0,0)) (heap_alloc_new wr _)) (by simp [Value.oneCell']) (by unfold maxLen;omega) (by omega) (by simp <;> omega) ?_;intro v3 w3 own3 hg3 hn3;have OWN3:=hid' own3;have HG3:=hid' hg3;clear own3 hg3 hn3)
   go_roundw
   case rel =>
    refine ⟨2,8,rfl,by omega,?_,?_,(HB.out.alloc hsz _).grown HG3.out (by simp;omega) (own_ge OWN.out)⟩
    ·have o:=OWN3.out
     rw [← HQ.out] at o
     exact o
    ·exact grown_heap HG3.out (OWN.out.alloc _) ((Keep.refl _ wr).alloc _ _ _ _ ROW.out) (by decide)
   case measure => simp [intOf]
  ·have HQ:=hid' (byteOf_val (s / 256))
   have qb:0 ≤ (s / 256) % 256 ∧ (s / 256) % 256 < 256:=by omega
   have lw:=p8
   obtain ⟨q,hq⟩:∃ q,(s / 256) % 256 = q:=⟨_,rfl⟩
   rw [hq] at HQ qb lw
   clear own row hb hq p24 p16 p8 p0 q24 q16 q8 q0
   go_wp2_with (at_builtin;refine wpList_append_own _ (by rfl) (.tmp 10) (.tmp 17) 44 (by rfl) w.heap.size 5 i0 (.int .u8 0) 1 1 Tryz.underlying44 hi0 hz0 hz1 hz2 rfl (by decide) (.slice va 2 vcp) 2 _ (by rfl) (OWN.out.alloc _) ⟨wr.heap.size,0,none⟩ 1 1 [.int .u8 q] (by rfl) (by rfl) (World.news_of_block (cs:=#[.int .u8 q]) (t:=5) (fr:=(0,0)) (heap_alloc_new wr _)) (by simp [Value.oneCell']) (by unfold maxLen;omega) (by omega) (by simp <;> omega) ?_;intro v3 w3 own3 hg3 hn3;have OWN3:=hid' own3;have HG3:=hid' hg3;clear own3 hg3 hn3)
   go_roundw
   case rel =>
    refine ⟨3,0,rfl,by omega,?_,?_,(HB.out.alloc hsz _).grown HG3.out (by simp;omega) (own_ge OWN.out)⟩
    ·have o:=OWN3.out
     rw [← HQ.out] at o
     exact o
    ·exact grown_heap HG3.out (OWN.out.alloc _) ((Keep.refl _ wr).alloc _ _ _ _ ROW.out) (by decide)
   case measure => simp [intOf]
  ·have HQ:=hid' (byteOf_val s)
   have qb:0 ≤ s % 256 ∧ s % 256 < 256:=by omega
   have lw:=p0
   obtain ⟨q,hq⟩:∃ q,s % 256 = q:=⟨_,rfl⟩
   rw [hq] at HQ qb lw
   clear own row hb hq p24 p16 p8 p0 q24 q16 q8 q0
   go_wp2_with (at_builtin;refine wpList_append_own _ (by rfl) (.tmp 10) (.tmp 17) 44 (by rfl) w.heap.size 5 i0 (.int .u8 0) 1 1 Tryz.underlying44 hi0 hz0 hz1 hz2 rfl (by decide) (.slice va 3 vcp) 3 _ (by rfl) (OWN.out.alloc _) ⟨wr.heap.size,0,none⟩ 1 1 [.int .u8 q] (by rfl) (by rfl) (World.news_of_block (cs:=#[.int .u8 q]) (t:=5) (fr:=(0,0)) (heap_alloc_new wr _)) (by simp [Value.oneCell']) (by unfold maxLen;omega) (by omega) (by simp <;> omega) ?_;intro v3 w3 own3 hg3 hn3;have OWN3:=hid' own3;have HG3:=hid' hg3;clear own3 hg3 hn3)
   go_roundw
   case rel =>
    refine ⟨4,-8,rfl,by omega,?_,?_,(HB.out.alloc hsz _).grown HG3.out (by simp;omega) (own_ge OWN.out)⟩
    ·have o:=OWN3.out
     rw [← HQ.out] at o
     exact o
    ·exact grown_heap HG3.out (OWN.out.alloc _) ((Keep.refl _ wr).alloc _ _ _ _ ROW.out) (by decide)
   case measure => simp [intOf]
  ·clear own row hb c0
   go_wp2
   go_loopw [3,5] (fun v sv wr => ∃ (k:Nat) (sh:Int),sv = .int .i64 sh ∧ ((k = 0 ∧ sh = 24) ∨ (k = 1 ∧ sh = 16) ∨ (k = 2 ∧ sh = 8) ∨ (k = 3 ∧ sh = 0) ∨ (k = 4 ∧ sh = -8)) ∧ wr.ownsRow w.heap.size 5 1 v (4 + k) (cells8 (four s ++ (four f).take k)) ∧ wr.heap[w.heap.size]? = some (.cells #[.int .i64 s,.int .i64 f] 35 (0,0)) ∧ Below w.heap.size w wr) (fun _ sv _ => (intOf sv + 8).toNat)
   case atStart => exact ⟨0,24,rfl,by omega,OWN.out,ROW.out,HB.out⟩
   case round =>
    clear OWN ROW HB hsz hlt
    rename World => wr2
    obtain ⟨k,sh,rfl,hks,own,row,hb⟩:=hrel
    have ROW:=hid' row
    have HB:=hid' hb
    have c0:=cell_of_row _ _ 1 _ _ _ row
    simp at c0
    have hsz:=hb.size
    have hlt:=lt_of_heap row
    obtain ⟨va,vcp,hv⟩:=own_slice own
    subst hv
    have OWN:=hid' own
    rcases hks with ⟨rfl,rfl⟩ | ⟨rfl,rfl⟩ | ⟨rfl,rfl⟩ | ⟨rfl,rfl⟩ | ⟨rfl,rfl⟩
    ·have HQ:=hid' (byteOf_val (f / 16777216))
     have qb:0 ≤ (f / 16777216) % 256 ∧ (f / 16777216) % 256 < 256:=by omega
     have lw:=q24
     obtain ⟨q,hq⟩:∃ q,(f / 16777216) % 256 = q:=⟨_,rfl⟩
     rw [hq] at HQ qb lw
     clear own row hb hq p24 p16 p8 p0 q24 q16 q8 q0
     go_wp2_with (at_builtin;refine wpList_append_own _ (by rfl) (.tmp 23) (.tmp 30) 44 (by rfl) w.heap.size 5 i0 (.int .u8 0) 1 1 Tryz.underlying44 hi0 hz0 hz1 hz2 rfl (by decide) (.slice va 4 vcp) 4 _ (by rfl) (OWN.out.alloc _) ⟨wr2.heap.size,0,none⟩ 1 1 [.int .u8 q] (by rfl) (by rfl) (World.news_of_block (cs:=#[.int .u8 q]) (t:=5) (fr:=(0,0)) (heap_alloc_new wr2 _)) (by simp [Value.oneCell']) (by unfold maxLen;omega) (by omega) (by simp <;> omega) ?_;intro v3 w3 own3 hg3 hn3;have OWN3:=hid' own3;have HG3:=hid' hg3;clear own3 hg3 hn3)
     go_roundw
     case rel =>
      refine ⟨1,16,rfl,by omega,?_,?_,(HB.out.alloc hsz _).grown HG3.out (by simp;omega) (own_ge OWN.out)⟩
      ·have o:=OWN3.out
       rw [← HQ.out] at o
       exact o
      ·exact grown_heap HG3.out (OWN.out.alloc _) ((Keep.refl _ wr2).alloc _ _ _ _ ROW.out) (by decide)
     case measure => simp [intOf]
    ·have HQ:=hid' (byteOf_val (f / 65536))
     have qb:0 ≤ (f / 65536) % 256 ∧ (f / 65536) % 256 < 256:=by omega
     have lw:=q16
     obtain ⟨q,hq⟩:∃ q,(f / 65536) % 256 = q:=⟨_,rfl⟩
     rw [hq] at HQ qb lw
     clear own row hb hq p24 p16 p8 p0 q24 q16 q8 q0
     go_wp2_with (at_builtin;refine wpList_append_own _ (by rfl) (.tmp 23) (.tmp 30) 44 (by rfl) w.heap.size 5 i0 (.int .u8 0) 1 1 Tryz.underlying44 hi0 hz0 hz1 hz2 rfl (by decide) (.slice va 5 vcp) 5 _ (by rfl) (OWN.out.alloc _) ⟨wr2.heap.size,0,none⟩ 1 1 [.int .u8 q] (by rfl) (by rfl) (World.news_of_block (cs:=#[.int .u8 q]) (t:=5) (fr:=(0,0)) (heap_alloc_new wr2 _)) (by simp [Value.oneCell']) (by unfold maxLen;omega) (by omega) (by simp <;> omega) ?_;intro v3 w3 own3 hg3 hn3;have OWN3:=hid' own3;have HG3:=hid' hg3;clear own3 hg3 hn3)
     go_roundw
     case rel =>
      refine ⟨2,8,rfl,by omega,?_,?_,(HB.out.alloc hsz _).grown HG3.out (by simp;omega) (own_ge OWN.out)⟩
      ·have o:=OWN3.out
       rw [← HQ.out] at o
       exact o
      ·exact grown_heap HG3.out (OWN.out.alloc _) ((Keep.refl _ wr2).alloc _ _ _ _ ROW.out) (by decide)
     case measure => simp [intOf]
    ·have HQ:=hid' (byteOf_val (f / 256))
     have qb:0 ≤ (f / 256) % 256 ∧ (f / 256) % 256 < 256:=by omega
     have lw:=q8
     obtain ⟨q,hq⟩:∃ q,(f / 256) % 256 = q:=⟨_,rfl⟩
     rw [hq] at HQ qb lw
     clear own row hb hq p24 p16 p8 p0 q24 q16 q8 q0
     go_wp2_with (at_builtin;refine wpList_append_own _ (by rfl) (.tmp 23) (.tmp 30) 44 (by rfl) w.heap.size 5 i0 (.int .u8 0) 1 1 Tryz.underlying44 hi0 hz0 hz1 hz2 rfl (by decide) (.slice va 6 vcp) 6 _ (by rfl) (OWN.out.alloc _) ⟨wr2.heap.size,0,none⟩ 1 1 [.int .u8 q] (by rfl) (by rfl) (World.news_of_block (cs:=#[.int .u8 q]) (t:=5) (fr:=(0,0)) (heap_alloc_new wr2 _)) (by simp [Value.oneCell']) (by unfold maxLen;omega) (by omega) (by simp <;> omega) ?_;intro v3 w3 own3 hg3 hn3;have OWN3:=hid' own3;have HG3:=hid' hg3;clear own3 hg3 hn3)
     go_roundw
     case rel =>
      refine ⟨3,0,rfl,by omega,?_,?_,(HB.out.alloc hsz _).grown HG3.out (by simp;omega) (own_ge OWN.out)⟩
      ·have o:=OWN3.out
       rw [← HQ.out] at o
       exact o
      ·exact grown_heap HG3.out (OWN.out.alloc _) ((Keep.refl _ wr2).alloc _ _ _ _ ROW.out) (by decide)
     case measure => simp [intOf]
    ·have HQ:=hid' (byteOf_val f)
     have qb:0 ≤ f % 256 ∧ f % 256 < 256:=by omega
     have lw:=q0
     obtain ⟨q,hq⟩:∃ q,f % 256 = q:=⟨_,rfl⟩
     rw [hq] at HQ qb lw
     clear own row hb hq p24 p16 p8 p0 q24 q16 q8 q0
     go_wp2_with (at_builtin;refine wpList_append_own _ (by rfl) (.tmp 23) (.tmp 30) 44 (by rfl) w.heap.size 5 i0 (.int .u8 0) 1 1 Tryz.underlying44 hi0 hz0 hz1 hz2 rfl (by decide) (.slice va 7 vcp) 7 _ (by rfl) (OWN.out.alloc _) ⟨wr2.heap.size,0,none⟩ 1 1 [.int .u8 q] (by rfl) (by rfl) (World.news_of_block (cs:=#[.int .u8 q]) (t:=5) (fr:=(0,0)) (heap_alloc_new wr2 _)) (by simp [Value.oneCell']) (by unfold maxLen;omega) (by omega) (by simp <;> omega) ?_;intro v3 w3 own3 hg3 hn3;have OWN3:=hid' own3;have HG3:=hid' hg3;clear own3 hg3 hn3)
     go_roundw
     case rel =>
      refine ⟨4,-8,rfl,by omega,?_,?_,(HB.out.alloc hsz _).grown HG3.out (by simp;omega) (own_ge OWN.out)⟩
      ·have o:=OWN3.out
       rw [← HQ.out] at o
       exact o
      ·exact grown_heap HG3.out (OWN.out.alloc _) ((Keep.refl _ wr2).alloc _ _ _ _ ROW.out) (by decide)
     case measure => simp [intOf]
    ·obtain ⟨g8,cap8,hg8⟩:=own_some own (by omega)
     obtain ⟨rfl,_,rfl⟩:=Value.slice.inj hg8
     have cv:=conv_back own rfl
     clear own row hb c0 hg8
     go_wp2
     go_ret
     exact ⟨rfl,HB.out⟩
end Go.Proofs.YtmmkhodaljpjgaaGreatDoor
