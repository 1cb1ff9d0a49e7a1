import Derived.Test.YtmmkhodaljpjgaaGreatDoorV04
import Derived.Deep.Slices
import Derived.SizedLaws
import Derived.ProofKit
import Derived.OpenShut
namespace Go.Proofs.YtmmkhodaljpjgaaGreatDoor
open Go.RowKit
def flatOps:List Op → List Value
 | [] => []
 | o :: r => .int .i64 o.kind :: .int .i64 o.x :: .int .i64 o.a :: .int .i64 o.b :: .int .i64 o.c :: .int .i64 o.d :: .string o.s :: flatOps r
theorem flatOps_append (l r:List Op):flatOps (l ++ r) = flatOps l ++ flatOps r:=by
 induction l with
 | nil => rfl
 | cons p q ih => simp [flatOps,ih]
theorem flatOps_at (l:List Op) (k:Nat) (h:k < l.length) (j:Nat) (hj:j < 7):(flatOps l)[k * 7 + j]? = (Op.cells l[k])[j]?:=by
 induction l generalizing k with
 | nil => simp at h
 | cons p r ih =>
  cases k with
  | zero =>
   simp only [flatOps,Nat.zero_mul,Nat.zero_add,List.getElem_cons_zero]
   match j,hj with
   | 0,_ => rfl
   | 1,_ => rfl
   | 2,_ => rfl
   | 3,_ => rfl
   | 4,_ => rfl
   | 5,_ => rfl
   | 6,_ => rfl
  | succ k =>
   have h':k < r.length:=by simpa using h
   have e:(k + 1) * 7 + j = (k * 7 + j) + 7:=by omega
   rw [e]
   simp only [flatOps,List.getElem_cons_succ]
   exact ih k h'
set_option maxRecDepth 100000 in
set_option maxHeartbeats 1000000 in
theorem upTo_any {X:Xs} (hX:∀ w,X.P 0 (fun _ => False) (.slice none 0 0) w) (v:Value) (ops:List Op) (B0:Nat) (w:World) (hv:w.ownsRow B0 27 7 v ops.length (flatOps ops)) (hn:ops.length ≤ 16384) (hok:∀ o ∈ ops,o.Ok)
  (hdo:∀ o ∈ ops,o.kind < 1 ∨ 6 < o.kind → ∀ n wr,n ≤ 90000 → Below w.heap.size w wr → Does X w.heap.size w.heap.size n o wr) :
  Calls Tryz.prog 14 #[v] w fun e w' => e = .returned (.int .i64 (-1)) ∧ Below w.heap.size w w':=by
 obtain ⟨ao,cap,hvv⟩:∃ ao cap,v = .slice ao ops.length cap:=by
  rcases hv.2 with ⟨rfl,h0⟩ | ⟨g,cap,cur,rfl,_⟩
  ·exact ⟨none,0,by rw [h0]⟩
  ·exact ⟨_,_,rfl⟩
 have HV:=hid' hv
 have HOK:=hid' hok
 have HDO:=hid' hdo
 clear hv hok hdo
 subst hvv
 go_enter Tryz.func14,Tryz.ntmps14
 go_wp2
 have INV0:Inv X w.heap.size w.heap.size 0 (w.alloc (.cells #[.slice none 0 0,.int .i64 0,.int .i64 0,.slice none 0 0,.int .i64 0,.int .i64 0,.slice none 0 0] 38)) :=
  ⟨Nat.le_refl _,.slice none 0 0,.slice none 0 0,.slice none 0 0,fun _ => False,[],[],0,0,0,0,heap_alloc_new _ _,World.ownsRow_nil _ _ _ _,World.ownsRow_nil _ _ _ _,by simp,by simp,⟨fun t h => (by cases h),fun p h => (by cases h),by decide,by decide,by decide,by decide⟩,⟨hX _,fun _ h => h.elim⟩⟩
 have HI0:=hid' INV0
 clear INV0 hX
 go_loopw [4,5] (fun i _ wr => ∃ k:Nat,k ≤ ops.length ∧ i = .int .i64 k ∧ Inv X w.heap.size w.heap.size k wr ∧ Below w.heap.size w wr) (fun i _ _ => ops.length - (intOf i).toNat)
 case atStart => exact ⟨0,by omega,rfl,HI0.out,(Below.refl _ _).alloc (Nat.le_refl _) _⟩
 case round =>
  obtain ⟨k,hk,rfl,hinv,hbel⟩:=hrel
  by_cases hlt:k < ops.length
  ·obtain ⟨g,cap',hform,_,hgl⟩:=HV.out.form (by omega)
   have hao:ao = some ⟨g,0,none⟩:=by simpa using (Value.slice.inj hform).1
   subst hao
   have hcap:cap = cap':=(Value.slice.inj hform).2.2
   subst hcap
   have hcell:∀ j,j < 7 → wr.cell? ⟨g,k * 7 + j,none⟩ = (Op.cells ops[k])[j]?:=by
    intro j hj
    rw [hbel.cell (p:=⟨g,k * 7 + j,none⟩) hgl,HV.out.cellAt (k * 7 + j) (by omega)]
    exact flatOps_at ops k hlt j hj
   have HINV:=hid' hinv
   have HBEL:=hid' hbel
   have hmem:=List.getElem_mem hlt
   have hdoes:Does X w.heap.size w.heap.size k ops[k] wr:=by
    by_cases hq:1 ≤ ops[k].kind ∧ ops[k].kind ≤ 6
    ·exact does_own (HOK.out _ hmem) (by omega) hq
    ·exact HDO.out _ hmem (by omega) k wr (by omega) hbel
   have HST:=hid' (hdoes wr hinv hbel.size (Below.refl _ _))
   clear hdoes
   clear hinv hbel hform hmem
   generalize ops[k] = o at *
   obtain ⟨ok,ox,oa,ob,oc,od,os⟩:=o
   have p0:=hcell 0 (by omega)
   have p1:=hcell 1 (by omega)
   have p2:=hcell 2 (by omega)
   have p3:=hcell 3 (by omega)
   have p4:=hcell 4 (by omega)
   have p5:=hcell 5 (by omega)
   have p6:=hcell 6 (by omega)
   simp [Op.cells] at p0 p1 p2 p3 p4 p5 p6
   clear hcell
   simp only at HST
   go_wp2_with fail
   refine HST.out.mono ?_
   rintro e w2 ⟨rfl,hleft⟩
   have HLF:=hid' hleft
   clear hleft HST p0 p1 p2 p3 p4 p5 p6
   go_wp2
   go_roundw
   case rel => exact ⟨k + 1,by omega,by go_num,HLF.out.1,HBEL.out.trans HLF.out.2⟩
   case measure => simp [intOf];omega
  ·have HBEL:=hid' hbel
   clear hbel hinv
   go_wp2
   go_ret
   exact ⟨rfl,HBEL.out⟩
structure Script (w:World) (ao:Option Addr) (ops:List Op):Prop where
 short:∀ o ∈ ops,o.s.size ≤ 140737488351232
 some:0 < ops.length → ∃ b off,ao = .some ⟨b,off,none⟩ ∧ b < w.heap.size ∧ ∀ k (h:k < ops.length) j,j < 7 → w.cell? ⟨b,off + k * 7 + j,none⟩ = (Op.cells ops[k])[j]?
def SmallSaid (ops:List Op) (e:Ending):Prop:=∃ r:Bool,e = .returned (.bool r) ∧ (r = true → ops.length ≤ 16384 ∧ ∀ o ∈ ops,o.s.size ≤ 16384)
set_option maxRecDepth 100000 in
theorem small_any (ao:Option Addr) (cap:Nat) (ops:List Op) (w:World) (hS:Script w ao ops) (hlen:ops.length ≤ 140737488351232) :
  Calls Tryz.prog 13 #[.slice ao ops.length cap] w fun e w' => SmallSaid ops e ∧ w' = w:=by
 by_cases hbig:16384 < ops.length
 ·have hbi:(16384:Int) < (ops.length:Int):=by omega
  go_enter Tryz.func13,Tryz.ntmps13
  go_wp2
  go_ret
  exact ⟨⟨false,rfl,fun h => by cases h⟩,rfl⟩
 ·have hbi:¬ (16384:Int) < (ops.length:Int):=by omega
  go_enter Tryz.func13,Tryz.ntmps13
  go_wp2
  go_loop [3,4] (fun n i => ∃ k acc:Nat,k ≤ ops.length ∧ i = .int .i64 k ∧ n = .int .i64 acc ∧ acc ≤ 16384 ∧ ∀ j (h:j < ops.length),j < k → ops[j].s.size ≤ acc) (fun _ i => ops.length - (intOf i).toNat)
  case atStart => exact ⟨0,ops.length,by omega,rfl,rfl,by omega,fun j _ h => absurd h (Nat.not_lt_zero j)⟩
  case round =>
   obtain ⟨k,acc,hk,rfl,rfl,hacc,hall⟩:=hrel
   by_cases hlt:k < ops.length
   ·obtain ⟨b,off,rfl,hbl,hcell⟩:=hS.some (by omega)
    have p6:=hcell k hlt 6 (by omega)
    have hsh:=hS.short _ (List.getElem_mem hlt)
    have HALL:=hid' hall
    have HS:=hid' hS
    clear hcell hall hS
    obtain ⟨sk,hsk⟩:∃ sk,ops[k].s = sk:=⟨_,rfl⟩
    have HSK:=hid' hsk
    simp [Op.cells] at p6
    rw [hsk] at p6 hsh
    clear hsk
    by_cases hover:16384 < acc + sk.size
    ·have hoi:(16384:Int) < (acc:Int) + (sk.size:Int):=by omega
     go_wp2
     go_ret
     exact ⟨⟨false,rfl,fun h => by cases h⟩,rfl⟩
    ·have hoi:¬ (16384:Int) < (acc:Int) + (sk.size:Int):=by omega
     go_wp2
     refine ⟨⟨k + 1,acc + sk.size,by omega,by go_num,by go_num,by omega,fun j hj hjk => ?_⟩,by simp [intOf];omega⟩
     by_cases e:j = k
     ·subst e;rw [HSK.out];omega
     ·have:=HALL.out j hj (by omega);omega
   ·have HALL:=hid' hall
    clear hall
    go_wp2
    go_ret
    refine ⟨⟨true,rfl,fun _ => ⟨by omega,fun o ho => ?_⟩⟩,rfl⟩
    obtain ⟨j,hj,rfl⟩:=List.getElem_of_mem ho
    have:=HALL.out j hj (by omega)
    omega
theorem infoOp:(Tryz.prog.info? 27).map (fun i => (i.zero,i.size,i.bytes)) = some (some (.agg #[.int .i64 0,.int .i64 0,.int .i64 0,.int .i64 0,.int .i64 0,.int .i64 0,.string ByteArray.empty]),7,64):=by kernel_rfl
def inB (k:Int) (ks:List Int) (n:Nat):Bool:=decide (k < 7) || (ks.take n).contains k
theorem inB_zero (k:Int) (ks:List Int):inB k ks 0 = decide (k < 7):=by simp [inB]
theorem inB_succ (k:Int) (ks:List Int) (n:Nat) (h:n < ks.length):inB k ks (n + 1) = (inB k ks n || (k == ks[n])):=by
 unfold inB
 have e:(k == ks[n]) = decide (k = ks[n]):=by rw [Bool.eq_iff_iff];simp
 rw [List.take_succ_eq_append_getElem h,List.contains_append,Bool.or_assoc,e]
 simp
theorem inB_all (k:Int) (ks:List Int) (h:inB k ks ks.length = true):k < 7 ∨ k ∈ ks:=by
 unfold inB at h
 simpa using h
structure Op.Wf (o:Op):Prop where
 k:(Lit.int .i64 o.kind).wf = true
 x:(Lit.int .i64 o.x).wf = true
 a:(Lit.int .i64 o.a).wf = true
 b:(Lit.int .i64 o.b).wf = true
 c:(Lit.int .i64 o.c).wf = true
 d:(Lit.int .i64 o.d).wf = true
structure Sel (ops sel:List Op) (ks:List Int) (m:Nat):Prop where
 len:sel.length ≤ m
 all:∀ o ∈ sel,o ∈ ops ∧ (o.kind < 7 ∨ o.kind ∈ ks)
set_option maxRecDepth 100000 in
set_option maxHeartbeats 3200000 in
theorem plays_any {X:Nat → Xs} (hX:∀ B w,(X B).P 0 (fun _ => False) (.slice none 0 0) w) (ao:Option Addr) (cap:Nat) (ops:List Op) (ks:List Int) (kb kcap:Nat) (w:World) (hS:Script w ao ops) (hlen:ops.length ≤ 140737488351232) (hkl:ks.length ≤ 100)
  (hkc:∀ j (h:j < ks.length),w.cell? ⟨kb,j,none⟩ = some (.int .i64 ks[j])) (hkb:kb < w.heap.size) (hwf:∀ o ∈ ops,o.Wf) (hks:∀ k ∈ ks,6 < k)
  (hdo:∀ o ∈ ops,o.kind ∈ ks → o.Ok → ∀ B n wr,w.heap.size ≤ B → n ≤ 90000 → Below w.heap.size w wr → Does (X B) B B n o wr) :
  Calls Tryz.prog 12 #[.slice ao ops.length cap,.slice (some ⟨kb,0,none⟩) ks.length kcap] w fun e w' => e = .returned (.bool true) ∧ Below w.heap.size w w':=by
 obtain ⟨i0,hi0,hz0,hz1,hz2⟩:=info_parts infoOp
 have HX:=hid' hX
 have HS:=hid' hS
 have HKC:=hid' hkc
 have HWF:=hid' hwf
 have HKS:=hid' hks
 have HDO:=hid' hdo
 clear hS hkc hwf hks hdo hX
 go_enter Tryz.func12,Tryz.ntmps12
 go_wp2_with fail
 refine (small_any ao cap ops _ HS.out hlen).mono ?_
 rintro e w' ⟨⟨r,rfl,hr⟩,rfl⟩
 cases r with
 | false =>
  clear hr
  go_wp2
  go_ret
  exact ⟨rfl,Below.refl _ _⟩
 | true =>
  obtain ⟨hn,hsz⟩:=hr rfl
  have HSZ:=hid' hsz
  clear hsz hr
  go_wp2_with fail
  go_loopw [6,7,8,9,10] (fun v i _ _ _ wr => ∃ (m:Nat) (sel:List Op),m ≤ ops.length ∧ i = .int .i64 m ∧ wr.ownsRow w'.heap.size 27 7 v sel.length (flatOps sel) ∧ Sel ops sel ks m ∧ Below w'.heap.size w' wr) (fun _ i _ _ _ _ => ops.length - (intOf i).toNat)
  case atStart => exact ⟨0,[],by omega,rfl,World.ownsRow_nil _ _ _ _,⟨by simp,fun o h => by cases h⟩,Below.refl _ _⟩
  case round =>
   obtain ⟨m,sel,hm,rfl,hown,hsel,hbel⟩:=hrel
   have HOWN:=hid' hown
   have HSEL:=hid' hsel
   have HBEL:=hid' hbel
   have hwr:=hbel.size
   clear hown hsel hbel
   by_cases hlt:m < ops.length
   ·obtain ⟨b,off,hao,hbl,hcell⟩:=HS.out.some (by omega)
    subst hao
    have hcl:∀ j,j < 7 → wr.cell? ⟨b,off + m * 7 + j,none⟩ = (Op.cells ops[m])[j]?:=fun j hj => by
     rw [HBEL.out.cell (p:=⟨b,off + m * 7 + j,none⟩) hbl];exact hcell m hlt j hj
    have hmem:=List.getElem_mem hlt
    obtain ⟨o,hoo⟩:∃ o,ops[m] = o:=⟨_,rfl⟩
    rw [hoo] at hcl hmem
    have HMEM:=hid' hmem
    clear hcell hoo hmem
    have p0:=hcl 0 (by omega)
    have p1:=hcl 1 (by omega)
    have p2:=hcl 2 (by omega)
    have p3:=hcl 3 (by omega)
    have p4:=hcl 4 (by omega)
    have p5:=hcl 5 (by omega)
    have p6:=hcl 6 (by omega)
    simp [Op.cells] at p0 p1 p2 p3 p4 p5 p6
    clear hcl
    go_wp2_with fail
    go_loop [9,10] (fun q jj => ∃ j:Nat,j ≤ ks.length ∧ jj = .int .i64 j ∧ q = .bool (inB o.kind ks j)) (fun _ jj => ks.length - (intOf jj).toNat)
    case atStart => exact ⟨0,by omega,rfl,by rw [inB_zero]⟩
    case round =>
     obtain ⟨j,hj,rfl,rfl⟩:=hrel
     by_cases hjl:j < ks.length
     ·have kcell:wr.cell? ⟨kb,j,none⟩ = some (.int .i64 ks[j]):=by rw [HBEL.out.cell (p:=⟨kb,j,none⟩) hkb];exact HKC.out j hjl
      have HIN:=hid' (inB_succ o.kind ks j hjl)
      generalize ks[j] = kj at *
      by_cases hin:inB o.kind ks j = true
      ·go_wp2
       exact ⟨⟨j + 1,by omega,by go_num,by rw [HIN.out,hin];rfl⟩,by simp [intOf];omega⟩
      ·have hin':inB o.kind ks j = false:=by simpa using hin
       clear hin
       go_wp2
       exact ⟨⟨j + 1,by omega,by go_num,by rw [HIN.out,hin'];rfl⟩,by simp [intOf];omega⟩
     ·have ej:j = ks.length:=by omega
      subst ej
      generalize hbq:inB o.kind ks ks.length = bq
      have HBQ:=hid' hbq
      clear hbq
      have hsl:=HSEL.out.len
      cases bq with
      | true =>
       go_wp2_with (at_builtin;refine wpList_append_lies _ (by rfl) (.tmp 44) (.tmp 49) 22 (by rfl) w'.heap.size 27 i0 (.agg #[.int .i64 0,.int .i64 0,.int .i64 0,.int .i64 0,.int .i64 0,.int .i64 0,.string ByteArray.empty]) 7 64 Tryz.underlying22 hi0 hz0 hz1 hz2 rfl (by decide) _ sel.length (flatOps sel) (by rfl) (HOWN.out.alloc _) ⟨wr.heap.size,0,none⟩ 1 1 [.int .i64 o.kind,.int .i64 o.x,.int .i64 o.a,.int .i64 o.b,.int .i64 o.c,.int .i64 o.d,.string o.s] (by rfl) (by rfl) (World.news_of_block (cs:=#[.int .i64 o.kind,.int .i64 o.x,.int .i64 o.a,.int .i64 o.b,.int .i64 o.c,.int .i64 o.d,.string o.s]) (heap_alloc_new wr _)) (by simp [Value.oneCell']) (by decide) (by unfold maxLen;omega) (by omega) (by simp;omega) (wr.heap.size + 1) (by simp) ?_;intro g3 cap3 w3 own3 hg3 hat3 hlt3;have OWN3:=hid' own3;have HG3:=hid' hg3;clear own3 hg3 hat3)
       go_roundw
       case rel =>
        refine ⟨m + 1,sel ++ [o],by omega,by go_num,?_,⟨by simp;omega,fun u hu => ?_⟩,?_⟩
        ·rw [flatOps_append,List.length_append];exact OWN3.out
        ·simp at hu
         rcases hu with hu | rfl
         ·exact HSEL.out.all u hu
         ·exact ⟨HMEM.out,inB_all _ _ HBQ.out⟩
        ·exact (HBEL.out.alloc hwr _).grown HG3.out (by simp;omega) (own_ge HOWN.out)
       case measure => simp [intOf];omega
      | false =>
       go_wp2
       go_roundw
       case rel => exact ⟨m + 1,sel,by omega,by go_num,HOWN.out,⟨by omega,HSEL.out.all⟩,HBEL.out⟩
       case measure => simp [intOf];omega
   ·have hsl:=HSEL.out.len
    have hok:∀ o ∈ sel,o.Ok:=fun o ho => by
     have hm':=(HSEL.out.all o ho)
     have hw:=HWF.out o hm'.1
     exact ⟨hw.k,hw.x,hw.a,hw.b,hw.c,hw.d,HSZ.out o hm'.1⟩
    have hdo:∀ o ∈ sel,o.kind < 1 ∨ 6 < o.kind → ∀ n wx,n ≤ 90000 → Below wr.heap.size wr wx → Does (X wr.heap.size) wr.heap.size wr.heap.size n o wx:=fun o ho hk n wx hn hb => by
     by_cases h1:o.kind < 1
     ·exact does_pure (.inl h1) (by omega) (DoesP.of_below (fun w1 => pure_low _ o w1 h1))
     ·have hm':=(HSEL.out.all o ho)
      have hin:o.kind ∈ ks:=by
       rcases hm'.2 with h | h
       ·omega
       ·exact h
      exact HDO.out o hm'.1 hin (hok o ho) wr.heap.size n wx hwr hn (HBEL.out.trans (hb.mono hwr))
    have HUP:=hid' (upTo_any (HX.out _) _ sel w'.heap.size wr HOWN.out (by omega) hok hdo)
    clear hok hdo
    go_wp2_with fail
    refine HUP.out.mono ?_
    rintro e w4 ⟨rfl,hb4⟩
    have HB4:=hid' hb4
    clear hb4 HUP
    go_wp2
    go_ret
    exact ⟨rfl,HBEL.out.trans (HB4.out.mono hwr)⟩
end Go.Proofs.YtmmkhodaljpjgaaGreatDoor
namespace Go.Proofs.YtmmkhodaljpjgaaGreatDoor
open Go.RowKit Go.ChangeShapes Go.WideShapes
def Op.datum {H:Type} (o:Op):DataW H:=.agg [.lit (.int .i64 o.kind),.lit (.int .i64 o.x),.lit (.int .i64 o.a),.lit (.int .i64 o.b),.lit (.int .i64 o.c),.lit (.int .i64 o.d),.lit (.string o.s.data.toList)]
theorem cellsInt:Tryz.prog.cellsOf 3 = 1:=by kernel_rfl
theorem cellsStr:Tryz.prog.cellsOf 9 = 1:=by kernel_rfl
theorem cellsOp:Tryz.prog.cellsOf 27 = 7:=by kernel_rfl
theorem bytesOp:Tryz.prog.bytesOf 27 = 64:=by kernel_rfl
theorem seven {α:Type} {l:List α} (h:l.length = 7):∃ a b c d e f g,l = [a,b,c,d,e,f,g]:=by
 match l,h with
 | [a,b,c,d,e,f,g],_ => exact ⟨a,b,c,d,e,f,g,rfl⟩
theorem open_op {H:Type} {enc:TypeId × Value → H} {w:World} {base:Nat} {spare:Nat → Bool} {held:Bool} {fuel:Nat} {cs:List Value} {x:DataW H × List MemPlace}
  (h:DataW.trod enc Tryz.prog w base spare held fuel 27 cs = some x):∃ o:Op,cs = o.cells.toList ∧ o.Wf ∧ x.1 = o.datum:=by
 obtain ⟨xs,n,_,rfl,hl,hn,hf⟩:=DataW.trod_struct Tryz.underlying27 h
 rw [cellsOp] at hl
 obtain ⟨c0,c1,c2,c3,c4,c5,c6,rfl⟩:=seven hl
 obtain ⟨y0,y1,y2,y3,y4,y5,y6,rfl⟩:=seven (show xs.length = 7 from hn)
 have f0:DataW.trod enc Tryz.prog w base spare held n 3 (([c0,c1,c2,c3,c4,c5,c6].drop 0).take (Tryz.prog.cellsOf 3)) = some y0:=hf 0 _ rfl
 rw [cellsInt] at f0
 have f1:DataW.trod enc Tryz.prog w base spare held n 3 (([c0,c1,c2,c3,c4,c5,c6].drop 1).take (Tryz.prog.cellsOf 3)) = some y1:=hf 1 _ rfl
 rw [cellsInt] at f1
 have f2:DataW.trod enc Tryz.prog w base spare held n 3 (([c0,c1,c2,c3,c4,c5,c6].drop 2).take (Tryz.prog.cellsOf 3)) = some y2:=hf 2 _ rfl
 rw [cellsInt] at f2
 have f3:DataW.trod enc Tryz.prog w base spare held n 3 (([c0,c1,c2,c3,c4,c5,c6].drop 3).take (Tryz.prog.cellsOf 3)) = some y3:=hf 3 _ rfl
 rw [cellsInt] at f3
 have f4:DataW.trod enc Tryz.prog w base spare held n 3 (([c0,c1,c2,c3,c4,c5,c6].drop 4).take (Tryz.prog.cellsOf 3)) = some y4:=hf 4 _ rfl
 rw [cellsInt] at f4
 have f5:DataW.trod enc Tryz.prog w base spare held n 3 (([c0,c1,c2,c3,c4,c5,c6].drop 5).take (Tryz.prog.cellsOf 3)) = some y5:=hf 5 _ rfl
 rw [cellsInt] at f5
 have f6:DataW.trod enc Tryz.prog w base spare held n 9 (([c0,c1,c2,c3,c4,c5,c6].drop 6).take (Tryz.prog.cellsOf 9)) = some y6:=hf 6 _ rfl
 rw [cellsStr] at f6
 obtain ⟨k,e0,g0,w0⟩:=DataW.trod_int Tryz.underlying3 (show DataW.trod enc Tryz.prog w base spare held n 3 [c0] = some y0 from f0)
 obtain ⟨x1,e1,g1,w1⟩:=DataW.trod_int Tryz.underlying3 (show DataW.trod enc Tryz.prog w base spare held n 3 [c1] = some y1 from f1)
 obtain ⟨a,e2,g2,w2⟩:=DataW.trod_int Tryz.underlying3 (show DataW.trod enc Tryz.prog w base spare held n 3 [c2] = some y2 from f2)
 obtain ⟨b,e3,g3,w3⟩:=DataW.trod_int Tryz.underlying3 (show DataW.trod enc Tryz.prog w base spare held n 3 [c3] = some y3 from f3)
 obtain ⟨c,e4,g4,w4⟩:=DataW.trod_int Tryz.underlying3 (show DataW.trod enc Tryz.prog w base spare held n 3 [c4] = some y4 from f4)
 obtain ⟨d,e5,g5,w5⟩:=DataW.trod_int Tryz.underlying3 (show DataW.trod enc Tryz.prog w base spare held n 3 [c5] = some y5 from f5)
 obtain ⟨s,e6,g6,w6⟩:=DataW.trod_string Tryz.underlying9 (show DataW.trod enc Tryz.prog w base spare held n 9 [c6] = some y6 from f6)
 simp only [List.cons.injEq,and_true] at e0 e1 e2 e3 e4 e5 e6
 subst e0 e1 e2 e3 e4 e5 e6 g0 g1 g2 g3 g4 g5 g6
 exact ⟨⟨k,x1,a,b,c,d,s⟩,rfl,⟨w0,w1,w2,w3,w4,w5⟩,rfl⟩
theorem weights_all {H:Type} {P:Program} {e:TypeId}:∀ {l:List (DataW H)} {d:DataW H},d ∈ l → ∀ n ∈ d.weights P e,n ∈ DataW.weightsAll P e l
 | u :: r,d,hd,n,hn => by
  rw [DataW.weightsAll]
  rcases List.mem_cons.1 hd with rfl | hd
  ·exact List.mem_append_left _ hn
  ·exact List.mem_append_right _ (weights_all hd n hn)
theorem datum_weight {H:Type} (o:Op):o.s.size ∈ (o.datum:DataW H).weights Tryz.prog 27:=by
 unfold Op.datum
 rw [DataW.weights,Tryz.underlying27]
 simp [DataW.weightsEach,DataW.weights]
theorem open_script {H:Type} {enc:TypeId × Value → H} {w:World} {fuel:Nat} {v:Value} {x:DataW H × List MemPlace}
  (h:DataW.trod enc Tryz.prog w 0 (fun _ => true) true fuel 22 [v] = some x) (hsz:(DataW.weightsEach Tryz.prog [22] [x.1]).all (fun n => decide (n ≤ reachBytes)) = true) :
  ∃ ao cap ops,v = .slice ao ops.length cap ∧ Script w ao ops ∧ ops.length ≤ 140737488351232 ∧ ∀ o ∈ ops,o.Wf:=by
 rcases Deep.open_slice Tryz.underlying22 h with ⟨hcs,hx⟩ | ⟨a,len,cap,m,n,D,Pl,hcs,_,hlc,hcm,hm,hx,hel⟩
 ·simp only [List.cons.injEq,and_true] at hcs
  subst hcs
  exact ⟨none,0,[],rfl,⟨fun o h => (by cases h),fun h => (by simp at h)⟩,by simp,fun o h => (by cases h)⟩
 ·simp only [List.cons.injEq,and_true] at hcs
  subst hcs
  have hml:len ≤ m:=by simp at hm;omega
  have hop:∀ i,i < len → ∃ o:Op,w.cells? 0 (a.add (i * 7)) 7 = some o.cells.toList ∧ o.Wf ∧ D i = o.datum:=by
   intro i hi
   obtain ⟨cs',hc,ht⟩:=hel i (by omega)
   rw [cellsOp] at hc
   obtain ⟨o,rfl,hw,hd⟩:=open_op ht
   exact ⟨o,hc,hw,hd⟩
  have hch:∃ f:Nat → Op,∀ i,i < len → w.cells? 0 (a.add (i * 7)) 7 = some (f i).cells.toList ∧ (f i).Wf ∧ D i = (f i).datum:=by
   refine ⟨fun i => if h:i < len then Classical.choose (hop i h) else ⟨0,0,0,0,0,0,ByteArray.empty⟩,fun i hi => ?_⟩
   simp only [hi,dif_pos]
   exact Classical.choose_spec (hop i hi)
  obtain ⟨f,hf⟩:=hch
  have hlen:((List.range len).map f).length = len:=by simp
  have hget:∀ k (h:k < ((List.range len).map f).length),((List.range len).map f)[k] = f k:=fun k h => by simp
  have hmem:∀ o ∈ (List.range len).map f,∃ i,i < len ∧ o = f i:=fun o ho => by
   simp at ho;obtain ⟨i,hi,rfl⟩:=ho;exact ⟨i,hi,rfl⟩
  have hD:(List.range len).map D = ((List.range len).map f).map Op.datum:=by
   rw [List.map_map]
   apply List.map_congr_left
   intro i hi
   exact (hf i (by simpa using hi)).2.2
  have hx1:x.1 = .slice ((List.range len).map D) ((List.range (m - len)).map fun j => D (len + j)):=by rw [hx]
  refine ⟨some a,cap,(List.range len).map f,by rw [hlen],⟨?_,?_⟩,?_,?_⟩
  ·intro o ho
   have hw:=datum_weight (H:=H) o
   have hin:(o.datum:DataW H) ∈ (List.range len).map D:=by rw [hD];exact List.mem_map_of_mem ho
   have h1:=weights_all (P:=Tryz.prog) (e:=27) hin _ hw
   have h2:o.s.size ∈ x.1.weights Tryz.prog 22:=by
    rw [hx1,DataW.weights,Tryz.underlying22]
    exact List.mem_cons_of_mem _ (List.mem_append_left _ h1)
   have h3:=DataW.weights_mem_each (P:=Tryz.prog) (ts:=[22]) (ds:=[x.1]) (j:=0) rfl rfl _ h2
   have h4:=of_decide_eq_true (List.all_eq_true.1 hsz _ h3)
   simpa [reachBytes] using h4
  ·intro hpos
   rw [hlen] at hpos
   obtain ⟨_,_,hc0⟩:=World.cells?_some (hf 0 hpos).1
   have h00:=hc0 0 (by omega)
   have hspot:a.spot = none:=by
    have:w.cell? (a.add 0) = some (.int .i64 (f 0).kind):=by simpa [Op.cells,Addr.add] using h00
    have:=World.cell?_spot this
    simpa [Addr.add] using this
   obtain ⟨b,off,spot⟩:=a
   simp only at hspot
   subst hspot
   have hadd:∀ i j,((⟨b,off,none⟩:Addr).add i).add j = ⟨b,off + i + j,none⟩:=fun i j => by
    unfold Addr.add;simp only [];split <;> split <;> simp_all
   refine ⟨b,off,rfl,?_,fun k hk j hj => ?_⟩
   ·exact World.cells?_block (a:=((⟨b,off,none⟩:Addr).add (0 * 7))) (hf 0 hpos).1 (by omega)
   ·rw [hget]
    have hk':k < len:=by rw [hlen] at hk;exact hk
    obtain ⟨_,_,hc⟩:=World.cells?_some (hf k hk').1
    have:=hc j hj
    rw [hadd] at this
    rw [this];simp
  ·have:=sized_slice hsz (j:=0) (t:=22) (e:=27) (elems:=(List.range len).map D) (spare:=(List.range (m - len)).map fun j => D (len + j)) rfl (by simp [hx1]) Tryz.underlying22
   rw [bytesOp] at this
   simp [reachBytes] at this
   rw [hlen];omega
  ·intro o ho
   obtain ⟨i,hi,rfl⟩:=hmem o ho
   exact (hf i hi).2.1
end Go.Proofs.YtmmkhodaljpjgaaGreatDoor
namespace Go.Proofs.YtmmkhodaljpjgaaGreatDoor
open Go.RowKit
theorem run_append_both {P:Program} (w:World) (t ty:TypeId) (base:Nat) (e:TypeId) (i:TypeInfo) (z:Value) (size bytes:Nat) (ht:P.underlying t = some (.slice e)) (hi:P.info? e = some i) (hz:i.zero = some z)
  (hsize:i.size = size) (hby:i.bytes = bytes) (hzs:z.cells.size = size) (hsz:0 < size)
  (v:Value) (n:Nat) (xs:List Value) (hown:w.ownsRow base e size v n xs)
  (ad:Addr) (m c:Nat) (news:List Value) (hl:news.length = m * size) (hnews:∀ j u,news[j]? = some u → w.cell? (ad.add j) = some u) (h1:∀ u ∈ news,u.oneCell' = true)
  (hm:0 < m) (h63:n + m ≤ maxLen) (hbytes:(n + m) * bytes ≤ 140737488355328) (hbase:base ≤ w.heap.size) (H:Nat) (hH:w.heap.size = H) :
  ∃ g cap w',(Builtin.append_ #[t,t] ty #[v,.slice (some ad) m c]).run P w = .ok (.slice (some ⟨g,0,none⟩) (n + m) cap) w' ∧
   w'.ownsRow base e size (.slice (some ⟨g,0,none⟩) (n + m) cap) (n + m) (xs ++ news) ∧ w.grownBy w' v.ownBlock ∧ (v.ownBlock = some g ∨ g = H) ∧ g < w'.heap.size ∧ w'.ownsRow base e size v n xs:=by
 obtain ⟨g,cap,w',hr,h2,h3,h4,h5⟩:=run_append_lies (P:=P) w t ty base e i z size bytes ht hi hz hsize hby hzs hsz v n xs hown ad m c news hl hnews h1 hm h63 hbytes hbase H hH
 refine ⟨g,cap,w',hr,h2,h3,h4,h5,hown.1,?_⟩
 subst hsize
 subst hby
 have hsmall:n + m ≤ 9223372036854775807:=by simp only [maxLen] at h63;omega
 rcases hown.2 with ⟨rfl,rfl⟩ | ⟨g0,cap0,cur,rfl,hbg,hg,hnc,hcm,hcs,htake⟩
 ·exact .inl ⟨rfl,rfl⟩
 ·by_cases hroom:n + m ≤ cap0
  ·have hfit:n * i.size + news.length ≤ cur.size:=by rw [hl,hcs,← Nat.add_mul];exact Nat.mul_le_mul_right _ hroom
   have hr':=run_append_room (P:=P) w t ty e i ht hi g0 n cap0 cur hg ad m c news hl hnews h1 hroom hfit
   have hw:=hr.symm.trans hr'
   simp only [Result.ok.injEq] at hw
   rw [hw.2]
   refine .inr ⟨g0,cap0,_,rfl,hbg,setRow_heap w g0 cur _ e _ hg,hnc,hcm,?_,?_⟩
   ·simp only [List.size_toArray,List.length_append,List.length_take,List.length_drop,Array.length_toList]
    omega
   ·have hx:=hown.1
    rw [htake,List.append_assoc,← hx]
    exact List.take_left
  ·have holds:∀ j u,xs[j]? = some u → w.cell? ((⟨g0,0,none⟩:Addr).add j) = some u:=hown.cells (g:=g0) rfl
   have hr':=run_append_grow (P:=P) w t ty e i z ht hi hz ⟨g0,0,none⟩ n cap0 xs hown.1 holds ad m c news hl hnews (by omega) (by omega) (growslice_fits (by omega) hbytes)
   have hw:=hr.symm.trans hr'
   simp only [Result.ok.injEq] at hw
   rw [hw.2]
   exact .inr ⟨g0,cap0,cur,rfl,hbg,(Below.heap_alloc w.drew _ g0 (lt_of_heap hg)).trans hg,hnc,hcm,hcs,htake⟩
theorem wp_append_both {P:Program} (w:World) {o:Oper} {a:Act} {K:Act → World → Prop} {Q:Exit → Act → World → Prop} (s x:Operand) (t:TypeId)
  (ho:o.op = .call { callee:=.builtin .append,args:=#[s,x],argTypes:=#[t,t] })
  (base:Nat) (e:TypeId) (i:TypeInfo) (z:Value) (size bytes:Nat) (ht:P.underlying t = some (.slice e)) (hi:P.info? e = some i) (hz:i.zero = some z)
  (hsize:i.size = size) (hby:i.bytes = bytes) (hzs:z.cells.size = size) (hsz:0 < size)
  (v:Value) (n:Nat) (xs:List Value) (hs:a.eval s = v) (hown:w.ownsRow base e size v n xs)
  (ad:Addr) (m c:Nat) (news:List Value) (hx:a.eval x = .slice (some ad) m c) (hl:news.length = m * size) (hnews:∀ j u,news[j]? = some u → w.cell? (ad.add j) = some u) (h1:∀ u ∈ news,u.oneCell' = true)
  (hm:0 < m) (h63:n + m ≤ maxLen) (hbytes:(n + m) * bytes ≤ 140737488355328) (hbase:base ≤ w.heap.size) (H:Nat) (hH:w.heap.size = H)
  (h:∀ g cap w',w'.ownsRow base e size (.slice (some ⟨g,0,none⟩) (n + m) cap) (n + m) (xs ++ news) → w.grownBy w' v.ownBlock → (v.ownBlock = some g ∨ g = H) → g < w'.heap.size → w'.ownsRow base e size v n xs → K (a.put o.dst (.slice (some ⟨g,0,none⟩) (n + m) cap)) w'):o.wp P a w K Q:=by
 obtain ⟨g,cap,w',hr,h2,h3,h4,h5,h6⟩:=run_append_both (P:=P) w t o.type base e i z size bytes ht hi hz hsize hby hzs hsz v n xs hown ad m c news hl hnews h1 hm h63 hbytes hbase H hH
 unfold Oper.wp execOp
 simp only [ho,resolve,invoke,builtin,Sem.run_bind,Sem.run_pure,Result.andThen_ok,List.map_toArray,List.map_cons,List.map_nil,hs,hx,hr]
 exact h g cap w' h2 h3 h4 h5 h6
theorem wpList_append_both {P:Program} {w:World} {ops:Array Oper} {rest:List Oper} {o:Oper} {a:Act} {Q:Exit → Act → World → Prop} (hgd:o.guard = none) (s x:Operand) (t:TypeId)
  (ho:o.op = .call { callee:=.builtin .append,args:=#[s,x],argTypes:=#[t,t] })
  (base:Nat) (e:TypeId) (i:TypeInfo) (z:Value) (size bytes:Nat) (ht:P.underlying t = some (.slice e)) (hi:P.info? e = some i) (hz:i.zero = some z)
  (hsize:i.size = size) (hby:i.bytes = bytes) (hzs:z.cells.size = size) (hsz:0 < size)
  (v:Value) (n:Nat) (xs:List Value) (hs:a.eval s = v) (hown:w.ownsRow base e size v n xs)
  (ad:Addr) (m c:Nat) (news:List Value) (hx:a.eval x = .slice (some ad) m c) (hl:news.length = m * size) (hnews:∀ j u,news[j]? = some u → w.cell? (ad.add j) = some u) (h1:∀ u ∈ news,u.oneCell' = true)
  (hm:0 < m) (h63:n + m ≤ maxLen) (hbytes:(n + m) * bytes ≤ 140737488355328) (hbase:base ≤ w.heap.size) (H:Nat) (hH:w.heap.size = H)
  (h:∀ g cap w',w'.ownsRow base e size (.slice (some ⟨g,0,none⟩) (n + m) cap) (n + m) (xs ++ news) → w.grownBy w' v.ownBlock → (v.ownBlock = some g ∨ g = H) → g < w'.heap.size → w'.ownsRow base e size v n xs → wpList P ops Q rest (a.put o.dst (.slice (some ⟨g,0,none⟩) (n + m) cap)) w'):wpList P ops Q (o :: rest) a w :=
 wpList_plain hgd fun _ hK => wp_append_both w s x t ho base e i z size bytes ht hi hz hsize hby hzs hsz v n xs hs hown ad m c news hx hl hnews h1 hm h63 hbytes hbase H hH fun g cap w' h2 h3 h4 h5 h6 => hK _ _ (h g cap w' h2 h3 h4 h5 h6)
structure Off (F:Nat → Prop) (w w':World):Prop where
 os:w'.os = w.os
 tape:w'.tape = w.tape
 output:w'.output = w.output
 size:w.heap.size ≤ w'.heap.size
 block:∀ k,k < w.heap.size → ¬ F k → w'.heap[k]? = w.heap[k]?
theorem Off.refl (F:Nat → Prop) (w:World):Off F w w:=⟨rfl,rfl,rfl,Nat.le_refl _,fun _ _ _ => rfl⟩
theorem Off.trans {F G:Nat → Prop} {a b c:World} (h:Off F a b) (g:Off G b c) (hG:∀ k,k < a.heap.size → G k → F k):Off F a c :=
 ⟨g.os.trans h.os,g.tape.trans h.tape,g.output.trans h.output,Nat.le_trans h.size g.size,fun k hk hF => (g.block k (Nat.lt_of_lt_of_le hk h.size) (fun c => hF (hG k hk c))).trans (h.block k hk hF)⟩
theorem Off.mono {F G:Nat → Prop} {w w':World} (h:Off F w w') (hF:∀ k,k < w.heap.size → F k → G k):Off G w w' :=
 ⟨h.os,h.tape,h.output,h.size,fun k hk hG => h.block k hk (fun c => hG (hF k hk c))⟩
theorem Off.of_below {F:Nat → Prop} {w w':World} (h:Below w.heap.size w w'):Off F w w':=⟨h.os,h.tape,h.output,h.size,fun k hk _ => h.block k hk⟩
theorem Off.below {F:Nat → Prop} {w w':World} {B:Nat} (h:Off F w w') (hF:∀ k,F k → B ≤ k) (hB:B ≤ w.heap.size):Below B w w' :=
 ⟨h.os,h.tape,h.output,h.size,fun k hk => h.block k (by omega) (fun c => by have:=hF k c;omega)⟩
theorem Off.then {F:Nat → Prop} {a b c:World} (h:Off F a b) (g:Below b.heap.size b c):Off F a c:=h.trans (Off.of_below (F:=fun _ => False) g) (fun _ _ h => h.elim)
theorem Off.alloc {F:Nat → Prop} {a w:World} (h:Off F a w) (o:Obj):Off F a (w.alloc o):=h.then ((Below.refl _ _).alloc (Nat.le_refl _) o)
theorem Off.drew {F:Nat → Prop} {a w:World} (h:Off F a w):Off F a w.drew:=h.then (Below.refl _ _).drew
theorem Off.setCell {F:Nat → Prop} {a w:World} (h:Off F a w) {p:Addr} (hp:p.block < a.heap.size → F p.block) (u:Value):Off F a (w.setCell p u) :=
 ⟨h.os,h.tape,h.output,by simpa [World.setCell] using h.size,fun k hk hF => (Below.heap_setCell _ _ _ _ (fun e => hF (by subst e;exact hp hk))).trans (h.block k hk hF)⟩
theorem Off.grown {F:Nat → Prop} {a w w':World} {row:Option Nat} (h:Off F a w) (hg:w.grownBy w' row) (hr:∀ k,row = some k → k < a.heap.size → F k):Off F a w' :=
 ⟨hg.os.trans h.os,hg.tape.trans h.tape,hg.output.trans h.output,Nat.le_trans h.size hg.size,fun k hk hF => (hg.block k (Nat.lt_of_lt_of_le hk h.size) (fun e => hF (hr k e.symm hk))).trans (h.block k hk hF)⟩
theorem Off.heap {F:Nat → Prop} {w w':World} (h:Off F w w') {k:Nat} {o:Obj} (hk:w.heap[k]? = some o) (hF:¬ F k):w'.heap[k]? = some o:=(h.block k (lt_of_heap hk) hF).trans hk
theorem Off.own {F:Nat → Prop} {w w':World} (h:Off F w w') {B e size n:Nat} {v:Value} {xs:List Value} (ho:w.ownsRow B e size v n xs) (hF:∀ k,v.ownBlock = some k → ¬ F k):w'.ownsRow B e size v n xs:=by
 refine ⟨ho.1,?_⟩
 rcases ho.2 with h' | ⟨g,cap,cur,rfl,a,hh,b⟩
 ·exact .inl h'
 ·exact .inr ⟨g,cap,cur,rfl,a,h.heap hh (hF g rfl),b⟩
structure Cm where
 a:Int
 o:Int
 bs:Int
 bf:Int
 v:Bool
def flatC:List Cm → List Value
 | [] => []
 | c :: r => .int .i64 c.a :: .int .i64 c.o :: .int .i64 c.bs :: .int .i64 c.bf :: .bool c.v :: flatC r
theorem flatC_length (l:List Cm):(flatC l).length = l.length * 5:=by
 induction l with
 | nil => rfl
 | cons p r ih => simp [flatC,ih];omega
theorem flatC_append (l r:List Cm):flatC (l ++ r) = flatC l ++ flatC r:=by
 induction l with
 | nil => rfl
 | cons p q ih => simp [flatC,ih]
theorem flatC_one (l:List Cm):∀ u ∈ flatC l,u.oneCell' = true:=by
 induction l with
 | nil => intro u h;cases h
 | cons p r ih =>
  intro u h
  simp [flatC] at h
  rcases h with rfl | rfl | rfl | rfl | rfl | h
  ·rfl
  ·rfl
  ·rfl
  ·rfl
  ·rfl
  ·exact ih u h
def Cm.cells (c:Cm):Array Value:=#[.int .i64 c.a,.int .i64 c.o,.int .i64 c.bs,.int .i64 c.bf,.bool c.v]
theorem flatC_at (l:List Cm) (k:Nat) (h:k < l.length) (j:Nat) (hj:j < 5):(flatC l)[k * 5 + j]? = l[k].cells[j]?:=by
 induction l generalizing k with
 | nil => simp at h
 | cons p r ih =>
  cases k with
  | zero =>
   simp only [flatC,Nat.zero_mul,Nat.zero_add,List.getElem_cons_zero]
   match j,hj with
   | 0,_ => rfl
   | 1,_ => rfl
   | 2,_ => rfl
   | 3,_ => rfl
   | 4,_ => rfl
  | succ k =>
   have h':k < r.length:=by simpa using h
   have e:(k + 1) * 5 + j = (k * 5 + j) + 5:=by omega
   rw [e]
   simp only [flatC,List.getElem_cons_succ]
   exact ih k h'
theorem flat_set (l:List (Int × Int)) (k:Nat) (a b:Int):flat (l.set k (a,b)) = ((flat l).set (k * 2) (.int .i64 a)).set (k * 2 + 1) (.int .i64 b):=by
 induction l generalizing k with
 | nil => rfl
 | cons p r ih =>
  cases k with
  | zero => rfl
  | succ k =>
   rw [show (k + 1) * 2 = k * 2 + 1 + 1 from by omega]
   simp [flat,ih]
theorem flatC_set (l:List Cm) (k:Nat) (c:Cm):flatC (l.set k c) = (((((flatC l).set (k * 5) (.int .i64 c.a)).set (k * 5 + 1) (.int .i64 c.o)).set (k * 5 + 2) (.int .i64 c.bs)).set (k * 5 + 3) (.int .i64 c.bf)).set (k * 5 + 4) (.bool c.v):=by
 induction l generalizing k with
 | nil => rfl
 | cons p r ih =>
  cases k with
  | zero => rfl
  | succ k =>
   rw [show (k + 1) * 5 = k * 5 + 1 + 1 + 1 + 1 + 1 from by omega]
   simp [flatC,ih]
theorem own_put {w:World} {B e size g n cap:Nat} {xs:List Value} (h:w.ownsRow B e size (.slice (some ⟨g,0,none⟩) n cap) n xs) (j:Nat) (u:Value) :
  (w.setCell ⟨g,j,none⟩ u).ownsRow B e size (.slice (some ⟨g,0,none⟩) n cap) n (xs.set j u):=by
 refine ⟨by rw [List.length_set];exact h.1,?_⟩
 rcases h.2 with ⟨h0,_⟩ | ⟨g',cap',cur,hv,hb,hg,h1,h2,h3,h4⟩
 ·cases h0
 ·cases hv
  refine .inr ⟨g,cap,cur.setIfInBounds j u,rfl,hb,heap_setCell_same _ _ _ _ _ _ hg,h1,h2,by simpa using h3,?_⟩
  rw [← h4,Array.toList_setIfInBounds,List.take_set]
theorem own_free {w:World} {B e size g n cap:Nat} {xs:List Value} (h:w.ownsRow B e size (.slice (some ⟨g,0,none⟩) n cap) n xs) (j:Nat):w.frozen? ⟨g,j,none⟩ = false:=by
 rcases h.2 with ⟨h0,_⟩ | ⟨g',cap',cur,hv,hb,hg,_⟩
 ·cases h0
 ·cases hv;exact frozen_of_row _ _ _ _ _ hg
def mkTo (l:List (Int × Int)) (m:Int):Nat → List (Int × Int)
 | 0 => l
 | k + 1 => (mkTo l m k).set k (m + k,m + k)
theorem mkTo_length (l:List (Int × Int)) (m:Int) (k:Nat):(mkTo l m k).length = l.length:=by
 induction k with
 | zero => rfl
 | succ k ih => rw [mkTo,List.length_set,ih]
theorem mkTo_at (l:List (Int × Int)) (m:Int) (k i:Nat) (hi:i < k) (hl:i < l.length):(mkTo l m k)[i]? = some (m + i,m + i):=by
 induction k with
 | zero => omega
 | succ k ih =>
  rw [mkTo,List.getElem?_set]
  by_cases c:k = i
  ·subst c;rw [if_pos rfl,mkTo_length,if_pos hl]
  ·rw [if_neg c];exact ih (by omega)
def mkC (m:Int):Cm:=⟨m,m,0,0,false⟩
def mkToC (l:List Cm) (m:Int):Nat → List Cm
 | 0 => l
 | k + 1 => (mkToC l m k).set k (mkC (m + k))
theorem mkToC_length (l:List Cm) (m:Int) (k:Nat):(mkToC l m k).length = l.length:=by
 induction k with
 | zero => rfl
 | succ k ih => rw [mkToC,List.length_set,ih]
theorem mkToC_at (l:List Cm) (m:Int) (k i:Nat) (hi:i < k) (hl:i < l.length):(mkToC l m k)[i]? = some (mkC (m + i)):=by
 induction k with
 | zero => omega
 | succ k ih =>
  rw [mkToC,List.getElem?_set]
  by_cases c:k = i
  ·subst c;rw [if_pos rfl,mkToC_length,if_pos hl]
  ·rw [if_neg c];exact ih (by omega)
structure Vw where
 d:Value
 c:Value
 m:Int
 b:Int
def flatV:List Vw → List Value
 | [] => []
 | v :: r => v.d :: v.c :: .int .i64 v.m :: .int .i64 v.b :: flatV r
theorem flatV_append (l r:List Vw):flatV (l ++ r) = flatV l ++ flatV r:=by
 induction l with
 | nil => rfl
 | cons p q ih => simp [flatV,ih]
theorem flatV_at (l:List Vw) (k:Nat) (h:k < l.length) (j:Nat) (hj:j < 4):(flatV l)[k * 4 + j]? = #[l[k].d,l[k].c,.int .i64 l[k].m,.int .i64 l[k].b][j]?:=by
 induction l generalizing k with
 | nil => simp at h
 | cons p r ih =>
  cases k with
  | zero =>
   simp only [flatV,Nat.zero_mul,Nat.zero_add,List.getElem_cons_zero]
   match j,hj with
   | 0,_ => rfl
   | 1,_ => rfl
   | 2,_ => rfl
   | 3,_ => rfl
  | succ k =>
   have h':k < r.length:=by simpa using h
   have e:(k + 1) * 4 + j = (k * 4 + j) + 4:=by omega
   rw [e]
   simp only [flatV,List.getElem_cons_succ]
   exact ih k h'
theorem infoALeap:(Tryz.prog.info? 84).map (fun i => (i.zero,i.size,i.bytes)) = some (some (.agg #[.int .i64 0,.int .i64 0]),2,16):=by kernel_rfl
theorem infoAComing:(Tryz.prog.info? 121).map (fun i => (i.zero,i.size,i.bytes)) = some (some (.agg #[.int .i64 0,.int .i64 0,.int .i64 0,.int .i64 0,.bool false]),5,40):=by kernel_rfl
end Go.Proofs.YtmmkhodaljpjgaaGreatDoor
