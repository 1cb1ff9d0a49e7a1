import Derived.Test.YtmmkhodaljpjgaaGreatDoorV11
import Derived.Deep.Slices
import Derived.SizedLaws
import Derived.ProofKit
import Derived.OpenShut
set_option maxRecDepth 100000
set_option maxHeartbeats 6400000
namespace Go.Proofs.YtmmkhodaljpjgaaGreatDoor
open Go.RowKit
def mk (m b n i:Int):Int:=if 0 < b ∧ n - 2 ≤ i then b + i - (n - 2) else m + i
theorem view_at (a1 a2:Option Addr) (n1 n2 c1 c2:Nat) (m b i n:Int) (w:World) (hm0:0 ≤ m) (hm1:m ≤ 1000000000000) (hb0:0 ≤ b) (hb1:b ≤ 1000000000000) (hi0:0 ≤ i) (hi1:i ≤ 100000) (hn0:0 ≤ n) (hn1:n ≤ 100000) :
  Calls Tryz.prog 106 #[.agg #[.slice a1 n1 c1,.slice a2 n2 c2,.int .i64 m,.int .i64 b],.int .i64 i,.int .i64 n] w fun e w' => e = .returned (.int .i64 (mk m b n i)) ∧ Below w.heap.size w w':=by
 have B0:=hid' ((Below.refl w.heap.size w).alloc (Nat.le_refl _) (.cells #[.slice a1 n1 c1,.slice a2 n2 c2,.int .i64 m,.int .i64 b] 126))
 by_cases h1:0 < b
 ·by_cases h2:n - 2 ≤ i
  ·have H:Hid (mk m b n i = b + i - (n - 2)):=by show _ = _;unfold mk;rw [if_pos ⟨h1,h2⟩]
   go_enter Tryz.func106,Tryz.ntmps106
   go_wp2
   go_ret
   exact ⟨ret_int H.out.symm,B0.out⟩
  ·have H:Hid (mk m b n i = m + i):=by show _ = _;unfold mk;rw [if_neg (fun h => h2 h.2)]
   go_enter Tryz.func106,Tryz.ntmps106
   go_wp2
   go_ret
   exact ⟨ret_int H.out.symm,B0.out⟩
 ·have H:Hid (mk m b n i = m + i):=by show _ = _;unfold mk;rw [if_neg (fun h => h1 h.1)]
  go_enter Tryz.func106,Tryz.ntmps106
  go_wp2
  go_ret
  exact ⟨ret_int H.out.symm,B0.out⟩
structure Marks (w:World) (e:TypeId) (size:Nat) (v:Value) (m b:Int):Prop where
 is:∃ ao n cap,v = .slice ao n cap ∧ n ≤ 1000 ∧ (0 < n → ∃ g,ao = some ⟨g,0,none⟩ ∧ (∃ cs fr,w.heap[g]? = some (.cells cs e fr)) ∧ ∀ i,i < n → w.cell? ⟨g,i * size,none⟩ = some (.int .i64 (mk m b n i)) ∧ w.cell? ⟨g,i * size + 1,none⟩ = some (.int .i64 (mk m b n i)))
def vFoot (v:Value) (k:Nat):Prop:=∃ n cap,0 < n ∧ v = .slice (some ⟨k,0,none⟩) n cap
theorem Marks.keep {w w':World} {e:TypeId} {size:Nat} {v:Value} {m b:Int} (h:Marks w e size v m b) (hk:∀ k,vFoot v k → w'.heap[k]? = w.heap[k]?):Marks w' e size v m b:=by
 obtain ⟨ao,n,cap,rfl,hn,hg⟩:=h.is
 refine ⟨ao,n,cap,rfl,hn,fun hp => ?_⟩
 obtain ⟨g,rfl,⟨cs,fr,hl⟩,hc⟩:=hg hp
 have hb:=hk g ⟨n,cap,hp,rfl⟩
 exact ⟨g,rfl,⟨cs,fr,hb.trans hl⟩,fun i hi => ⟨(World.cell?_of_block (w:=w) (a:=⟨g,i * size,none⟩) hb).trans (hc i hi).1,(World.cell?_of_block (w:=w) (a:=⟨g,i * size + 1,none⟩) hb).trans (hc i hi).2⟩⟩
theorem Marks.typ {w:World} {e:TypeId} {size:Nat} {v:Value} {m b:Int} (h:Marks w e size v m b) {k:Nat} (hk:vFoot v k):∃ cs fr,w.heap[k]? = some (.cells cs e fr):=by
 obtain ⟨ao,n,cap,rfl,hn,hg⟩:=h.is
 obtain ⟨n',cap',h0,hv⟩:=hk
 obtain ⟨rfl,rfl,rfl⟩:=Value.slice.inj hv
 obtain ⟨g,e',hl,_⟩:=hg h0
 cases e'
 exact hl
theorem Marks.below {w w':World} {e:TypeId} {size:Nat} {v:Value} {m b:Int} (h:Marks w e size v m b) (hb:Below w.heap.size w w'):Marks w' e size v m b :=
 h.keep fun k hk => by
  obtain ⟨cs,fr,hl⟩:=h.typ hk
  exact hb.block k (lt_of_heap hl)
theorem unchanged_yes (dv cv:Value) (m b:Int) (w:World) (hD:Marks w 84 2 dv m b) (hC:Marks w 121 5 cv m b) (hm0:0 ≤ m) (hm1:m ≤ 100000000000) (hb0:0 ≤ b) (hb1:b ≤ 100000000000) :
  Calls Tryz.prog 61 #[.agg #[dv,cv,.int .i64 m,.int .i64 b]] w fun e w' => e = .returned (.bool true) ∧ Below w.heap.size w w':=by
 have B0:=hid' ((Below.refl w.heap.size w).alloc (Nat.le_refl _) (.cells #[dv,cv,.int .i64 m,.int .i64 b] 126))
 have R0:=heap_alloc_new w (.cells #[dv,cv,.int .i64 m,.int .i64 b] 126)
 have hD1:=hD.below B0.out
 have hC1:=hC.below B0.out
 obtain ⟨a1,n1,c1,rfl,hn1,hg1⟩:=hD1.is
 obtain ⟨a2,n2,c2,rfl,hn2,hg2⟩:=hC1.is
 have HG1:=hid' hg1
 have HG2:=hid' hg2
 have HAT:=hid' (fun (i n:Nat) (W:World) (h1:i ≤ 100000) (h2:n ≤ 100000) => view_at a1 a2 n1 n2 c1 c2 m b i n W hm0 (by omega) hb0 (by omega) (by omega) (by omega) (by omega) (by omega))
 clear hD hC hD1 hC1 hg1 hg2
 go_enter Tryz.func61,Tryz.ntmps61
 go_wp2_with fail
 generalize hV:w.alloc (.cells #[.slice a1 n1 c1,.slice a2 n2 c2,.int .i64 m,.int .i64 b] 126) = V at *
 clear hV
 have HR0:=hid' R0
 clear R0
 go_loopw [3,4,5] (fun ok i _ wr => ∃ k:Nat,k ≤ n1 ∧ i = .int .i64 k ∧ ok = .bool true ∧ Below V.heap.size V wr) (fun _ i _ _ => n1 - (intOf i).toNat)
 case atStart => exact ⟨0,by omega,rfl,rfl,Below.refl _ _⟩
 case round =>
  obtain ⟨k,hk,rfl,rfl,hb⟩:=hrel
  have row:=(hb.block _ (lt_of_heap HR0.out)).trans HR0.out
  have r0:=cell_of_row _ _ 0 _ _ _ row
  have r1:=cell_of_row _ _ 1 _ _ _ row
  have r2:=cell_of_row _ _ 2 _ _ _ row
  have r3:=cell_of_row _ _ 3 _ _ _ row
  have rl:=lt_of_heap row
  simp at r0 r1 r2 r3
  have HB:=hid' hb
  clear hb row
  by_cases hlt:k < n1
  ·obtain ⟨g,rfl,⟨gcs,gfr,hgh⟩,hc⟩:=HG1.out (by omega)
   have hgl:=lt_of_heap hgh
   clear hgh
   obtain ⟨c0,c1'⟩:=hc k hlt
   have HC0:=hid' ((HB.out.cell (p:=⟨g,k * 2,none⟩) hgl).trans c0)
   have HC1:=hid' ((HB.out.cell (p:=⟨g,k * 2 + 1,none⟩) hgl).trans c1')
   clear hc c0 c1'
   have hgw:=Nat.lt_of_lt_of_le hgl HB.out.size
   go_wp2_with fail
   refine (HAT.out k n1 wr (by omega) (by omega)).mono ?_
   rintro e w1 ⟨rfl,hb1⟩
   have HB1:=hid' (HB.out.trans (hb1.mono HB.out.size))
   have p0:=(hb1.cell (p:=⟨w.heap.size,0,none⟩) rl).trans r0
   have q0:=(hb1.cell (p:=⟨g,k * 2,none⟩) hgw).trans HC0.out
   have q1:=(hb1.cell (p:=⟨g,k * 2 + 1,none⟩) hgw).trans HC1.out
   clear hb1 r0 r1 r2 r3
   generalize mk m b n1 k = x at *
   have z0:(0:Int) ≤ (k:Int):=by omega
   have z1:(k:Int) < (n1:Int):=by omega
   have e1:(x == x) = true:=by simp
   go_wp2
   go_roundw
   case rel => exact ⟨k + 1,by omega,by go_num,rfl,HB1.out⟩
   case measure => simp [intOf];omega
  ·have hnl:¬ (k:Int) < (n1:Int):=by omega
   go_wp2_with fail
   go_loopw [3,6,7] (fun ok i _ wr => ∃ k:Nat,k ≤ n2 ∧ i = .int .i64 k ∧ ok = .bool true ∧ Below V.heap.size V wr) (fun _ i _ _ => n2 - (intOf i).toNat)
   case atStart => exact ⟨0,by omega,rfl,rfl,HB.out⟩
   case round =>
    obtain ⟨k,hk,rfl,rfl,hb⟩:=hrel
    clear r0 r1 r2 r3 rl
    have row:=(hb.block _ (lt_of_heap HR0.out)).trans HR0.out
    have r0:=cell_of_row _ _ 0 _ _ _ row
    have r1:=cell_of_row _ _ 1 _ _ _ row
    have r2:=cell_of_row _ _ 2 _ _ _ row
    have r3:=cell_of_row _ _ 3 _ _ _ row
    have rl:=lt_of_heap row
    simp at r0 r1 r2 r3
    have HB:=hid' hb
    clear hb row
    by_cases hlt:k < n2
    ·obtain ⟨g,rfl,⟨gcs,gfr,hgh⟩,hc⟩:=HG2.out (by omega)
     have hgl:=lt_of_heap hgh
     clear hgh
     obtain ⟨c0,c1'⟩:=hc k hlt
     have HC0:=hid' ((HB.out.cell (p:=⟨g,k * 5,none⟩) hgl).trans c0)
     have HC1:=hid' ((HB.out.cell (p:=⟨g,k * 5 + 1,none⟩) hgl).trans c1')
     clear hc c0 c1'
     have hgw:=Nat.lt_of_lt_of_le hgl HB.out.size
     go_wp2_with fail
     refine (HAT.out k n2 _ (by omega) (by omega)).mono ?_
     rintro e w1 ⟨rfl,hb1⟩
     have HB1:=hid' (HB.out.trans (hb1.mono HB.out.size))
     have p0:=(hb1.cell (p:=⟨w.heap.size,1,none⟩) rl).trans r1
     have q0:=(hb1.cell (p:=⟨g,k * 5,none⟩) hgw).trans HC0.out
     have q1:=(hb1.cell (p:=⟨g,k * 5 + 1,none⟩) hgw).trans HC1.out
     clear hb1 r0 r1 r2 r3
     generalize mk m b n2 k = x at *
     have z0:(0:Int) ≤ (k:Int):=by omega
     have z1:(k:Int) < (n2:Int):=by omega
     have e1:(x == x) = true:=by simp
     go_wp2
     go_roundw
     case rel => exact ⟨k + 1,by omega,by go_num,rfl,HB1.out⟩
     case measure => simp [intOf];omega
    ·have hnl:¬ (k:Int) < (n2:Int):=by omega
     go_wp2
     go_ret
     exact ⟨rfl,B0.out.trans (HB.out.mono B0.out.size)⟩
theorem infoOp:(Tryz.prog.info? 27).map (fun i => (i.zero,i.size,i.bytes)) = some (some (.agg #[.int .i64 0,.int .i64 0,.int .i64 0,.int .i64 0,.int .i64 0,.int .i64 0,.string ByteArray.empty]),7,64):=by kernel_rfl
def inB (k:Int) (ks:List Int) (n:Nat):Bool:=decide (k < 7) || (ks.take n).contains k
theorem inB_zero (k:Int) (ks:List Int):inB k ks 0 = decide (k < 7):=by simp [inB]
theorem inB_succ (k:Int) (ks:List Int) (n:Nat) (h:n < ks.length):inB k ks (n + 1) = (inB k ks n || (k == ks[n])):=by
 unfold inB
 have e:(k == ks[n]) = decide (k = ks[n]):=by rw [Bool.eq_iff_iff];simp
 rw [List.take_succ_eq_append_getElem h,List.contains_append,Bool.or_assoc,e]
 simp
theorem inB_all (k:Int) (ks:List Int) (h:inB k ks ks.length = true):k < 7 ∨ k ∈ ks:=by
 unfold inB at h
 simpa using h
structure Op.Wf (o:Op):Prop where
 k:(Lit.int .i64 o.kind).wf = true
 x:(Lit.int .i64 o.x).wf = true
 a:(Lit.int .i64 o.a).wf = true
 b:(Lit.int .i64 o.b).wf = true
 c:(Lit.int .i64 o.c).wf = true
 d:(Lit.int .i64 o.d).wf = true
structure Sel (ops sel:List Op) (ks:List Int) (m:Nat):Prop where
 len:sel.length ≤ m
 all:∀ o ∈ sel,o ∈ ops ∧ (o.kind < 7 ∨ o.kind ∈ ks)
theorem plays_any {X:Nat → Xs} (hX:∀ B w,(X B).P 0 (fun _ => False) (.slice none 0 0) w) (ao:Option Addr) (cap:Nat) (ops:List Op) (ks:List Int) (kb kcap:Nat) (w:World) (hS:Script w ao ops) (hlen:ops.length ≤ 140737488351232) (hkl:ks.length ≤ 100)
  (hkc:∀ j (h:j < ks.length),w.cell? ⟨kb,j,none⟩ = some (.int .i64 ks[j])) (hkb:kb < w.heap.size) (hwf:∀ o ∈ ops,o.Wf) (hks:∀ k ∈ ks,6 < k)
  (hdo:∀ o ∈ ops,o.kind ∈ ks → o.Ok → ∀ B n wr,w.heap.size ≤ B → n ≤ 90000 → Below w.heap.size w wr → Does (X B) B B n o wr) :
  Calls Tryz.prog 12 #[.slice ao ops.length cap,.slice (some ⟨kb,0,none⟩) ks.length kcap] w fun e w' => e = .returned (.bool true) ∧ Below w.heap.size w w':=by
 obtain ⟨i0,hi0,hz0,hz1,hz2⟩:=info_parts infoOp
 have HX:=hid' hX
 have HS:=hid' hS
 have HKC:=hid' hkc
 have HWF:=hid' hwf
 have HKS:=hid' hks
 have HDO:=hid' hdo
 clear hS hkc hwf hks hdo hX
 go_enter Tryz.func12,Tryz.ntmps12
 go_wp2_with fail
 refine (small_any ao cap ops _ HS.out hlen).mono ?_
 rintro e w' ⟨⟨r,rfl,hr⟩,rfl⟩
 cases r with
 | false =>
  clear hr
  go_wp2
  go_ret
  exact ⟨rfl,Below.refl _ _⟩
 | true =>
  obtain ⟨hn,hsz⟩:=hr rfl
  have HSZ:=hid' hsz
  clear hsz hr
  go_wp2_with fail
  go_loopw [6,7,8,9,10] (fun v i _ _ _ wr => ∃ (m:Nat) (sel:List Op),m ≤ ops.length ∧ i = .int .i64 m ∧ wr.ownsRow w'.heap.size 27 7 v sel.length (flatOps sel) ∧ Sel ops sel ks m ∧ Below w'.heap.size w' wr) (fun _ i _ _ _ _ => ops.length - (intOf i).toNat)
  case atStart => exact ⟨0,[],by omega,rfl,World.ownsRow_nil _ _ _ _,⟨by simp,fun o h => by cases h⟩,Below.refl _ _⟩
  case round =>
   obtain ⟨m,sel,hm,rfl,hown,hsel,hbel⟩:=hrel
   have HOWN:=hid' hown
   have HSEL:=hid' hsel
   have HBEL:=hid' hbel
   have hwr:=hbel.size
   clear hown hsel hbel
   by_cases hlt:m < ops.length
   ·obtain ⟨b,off,hao,hbl,hcell⟩:=HS.out.some (by omega)
    subst hao
    have hcl:∀ j,j < 7 → wr.cell? ⟨b,off + m * 7 + j,none⟩ = (Op.cells ops[m])[j]?:=fun j hj => by
     rw [HBEL.out.cell (p:=⟨b,off + m * 7 + j,none⟩) hbl];exact hcell m hlt j hj
    have hmem:=List.getElem_mem hlt
    obtain ⟨o,hoo⟩:∃ o,ops[m] = o:=⟨_,rfl⟩
    rw [hoo] at hcl hmem
    have HMEM:=hid' hmem
    clear hcell hoo hmem
    have p0:=hcl 0 (by omega)
    have p1:=hcl 1 (by omega)
    have p2:=hcl 2 (by omega)
    have p3:=hcl 3 (by omega)
    have p4:=hcl 4 (by omega)
    have p5:=hcl 5 (by omega)
    have p6:=hcl 6 (by omega)
    simp [Op.cells] at p0 p1 p2 p3 p4 p5 p6
    clear hcl
    go_wp2_with fail
    go_loop [9,10] (fun q jj => ∃ j:Nat,j ≤ ks.length ∧ jj = .int .i64 j ∧ q = .bool (inB o.kind ks j)) (fun _ jj => ks.length - (intOf jj).toNat)
    case atStart => exact ⟨0,by omega,rfl,by rw [inB_zero]⟩
    case round =>
     obtain ⟨j,hj,rfl,rfl⟩:=hrel
     by_cases hjl:j < ks.length
     ·have kcell:wr.cell? ⟨kb,j,none⟩ = some (.int .i64 ks[j]):=by rw [HBEL.out.cell (p:=⟨kb,j,none⟩) hkb];exact HKC.out j hjl
      have HIN:=hid' (inB_succ o.kind ks j hjl)
      generalize ks[j] = kj at *
      by_cases hin:inB o.kind ks j = true
      ·go_wp2
       exact ⟨⟨j + 1,by omega,by go_num,by rw [HIN.out,hin];rfl⟩,by simp [intOf];omega⟩
      ·have hin':inB o.kind ks j = false:=by simpa using hin
       clear hin
       go_wp2
       exact ⟨⟨j + 1,by omega,by go_num,by rw [HIN.out,hin'];rfl⟩,by simp [intOf];omega⟩
     ·have ej:j = ks.length:=by omega
      subst ej
      generalize hbq:inB o.kind ks ks.length = bq
      have HBQ:=hid' hbq
      clear hbq
      have hsl:=HSEL.out.len
      cases bq with
      | true =>
       go_wp2_with (at_builtin;refine wpList_append_lies _ (by rfl) (.tmp 44) (.tmp 49) 22 (by rfl) w'.heap.size 27 i0 (.agg #[.int .i64 0,.int .i64 0,.int .i64 0,.int .i64 0,.int .i64 0,.int .i64 0,.string ByteArray.empty]) 7 64 Tryz.underlying22 hi0 hz0 hz1 hz2 rfl (by decide) _ sel.length (flatOps sel) (by rfl) (HOWN.out.alloc _) ⟨wr.heap.size,0,none⟩ 1 1 [.int .i64 o.kind,.int .i64 o.x,.int .i64 o.a,.int .i64 o.b,.int .i64 o.c,.int .i64 o.d,.string o.s] (by rfl) (by rfl) (World.news_of_block (cs:=#[.int .i64 o.kind,.int .i64 o.x,.int .i64 o.a,.int .i64 o.b,.int .i64 o.c,.int .i64 o.d,.string o.s]) (heap_alloc_new wr _)) (by simp [Value.oneCell']) (by decide) (by unfold maxLen;omega) (by omega) (by simp;omega) (wr.heap.size + 1) (by simp) ?_;intro g3 cap3 w3 own3 hg3 hat3 hlt3;have OWN3:=hid' own3;have HG3:=hid' hg3;clear own3 hg3 hat3)
       go_roundw
       case rel =>
        refine ⟨m + 1,sel ++ [o],by omega,by go_num,?_,⟨by simp;omega,fun u hu => ?_⟩,?_⟩
        ·rw [flatOps_append,List.length_append];exact OWN3.out
        ·simp at hu
         rcases hu with hu | rfl
         ·exact HSEL.out.all u hu
         ·exact ⟨HMEM.out,inB_all _ _ HBQ.out⟩
        ·exact (HBEL.out.alloc hwr _).grown HG3.out (by simp;omega) (own_ge HOWN.out)
       case measure => simp [intOf];omega
      | false =>
       go_wp2
       go_roundw
       case rel => exact ⟨m + 1,sel,by omega,by go_num,HOWN.out,⟨by omega,HSEL.out.all⟩,HBEL.out⟩
       case measure => simp [intOf];omega
   ·have hsl:=HSEL.out.len
    have hok:∀ o ∈ sel,o.Ok:=fun o ho => by
     have hm':=(HSEL.out.all o ho)
     have hw:=HWF.out o hm'.1
     exact ⟨hw.k,hw.x,hw.a,hw.b,hw.c,hw.d,HSZ.out o hm'.1⟩
    have hdo:∀ o ∈ sel,o.kind < 1 ∨ 6 < o.kind → ∀ n wx,n ≤ 90000 → Below wr.heap.size wr wx → Does (X wr.heap.size) wr.heap.size wr.heap.size n o wx:=fun o ho hk n wx hn hb => by
     by_cases h1:o.kind < 1
     ·exact does_pure (.inl h1) (by omega) (DoesP.of_below (fun w1 => pure_low _ o w1 h1))
     ·have hm':=(HSEL.out.all o ho)
      have hin:o.kind ∈ ks:=by
       rcases hm'.2 with h | h
       ·omega
       ·exact h
      exact HDO.out o hm'.1 hin (hok o ho) wr.heap.size n wx hwr hn (HBEL.out.trans (hb.mono hwr))
    have HUP:=hid' (upTo_any (HX.out _) _ sel w'.heap.size wr HOWN.out (by omega) hok hdo)
    clear hok hdo
    go_wp2_with fail
    refine HUP.out.mono ?_
    rintro e w4 ⟨rfl,hb4⟩
    have HB4:=hid' hb4
    clear hb4 HUP
    go_wp2
    go_ret
    exact ⟨rfl,HBEL.out.trans (HB4.out.mono hwr)⟩
namespace Tab
end Tab
theorem whole_any (B:Nat) (lv:Value) (ls:List (Int × Int)) (up ex:Int) (w:World) (wu:(Lit.int .i64 up).wf = true) (wx:(Lit.int .i64 ex).wf = true)
  (hv:w.ownsRow B 46 2 lv ls.length (flat ls)) (hn:ls.length ≤ 100000) (hwf:∀ p ∈ ls,WfP p) :
  Calls Tryz.prog 79 #[.agg #[.int .i64 up,.int .i64 ex,lv]] w fun e w' => e = .returned (.bool (Tab.whole up ex ls)) ∧ Below w.heap.size w w':=by
 obtain ⟨i0,hi0,hz0,hz1,hz2⟩:=info_parts infoLeap
 have bu:=bounds_i64 wu
 have bx:=bounds_i64 wx
 clear wu wx
 have HBel:=hid' ((Below.refl w.heap.size w).alloc (Nat.le_refl _) (.cells #[.int .i64 up,.int .i64 ex,lv] 33))
 by_cases h3:ls.length = 0
 ·obtain ⟨ao,cap,hlv⟩:∃ ao cap,lv = .slice ao 0 cap:=by
   rcases hv.2 with ⟨rfl,_⟩ | ⟨g,cap,cur,rfl,_⟩
   ·exact ⟨_,_,rfl⟩
   ·exact ⟨_,_,by rw [h3]⟩
  subst hlv
  have H:Hid (Tab.whole up ex ls = false):=Tab.whole_no4 h3
  clear hv hwf hn h3
  by_cases h0:up < 0
  ·go_enter Tryz.func79,Tryz.ntmps79
   go_wp2
   go_ret
   exact ⟨ret_bool H.out.symm,HBel.out⟩
  ·by_cases h1:ex ≤ up
   ·go_enter Tryz.func79,Tryz.ntmps79
    go_wp2
    go_ret
    exact ⟨ret_bool H.out.symm,HBel.out⟩
   ·by_cases h2:34000000000 < ex
    ·go_enter Tryz.func79,Tryz.ntmps79
     go_wp2
     go_ret
     exact ⟨ret_bool H.out.symm,HBel.out⟩
    ·go_enter Tryz.func79,Tryz.ntmps79
     go_wp2
     go_ret
     exact ⟨ret_bool H.out.symm,HBel.out⟩
 ·obtain ⟨g,cap,hlv⟩:∃ g cap,lv = .slice (some ⟨g,0,none⟩) ls.length cap:=by
   rcases hv.2 with ⟨rfl,h⟩ | ⟨g,cap,cur,rfl,_⟩
   ·omega
   ·exact ⟨_,_,rfl⟩
  subst hlv
  have hgl:=(hv.lt _ rfl).2
  have HV:=hid' hv
  have HWF:=hid' hwf
  clear hv hwf
  by_cases h0:up < 0
  ·have H:Hid (Tab.whole up ex ls = false):=Tab.whole_no1 h0
   go_enter Tryz.func79,Tryz.ntmps79
   go_wp2
   go_ret
   exact ⟨ret_bool H.out.symm,HBel.out⟩
  ·by_cases h1:ex ≤ up
   ·have H:Hid (Tab.whole up ex ls = false):=Tab.whole_no2 h1
    go_enter Tryz.func79,Tryz.ntmps79
    go_wp2
    go_ret
    exact ⟨ret_bool H.out.symm,HBel.out⟩
   ·by_cases h2:34000000000 < ex
    ·have H:Hid (Tab.whole up ex ls = false):=Tab.whole_no3 h2
     go_enter Tryz.func79,Tryz.ntmps79
     go_wp2
     go_ret
     exact ⟨ret_bool H.out.symm,HBel.out⟩
    ·have H:Hid (Tab.whole up ex ls = Tab.okUpTo ls ls.length):=Tab.whole_is h0 h1 h2 h3
     have HROW:=hid' (heap_alloc_new w (.cells #[.int .i64 up,.int .i64 ex,.slice (some ⟨g,0,none⟩) ls.length cap] 33))
     have hl0:((ls.length:Int) == 0) = false:=by rw [beq_eq_false_iff_ne];omega
     generalize hln:ls.length = n at *
     have HLN:=hid' hln
     clear hln
     go_enter Tryz.func79,Tryz.ntmps79
     go_wp2_with fail
     go_loopw [3,4,5] (fun l i _ wr => ∃ k:Nat,k ≤ n ∧ i = .int .i64 k ∧ Tab.okUpTo ls k = true ∧ wr.ownsRow (w.heap.size + 1) 46 2 l k (flat (ls.take k)) ∧ Below w.heap.size w wr ∧ wr.heap[w.heap.size]? = some (.cells #[.int .i64 up,.int .i64 ex,.slice (some ⟨g,0,none⟩) n cap] 33 (0,0))) (fun _ i _ _ => n - (intOf i).toNat)
     case atStart => exact ⟨0,by omega,rfl,rfl,World.ownsRow_nil _ _ _ _,HBel.out,HROW.out⟩
     case round =>
      obtain ⟨k,hk,rfl,hokk,hown,hbw,hrow⟩:=hrel
      have t2:=cell_of_row _ _ 2 _ _ _ hrow
      simp at t2
      have hsw:=lt_of_heap hrow
      have HOK:=hid' hokk
      have OWN:=hid' hown
      have HBW:=hid' hbw
      have HR:=hid' hrow
      clear hokk hown hbw hrow HROW
      by_cases hlt:k < n
      ·have hkl:k < ls.length:=by rw [HLN.out];exact hlt
       have hlk:(ls.take k).length = k:=by simp;omega
       have hwp:=HWF.out _ (List.getElem_mem hkl)
       have c1:wr.cell? ⟨g,k * 2,none⟩ = some (.int .i64 ls[k].1):=by
        rw [HBW.out.cell (p:=⟨g,k * 2,none⟩) hgl,HV.out.cellAt (k * 2) (by omega)];exact flat_at0 ls k hkl
       have c2:wr.cell? ⟨g,k * 2 + 1,none⟩ = some (.int .i64 ls[k].2):=by
        rw [HBW.out.cell (p:=⟨g,k * 2 + 1,none⟩) hgl,HV.out.cellAt (k * 2 + 1) (by omega)];exact flat_at1 ls k hkl
       have hfo:=follows_any (w.heap.size + 1) u3 (ls.take k) ls[k].1 ls[k].2 wr hwp.1 hwp.2 (by rw [hlk];exact OWN.out) (by omega) (Tab.okUpTo_off k (by omega) HOK.out)
       have HFO:=hid' hfo
       have HSU:=hid' (Tab.okUpTo_succ ls k hkl)
       have HFL:=hid' (flat_take_succ ls k hkl)
       clear hfo hwp hlk
       generalize ls[k] = p at *
       clear hkl
       obtain ⟨pa,po⟩:=p
       simp only at c1 c2
       have hcap:g < wr.heap.size:=by omega
       cases hf:Tab.follows (ls.take k) pa po with
       | false =>
        simp only [hf] at HFO HSU
        have H2:Hid (Tab.whole up ex ls = false):=by
         show _ = _;rw [H.out];exact Tab.okUpTo_no (k:=k + 1) (by rw [HSU.out];simp) (by omega)
        clear hf
        go_wp2_with (go_at_call 126;refine HFO.out.mono ?_;rintro e w2 ⟨rfl,hb2⟩;have HB2:=hid' hb2;clear hb2)
        go_ret
        exact ⟨ret_bool H2.out.symm,HBW.out.trans (HB2.out.mono HBW.out.size)⟩
       | true =>
        simp only [hf] at HFO HSU
        have H2:Hid (Tab.okUpTo ls (k + 1) = true):=by show _ = _;rw [HSU.out,HOK.out];rfl
        clear hf HSU
        go_wp2_with (first
         | (go_at_call 126;refine HFO.out.mono ?_;rintro e w2 ⟨rfl,hb2⟩;have d1:=(hb2.cell (p:=⟨g,k * 2,none⟩) hcap).trans c1;have d2:=(hb2.cell (p:=⟨g,k * 2 + 1,none⟩) hcap).trans c2;have d3:=(hb2.cell (p:=⟨w.heap.size,2,none⟩) hsw).trans t2;have OWN2:=hid' (own_down OWN.out hb2);have HR2:=hid' ((hb2.block _ hsw).trans HR.out);have HB2:=hid' (HBW.out.trans (hb2.mono HBW.out.size));have hs2:=hb2.size;clear hb2)
         | (at_builtin;refine wpList_append_lies _ (by rfl) (.tmp 43) (.tmp 49) 31 (by rfl) (w.heap.size + 1) 46 i0 (.agg #[.int .i64 0,.int .i64 0]) 2 16 Tryz.underlying31 hi0 hz0 hz1 hz2 rfl (by decide) u3 k (flat (ls.take k)) (by rfl) (OWN2.out.alloc _) ⟨w2.heap.size,0,none⟩ 1 1 [.int .i64 pa,.int .i64 po] (by rfl) (by rfl) (World.news_of_block (cs:=#[.int .i64 pa,.int .i64 po]) (heap_alloc_new w2 _)) (by simp [Value.oneCell']) (by decide) (by unfold maxLen;omega) (by omega) (by simp;omega) (w2.heap.size + 1) (by simp) ?_;intro g3 cap3 w3 own3 hg3 _ hlt3;(rw [HFL.out] at own3);have HR3:=hid' (grown_heap hg3 (OWN2.out.alloc _) ((Below.heap_alloc _ _ _ (by omega)).trans HR2.out) (by decide));have HB3:=hid' ((HB2.out.alloc (by omega) _).grown hg3 (by simp;omega) (fun k hk => Nat.le_of_succ_le (own_ge OWN2.out k hk)));have OWN3:=hid' own3;clear own3 hg3))
        go_roundw
        case rel => exact ⟨k + 1,by omega,by go_num,H2.out,OWN3.out,HB3.out,HR3.out⟩
        case measure => simp [intOf];omega
      ·have ek:k = n:=by omega
       have H2:Hid (Tab.whole up ex ls = true):=by show _ = _;rw [H.out,← ek];exact HOK.out
       have hnk:¬ (k:Int) < (n:Int):=by omega
       clear ek
       go_wp2
       go_ret
       exact ⟨ret_bool H2.out.symm,HBW.out⟩
end Go.Proofs.YtmmkhodaljpjgaaGreatDoor
namespace Go.Proofs.YtmmkhodaljpjgaaGreatDoor
open Go.RowKit Go.ChangeShapes Go.WideShapes
def Op.datum {H:Type} (o:Op):DataW H:=.agg [.lit (.int .i64 o.kind),.lit (.int .i64 o.x),.lit (.int .i64 o.a),.lit (.int .i64 o.b),.lit (.int .i64 o.c),.lit (.int .i64 o.d),.lit (.string o.s.data.toList)]
theorem cellsInt:Tryz.prog.cellsOf 3 = 1:=by kernel_rfl
theorem cellsStr:Tryz.prog.cellsOf 9 = 1:=by kernel_rfl
theorem cellsOp:Tryz.prog.cellsOf 27 = 7:=by kernel_rfl
theorem bytesOp:Tryz.prog.bytesOf 27 = 64:=by kernel_rfl
theorem seven {α:Type} {l:List α} (h:l.length = 7):∃ a b c d e f g,l = [a,b,c,d,e,f,g]:=by
 match l,h with
 | [a,b,c,d,e,f,g],_ => exact ⟨a,b,c,d,e,f,g,rfl⟩
theorem open_op {H:Type} {enc:TypeId × Value → H} {w:World} {base:Nat} {spare:Nat → Bool} {held:Bool} {fuel:Nat} {cs:List Value} {x:DataW H × List MemPlace}
  (h:DataW.trod enc Tryz.prog w base spare held fuel 27 cs = some x):∃ o:Op,cs = o.cells.toList ∧ o.Wf ∧ x.1 = o.datum:=by
 obtain ⟨xs,n,_,rfl,hl,hn,hf⟩:=DataW.trod_struct Tryz.underlying27 h
 rw [cellsOp] at hl
 obtain ⟨c0,c1,c2,c3,c4,c5,c6,rfl⟩:=seven hl
 obtain ⟨y0,y1,y2,y3,y4,y5,y6,rfl⟩:=seven (show xs.length = 7 from hn)
 have f0:DataW.trod enc Tryz.prog w base spare held n 3 (([c0,c1,c2,c3,c4,c5,c6].drop 0).take (Tryz.prog.cellsOf 3)) = some y0:=hf 0 _ rfl
 rw [cellsInt] at f0
 have f1:DataW.trod enc Tryz.prog w base spare held n 3 (([c0,c1,c2,c3,c4,c5,c6].drop 1).take (Tryz.prog.cellsOf 3)) = some y1:=hf 1 _ rfl
 rw [cellsInt] at f1
 have f2:DataW.trod enc Tryz.prog w base spare held n 3 (([c0,c1,c2,c3,c4,c5,c6].drop 2).take (Tryz.prog.cellsOf 3)) = some y2:=hf 2 _ rfl
 rw [cellsInt] at f2
 have f3:DataW.trod enc Tryz.prog w base spare held n 3 (([c0,c1,c2,c3,c4,c5,c6].drop 3).take (Tryz.prog.cellsOf 3)) = some y3:=hf 3 _ rfl
 rw [cellsInt] at f3
 have f4:DataW.trod enc Tryz.prog w base spare held n 3 (([c0,c1,c2,c3,c4,c5,c6].drop 4).take (Tryz.prog.cellsOf 3)) = some y4:=hf 4 _ rfl
 rw [cellsInt] at f4
 have f5:DataW.trod enc Tryz.prog w base spare held n 3 (([c0,c1,c2,c3,c4,c5,c6].drop 5).take (Tryz.prog.cellsOf 3)) = some y5:=hf 5 _ rfl
 rw [cellsInt] at f5
 have f6:DataW.trod enc Tryz.prog w base spare held n 9 (([c0,c1,c2,c3,c4,c5,c6].drop 6).take (Tryz.prog.cellsOf 9)) = some y6:=hf 6 _ rfl
 rw [cellsStr] at f6
 obtain ⟨k,e0,g0,w0⟩:=DataW.trod_int Tryz.underlying3 (show DataW.trod enc Tryz.prog w base spare held n 3 [c0] = some y0 from f0)
 obtain ⟨x1,e1,g1,w1⟩:=DataW.trod_int Tryz.underlying3 (show DataW.trod enc Tryz.prog w base spare held n 3 [c1] = some y1 from f1)
 obtain ⟨a,e2,g2,w2⟩:=DataW.trod_int Tryz.underlying3 (show DataW.trod enc Tryz.prog w base spare held n 3 [c2] = some y2 from f2)
 obtain ⟨b,e3,g3,w3⟩:=DataW.trod_int Tryz.underlying3 (show DataW.trod enc Tryz.prog w base spare held n 3 [c3] = some y3 from f3)
 obtain ⟨c,e4,g4,w4⟩:=DataW.trod_int Tryz.underlying3 (show DataW.trod enc Tryz.prog w base spare held n 3 [c4] = some y4 from f4)
 obtain ⟨d,e5,g5,w5⟩:=DataW.trod_int Tryz.underlying3 (show DataW.trod enc Tryz.prog w base spare held n 3 [c5] = some y5 from f5)
 obtain ⟨s,e6,g6,w6⟩:=DataW.trod_string Tryz.underlying9 (show DataW.trod enc Tryz.prog w base spare held n 9 [c6] = some y6 from f6)
 simp only [List.cons.injEq,and_true] at e0 e1 e2 e3 e4 e5 e6
 subst e0 e1 e2 e3 e4 e5 e6 g0 g1 g2 g3 g4 g5 g6
 exact ⟨⟨k,x1,a,b,c,d,s⟩,rfl,⟨w0,w1,w2,w3,w4,w5⟩,rfl⟩
theorem weights_all {H:Type} {P:Program} {e:TypeId}:∀ {l:List (DataW H)} {d:DataW H},d ∈ l → ∀ n ∈ d.weights P e,n ∈ DataW.weightsAll P e l
 | u :: r,d,hd,n,hn => by
  rw [DataW.weightsAll]
  rcases List.mem_cons.1 hd with rfl | hd
  ·exact List.mem_append_left _ hn
  ·exact List.mem_append_right _ (weights_all hd n hn)
theorem datum_weight {H:Type} (o:Op):o.s.size ∈ (o.datum:DataW H).weights Tryz.prog 27:=by
 unfold Op.datum
 rw [DataW.weights,Tryz.underlying27]
 simp [DataW.weightsEach,DataW.weights]
theorem open_script {H:Type} {enc:TypeId × Value → H} {w:World} {fuel:Nat} {v:Value} {x:DataW H × List MemPlace}
  (h:DataW.trod enc Tryz.prog w 0 (fun _ => true) true fuel 22 [v] = some x) (hsz:(DataW.weightsEach Tryz.prog [22] [x.1]).all (fun n => decide (n ≤ reachBytes)) = true) :
  ∃ ao cap ops,v = .slice ao ops.length cap ∧ Script w ao ops ∧ ops.length ≤ 140737488351232 ∧ ∀ o ∈ ops,o.Wf:=by
 rcases Deep.open_slice Tryz.underlying22 h with ⟨hcs,hx⟩ | ⟨a,len,cap,m,n,D,Pl,hcs,_,hlc,hcm,hm,hx,hel⟩
 ·simp only [List.cons.injEq,and_true] at hcs
  subst hcs
  exact ⟨none,0,[],rfl,⟨fun o h => (by cases h),fun h => (by simp at h)⟩,by simp,fun o h => (by cases h)⟩
 ·simp only [List.cons.injEq,and_true] at hcs
  subst hcs
  have hml:len ≤ m:=by simp at hm;omega
  have hop:∀ i,i < len → ∃ o:Op,w.cells? 0 (a.add (i * 7)) 7 = some o.cells.toList ∧ o.Wf ∧ D i = o.datum:=by
   intro i hi
   obtain ⟨cs',hc,ht⟩:=hel i (by omega)
   rw [cellsOp] at hc
   obtain ⟨o,rfl,hw,hd⟩:=open_op ht
   exact ⟨o,hc,hw,hd⟩
  have hch:∃ f:Nat → Op,∀ i,i < len → w.cells? 0 (a.add (i * 7)) 7 = some (f i).cells.toList ∧ (f i).Wf ∧ D i = (f i).datum:=by
   refine ⟨fun i => if h:i < len then Classical.choose (hop i h) else ⟨0,0,0,0,0,0,ByteArray.empty⟩,fun i hi => ?_⟩
   simp only [hi,dif_pos]
   exact Classical.choose_spec (hop i hi)
  obtain ⟨f,hf⟩:=hch
  have hlen:((List.range len).map f).length = len:=by simp
  have hget:∀ k (h:k < ((List.range len).map f).length),((List.range len).map f)[k] = f k:=fun k h => by simp
  have hmem:∀ o ∈ (List.range len).map f,∃ i,i < len ∧ o = f i:=fun o ho => by
   simp at ho;obtain ⟨i,hi,rfl⟩:=ho;exact ⟨i,hi,rfl⟩
  have hD:(List.range len).map D = ((List.range len).map f).map Op.datum:=by
   rw [List.map_map]
   apply List.map_congr_left
   intro i hi
   exact (hf i (by simpa using hi)).2.2
  have hx1:x.1 = .slice ((List.range len).map D) ((List.range (m - len)).map fun j => D (len + j)):=by rw [hx]
  refine ⟨some a,cap,(List.range len).map f,by rw [hlen],⟨?_,?_⟩,?_,?_⟩
  ·intro o ho
   have hw:=datum_weight (H:=H) o
   have hin:(o.datum:DataW H) ∈ (List.range len).map D:=by rw [hD];exact List.mem_map_of_mem ho
   have h1:=weights_all (P:=Tryz.prog) (e:=27) hin _ hw
   have h2:o.s.size ∈ x.1.weights Tryz.prog 22:=by
    rw [hx1,DataW.weights,Tryz.underlying22]
    exact List.mem_cons_of_mem _ (List.mem_append_left _ h1)
   have h3:=DataW.weights_mem_each (P:=Tryz.prog) (ts:=[22]) (ds:=[x.1]) (j:=0) rfl rfl _ h2
   have h4:=of_decide_eq_true (List.all_eq_true.1 hsz _ h3)
   simpa [reachBytes] using h4
  ·intro hpos
   rw [hlen] at hpos
   obtain ⟨_,_,hc0⟩:=World.cells?_some (hf 0 hpos).1
   have h00:=hc0 0 (by omega)
   have hspot:a.spot = none:=by
    have:w.cell? (a.add 0) = some (.int .i64 (f 0).kind):=by simpa [Op.cells,Addr.add] using h00
    have:=World.cell?_spot this
    simpa [Addr.add] using this
   obtain ⟨b,off,spot⟩:=a
   simp only at hspot
   subst hspot
   have hadd:∀ i j,((⟨b,off,none⟩:Addr).add i).add j = ⟨b,off + i + j,none⟩:=fun i j => by
    unfold Addr.add;simp only [];split <;> split <;> simp_all
   refine ⟨b,off,rfl,?_,fun k hk j hj => ?_⟩
   ·exact World.cells?_block (a:=((⟨b,off,none⟩:Addr).add (0 * 7))) (hf 0 hpos).1 (by omega)
   ·rw [hget]
    have hk':k < len:=by rw [hlen] at hk;exact hk
    obtain ⟨_,_,hc⟩:=World.cells?_some (hf k hk').1
    have:=hc j hj
    rw [hadd] at this
    rw [this];simp
  ·have:=sized_slice hsz (j:=0) (t:=22) (e:=27) (elems:=(List.range len).map D) (spare:=(List.range (m - len)).map fun j => D (len + j)) rfl (by simp [hx1]) Tryz.underlying22
   rw [bytesOp] at this
   simp [reachBytes] at this
   rw [hlen];omega
  ·intro o ho
   obtain ⟨i,hi,rfl⟩:=hmem o ho
   exact (hf i hi).2.1
end Go.Proofs.YtmmkhodaljpjgaaGreatDoor
namespace Go.Proofs.YtmmkhodaljpjgaaGreatDoor
open Go.RowKit
theorem lies_of_own {w:World} {B g cap:Nat} {ls:List (Int × Int)} (h:w.ownsRow B 46 2 (.slice (some ⟨g,0,none⟩) ls.length cap) ls.length (flat ls)):Lies w g ls:=fun i hi =>
 ⟨by rw [h.cellAt (i * 2) (by omega)];exact flat_at0 ls i hi,by rw [h.cellAt (i * 2 + 1) (by omega)];exact flat_at1 ls i hi⟩
theorem ref_when (g cap i n:Nat) (ls:List (Int × Int)) (w:World) (hn:ls.length = n) (hi:i < n) (hl:Lies w g ls) (hf:Fine ls) (hb:n ≤ 100000) :
  Calls Tryz.prog 111 #[.slice (some ⟨g,0,none⟩) n cap,.int .i64 i] w fun e w' => e = .returned (.int .i64 (Tab.when ls i)) ∧ w' = w:=by
 have c:=hl i (by omega)
 have f:=hf _ (List.getElem_mem (show i < ls.length by omega))
 cases i with
 | zero =>
  have H:Hid (Tab.when ls 0 = (ls[0]'(by omega)).1 + (ls[0]'(by omega)).2):=by
   show _ = _;unfold Tab.when;rw [getD_at 0 (by omega)];simp
  generalize ls[0]'(by omega) = p at *
  obtain ⟨pa,po⟩:=p
  obtain ⟨c1,c2⟩:=c
  simp only [Nat.zero_mul,Nat.zero_add] at c1 c2
  simp only at f
  clear hl hf hn
  go_enter Tryz.func111,Tryz.ntmps111
  go_wp2
  go_ret
  exact ⟨ret_int H.out.symm,rfl⟩
 | succ j =>
  have d:=hl j (by omega)
  have e:=hf _ (List.getElem_mem (show j < ls.length by omega))
  have H:Hid (Tab.when ls (j + 1) = (ls[j + 1]'(by omega)).1 + (if (ls[j]'(by omega)).2 < (ls[j + 1]'(by omega)).2 then (ls[j]'(by omega)).2 else (ls[j + 1]'(by omega)).2)):=by
   show _ = _;unfold Tab.when;rw [getD_at (j + 1) (by omega),show j + 1 - 1 = j from rfl,getD_at j (by omega)];simp
  generalize ls[j + 1]'(by omega) = p at *
  generalize ls[j]'(by omega) = q at *
  obtain ⟨pa,po⟩:=p
  obtain ⟨qa,qo⟩:=q
  obtain ⟨c1,c2⟩:=c
  obtain ⟨_,d2⟩:=d
  simp only at f c1 c2 d2 e
  clear hl hf hn
  by_cases hlt:qo < po
  ·have H2:Hid (Tab.when ls (j + 1) = pa + qo):=by show _ = _;rw [H.out];simp only;rw [if_pos hlt]
   go_enter Tryz.func111,Tryz.ntmps111
   go_wp2
   go_ret
   exact ⟨ret_int H2.out.symm,rfl⟩
  ·have H2:Hid (Tab.when ls (j + 1) = pa + po):=by show _ = _;rw [H.out];simp only;rw [if_neg hlt]
   go_enter Tryz.func111,Tryz.ntmps111
   go_wp2
   go_ret
   exact ⟨ret_int H2.out.symm,rfl⟩
theorem ref_at (g cap n:Nat) (ls:List (Int × Int)) (sec:Int) (w:World) (hn:ls.length = n) (hl:Lies w g ls) (hf:Fine ls) (hb:n ≤ 100000) :
  Calls Tryz.prog 83 #[.slice (some ⟨g,0,none⟩) n cap,.int .i64 sec] w fun e w' => e = .returned (.int .i64 (Tab.lastAt ls sec n)) ∧ w' = w:=by
 have HL:=hid' hl
 have HF:=hid' hf
 have HN:=hid' hn
 clear hl hf hn
 go_enter Tryz.func83,Tryz.ntmps83
 go_wp2
 go_loop [5,6,7] (fun r i _ => ∃ k:Nat,k ≤ n ∧ i = .int .i64 k ∧ r = .int .i64 (Tab.lastAt ls sec k)) (fun _ i _ => n - (intOf i).toNat)
 case atStart => exact ⟨0,by omega,rfl,rfl⟩
 case round =>
  obtain ⟨k,hk,rfl,rfl⟩:=hrel
  by_cases hlt:k < n
  ·have HW:=hid' (ref_when g cap k n ls w HN.out hlt HL.out HF.out hb)
   by_cases hle:Tab.when ls k ≤ sec
   ·have H:Hid (Tab.lastAt ls sec (k + 1) = (k:Int)):=by show _ = _;simp only [Tab.lastAt];rw [if_pos hle]
    generalize Tab.when ls k = v at *
    go_wp2_with (go_at_call 111;refine HW.out.mono ?_;rintro e w' ⟨rfl,rfl⟩)
    exact ⟨⟨k + 1,by omega,by go_num,by rw [H.out]⟩,by simp [intOf];omega⟩
   ·have H:Hid (Tab.lastAt ls sec (k + 1) = Tab.lastAt ls sec k):=by show _ = _;rw [Tab.lastAt];rw [if_neg hle]
    generalize Tab.when ls k = v at *
    go_wp2_with (go_at_call 111;refine HW.out.mono ?_;rintro e w' ⟨rfl,rfl⟩)
    exact ⟨⟨k + 1,by omega,by go_num,by rw [H.out]⟩,by simp [intOf];omega⟩
  ·have ek:k = n:=by omega
   have HK:Hid (Tab.lastAt ls sec k = Tab.lastAt ls sec n):=by show _ = _;rw [ek]
   clear ek
   go_wp2
   go_ret
   exact ⟨ret_int HK.out,rfl⟩
namespace Txt
end Txt
theorem ref_words (s:ByteArray) (w:World) (hs:s.size ≤ 1000000) :
  Calls Tryz.prog 123 #[.string s] w fun e w' => ∃ v,e = .returned v ∧ w'.ownsRow w.heap.size 9 1 v (Txt.words s).length ((Txt.words s).map Value.string) ∧ Below w.heap.size w w':=by
 obtain ⟨i0,hi0,hz0,hz1,hz2⟩:=info_parts infoString
 go_enter Tryz.func123,Tryz.ntmps123
 go_wp2
 go_loopw [3,4,5] (fun l t i wr => ∃ k:Nat,k ≤ s.size + 1 ∧ i = .int .i64 k ∧ t = .string (Txt.scan s k).2 ∧ wr.ownsRow w.heap.size 9 1 l (Txt.scan s k).1.length ((Txt.scan s k).1.map Value.string) ∧ Below w.heap.size w wr) (fun _ _ i _ => s.size + 1 - (intOf i).toNat)
 case atStart => exact ⟨0,by omega,rfl,rfl,World.ownsRow_nil _ _ _ _,Below.refl _ _⟩
 case round =>
  obtain ⟨k,hk,rfl,rfl,hown,hbw⟩:=hrel
  have hbd:=Txt.scan_bd s k
  by_cases hle:k < s.size + 1
  ·have hsw:=hbw.size
   have OWN:=hid' hown
   have HBW:=hid' hbw
   clear hown hbw
   by_cases hin:Txt.inWord s k
   ·have HSC:Hid (Txt.scan s (k + 1) = ((Txt.scan s k).1,(Txt.scan s k).2 ++ s.extract k (k + 1))):=by show _ = _;rw [Txt.scan,if_pos hin]
    obtain ⟨hlt,n32,n9⟩:=hin
    rw [Txt.byte_at s k hlt] at n32 n9
    have b32:((s[k].toNat:Int) != 32) = true:=bne_iff_ne.2 n32
    have b9:((s[k].toNat:Int) != 9) = true:=bne_iff_ne.2 n9
    have hx:=Txt.size_ext s k hlt
    clear n32 n9
    generalize Txt.scan s k = st at *
    obtain ⟨out,wd⟩:=st
    simp only at hbd OWN HSC
    go_wp2
    go_roundw
    case rel => exact ⟨k + 1,by omega,by go_num,by rw [HSC.out],by rw [HSC.out];exact OWN.out,HBW.out⟩
    case measure => simp [intOf];omega
   ·have hB:k = s.size ∨ (∃ h:k < s.size,(s[k].toNat:Int) = 32) ∨ (∃ h:k < s.size,¬ (s[k].toNat:Int) = 32 ∧ (s[k].toNat:Int) = 9):=by
     by_cases c:k < s.size
     ·by_cases e:(s[k].toNat:Int) = 32
      ·exact .inr (.inl ⟨c,e⟩)
      ·refine .inr (.inr ⟨c,e,?_⟩)
       by_cases e9:(s[k].toNat:Int) = 9
       ·exact e9
       ·exact absurd ⟨c,by rw [Txt.byte_at s k c];exact e,by rw [Txt.byte_at s k c];exact e9⟩ hin
     ·exact .inl (by omega)
    by_cases hwd:(Txt.scan s k).2 = ⟨#[]⟩
    ·have HSC:Hid (Txt.scan s (k + 1) = Txt.scan s k):=by show _ = _;rw [Txt.scan,if_neg hin,if_pos hwd]
     clear hin
     generalize Txt.scan s k = st at *
     obtain ⟨out,wd⟩:=st
     simp only at hbd OWN hwd
     subst hwd
     rcases hB with hE | ⟨hlt,hE⟩ | ⟨hlt,hN,hE⟩
     ·have hE1:¬ (k:Int) < (s.size:Int):=by omega
      have hE2:(k:Int) ≤ (s.size:Int):=by omega
      clear hE
      go_wp2
      go_roundw
      case rel => exact ⟨k + 1,by omega,by go_num,by rw [HSC.out],by rw [HSC.out];exact OWN.out,HBW.out⟩
      case measure => simp [intOf];omega
     ·have q32:((s[k].toNat:Int) != 32) = false:=by rw [bne_eq_false_iff_eq];exact hE
      clear hE
      go_wp2
      go_roundw
      case rel => exact ⟨k + 1,by omega,by go_num,by rw [HSC.out],by rw [HSC.out];exact OWN.out,HBW.out⟩
      case measure => simp [intOf];omega
     ·have q32:((s[k].toNat:Int) != 32) = true:=bne_iff_ne.2 hN
      have q9:((s[k].toNat:Int) != 9) = false:=by rw [bne_eq_false_iff_eq];exact hE
      clear hE hN
      go_wp2
      go_roundw
      case rel => exact ⟨k + 1,by omega,by go_num,by rw [HSC.out],by rw [HSC.out];exact OWN.out,HBW.out⟩
      case measure => simp [intOf];omega
    ·have HSC:Hid (Txt.scan s (k + 1) = ((Txt.scan s k).1 ++ [(Txt.scan s k).2],⟨#[]⟩)):=by show _ = _;rw [Txt.scan,if_neg hin,if_neg hwd]
     clear hin
     generalize Txt.scan s k = st at *
     obtain ⟨out,wd⟩:=st
     simp only at hbd OWN hwd HSC
     have hwe:wd.toList.isEmpty = false:=Txt.not_empty hwd
     clear hwd
     rcases hB with hE | ⟨hlt,hE⟩ | ⟨hlt,hN,hE⟩
     ·have hE1:¬ (k:Int) < (s.size:Int):=by omega
      have hE2:(k:Int) ≤ (s.size:Int):=by omega
      clear hE
      go_wp2_with (first
       | (at_builtin;refine wpList_append_lies _ (by rfl) (.tmp 37) (.tmp 39) 30 (by rfl) w.heap.size 9 i0 (.string ByteArray.empty) 1 16 Tryz.underlying30 hi0 hz0 hz1 hz2 rfl (by decide) u3 out.length (out.map Value.string) (by rfl) (OWN.out.alloc _) ⟨wr.heap.size,0,none⟩ 1 1 [.string wd] (by rfl) (by rfl) (World.news_of_block (cs:=#[.string wd]) (heap_alloc_new wr _)) (by simp [Value.oneCell']) (by decide) (by unfold maxLen;omega) (by omega) (by simp;omega) (wr.heap.size + 1) (by simp) ?_;intro g3 cap3 w3 own3 hg3 _ hlt3;have HB3:=hid' ((HBW.out.alloc hsw _).grown hg3 (by simp;omega) (own_ge OWN.out));have OWN3:=hid' own3;clear own3 hg3))
      go_roundw
      case rel => exact ⟨k + 1,by omega,by go_num,by rw [HSC.out],by rw [HSC.out];simpa using OWN3.out,HB3.out⟩
      case measure => simp [intOf];omega
     ·have q32:((s[k].toNat:Int) != 32) = false:=by rw [bne_eq_false_iff_eq];exact hE
      clear hE
      go_wp2_with (first
       | (at_builtin;refine wpList_append_lies _ (by rfl) (.tmp 37) (.tmp 39) 30 (by rfl) w.heap.size 9 i0 (.string ByteArray.empty) 1 16 Tryz.underlying30 hi0 hz0 hz1 hz2 rfl (by decide) u3 out.length (out.map Value.string) (by rfl) (OWN.out.alloc _) ⟨wr.heap.size,0,none⟩ 1 1 [.string wd] (by rfl) (by rfl) (World.news_of_block (cs:=#[.string wd]) (heap_alloc_new wr _)) (by simp [Value.oneCell']) (by decide) (by unfold maxLen;omega) (by omega) (by simp;omega) (wr.heap.size + 1) (by simp) ?_;intro g3 cap3 w3 own3 hg3 _ hlt3;have HB3:=hid' ((HBW.out.alloc hsw _).grown hg3 (by simp;omega) (own_ge OWN.out));have OWN3:=hid' own3;clear own3 hg3))
      go_roundw
      case rel => exact ⟨k + 1,by omega,by go_num,by rw [HSC.out],by rw [HSC.out];simpa using OWN3.out,HB3.out⟩
      case measure => simp [intOf];omega
     ·have q32:((s[k].toNat:Int) != 32) = true:=bne_iff_ne.2 hN
      have q9:((s[k].toNat:Int) != 9) = false:=by rw [bne_eq_false_iff_eq];exact hE
      clear hE hN
      go_wp2_with (first
       | (at_builtin;refine wpList_append_lies _ (by rfl) (.tmp 37) (.tmp 39) 30 (by rfl) w.heap.size 9 i0 (.string ByteArray.empty) 1 16 Tryz.underlying30 hi0 hz0 hz1 hz2 rfl (by decide) u3 out.length (out.map Value.string) (by rfl) (OWN.out.alloc _) ⟨wr.heap.size,0,none⟩ 1 1 [.string wd] (by rfl) (by rfl) (World.news_of_block (cs:=#[.string wd]) (heap_alloc_new wr _)) (by simp [Value.oneCell']) (by decide) (by unfold maxLen;omega) (by omega) (by simp;omega) (wr.heap.size + 1) (by simp) ?_;intro g3 cap3 w3 own3 hg3 _ hlt3;have HB3:=hid' ((HBW.out.alloc hsw _).grown hg3 (by simp;omega) (own_ge OWN.out));have OWN3:=hid' own3;clear own3 hg3))
      go_roundw
      case rel => exact ⟨k + 1,by omega,by go_num,by rw [HSC.out],by rw [HSC.out];simpa using OWN3.out,HB3.out⟩
      case measure => simp [intOf];omega
  ·have ek:k = s.size + 1:=by omega
   have HW:Hid ((Txt.scan s k).1 = Txt.words s):=by show _ = _;rw [ek];rfl
   have hnk:¬ (k:Int) ≤ (s.size:Int):=by omega
   rw [HW.out] at hown
   have OWN:=hid' hown
   have HBW:=hid' hbw
   clear ek hown hbw
   go_wp2
   go_ret
   exact ⟨_,rfl,OWN.out,HBW.out⟩
theorem ref_offset (B:Nat) (lv:Value) (ls:List (Int × Int)) (up ex sec:Int) (w:World) (wu:(Lit.int .i64 up).wf = true) (wx:(Lit.int .i64 ex).wf = true)
  (hv:w.ownsRow B 46 2 lv ls.length (flat ls)) (hn:ls.length ≤ 100000) (hwf:∀ p ∈ ls,WfP p) :
  Calls Tryz.prog 48 #[.agg #[.int .i64 up,.int .i64 ex,lv],.int .i64 sec] w fun e w' =>
   e = .returned (.tuple #[.int .i64 (Tab.offset up ex ls sec).1,.int .i64 (Tab.offset up ex ls sec).2]) ∧ Below w.heap.size w w':=by
 have HBel:=hid' ((Below.refl w.heap.size w).alloc (Nat.le_refl _) (.cells #[.int .i64 up,.int .i64 ex,lv] 33))
 have HW:=hid' (whole_any B lv ls up ex (w.alloc (.cells #[.int .i64 up,.int .i64 ex,lv] 33)) wu wx (hv.alloc _) hn hwf)
 have HROW:=hid' (heap_alloc_new w (.cells #[.int .i64 up,.int .i64 ex,lv] 33))
 clear wu wx hwf
 cases hwh:Tab.whole up ex ls with
 | false =>
  rw [hwh] at HW
  have H:Hid (Tab.offset up ex ls sec = (0,8)):=by show _ = _;unfold Tab.offset;rw [if_pos hwh]
  clear hwh hv
  go_enter Tryz.func48,Tryz.ntmps48
  go_wp2_with (go_at_call 79;refine HW.out.mono ?_;rintro e w1 ⟨rfl,hb1⟩;have HB1:=hid' hb1;clear hb1)
  go_ret2
  exact ⟨ret_pair (by rw [H.out]) (by rw [H.out]),HBel.out.trans (HB1.out.mono HBel.out.size)⟩
 | true =>
  rw [hwh] at HW
  obtain ⟨hok,hpos⟩:=Tab.whole_ok hwh
  have hfine:=Tab.fine_of_whole hwh
  have HFine:=hid' hfine
  clear hok hfine
  have HNW:=hid' (show ¬ Tab.whole up ex ls = false by rw [hwh];simp)
  clear hwh
  obtain ⟨g,cap,rfl⟩:=own_some hv hpos
  have hgl:=(hv.lt _ rfl).2
  have HLies:=hid' (lies_of_own hv)
  clear hv
  by_cases h1:34000000000 < sec
  ·have H:Hid (Tab.offset up ex ls sec = (0,9)):=by show _ = _;unfold Tab.offset;rw [if_neg HNW.out,if_pos h1]
   go_enter Tryz.func48,Tryz.ntmps48
   go_wp2_with (go_at_call 79;refine HW.out.mono ?_;rintro e w1 ⟨rfl,hb1⟩;have HB1:=hid' hb1;clear hb1)
   go_ret2
   exact ⟨ret_pair (by rw [H.out]) (by rw [H.out]),HBel.out.trans (HB1.out.mono HBel.out.size)⟩
  ·have hbd:=Tab.lastAt_bd ls sec ls.length
   by_cases h2:Tab.lastAt ls sec ls.length < 0
   ·have H:Hid (Tab.offset up ex ls sec = (0,9)):=by show _ = _;unfold Tab.offset;rw [if_neg HNW.out,if_neg h1,if_pos h2]
    have HAT:∀ w1,Lies w1 g ls → Hid (Calls Tryz.prog 83 #[.slice (some ⟨g,0,none⟩) ls.length cap,.int .i64 sec] w1 fun e w' => e = .returned (.int .i64 (Tab.lastAt ls sec ls.length)) ∧ w' = w1):=fun w1 h => ref_at g cap ls.length ls sec w1 rfl h HFine.out hn
    have HATH:=hid' HAT
    clear HAT
    generalize Tab.lastAt ls sec ls.length = k at *
    go_enter Tryz.func48,Tryz.ntmps48
    go_wp2_with (first
     | (go_at_call 79;refine HW.out.mono ?_;rintro e w1 ⟨rfl,hb1⟩;have HB1:=hid' (HBel.out.trans (hb1.mono HBel.out.size));have t2:=cell_of_row _ _ 2 _ _ _ ((hb1.block _ (lt_of_heap HROW.out)).trans HROW.out);(simp at t2);clear hb1)
     | (go_at_call 83;refine (HATH.out w1 (HLies.out.below hgl HB1.out)).out.mono ?_;rintro e w2 ⟨rfl,rfl⟩))
    go_ret2
    exact ⟨ret_pair (by rw [H.out]) (by rw [H.out]),HB1.out⟩
   ·obtain ⟨k,hk⟩:∃ k:Nat,Tab.lastAt ls sec ls.length = (k:Int):=⟨(Tab.lastAt ls sec ls.length).toNat,by omega⟩
    have hkl:k < ls.length:=by omega
    have H:Hid (Tab.offset up ex ls sec = (ls[k].2,0)):=by show _ = _;unfold Tab.offset;rw [if_neg HNW.out,if_neg h1,if_neg h2,hk,Int.toNat_natCast,getD_at k hkl]
    have HAT:∀ w1,Lies w1 g ls → Hid (Calls Tryz.prog 83 #[.slice (some ⟨g,0,none⟩) ls.length cap,.int .i64 sec] w1 fun e w' => e = .returned (.int .i64 (k:Int)) ∧ w' = w1):=fun w1 h => by rw [← hk];exact ref_at g cap ls.length ls sec w1 rfl h HFine.out hn
    have HATH:=hid' HAT
    have hcell:=(HLies.out k hkl).2
    clear HAT hk hbd h2
    generalize ls[k] = p at *
    obtain ⟨pa,po⟩:=p
    simp only at hcell
    go_enter Tryz.func48,Tryz.ntmps48
    go_wp2_with (first
     | (go_at_call 79;refine HW.out.mono ?_;rintro e w1 ⟨rfl,hb1⟩;have HB1:=hid' (HBel.out.trans (hb1.mono HBel.out.size));have t2:=cell_of_row _ _ 2 _ _ _ ((hb1.block _ (lt_of_heap HROW.out)).trans HROW.out);(simp at t2);have hc1:=(HB1.out.cell (p:=⟨g,k * 2 + 1,none⟩) hgl).trans hcell;clear hb1)
     | (go_at_call 83;refine (HATH.out w1 (HLies.out.below hgl HB1.out)).out.mono ?_;rintro e w2 ⟨rfl,rfl⟩))
    go_ret2
    exact ⟨ret_pair (by rw [H.out]) (by rw [H.out]),HB1.out⟩
end Go.Proofs.YtmmkhodaljpjgaaGreatDoor
