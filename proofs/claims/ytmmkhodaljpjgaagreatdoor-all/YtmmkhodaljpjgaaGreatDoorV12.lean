import Derived.Test.YtmmkhodaljpjgaaGreatDoorV05
namespace Go.Proofs.YtmmkhodaljpjgaaGreatDoor
open Go.RowKit
def mk (m b n i:Int):Int:=if 0 < b ∧ n - 2 ≤ i then b + i - (n - 2) else m + i
theorem view_at (a1 a2:Option Addr) (n1 n2 c1 c2:Nat) (m b i n:Int) (w:World) (hm0:0 ≤ m) (hm1:m ≤ 1000000000000) (hb0:0 ≤ b) (hb1:b ≤ 1000000000000) (hi0:0 ≤ i) (hi1:i ≤ 100000) (hn0:0 ≤ n) (hn1:n ≤ 100000) :
  Calls Tryz.prog 106 #[.agg #[.slice a1 n1 c1,.slice a2 n2 c2,.int .i64 m,.int .i64 b],.int .i64 i,.int .i64 n] w fun e w' => e = .returned (.int .i64 (mk m b n i)) ∧ Below w.heap.size w w':=by
 have B0:=hid' ((Below.refl w.heap.size w).alloc (Nat.le_refl _) (.cells #[.slice a1 n1 c1,.slice a2 n2 c2,.int .i64 m,.int .i64 b] 126))
 by_cases h1:0 < b
 ·by_cases h2:n - 2 ≤ i
  ·have H:Hid (mk m b n i = b + i - (n - 2)):=by show _ = _;unfold mk;rw [if_pos ⟨h1,h2⟩]
   go_enter Tryz.func106,Tryz.ntmps106
   go_wp2
   go_ret
   exact ⟨ret_int H.out.symm,B0.out⟩
  ·have H:Hid (mk m b n i = m + i):=by show _ = _;unfold mk;rw [if_neg (fun h => h2 h.2)]
   go_enter Tryz.func106,Tryz.ntmps106
   go_wp2
   go_ret
   exact ⟨ret_int H.out.symm,B0.out⟩
 ·have H:Hid (mk m b n i = m + i):=by show _ = _;unfold mk;rw [if_neg (fun h => h1 h.1)]
  go_enter Tryz.func106,Tryz.ntmps106
  go_wp2
  go_ret
  exact ⟨ret_int H.out.symm,B0.out⟩
structure Marks (w:World) (e:TypeId) (size:Nat) (v:Value) (m b:Int):Prop where
 is:∃ ao n cap,v = .slice ao n cap ∧ n ≤ 1000 ∧ (0 < n → ∃ g,ao = some ⟨g,0,none⟩ ∧ (∃ cs fr,w.heap[g]? = some (.cells cs e fr)) ∧ ∀ i,i < n → w.cell? ⟨g,i * size,none⟩ = some (.int .i64 (mk m b n i)) ∧ w.cell? ⟨g,i * size + 1,none⟩ = some (.int .i64 (mk m b n i)))
def vFoot (v:Value) (k:Nat):Prop:=∃ n cap,0 < n ∧ v = .slice (some ⟨k,0,none⟩) n cap
theorem Marks.keep {w w':World} {e:TypeId} {size:Nat} {v:Value} {m b:Int} (h:Marks w e size v m b) (hk:∀ k,vFoot v k → w'.heap[k]? = w.heap[k]?):Marks w' e size v m b:=by
 obtain ⟨ao,n,cap,rfl,hn,hg⟩:=h.is
 refine ⟨ao,n,cap,rfl,hn,fun hp => ?_⟩
 obtain ⟨g,rfl,⟨cs,fr,hl⟩,hc⟩:=hg hp
 have hb:=hk g ⟨n,cap,hp,rfl⟩
 exact ⟨g,rfl,⟨cs,fr,hb.trans hl⟩,fun i hi => ⟨(World.cell?_of_block (w:=w) (a:=⟨g,i * size,none⟩) hb).trans (hc i hi).1,(World.cell?_of_block (w:=w) (a:=⟨g,i * size + 1,none⟩) hb).trans (hc i hi).2⟩⟩
theorem Marks.typ {w:World} {e:TypeId} {size:Nat} {v:Value} {m b:Int} (h:Marks w e size v m b) {k:Nat} (hk:vFoot v k):∃ cs fr,w.heap[k]? = some (.cells cs e fr):=by
 obtain ⟨ao,n,cap,rfl,hn,hg⟩:=h.is
 obtain ⟨n',cap',h0,hv⟩:=hk
 obtain ⟨rfl,rfl,rfl⟩:=Value.slice.inj hv
 obtain ⟨g,e',hl,_⟩:=hg h0
 cases e'
 exact hl
theorem Marks.below {w w':World} {e:TypeId} {size:Nat} {v:Value} {m b:Int} (h:Marks w e size v m b) (hb:Below w.heap.size w w'):Marks w' e size v m b :=
 h.keep fun k hk => by
  obtain ⟨cs,fr,hl⟩:=h.typ hk
  exact hb.block k (lt_of_heap hl)
set_option maxRecDepth 100000 in
set_option maxHeartbeats 1600000 in
theorem unchanged_yes (dv cv:Value) (m b:Int) (w:World) (hD:Marks w 84 2 dv m b) (hC:Marks w 121 5 cv m b) (hm0:0 ≤ m) (hm1:m ≤ 100000000000) (hb0:0 ≤ b) (hb1:b ≤ 100000000000) :
  Calls Tryz.prog 61 #[.agg #[dv,cv,.int .i64 m,.int .i64 b]] w fun e w' => e = .returned (.bool true) ∧ Below w.heap.size w w':=by
 have B0:=hid' ((Below.refl w.heap.size w).alloc (Nat.le_refl _) (.cells #[dv,cv,.int .i64 m,.int .i64 b] 126))
 have R0:=heap_alloc_new w (.cells #[dv,cv,.int .i64 m,.int .i64 b] 126)
 have hD1:=hD.below B0.out
 have hC1:=hC.below B0.out
 obtain ⟨a1,n1,c1,rfl,hn1,hg1⟩:=hD1.is
 obtain ⟨a2,n2,c2,rfl,hn2,hg2⟩:=hC1.is
 have HG1:=hid' hg1
 have HG2:=hid' hg2
 have HAT:=hid' (fun (i n:Nat) (W:World) (h1:i ≤ 100000) (h2:n ≤ 100000) => view_at a1 a2 n1 n2 c1 c2 m b i n W hm0 (by omega) hb0 (by omega) (by omega) (by omega) (by omega) (by omega))
 clear hD hC hD1 hC1 hg1 hg2
 go_enter Tryz.func61,Tryz.ntmps61
 go_wp2_with fail
 generalize hV:w.alloc (.cells #[.slice a1 n1 c1,.slice a2 n2 c2,.int .i64 m,.int .i64 b] 126) = V at *
 clear hV
 have HR0:=hid' R0
 clear R0
 go_loopw [3,4,5] (fun ok i _ wr => ∃ k:Nat,k ≤ n1 ∧ i = .int .i64 k ∧ ok = .bool true ∧ Below V.heap.size V wr) (fun _ i _ _ => n1 - (intOf i).toNat)
 case atStart => exact ⟨0,by omega,rfl,rfl,Below.refl _ _⟩
 case round =>
  obtain ⟨k,hk,rfl,rfl,hb⟩:=hrel
  have row:=(hb.block _ (lt_of_heap HR0.out)).trans HR0.out
  have r0:=cell_of_row _ _ 0 _ _ _ row
  have r1:=cell_of_row _ _ 1 _ _ _ row
  have r2:=cell_of_row _ _ 2 _ _ _ row
  have r3:=cell_of_row _ _ 3 _ _ _ row
  have rl:=lt_of_heap row
  simp at r0 r1 r2 r3
  have HB:=hid' hb
  clear hb row
  by_cases hlt:k < n1
  ·obtain ⟨g,rfl,⟨gcs,gfr,hgh⟩,hc⟩:=HG1.out (by omega)
   have hgl:=lt_of_heap hgh
   clear hgh
   obtain ⟨c0,c1'⟩:=hc k hlt
   have HC0:=hid' ((HB.out.cell (p:=⟨g,k * 2,none⟩) hgl).trans c0)
   have HC1:=hid' ((HB.out.cell (p:=⟨g,k * 2 + 1,none⟩) hgl).trans c1')
   clear hc c0 c1'
   have hgw:=Nat.lt_of_lt_of_le hgl HB.out.size
   go_wp2_with fail
   refine (HAT.out k n1 wr (by omega) (by omega)).mono ?_
   rintro e w1 ⟨rfl,hb1⟩
   have HB1:=hid' (HB.out.trans (hb1.mono HB.out.size))
   have p0:=(hb1.cell (p:=⟨w.heap.size,0,none⟩) rl).trans r0
   have q0:=(hb1.cell (p:=⟨g,k * 2,none⟩) hgw).trans HC0.out
   have q1:=(hb1.cell (p:=⟨g,k * 2 + 1,none⟩) hgw).trans HC1.out
   clear hb1 r0 r1 r2 r3
   generalize mk m b n1 k = x at *
   have z0:(0:Int) ≤ (k:Int):=by omega
   have z1:(k:Int) < (n1:Int):=by omega
   have e1:(x == x) = true:=by simp
   go_wp2
   go_roundw
   case rel => exact ⟨k + 1,by omega,by go_num,rfl,HB1.out⟩
   case measure => simp [intOf];omega
  ·have hnl:¬ (k:Int) < (n1:Int):=by omega
   go_wp2_with fail
   go_loopw [3,6,7] (fun ok i _ wr => ∃ k:Nat,k ≤ n2 ∧ i = .int .i64 k ∧ ok = .bool true ∧ Below V.heap.size V wr) (fun _ i _ _ => n2 - (intOf i).toNat)
   case atStart => exact ⟨0,by omega,rfl,rfl,HB.out⟩
   case round =>
    obtain ⟨k,hk,rfl,rfl,hb⟩:=hrel
    clear r0 r1 r2 r3 rl
    have row:=(hb.block _ (lt_of_heap HR0.out)).trans HR0.out
    have r0:=cell_of_row _ _ 0 _ _ _ row
    have r1:=cell_of_row _ _ 1 _ _ _ row
    have r2:=cell_of_row _ _ 2 _ _ _ row
    have r3:=cell_of_row _ _ 3 _ _ _ row
    have rl:=lt_of_heap row
    simp at r0 r1 r2 r3
    have HB:=hid' hb
    clear hb row
    by_cases hlt:k < n2
    ·obtain ⟨g,rfl,⟨gcs,gfr,hgh⟩,hc⟩:=HG2.out (by omega)
     have hgl:=lt_of_heap hgh
     clear hgh
     obtain ⟨c0,c1'⟩:=hc k hlt
     have HC0:=hid' ((HB.out.cell (p:=⟨g,k * 5,none⟩) hgl).trans c0)
     have HC1:=hid' ((HB.out.cell (p:=⟨g,k * 5 + 1,none⟩) hgl).trans c1')
     clear hc c0 c1'
     have hgw:=Nat.lt_of_lt_of_le hgl HB.out.size
     go_wp2_with fail
     refine (HAT.out k n2 _ (by omega) (by omega)).mono ?_
     rintro e w1 ⟨rfl,hb1⟩
     have HB1:=hid' (HB.out.trans (hb1.mono HB.out.size))
     have p0:=(hb1.cell (p:=⟨w.heap.size,1,none⟩) rl).trans r1
     have q0:=(hb1.cell (p:=⟨g,k * 5,none⟩) hgw).trans HC0.out
     have q1:=(hb1.cell (p:=⟨g,k * 5 + 1,none⟩) hgw).trans HC1.out
     clear hb1 r0 r1 r2 r3
     generalize mk m b n2 k = x at *
     have z0:(0:Int) ≤ (k:Int):=by omega
     have z1:(k:Int) < (n2:Int):=by omega
     have e1:(x == x) = true:=by simp
     go_wp2
     go_roundw
     case rel => exact ⟨k + 1,by omega,by go_num,rfl,HB1.out⟩
     case measure => simp [intOf];omega
    ·have hnl:¬ (k:Int) < (n2:Int):=by omega
     go_wp2
     go_ret
     exact ⟨rfl,B0.out.trans (HB.out.mono B0.out.size)⟩
end Go.Proofs.YtmmkhodaljpjgaaGreatDoor
