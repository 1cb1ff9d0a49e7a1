import Derived.Test.YtmmkhodaljpjgaaGreatDoorV10
import Derived.Deep.RegionHeld3
set_option maxRecDepth 100000
set_option maxHeartbeats 6400000
namespace Go.Proofs.YtmmkhodaljpjgaaGreatDoor
open Go.RowKit
attribute [local go_sem ↓] Go.wp_at_zero Go.wp_at_succ
theorem join4 (a b c d:Int) (a0:0 ≤ a) (a1:a < 256) (b0:0 ≤ b) (b1:b < 256) (c0:0 ≤ c) (c1:c < 256) (d0:0 ≤ d) (d1:d < 256) :
  bits .or .u32 (bits .or .u32 (bits .or .u32 (a * 16777216) (b * 65536)) (c * 256)) d = ((a * 256 + b) * 256 + c) * 256 + d:=by
 have e1:bits .or .u32 (a * 16777216) (b * 65536) = a * 16777216 + b * 65536:=by
  rw [u32_or _ _ (by omega) (by omega) (by omega) (by omega),nat_join 24 _ _ (by omega) (by omega)];omega
 rw [e1]
 have e2:bits .or .u32 (a * 16777216 + b * 65536) (c * 256) = a * 16777216 + b * 65536 + c * 256:=by
  rw [u32_or _ _ (by omega) (by omega) (by omega) (by omega),nat_join 16 _ _ (by omega) (by omega)];omega
 rw [e2]
 rw [u32_or _ _ (by omega) (by omega) (by omega) (by omega),nat_join 8 _ _ (by omega) (by omega)];omega
theorem cell_past {g h k:Nat} (hn:g ≠ h):∀ (X:World) (u:Value) (o:Nat),(X.setCell ⟨h,k,none⟩ u).cell? ⟨g,o,none⟩ = X.cell? ⟨g,o,none⟩ :=
 fun X u _ => World.cell?_of_block (w:=X) (heap_setCell_other X ⟨h,k,none⟩ g u hn)
theorem cell_beside {h k o:Nat} (hn:o ≠ k):∀ (X:World) (u:Value),(X.setCell ⟨h,k,none⟩ u).cell? ⟨h,o,none⟩ = X.cell? ⟨h,o,none⟩:=fun X u => by
 apply World.cell?_setCell_other
 intro e
 apply hn
 simpa using (congrArg Addr.off e).symm
structure Kept (p:Prop):Prop where
 out:p
def Piece (w:World) (g off:Nat) (s:ByteArray) (b e:Int):Prop:=g < w.heap.size ∧ ∀ i:Nat,i < 64 → w.cell? ⟨g,off + i,none⟩ = some (.int .u8 (Sha.pbyte s (b + i) e))
set_option maxHeartbeats 16000000 in
theorem block_any (x:Sha.St) (s:ByteArray) (b e:Int) (g off cap:Nat) (w:World) (hx:x.Ok) (hp:Piece w g off s b e) :
  Calls Tryz.prog 38 #[.agg #[.int .u32 x.a,.int .u32 x.b,.int .u32 x.c,.int .u32 x.d,.int .u32 x.e],.slice (some ⟨g,off,none⟩) 64 cap] w fun q w' => q = .returned (.agg (Sha.mixed (Sha.wl s b e 80) x).cells) ∧ Below w.heap.size w w':=by
 have hz:=zero80.1
 have hz5:=zero5.1
 have HP:=hid' hp
 have hgl:=hp.1
 have HX:=hid' hx
 clear hp hx
 go_enter Tryz.func38,Tryz.ntmps38
 go_wp2_with fail
 clear hz hz5
 go_loopw [6] (fun i wr => ∃ (k n:Nat) (cs:Array Value),k ≤ 80 ∧ i = .int .i64 k ∧ wr = (((w.alloc (.cells #[.int .u32 x.a,.int .u32 x.b,.int .u32 x.c,.int .u32 x.d,.int .u32 x.e] 73)).alloc (.cells (zeros 5) 73)).alloc (.cells cs 135)).drewN n ∧ Has cs k (Sha.wl s b e k)) (fun i _ => 80 - (intOf i).toNat)
 case atStart => exact ⟨0,0,_,by omega,rfl,rfl,Has.start⟩
 case round =>
  obtain ⟨k,n,cs,hk,rfl,rfl,hc⟩:=hrel
  by_cases hlt:k < 80
  ·obtain ⟨v0,hv0⟩:∃ v,cs[k]? = some v:=⟨_,Array.getElem?_eq_getElem (by have:=hc.size;omega)⟩
   have HN:Hid (Has (cs.setIfInBounds k (.int .u32 (Sha.nextW s b e (Sha.wl s b e k) k))) (k + 1) (Sha.wl s b e (k + 1))):=hc.put hlt
   by_cases h16:k < 16
   ·have HE:Hid (Sha.nextW s b e (Sha.wl s b e k) k = Sha.pword s (b + 4 * k) e):=by show _ = _;unfold Sha.nextW;rw [if_pos h16]
    have m0:=HP.out.2 (4 * k) (by omega)
    have m1:=HP.out.2 (4 * k + 1) (by omega)
    have m2:=HP.out.2 (4 * k + 2) (by omega)
    have m3:=HP.out.2 (4 * k + 3) (by omega)
    have HPW:Hid (Sha.pword s (b + 4 * k) e = ((Sha.pbyte s (b + (4 * k:Nat)) e * 256 + Sha.pbyte s (b + (4 * k + 1:Nat)) e) * 256 + Sha.pbyte s (b + (4 * k + 2:Nat)) e) * 256 + Sha.pbyte s (b + (4 * k + 3:Nat)) e):=by
     show _ = _
     unfold Sha.pword
     rw [show b + ((4 * k:Nat):Int) = b + 4 * k from by omega,show b + ((4 * k + 1:Nat):Int) = b + 4 * k + 1 from by omega,show b + ((4 * k + 2:Nat):Int) = b + 4 * k + 2 from by omega,show b + ((4 * k + 3:Nat):Int) = b + 4 * k + 3 from by omega]
    have q0:=Sha.pbyte_bd s (b + (4 * k:Nat)) e
    have q1:=Sha.pbyte_bd s (b + (4 * k + 1:Nat)) e
    have q2:=Sha.pbyte_bd s (b + (4 * k + 2:Nat)) e
    have q3:=Sha.pbyte_bd s (b + (4 * k + 3:Nat)) e
    generalize Sha.pbyte s (b + (4 * k:Nat)) e = y0 at *
    generalize Sha.pbyte s (b + (4 * k + 1:Nat)) e = y1 at *
    generalize Sha.pbyte s (b + (4 * k + 2:Nat)) e = y2 at *
    generalize Sha.pbyte s (b + (4 * k + 3:Nat)) e = y3 at *
    clear hc
    have i0:(0:Int) ≤ (k:Int):=by omega
    have i1:(k:Int) < 16:=by omega
    have i2:(k:Int) < 80:=by omega
    have bel:Below w.heap.size w (((w.alloc (.cells #[.int .u32 x.a,.int .u32 x.b,.int .u32 x.c,.int .u32 x.d,.int .u32 x.e] 73)).alloc (.cells (zeros 5) 73)).alloc (.cells cs 135)):=(((Below.refl _ _).alloc (Nat.le_refl _) _).alloc (by simp) _).alloc (by simp;omega) _
    rw [← bel.cell (p:=⟨g,_,none⟩) hgl] at m0 m1 m2 m3
    have hrow:(((w.alloc (.cells #[.int .u32 x.a,.int .u32 x.b,.int .u32 x.c,.int .u32 x.d,.int .u32 x.e] 73)).alloc (.cells (zeros 5) 73)).alloc (.cells cs 135)).heap[((w.alloc (.cells #[.int .u32 x.a,.int .u32 x.b,.int .u32 x.c,.int .u32 x.d,.int .u32 x.e] 73)).alloc (.cells (zeros 5) 73)).heap.size]? = some (.cells cs 135 (0,0)):=heap_alloc_new _ _
    have hsz2:((w.alloc (.cells #[.int .u32 x.a,.int .u32 x.b,.int .u32 x.c,.int .u32 x.d,.int .u32 x.e] 73)).alloc (.cells (zeros 5) 73)).heap.size = w.heap.size + 1 + 1:=by simp
    rw [hsz2] at hrow
    have ck:=cell_of_row _ _ k _ _ _ hrow
    rw [hv0] at ck
    have fk:=frozen_of_row _ _ k _ _ hrow
    have hset:∀ u,(((w.alloc (.cells #[.int .u32 x.a,.int .u32 x.b,.int .u32 x.c,.int .u32 x.d,.int .u32 x.e] 73)).alloc (.cells (zeros 5) 73)).alloc (.cells cs 135)).setCell ⟨w.heap.size + 1 + 1,k,none⟩ u = ((w.alloc (.cells #[.int .u32 x.a,.int .u32 x.b,.int .u32 x.c,.int .u32 x.d,.int .u32 x.e] 73)).alloc (.cells (zeros 5) 73)).alloc (.cells (cs.setIfInBounds k u) 135):=fun u => World.setCell_alloc_at cs _ _ k u hsz2.symm
    have HSET:=hid' hset
    clear bel hrow hsz2 hset hv0
    go_wp2_with fail
    generalize ((w.alloc (.cells #[.int .u32 x.a,.int .u32 x.b,.int .u32 x.c,.int .u32 x.d,.int .u32 x.e] 73)).alloc (.cells (zeros 5) 73)).alloc (.cells cs 135) = V at *
    have hkp:=cell_past (g:=g) (h:=w.heap.size + 1 + 1) (k:=k) (by omega)
    obtain ⟨k4,hk4⟩:∃ k4:Nat,4 * k = k4:=⟨_,rfl⟩
    rw [hk4] at m0 m1 m2 m3
    have r0:IntKind.i64.wrap (4 * (k:Int)) = (k4:Int):=by rw [IntKind.wrap_i64];omega
    have r1:IntKind.i64.wrap ((k4:Int) + 1) = (k4:Int) + 1:=by rw [IntKind.wrap_i64];omega
    have r2:IntKind.i64.wrap ((k4:Int) + 2) = (k4:Int) + 2:=by rw [IntKind.wrap_i64];omega
    have r3:IntKind.i64.wrap ((k4:Int) + 3) = (k4:Int) + 3:=by rw [IntKind.wrap_i64];omega
    have s0:(0:Int) ≤ (k4:Int):=by omega
    have s1:(k4:Int) < 64:=by omega
    have s2:(k4:Int) + 1 < 64:=by omega
    have s3:(k4:Int) + 2 < 64:=by omega
    have s4:(k4:Int) + 3 < 64:=by omega
    have t1:(0:Int) ≤ (k4:Int) + 1:=by omega
    have t2:(0:Int) ≤ (k4:Int) + 2:=by omega
    have t3:(0:Int) ≤ (k4:Int) + 3:=by omega
    have u1:((k4:Int) + 1).toNat = k4 + 1:=by omega
    have u2:((k4:Int) + 2).toNat = k4 + 2:=by omega
    have u3:((k4:Int) + 3).toNat = k4 + 3:=by omega
    clear hk4
    go_region_held3 (fun w' => w'.cell? ⟨g,off + k4,none⟩ = some (.int .u8 y0) ∧ w'.cell? ⟨g,off + (k4 + 1),none⟩ = some (.int .u8 y1) ∧ w'.cell? ⟨g,off + (k4 + 2),none⟩ = some (.int .u8 y2) ∧ w'.cell? ⟨g,off + (k4 + 3),none⟩ = some (.int .u8 y3)) (go_keep) (fail)
    go_wp2
    refine ⟨⟨k + 1,n + 1,_,by omega,by go_num,?_,HN.out⟩,by simp [intOf];omega⟩
    rw [← HSET.out,HE.out,HPW.out,← join4 y0 y1 y2 y3 q0.1 q0.2 q1.1 q1.2 q2.1 q2.2 q3.1 q3.2]
    rfl
   ·have HE:Hid (Sha.nextW s b e (Sha.wl s b e k) k = Sha.rol1 (bits .xor .u32 (bits .xor .u32 (bits .xor .u32 ((Sha.wl s b e k).getD (k - 3) 0) ((Sha.wl s b e k).getD (k - 8) 0)) ((Sha.wl s b e k).getD (k - 14) 0)) ((Sha.wl s b e k).getD (k - 16) 0))):=by show _ = _;unfold Sha.nextW;rw [if_neg (by omega)]
    have g3:=hc.at' (k - 3) (by omega)
    have g8:=hc.at' (k - 8) (by omega)
    have g14:=hc.at' (k - 14) (by omega)
    have g16:=hc.at' (k - 16) (by omega)
    generalize (Sha.wl s b e k).getD (k - 3) 0 = x3 at *
    generalize (Sha.wl s b e k).getD (k - 8) 0 = x8 at *
    generalize (Sha.wl s b e k).getD (k - 14) 0 = x14 at *
    generalize (Sha.wl s b e k).getD (k - 16) 0 = x16 at *
    clear hc
    have hrow:(((w.alloc (.cells #[.int .u32 x.a,.int .u32 x.b,.int .u32 x.c,.int .u32 x.d,.int .u32 x.e] 73)).alloc (.cells (zeros 5) 73)).alloc (.cells cs 135)).heap[((w.alloc (.cells #[.int .u32 x.a,.int .u32 x.b,.int .u32 x.c,.int .u32 x.d,.int .u32 x.e] 73)).alloc (.cells (zeros 5) 73)).heap.size]? = some (.cells cs 135 (0,0)):=heap_alloc_new _ _
    have hsz2:((w.alloc (.cells #[.int .u32 x.a,.int .u32 x.b,.int .u32 x.c,.int .u32 x.d,.int .u32 x.e] 73)).alloc (.cells (zeros 5) 73)).heap.size = w.heap.size + 1 + 1:=by simp
    rw [hsz2] at hrow
    have ck:=cell_of_row _ _ k _ _ _ hrow
    rw [hv0] at ck
    have fk:=frozen_of_row _ _ k _ _ hrow
    rw [← cell_of_row _ _ _ _ _ _ hrow] at g3 g8 g14 g16
    have hset:∀ u,(((w.alloc (.cells #[.int .u32 x.a,.int .u32 x.b,.int .u32 x.c,.int .u32 x.d,.int .u32 x.e] 73)).alloc (.cells (zeros 5) 73)).alloc (.cells cs 135)).setCell ⟨w.heap.size + 1 + 1,k,none⟩ u = ((w.alloc (.cells #[.int .u32 x.a,.int .u32 x.b,.int .u32 x.c,.int .u32 x.d,.int .u32 x.e] 73)).alloc (.cells (zeros 5) 73)).alloc (.cells (cs.setIfInBounds k u) 135):=fun u => World.setCell_alloc_at cs _ _ k u hsz2.symm
    have HSET:=hid' hset
    clear hrow hsz2 hset hv0
    have i0:(16:Int) ≤ (k:Int):=by omega
    have i2:(k:Int) < 80:=by omega
    go_wp2_with fail
    generalize ((w.alloc (.cells #[.int .u32 x.a,.int .u32 x.b,.int .u32 x.c,.int .u32 x.d,.int .u32 x.e] 73)).alloc (.cells (zeros 5) 73)).alloc (.cells cs 135) = V at *
    obtain ⟨k3,hk3⟩:∃ q:Nat,k - 3 = q:=⟨_,rfl⟩
    obtain ⟨k8,hk8⟩:∃ q:Nat,k - 8 = q:=⟨_,rfl⟩
    obtain ⟨k14,hk14⟩:∃ q:Nat,k - 14 = q:=⟨_,rfl⟩
    obtain ⟨k16,hk16⟩:∃ q:Nat,k - 16 = q:=⟨_,rfl⟩
    rw [hk3] at g3
    rw [hk8] at g8
    rw [hk14] at g14
    rw [hk16] at g16
    have r3:IntKind.i64.wrap ((k:Int) - 3) = (k3:Int):=by rw [IntKind.wrap_i64];omega
    have r8:IntKind.i64.wrap ((k:Int) - 8) = (k8:Int):=by rw [IntKind.wrap_i64];omega
    have r14:IntKind.i64.wrap ((k:Int) - 14) = (k14:Int):=by rw [IntKind.wrap_i64];omega
    have r16:IntKind.i64.wrap ((k:Int) - 16) = (k16:Int):=by rw [IntKind.wrap_i64];omega
    have s3:(k3:Int) < 80:=by omega
    have s8:(k8:Int) < 80:=by omega
    have s14:(k14:Int) < 80:=by omega
    have s16:(k16:Int) < 80:=by omega
    have z3:(0:Int) ≤ (k3:Int):=by omega
    have z8:(0:Int) ≤ (k8:Int):=by omega
    have z14:(0:Int) ≤ (k14:Int):=by omega
    have z16:(0:Int) ≤ (k16:Int):=by omega
    have b3:=cell_beside (h:=w.heap.size + 1 + 1) (k:=k) (o:=k3) (by omega)
    have b8:=cell_beside (h:=w.heap.size + 1 + 1) (k:=k) (o:=k8) (by omega)
    have b14:=cell_beside (h:=w.heap.size + 1 + 1) (k:=k) (o:=k14) (by omega)
    have b16:=cell_beside (h:=w.heap.size + 1 + 1) (k:=k) (o:=k16) (by omega)
    clear hk3 hk8 hk14 hk16
    go_region_held3 (fun w' => w'.cell? ⟨w.heap.size + 1 + 1,k3,none⟩ = some (.int .u32 x3) ∧ w'.cell? ⟨w.heap.size + 1 + 1,k8,none⟩ = some (.int .u32 x8) ∧ w'.cell? ⟨w.heap.size + 1 + 1,k14,none⟩ = some (.int .u32 x14) ∧ w'.cell? ⟨w.heap.size + 1 + 1,k16,none⟩ = some (.int .u32 x16)) (go_keep)
     (first | (go_at_call 76;refine (turn1 _ _).mono ?_;rintro e w' ⟨rfl,mm,rfl⟩))
    go_wp2
    refine ⟨⟨k + 1,n + 1 + mm,_,by omega,by go_num,?_,HN.out⟩,by simp [intOf];omega⟩
    rw [← HSET.out,HE.out]
    rfl
  ·have e80:k = 80:=by omega
   rw [e80] at hc
   have hl80:=Sha.wl_length s b e 80
   have hlb:=Sha.wl_bd s b e 80
   have hsz:cs.size = 80:=hc.size
   have hat:=hc.at'
   obtain ⟨l,hl⟩:∃ l,Sha.wl s b e 80 = l:=⟨_,rfl⟩
   rw [hl] at hl80 hlb hat
   have HLQ:Kept (Sha.wl s b e 80 = l):=⟨hl⟩
   clear hl
   have HAT:=hid' hat
   have HLB:=hid' hlb
   have hnk:¬ (k:Int) < 80:=by omega
   clear hat hlb hc hl80 hsz hlt hk e80
   go_wp2_with fail
   go_loopw [7,8,9,10,11,12,13,14,15] (fun a b c d e i _ _ _ wr => ∃ t n:Nat,t ≤ 80 ∧ i = .int .i64 t ∧ a = .int .u32 (Sha.rounds l x t).a ∧ b = .int .u32 (Sha.rounds l x t).b ∧ c = .int .u32 (Sha.rounds l x t).c ∧ d = .int .u32 (Sha.rounds l x t).d ∧ e = .int .u32 (Sha.rounds l x t).e
     ∧ wr = (((w.alloc (.cells #[.int .u32 x.a,.int .u32 x.b,.int .u32 x.c,.int .u32 x.d,.int .u32 x.e] 73)).alloc (.cells (zeros 5) 73)).alloc (.cells cs 135)).drewN n) (fun _ _ _ _ _ i _ _ _ _ => 80 - (intOf i).toNat)
   case atStart => exact ⟨0,n,by omega,rfl,rfl,rfl,rfl,rfl,rfl,rfl⟩
   case round =>
    obtain ⟨t,n,ht,rfl,rfl,rfl,rfl,rfl,rfl,rfl⟩:=hrel
    by_cases hlt:t < 80
    ·have hok:=Sha.rounds_ok l x HX.out t
     have HR:Hid (Sha.rounds l x (t + 1) = Sha.step (Sha.rounds l x t) t (l.getD t 0)):=rfl
     have gc:=HAT.out t hlt
     have gb:=HLB.out t
     have hrow:(((w.alloc (.cells #[.int .u32 x.a,.int .u32 x.b,.int .u32 x.c,.int .u32 x.d,.int .u32 x.e] 73)).alloc (.cells (zeros 5) 73)).alloc (.cells cs 135)).heap[((w.alloc (.cells #[.int .u32 x.a,.int .u32 x.b,.int .u32 x.c,.int .u32 x.d,.int .u32 x.e] 73)).alloc (.cells (zeros 5) 73)).heap.size]? = some (.cells cs 135 (0,0)):=heap_alloc_new _ _
     rw [show ((w.alloc (.cells #[.int .u32 x.a,.int .u32 x.b,.int .u32 x.c,.int .u32 x.d,.int .u32 x.e] 73)).alloc (.cells (zeros 5) 73)).heap.size = w.heap.size + 1 + 1 from by simp] at hrow
     rw [← cell_of_row _ _ _ _ _ _ hrow] at gc
     clear hrow
     generalize Sha.rounds l x t = y at *
     obtain ⟨a,bb,c,d,ee⟩:=y
     generalize l.getD t 0 = wt at *
     obtain ⟨ha,hb,hcc,hd,he⟩:=hok
     simp only at ha hb hcc hd he
     have t0:(0:Int) ≤ (t:Int):=by omega
     have t1:(t:Int) < 80:=by omega
     have HT5:∀ wx,Hid (Calls Tryz.prog 76 #[.int .u32 a,.int .i64 5] wx fun e w' => e = .returned (.int .u32 (Sha.rol5 a)) ∧ ∃ m,w' = wx.drewN m):=fun wx => turn5 a wx
     have gc2:((((w.alloc (.cells #[.int .u32 x.a,.int .u32 x.b,.int .u32 x.c,.int .u32 x.d,.int .u32 x.e] 73)).alloc (.cells (zeros 5) 73)).alloc (.cells cs 135)).drewN n).cell? ⟨w.heap.size + 1 + 1,t,none⟩ = some (.int .u32 wt):=gc
     clear gc
     generalize hV2:(((w.alloc (.cells #[.int .u32 x.a,.int .u32 x.b,.int .u32 x.c,.int .u32 x.d,.int .u32 x.e] 73)).alloc (.cells (zeros 5) 73)).alloc (.cells cs 135)).drewN n = V at *
     have HV2:=hid' hV2
     clear hV2
     by_cases c20:t < 20
     ·have HF:Hid (Sha.f t bb c d = bits .or .u32 (bits .and .u32 bb c) (bits .and .u32 (bits .xor .u32 IntKind.u32.max bb) d)):=by show _ = _;unfold Sha.f;rw [if_pos c20]
      have HK:Hid (Sha.K t = 1518500249):=by show _ = _;unfold Sha.K;rw [if_pos c20]
      go_wp2_with fail
      go_quiet ((go_at_call 76;exact Calls.quiet_of (HT5 _).out))
      go_wp2_with fail
      refine (turn30 bb _).mono ?_
      rintro q w' ⟨rfl,m30,rfl⟩
      go_wp2
      go_roundw
      case rel =>
       refine ⟨t + 1,n + (nq + m30),by omega,by go_num,?_,?_,?_,?_,?_,?_⟩
       ·rw [HR.out]
        simp only [Sha.step,HF.out,HK.out]
       ·rw [HR.out];rfl
       ·rw [HR.out];rfl
       ·rw [HR.out];rfl
       ·rw [HR.out];rfl
       ·rw [← HV2.out,World.drewN_drewN]
      case measure => simp [intOf];omega
     by_cases c40:t < 40
     ·have HF:Hid (Sha.f t bb c d = bits .xor .u32 (bits .xor .u32 bb c) d):=by show _ = _;unfold Sha.f;rw [if_neg c20,if_pos c40]
      have HK:Hid (Sha.K t = 1859775393):=by show _ = _;unfold Sha.K;rw [if_neg c20,if_pos c40]
      go_wp2_with fail
      go_quiet ((go_at_call 76;exact Calls.quiet_of (HT5 _).out))
      go_wp2_with fail
      refine (turn30 bb _).mono ?_
      rintro q w' ⟨rfl,m30,rfl⟩
      go_wp2
      go_roundw
      case rel =>
       refine ⟨t + 1,n + (nq + m30),by omega,by go_num,?_,?_,?_,?_,?_,?_⟩
       ·rw [HR.out]
        simp only [Sha.step,HF.out,HK.out]
       ·rw [HR.out];rfl
       ·rw [HR.out];rfl
       ·rw [HR.out];rfl
       ·rw [HR.out];rfl
       ·rw [← HV2.out,World.drewN_drewN]
      case measure => simp [intOf];omega
     by_cases c60:t < 60
     ·have HF:Hid (Sha.f t bb c d = bits .or .u32 (bits .or .u32 (bits .and .u32 bb c) (bits .and .u32 bb d)) (bits .and .u32 c d)):=by show _ = _;unfold Sha.f;rw [if_neg c20,if_neg c40,if_pos c60]
      have HK:Hid (Sha.K t = 2400959708):=by show _ = _;unfold Sha.K;rw [if_neg c20,if_neg c40,if_pos c60]
      go_wp2_with fail
      go_quiet ((go_at_call 76;exact Calls.quiet_of (HT5 _).out))
      go_wp2_with fail
      refine (turn30 bb _).mono ?_
      rintro q w' ⟨rfl,m30,rfl⟩
      go_wp2
      go_roundw
      case rel =>
       refine ⟨t + 1,n + (nq + m30),by omega,by go_num,?_,?_,?_,?_,?_,?_⟩
       ·rw [HR.out]
        simp only [Sha.step,HF.out,HK.out]
       ·rw [HR.out];rfl
       ·rw [HR.out];rfl
       ·rw [HR.out];rfl
       ·rw [HR.out];rfl
       ·rw [← HV2.out,World.drewN_drewN]
      case measure => simp [intOf];omega
     ·have HF:Hid (Sha.f t bb c d = bits .xor .u32 (bits .xor .u32 bb c) d):=by show _ = _;unfold Sha.f;rw [if_neg c20,if_neg c40,if_neg c60]
      have HK:Hid (Sha.K t = 3395469782):=by show _ = _;unfold Sha.K;rw [if_neg c20,if_neg c40,if_neg c60]
      go_wp2_with fail
      go_quiet ((go_at_call 76;exact Calls.quiet_of (HT5 _).out))
      go_wp2_with fail
      refine (turn30 bb _).mono ?_
      rintro q w' ⟨rfl,m30,rfl⟩
      go_wp2
      go_roundw
      case rel =>
       refine ⟨t + 1,n + (nq + m30),by omega,by go_num,?_,?_,?_,?_,?_,?_⟩
       ·rw [HR.out]
        simp only [Sha.step,HF.out,HK.out]
       ·rw [HR.out];rfl
       ·rw [HR.out];rfl
       ·rw [HR.out];rfl
       ·rw [HR.out];rfl
       ·rw [← HV2.out,World.drewN_drewN]
      case measure => simp [intOf];omega
    ·have e80:t = 80:=by omega
     have HM:Hid ((Sha.mixed l x).cells = #[.int .u32 ((x.a + (Sha.rounds l x t).a) % 4294967296),.int .u32 ((x.b + (Sha.rounds l x t).b) % 4294967296),.int .u32 ((x.c + (Sha.rounds l x t).c) % 4294967296),.int .u32 ((x.d + (Sha.rounds l x t).d) % 4294967296),.int .u32 ((x.e + (Sha.rounds l x t).e) % 4294967296)]):=by
      show _ = _;rw [e80];rfl
     have hnt:¬ (t:Int) < 80:=by omega
     clear e80
     generalize Sha.rounds l x t = y at *
     obtain ⟨mc,hmc⟩:∃ mc,(Sha.mixed l x).cells = mc:=⟨_,rfl⟩
     rw [hmc] at HM
     have HMC:Kept ((Sha.mixed l x).cells = mc):=⟨hmc⟩
     clear hmc
     have hms:mc.size = 5:=by rw [HM.out];rfl
     have HMS:=hid' hms
     clear hms
     have G:Hid (((((w.alloc (.cells #[.int .u32 x.a,.int .u32 x.b,.int .u32 x.c,.int .u32 x.d,.int .u32 x.e] 73)).alloc (.cells (zeros 5) 73)).alloc (.cells cs 135)).drewN n).heap[w.heap.size + 1]? = some (.cells (zeros 5) 73 (0,0))):=by
      show (((w.alloc (.cells #[.int .u32 x.a,.int .u32 x.b,.int .u32 x.c,.int .u32 x.d,.int .u32 x.e] 73)).alloc (.cells (zeros 5) 73)).alloc (.cells cs 135)).heap[w.heap.size + 1]? = _
      rw [Below.heap_alloc _ _ _ (by simp)];exact heap_alloc2_new _ _ _
     have I:Hid ((Tryz.prog.info? 73).map (·.size) = some mc.size):=by show _ = _;rw [HMS.out];exact zero5.2
     have H1:Hid (mc.all (·.oneCell') = true):=by show _ = _;rw [HM.out];simp [Value.oneCell']
     have HB:=hid' (below_drewN ((((Below.refl w.heap.size w).alloc (Nat.le_refl _) (.cells #[.int .u32 x.a,.int .u32 x.b,.int .u32 x.c,.int .u32 x.d,.int .u32 x.e] 73)).alloc (by simp) (.cells (zeros 5) 73)).alloc (by simp;omega) (.cells cs 135)) n)
     go_wp2_with ((with_reducible refine wpl_store (g:=w.heap.size + 1) (cells:=mc) G.out I.out ?_ H1.out ?_ ?_ ?_);(rw [zeros_size,HMS.out]);exact rfl;(rw [HM.out];exact rfl))
     refine bodyPost_ret (v:=.agg mc) (results_cell_row rfl _ _ (w.heap.size + 1) 73 mc (0,0) _ rfl (setRow_heap _ _ _ _ _ _ G.out) Tryz.underlying73 rfl I.out) rfl ?_
     exact ⟨by rw [HLQ.out,HMC.out],below_setRow HB.out (by omega)⟩
end Go.Proofs.YtmmkhodaljpjgaaGreatDoor
