import Derived.Test.YtmmkhodaljpjgaaGreatDoorV39
import Derived.Deep.RegionHeld3
import Derived.Deep.Cut
import Derived.Deep.CutBlock
import Derived.Deep.QuietTactic
import Derived.BigQuiet
import Derived.Deep.CutRange
namespace Go.Proofs.YtmmkhodaljpjgaaGreatDoor
open Go.RowKit
theorem first_bits' (li:Int) (p:ByteArray) (l0:0 < p.size) (hl:li = 0 ∨ li = 1 ∨ li = 2 ∨ li = 3):bits BinOp.or IntKind.u8 (bits BinOp.or IntKind.u8 (li * 64) (((p[0]'l0).toNat:Int) / 8 % 8 * 8)) 4 = ((first8 li p).toNat:Int):=by
 rw [first_or' _ _ hl]
 unfold first8
 rw [byteOf_val,Txt.byte_at p 0 l0]
 have:=(p[0]'l0).toNat_lt
 omega
theorem mk_app (a b:List UInt8):ByteArray.mk (a ++ b).toArray = ByteArray.mk a.toArray ++ ByteArray.mk b.toArray:=by
 apply ByteArray.ext
 simp
set_option maxRecDepth 100000 in
set_option maxHeartbeats 3200000 in
theorem p_ans (p:ByteArray) (li ts tf:Int) (tab:Bool) (w:World) (hz:48 ≤ p.size) (hz2:p.size ≤ 300) (hl:li = 0 ∨ li = 1 ∨ li = 2 ∨ li = 3) :
  Calls Tryz.prog 145 #[.string p,.int .i64 li,.bool tab,.agg #[.int .i64 ts,.int .i64 tf]] w fun e w' => e = .returned (.string (ansB li p tab ts tf)) ∧ Below w.heap.size w w':=by
 have l0:0 < p.size:=by omega
 have l2:2 < p.size:=by omega
 have FO:=first_bits' li p l0 hl
 have PV:=hid' (fun W => p_version (p[0]'l0) W)
 obtain ⟨Fi,hF⟩:∃ Fi:Int,((first8 li p).toNat:Int) = Fi:=⟨_,rfl⟩
 rw [hF] at FO
 have fb:0 ≤ Fi ∧ Fi < 256:=by have:=(first8 li p).toNat_lt;omega
 have h2:byteOf (Txt.byte p 2) = p[2]'l2:=by
  rw [Txt.byte_at p 2 l2]
  unfold byteOf
  have:=(p[2]'l2).toNat_lt
  rw [Int.emod_eq_of_lt (by omega) (by omega)]
  simp
 have HR:Hid (ansB li p tab ts tf = ByteArray.mk #[first8 li p,if tab then 1 else 0,p[2]'l2,236,0,0,0,0,0,0,0,0] ++ (if tab then ByteArray.mk #[76,69,65,80] else ByteArray.mk #[73,78,73,84]) ++ ⟨(four ts ++ four tf).toArray⟩ ++ p.extract 40 48 ++ ⟨(four ts ++ four tf).toArray⟩ ++ ⟨(four ts ++ four tf).toArray⟩):=by
  show ansB _ _ _ _ _ = _
  unfold ansB;rw [h2]
 have B0:=hid' ((Below.refl w.heap.size w).alloc (Nat.le_refl _) (.cells #[.int .i64 ts,.int .i64 tf] 98))
 have R0:=hid' (heap_alloc_new w (.cells #[.int .i64 ts,.int .i64 tf] 98))
 have i2:(2:Int) < (p.size:Int):=by omega
 have i48:(48:Int) ≤ (p.size:Int):=by omega
 have i40:(40:Int) ≤ (p.size:Int):=by omega
 have z1:¬ (p.size:Int) < 48:=by omega
 have hlb:0 ≤ li ∧ li ≤ 3:=by omega
 have vb:0 ≤ ((p[0]'l0).toNat:Int) / 8 % 8 ∧ ((p[0]'l0).toNat:Int) / 8 % 8 < 8:=by omega
 generalize ((p[0]'l0).toNat:Int) / 8 % 8 = ve at *
 have bb2:=(p[2]'l2).toNat_lt
 have SA:Hid (ByteArray.mk (four ts ++ four tf).toArray = ByteArray.mk (four ts).toArray ++ ByteArray.mk (four tf).toArray):=mk_app _ _
 rw [SA.out] at HR
 have P1:=hid' (fun W => p_four ts W)
 have P2:=hid' (fun W => p_four tf W)
 have za:(ByteArray.mk (four ts).toArray).size = 4:=rfl
 have zb:(ByteArray.mk (four tf).toArray).size = 4:=rfl
 generalize ByteArray.mk (four ts).toArray = a4 at *
 generalize ByteArray.mk (four tf).toArray = b4 at *
 have ze:(p.extract 40 48).size = 8:=by rw [ByteArray.size_extract];omega
 have sV:(w.alloc (.cells #[.int .i64 ts,.int .i64 tf] 98)).heap.size = w.heap.size + 1:=by simp
 clear h2 hl SA
 cases tab with
 | false =>
  have TW:=four_back (w.alloc (.cells #[.int .i64 ts,.int .i64 tf] 98)) (first8 li p) 0 (p[2]'l2) 236 Fi 0 ((p[2]'l2).toNat:Int) 236 hF.symm rfl rfl rfl
  rw [sV] at TW
  have BV:=hid' (B0.out.alloc B0.out.size (.cells #[.int .u8 Fi,.int .u8 0,.int .u8 ((p[2]'l2).toNat:Int),.int .u8 236] 5))
  have RV:=hid' ((((Below.refl _ (w.alloc (.cells #[.int .i64 ts,.int .i64 tf] 98))).alloc (Nat.le_refl _) (.cells #[.int .u8 Fi,.int .u8 0,.int .u8 ((p[2]'l2).toNat:Int),.int .u8 236] 5)).block _ (lt_of_heap R0.out)).trans R0.out)
  clear sV B0 R0
  go_enter Tryz.func145,Tryz.ntmps145
  go_wp2_with (go_at_call 179;refine (PV.out _).mono ?_;rintro e w1 ⟨rfl,rfl⟩)
  clear TW FO PV
  obtain ⟨V,hV⟩:∃ V,(w.alloc (.cells #[.int .i64 ts,.int .i64 tf] 98)).alloc (.cells #[.int .u8 Fi,.int .u8 0,.int .u8 ((p[2]'l2).toNat:Int),.int .u8 236] 5) = V:=⟨_,rfl⟩
  rw [hV] at BV RV
  rw [hV]
  clear hV
  have y0:=cell_of_row _ _ 0 _ _ _ RV.out
  have y1:=cell_of_row _ _ 1 _ _ _ RV.out
  simp at y0 y1
  have lV:=lt_of_heap RV.out
  go_region_held3 (fun w' => w'.cell? ⟨w.heap.size,0,none⟩ = some (.int .i64 ts) ∧ w'.cell? ⟨w.heap.size,1,none⟩ = some (.int .i64 tf)) (first | go_keep | assumption)
   (first
    | (go_at_call_of 181 (Value.int .i64 ts);refine (P1.out _).mono ?_;rintro e w8 ⟨rfl,hb8⟩;have HB8:=hid' hb8;have m0:=hb8.cell (p:=⟨w.heap.size,0,none⟩) lV;have m1:=hb8.cell (p:=⟨w.heap.size,1,none⟩) lV;have lV8:=Nat.lt_of_lt_of_le lV hb8.size;clear hb8)
    | (go_at_call_of 181 (Value.int .i64 tf);refine (P2.out _).mono ?_;rintro e w9 ⟨rfl,hb9⟩;have HB9:=hid' hb9;have m2:=hb9.cell (p:=⟨w.heap.size,0,none⟩) lV8;have m3:=hb9.cell (p:=⟨w.heap.size,1,none⟩) lV8;clear hb9))
  all_goals
   go_wp2
   go_ret
   exact ⟨by rw [HR.out];rfl,(BV.out.drew.trans (HB8.out.mono BV.out.drew.size)).trans (HB9.out.mono (Nat.le_of_lt lV8))⟩
 | true =>
  have TW:=four_back (w.alloc (.cells #[.int .i64 ts,.int .i64 tf] 98)) (first8 li p) 1 (p[2]'l2) 236 Fi 1 ((p[2]'l2).toNat:Int) 236 hF.symm rfl rfl rfl
  rw [sV] at TW
  have BV:=hid' (B0.out.alloc B0.out.size (.cells #[.int .u8 Fi,.int .u8 1,.int .u8 ((p[2]'l2).toNat:Int),.int .u8 236] 5))
  have RV:=hid' ((((Below.refl _ (w.alloc (.cells #[.int .i64 ts,.int .i64 tf] 98))).alloc (Nat.le_refl _) (.cells #[.int .u8 Fi,.int .u8 1,.int .u8 ((p[2]'l2).toNat:Int),.int .u8 236] 5)).block _ (lt_of_heap R0.out)).trans R0.out)
  clear sV B0 R0
  go_enter Tryz.func145,Tryz.ntmps145
  go_wp2_with (go_at_call 179;refine (PV.out _).mono ?_;rintro e w1 ⟨rfl,rfl⟩)
  clear TW FO PV
  obtain ⟨V,hV⟩:∃ V,(w.alloc (.cells #[.int .i64 ts,.int .i64 tf] 98)).alloc (.cells #[.int .u8 Fi,.int .u8 1,.int .u8 ((p[2]'l2).toNat:Int),.int .u8 236] 5) = V:=⟨_,rfl⟩
  rw [hV] at BV RV
  rw [hV]
  clear hV
  have y0:=cell_of_row _ _ 0 _ _ _ RV.out
  have y1:=cell_of_row _ _ 1 _ _ _ RV.out
  simp at y0 y1
  have lV:=lt_of_heap RV.out
  go_region_held3 (fun w' => w'.cell? ⟨w.heap.size,0,none⟩ = some (.int .i64 ts) ∧ w'.cell? ⟨w.heap.size,1,none⟩ = some (.int .i64 tf)) (first | go_keep | assumption)
   (first
    | (go_at_call_of 181 (Value.int .i64 ts);refine (P1.out _).mono ?_;rintro e w8 ⟨rfl,hb8⟩;have HB8:=hid' hb8;have m0:=hb8.cell (p:=⟨w.heap.size,0,none⟩) lV;have m1:=hb8.cell (p:=⟨w.heap.size,1,none⟩) lV;have lV8:=Nat.lt_of_lt_of_le lV hb8.size;clear hb8)
    | (go_at_call_of 181 (Value.int .i64 tf);refine (P2.out _).mono ?_;rintro e w9 ⟨rfl,hb9⟩;have HB9:=hid' hb9;have m2:=hb9.cell (p:=⟨w.heap.size,0,none⟩) lV8;have m3:=hb9.cell (p:=⟨w.heap.size,1,none⟩) lV8;clear hb9))
  all_goals
   go_wp2
   go_ret
   exact ⟨by rw [HR.out];rfl,(BV.out.drew.trans (HB8.out.mono BV.out.drew.size)).trans (HB9.out.mono (Nat.le_of_lt lV8))⟩
set_option maxRecDepth 100000 in
set_option maxHeartbeats 3200000 in
theorem srv_answer_no (b:Nat) (p:ByteArray) (w:World) (hs:p.size ≤ 1000000) (ha:Txt.asks p = false) :
  Calls Tryz.prog 102 #[.pointer (some ⟨b,0,none⟩),.string p] w fun e w' => e = .returned (.tuple #[.string ⟨#[]⟩,.int .i64 14]) ∧ Below w.heap.size w w':=by
 have HA:=p_clients p w hs
 rw [ha] at HA
 have HA:=hid' HA
 go_enter Tryz.func102,Tryz.ntmps102
 go_wp2_with fail
 refine HA.out.mono ?_
 rintro e w1 ⟨rfl,b1⟩
 have B1:=hid' b1
 clear b1 HA
 go_wp2
 go_ret2
 exact ⟨rfl,B1.out⟩
set_option maxRecDepth 100000 in
set_option maxHeartbeats 3200000 in
theorem srv_answer_yes (b:Nat) (p:ByteArray) (ts tf li er:Int) (w:World) (hs:p.size ≤ 1000000) (ha:Txt.asks p = true) (hN:∀ W,Below w.heap.size w W → Tells 91 b ts tf li er W) (hl:li = 0 ∨ li = 1 ∨ li = 2 ∨ li = 3) :
  Calls Tryz.prog 102 #[.pointer (some ⟨b,0,none⟩),.string p] w fun e w' => e = .returned (.tuple #[.string (ansB li p (er == 0) ts tf),.int .i64 0]) ∧ Below w.heap.size w w':=by
 have HA:=p_clients p w hs
 rw [ha] at HA
 have HA:=hid' HA
 have hz:48 ≤ p.size ∧ p.size ≤ 300:=by
  have h:=ha
  unfold Txt.asks at h
  simp only [Bool.and_eq_true,decide_eq_true_eq] at h
  exact ⟨h.1.1.1.1.1,h.1.1.1.1.2⟩
 have PA:=hid' (fun W => p_ans p li ts tf (er == 0) W hz.1 hz.2 hl)
 have HN:=hid' hN
 clear hN ha hz hl
 generalize ansB li p (er == 0) ts tf = res at *
 go_enter Tryz.func102,Tryz.ntmps102
 go_wp2_with fail
 refine HA.out.mono ?_
 rintro e w1 ⟨rfl,b1⟩
 have B1:=hid' b1
 clear b1 HA
 go_wp2_with fail
 refine Calls.mono (HN.out _ B1.out) ?_
 rintro e w2 ⟨rfl,b2⟩
 have a2:=(Below.refl w2.heap.size w2).alloc (Nat.le_refl _) (.cells #[.int .i64 ts,.int .i64 tf] 98)
 have B2:=hid' (B1.out.trans ((b2.trans (a2.mono b2.size)).mono B1.out.size))
 have T2:=hid' (heap_alloc_new w2 (.cells #[.int .i64 ts,.int .i64 tf] 98))
 clear b2 a2 HN
 go_wp2_with fail
 refine (PA.out _).mono ?_
 rintro e w3 ⟨rfl,b3⟩
 have B3:=hid' (B2.out.trans (b3.mono B2.out.size))
 clear b3 PA
 go_wp2
 go_ret2
 exact ⟨rfl,B3.out⟩
theorem p_answer_no (b:Nat) (p:ByteArray) (s:Sv) (F:Nat → Prop) (w:World) (h:PS b s F w) (hs:p.size ≤ 1000000) (ha:Txt.asks p = false):Ans 57 b p ⟨#[]⟩ 14 w:=by
 obtain ⟨dv,cv,op,bs,bf,r,o,_⟩:=h
 have SA:=hid' (srv_answer_no b p w hs ha)
 clear o ha
 unfold Ans
 go_enter Tryz.func57,Tryz.ntmps57
 go_wp2_with fail
 refine SA.out.mono ?_
 rintro e w1 ⟨rfl,hb1⟩
 have B1:=hid' hb1
 clear hb1 SA
 go_wp2
 go_ret2
 exact ⟨rfl,B1.out⟩
theorem p_answer_yes (b:Nat) (p:ByteArray) (s:Sv) (F:Nat → Prop) (ts tf li er:Int) (w:World) (h:PS b s F w) (hI:s.Inv) (hT:s.Told ts tf li er) (hs:p.size ≤ 1000000) (ha:Txt.asks p = true) (hl:li = 0 ∨ li = 1 ∨ li = 2 ∨ li = 3):Ans 57 b p (ansB li p (er == 0) ts tf) 0 w:=by
 obtain ⟨dv,cv,op,bs,bf,r,o,_⟩:=h
 have SA:=hid' (srv_answer_yes b p ts tf li er w hs ha (fun W hb => srv_now b s dv cv op bs bf ts tf li er W (r.below hb) o hI hT) hl)
 clear o hI hT ha hl
 unfold Ans
 generalize ansB li p (er == 0) ts tf = res at *
 go_enter Tryz.func57,Tryz.ntmps57
 go_wp2_with fail
 refine SA.out.mono ?_
 rintro e w1 ⟨rfl,hb1⟩
 have B1:=hid' hb1
 clear hb1 SA
 go_wp2
 go_ret2
 exact ⟨rfl,B1.out⟩
set_option maxRecDepth 100000 in
set_option maxHeartbeats 1000000 in
theorem ref_asks (p:ByteArray) (w:World) (hs:p.size ≤ 1000000) :
  Calls Tryz.prog 103 #[.string p] w fun e w' => e = .returned (.bool (Txt.asks p)) ∧ Below w.heap.size w w':=by
 have HA:Hid (Txt.asks p = (decide (48 ≤ p.size) && decide (p.size ≤ 300) && decide (Txt.byte p 0 % 8 = 3) && decide (1 ≤ Txt.byte p 0 / 8 % 8) && decide (Txt.byte p 0 / 8 % 8 ≤ 4) && Txt.exts p 48)):=rfl
 generalize Txt.asks p = res at *
 by_cases c1:p.size < 48
 ·have z1:(p.size:Int) < 48:=by omega
  have z3:decide ((p.size:Int) < 48) = true:=decide_eq_true z1
  have e:Hid (res = false):=by show _ = _;rw [HA.out,decide_eq_false (by omega:¬ 48 ≤ p.size)];rfl
  clear HA
  go_enter Tryz.func103,Tryz.ntmps103
  go_wp2
  go_ret
  exact ⟨ret_bool e.out.symm,Below.refl _ _⟩
 have z1:¬ (p.size:Int) < 48:=by omega
 have z3:decide ((p.size:Int) < 48) = false:=decide_eq_false z1
 by_cases c2:300 < p.size
 ·have z2:(300:Int) < (p.size:Int):=by omega
  have z4:decide ((300:Int) < (p.size:Int)) = true:=decide_eq_true z2
  have e:Hid (res = false):=by show _ = _;rw [HA.out,decide_eq_false (by omega:¬ p.size ≤ 300)];simp
  clear HA
  go_enter Tryz.func103,Tryz.ntmps103
  go_wp2
  go_ret
  exact ⟨ret_bool e.out.symm,Below.refl _ _⟩
 have z2:¬ (300:Int) < (p.size:Int):=by omega
 have z4:decide ((300:Int) < (p.size:Int)) = false:=decide_eq_false z2
 have l0:0 < p.size:=by omega
 have e1:=Txt.low3 (p[0]'l0)
 have e2:=Txt.mid3 (p[0]'l0)
 rw [← Txt.byte_at p 0 l0] at e1 e2
 have bb:=Txt.byte_bd p 0
 rw [decide_eq_true (by omega:48 ≤ p.size),decide_eq_true (by omega:p.size ≤ 300)] at HA
 simp only [Bool.true_and] at HA
 obtain ⟨mo,hmo⟩:∃ mo,Txt.byte p 0 % 8 = mo:=⟨_,rfl⟩
 obtain ⟨ve,hve⟩:∃ ve,Txt.byte p 0 / 8 % 8 = ve:=⟨_,rfl⟩
 rw [hmo] at e1 HA
 rw [hve] at e2 HA
 rw [Txt.byte_at p 0 l0] at e1 e2
 have vb:0 ≤ ve ∧ ve < 8:=by omega
 clear hmo hve bb
 by_cases c3:mo = 3
 case neg =>
  have n3:(mo != 3) = true:=bne_iff_ne.2 c3
  have e:Hid (res = false):=by show _ = _;rw [HA.out,decide_eq_false c3];rfl
  clear HA
  go_enter Tryz.func103,Tryz.ntmps103
  go_wp2
  go_ret
  exact ⟨ret_bool e.out.symm,Below.refl _ _⟩
 subst c3
 by_cases c4:ve < 1
 ·have d4:decide (ve < 1) = true:=decide_eq_true c4
  have e:Hid (res = false):=by show _ = _;rw [HA.out,decide_eq_false (by omega:¬ 1 ≤ ve)];simp
  clear HA
  go_enter Tryz.func103,Tryz.ntmps103
  go_wp2
  go_ret
  exact ⟨ret_bool e.out.symm,Below.refl _ _⟩
 have d4:decide (ve < 1) = false:=decide_eq_false c4
 by_cases c5:4 < ve
 ·have d5:decide (4 < ve) = true:=decide_eq_true c5
  have e:Hid (res = false):=by show _ = _;rw [HA.out,decide_eq_false (by omega:¬ ve ≤ 4)];simp
  clear HA
  go_enter Tryz.func103,Tryz.ntmps103
  go_wp2
  go_ret
  exact ⟨ret_bool e.out.symm,Below.refl _ _⟩
 have d5:decide (4 < ve) = false:=decide_eq_false c5
 have HE:Hid (res = Txt.exts p 48):=by show _ = _;rw [HA.out,decide_eq_true (by omega:1 ≤ ve),decide_eq_true (by omega:ve ≤ 4)];rfl
 clear HA
 go_enter Tryz.func103,Tryz.ntmps103
 go_wp2_with fail
 go_loopw [4,5] (fun iv _ wr => ∃ i:Nat,48 ≤ i ∧ i ≤ p.size ∧ iv = .int .i64 i ∧ res = Txt.exts p i ∧ Below w.heap.size w wr) (fun iv _ _ => p.size - (intOf iv).toNat)
 case atStart => exact ⟨48,by omega,by omega,rfl,HE.out,Below.refl _ _⟩
 case round =>
  obtain ⟨i,hi,hi2,rfl,hx,hb⟩:=hrel
  have HX:=hid' hx
  have HB:=hid' hb
  clear hx hb HE
  by_cases d1:i < p.size
  ·have y1:(i:Int) < (p.size:Int):=by omega
   by_cases d2:p.size < i + 16
   ·have y2:(p.size:Int) - (i:Int) < 16:=by omega
    have e:Hid (res = false):=by show _ = _;rw [HX.out,Txt.exts_short d1 d2]
    clear HX
    go_wp2
    go_ret
    exact ⟨ret_bool e.out.symm,HB.out⟩
   ·have y2:¬ (p.size:Int) - (i:Int) < 16:=by omega
    obtain ⟨j2,hj2⟩:∃ j2,i + 2 = j2:=⟨_,rfl⟩
    obtain ⟨j3,hj3⟩:∃ j3,i + 3 = j3:=⟨_,rfl⟩
    have l2:j2 < p.size:=by omega
    have l3:j3 < p.size:=by omega
    have r2:IntKind.i64.wrap ((i:Int) + 2) = (j2:Int):=by rw [IntKind.wrap_i64];omega
    have r3:IntKind.i64.wrap ((i:Int) + 3) = (j3:Int):=by rw [IntKind.wrap_i64];omega
    have w0:(0:Int) ≤ (j2:Int):=by omega
    have w1:(j2:Int) < (p.size:Int):=by omega
    have w2:(0:Int) ≤ (j3:Int):=by omega
    have w3:(j3:Int) < (p.size:Int):=by omega
    have FI:Txt.field p i = (p[j2].toNat:Int) * 256 + (p[j3].toNat:Int):=by
     rw [← Txt.byte_at p j2 l2,← Txt.byte_at p j3 l3,← hj2,← hj3];rfl
    have o8:=Txt.or8 p[j2] p[j3]
    rw [← FI] at o8
    have fb:=Txt.field_bd p i
    have XB:=hid' (Txt.exts_bad d1 d2)
    have XN:=hid' (Txt.exts_next d1 d2)
    generalize Txt.field p i = n at *
    have HJ:=hid' (And.intro hj2 hj3)
    clear FI hj2 hj3
    by_cases f1:n < 16
    ·have g1:decide (n < 16) = true:=decide_eq_true f1
     have e:Hid (res = false):=by show _ = _;rw [HX.out,XB.out (.inl f1)]
     clear HX XB XN
     go_wp2_with fail
     go_quiet (fail)
     go_wp2
     go_ret
     exact ⟨ret_bool e.out.symm,below_drewN HB.out _⟩
    have g1:decide (n < 16) = false:=decide_eq_false f1
    by_cases f2:n % 4 = 0
    case neg =>
     have g2:(n % 4 != 0) = true:=bne_iff_ne.2 f2
     have e:Hid (res = false):=by show _ = _;rw [HX.out,XB.out (.inr (.inl f2))]
     clear HX XB XN
     go_wp2_with fail
     go_quiet (fail)
     go_wp2
     go_ret
     exact ⟨ret_bool e.out.symm,below_drewN HB.out _⟩
    have g2:(n % 4 != 0) = false:=by rw [bne_eq_false_iff_eq];exact f2
    by_cases f3:(p.size:Int) - i < n
    ·have g3:decide ((p.size:Int) - i < n) = true:=decide_eq_true f3
     have e:Hid (res = false):=by show _ = _;rw [HX.out,XB.out (.inr (.inr f3))]
     clear HX XB XN
     go_wp2_with fail
     go_quiet (fail)
     go_wp2
     go_ret
     exact ⟨ret_bool e.out.symm,below_drewN HB.out _⟩
    have g3:decide ((p.size:Int) - i < n) = false:=decide_eq_false f3
    have HX2:Hid (res = Txt.exts p (i + n.toNat)):=by show _ = _;rw [HX.out,XN.out (by omega)]
    clear HX XB XN
    go_wp2_with fail
    go_quiet (fail)
    go_wp2
    go_roundw
    case rel => exact ⟨i + n.toNat,by omega,by omega,by (have e:(i:Int) + n = ((i + n.toNat:Nat):Int):=by omega);rw [e],HX2.out,below_drewN HB.out _⟩
    case measure => simp [intOf];omega
  ·have y1:¬ (i:Int) < (p.size:Int):=by omega
   have e:Hid (res = true):=by show _ = _;rw [HX.out,Txt.exts_end (by omega)]
   clear HX
   go_wp2
   go_ret
   exact ⟨ret_bool e.out.symm,HB.out⟩
namespace Txt
end Txt
set_option maxRecDepth 100000 in
theorem ref_digits (n:Nat) (hn:n ≤ 1000000000000) (w:World) :
  Calls Tryz.prog 81 #[.int .i64 n] w fun e w' => e = .returned (.string ⟨(Txt.dec n).toArray⟩) ∧ Below w.heap.size w w':=by
 induction n using Nat.strongRecOn generalizing w with
 | _ n ih =>
  by_cases h:9 < n
  ·have H:Hid (ByteArray.mk (Txt.dec (n / 10)).toArray ++ ByteArray.mk (Txt.dec (n % 10)).toArray = ByteArray.mk (Txt.dec n).toArray):=by
    show _ = _;rw [Txt.dec_high n h];congr 1
   obtain ⟨a,ha⟩:∃ a:Nat,n / 10 = a:=⟨_,rfl⟩
   obtain ⟨c,hc⟩:∃ c:Nat,n % 10 = c:=⟨_,rfl⟩
   have I1:=hid' (fun w => ih a (by omega) (by omega) w)
   have I2:=hid' (fun w => ih c (by omega) (by omega) w)
   have q:(n:Int) / 10 = (a:Int):=by omega
   have r:(n:Int) % 10 = (c:Int):=by omega
   have ba:a ≤ 1000000000000:=by omega
   have bc:c < 10:=by omega
   rw [ha,hc] at H
   have l1:=Txt.dec_len a
   have l2:=Txt.dec_len c
   have s1:(ByteArray.mk (Txt.dec a).toArray).size ≤ a + 1:=by simpa [ByteArray.size] using l1
   have s2:(ByteArray.mk (Txt.dec c).toArray).size ≤ c + 1:=by simpa [ByteArray.size] using l2
   clear ih l1 l2 ha hc
   generalize ByteArray.mk (Txt.dec a).toArray = A at *
   generalize ByteArray.mk (Txt.dec c).toArray = C at *
   go_enter Tryz.func81,Tryz.ntmps81
   go_wp2_with fail
   refine (I1.out w).mono ?_
   rintro e w1 ⟨rfl,hb1⟩
   have HB1:=hid' hb1
   clear hb1
   go_wp2_with fail
   refine (I2.out w1).mono ?_
   rintro e w2 ⟨rfl,hb2⟩
   have HB2:=hid' hb2
   clear hb2
   go_wp2
   go_ret
   exact ⟨ret_str H.out,HB1.out.trans (HB2.out.mono HB1.out.size)⟩
  ·have H:Hid (Txt.dec n = [UInt8.ofNat (48 + n)]):=Txt.dec_low n h
   have hu:((UInt8.ofNat (48 + n)).toNat:Int) = 48 + n:=by simp;omega
   generalize UInt8.ofNat (48 + n) = c at *
   have hconv:=bytes_back (V:=w.alloc (.cells #[.int .u8 (48 + n)] 5)) (t:=[c]) (cs:=#[.int .u8 (48 + n)]) (fr:=(0,0)) (g:=w.heap.size) (cap:=1) (n:=1) (heap_alloc_new _ _) ⟨by simp,fun j hj => by
    have:j = 0:=by simpa using hj
    subst this
    simp [hu]⟩ (by simp) 0
   have HC:(convert 44 9 (.slice (some ⟨w.heap.size,0,none⟩) 1 1)).run Tryz.prog (w.alloc (.cells #[.int .u8 (48 + n)] 5)) = .ok (.string ⟨[c].toArray⟩) (w.alloc (.cells #[.int .u8 (48 + n)] 5)):=hconv
   clear hconv hu ih
   go_enter Tryz.func81,Tryz.ntmps81
   go_wp2
   go_ret
   exact ⟨ret_str (by rw [H.out]),(Below.refl _ _).alloc (Nat.le_refl _) _⟩
set_option maxRecDepth 100000 in
set_option maxHeartbeats 3200000 in
theorem ref_stamp (s f:Int) (w:World) (s0:0 ≤ s) (s1:s ≤ 1000000000000) (f0:0 ≤ f) (f1:f ≤ 1000000000000) :
  Calls Tryz.prog 104 #[.agg #[.int .i64 s,.int .i64 f]] w fun e w' => e = .returned (.string ⟨(four s ++ four f).toArray⟩) ∧ Below w.heap.size w w':=by
 obtain ⟨i0,hi0,hz0,hz1,hz2⟩:=info_parts infoByte
 have R0:=hid' (heap_alloc_new w (.cells #[.int .i64 s,.int .i64 f] 35))
 have B0:=hid' ((Below.refl w.heap.size w).alloc (Nat.le_refl _) (.cells #[.int .i64 s,.int .i64 f] 35))
 have p24:=low8 (s / 16777216) (by omega) (by omega)
 have p16:=low8 (s / 65536) (by omega) (by omega)
 have p8:=low8 (s / 256) (by omega) (by omega)
 have p0:=low8 s (by omega) (by omega)
 have q24:=low8 (f / 16777216) (by omega) (by omega)
 have q16:=low8 (f / 65536) (by omega) (by omega)
 have q8:=low8 (f / 256) (by omega) (by omega)
 have q0:=low8 f (by omega) (by omega)
 go_enter Tryz.func104,Tryz.ntmps104
 go_wp2
 go_loopw [3,4] (fun v sv wr => ∃ (k:Nat) (sh:Int),sv = .int .i64 sh ∧ ((k = 0 ∧ sh = 24) ∨ (k = 1 ∧ sh = 16) ∨ (k = 2 ∧ sh = 8) ∨ (k = 3 ∧ sh = 0) ∨ (k = 4 ∧ sh = -8)) ∧ wr.ownsRow w.heap.size 5 1 v k (cells8 ((four s).take k)) ∧ wr.heap[w.heap.size]? = some (.cells #[.int .i64 s,.int .i64 f] 35 (0,0)) ∧ Below w.heap.size w wr) (fun _ sv _ => (intOf sv + 8).toNat)
 case atStart => exact ⟨0,24,rfl,by omega,World.ownsRow_nil _ _ _ _,R0.out,B0.out⟩
 case round =>
  obtain ⟨k,sh,rfl,hks,own,row,hb⟩:=hrel
  have ROW:=hid' row
  have HB:=hid' hb
  have c0:=cell_of_row _ _ 0 _ _ _ row
  simp at c0
  have hsz:=hb.size
  have hlt:=lt_of_heap row
  obtain ⟨va,vcp,hv⟩:=own_slice own
  subst hv
  have OWN:=hid' own
  rcases hks with ⟨rfl,rfl⟩ | ⟨rfl,rfl⟩ | ⟨rfl,rfl⟩ | ⟨rfl,rfl⟩ | ⟨rfl,rfl⟩
  ·have HQ:=hid' (byteOf_val (s / 16777216))
   have qb:0 ≤ (s / 16777216) % 256 ∧ (s / 16777216) % 256 < 256:=by omega
   have lw:=p24
   obtain ⟨q,hq⟩:∃ q,(s / 16777216) % 256 = q:=⟨_,rfl⟩
   rw [hq] at HQ qb lw
   clear own row hb hq p24 p16 p8 p0 q24 q16 q8 q0
   go_wp2_with (at_builtin;refine wpList_append_own _ (by rfl) (.tmp 10) (.tmp 17) 44 (by rfl) w.heap.size 5 i0 (.int .u8 0) 1 1 Tryz.underlying44 hi0 hz0 hz1 hz2 rfl (by decide) (.slice va 0 vcp) 0 _ (by rfl) (OWN.out.alloc _) ⟨wr.heap.size,0,none⟩ 1 1 [.int .u8 q] (by rfl) (by rfl) (World.news_of_block (cs:=#[.int .u8 q]) (t:=5) (fr:=(0,0)) (heap_alloc_new wr _)) (by simp [Value.oneCell']) (by unfold maxLen;omega) (by omega) (by simp <;> omega) ?_;intro v3 w3 own3 hg3 hn3;have OWN3:=hid' own3;have HG3:=hid' hg3;clear own3 hg3 hn3)
   go_roundw
   case rel =>
    refine ⟨1,16,rfl,by omega,?_,?_,(HB.out.alloc hsz _).grown HG3.out (by simp;omega) (own_ge OWN.out)⟩
    ·have o:=OWN3.out
     rw [← HQ.out] at o
     exact o
    ·exact grown_heap HG3.out (OWN.out.alloc _) ((Keep.refl _ wr).alloc _ _ _ _ ROW.out) (by decide)
   case measure => simp [intOf]
  ·have HQ:=hid' (byteOf_val (s / 65536))
   have qb:0 ≤ (s / 65536) % 256 ∧ (s / 65536) % 256 < 256:=by omega
   have lw:=p16
   obtain ⟨q,hq⟩:∃ q,(s / 65536) % 256 = q:=⟨_,rfl⟩
   rw [hq] at HQ qb lw
   clear own row hb hq p24 p16 p8 p0 q24 q16 q8 q0
   go_wp2_with (at_builtin;refine wpList_append_own _ (by rfl) (.tmp 10) (.tmp 17) 44 (by rfl) w.heap.size 5 i0 (.int .u8 0) 1 1 Tryz.underlying44 hi0 hz0 hz1 hz2 rfl (by decide) (.slice va 1 vcp) 1 _ (by rfl) (OWN.out.alloc _) ⟨wr.heap.size,0,none⟩ 1 1 [.int .u8 q] (by rfl) (by rfl) (World.news_of_block (cs:=#[.int .u8 q]) (t:=5) (fr:=(0,0)) (heap_alloc_new wr _)) (by simp [Value.oneCell']) (by unfold maxLen;omega) (by omega) (by simp <;> omega) ?_;intro v3 w3 own3 hg3 hn3;have OWN3:=hid' own3;have HG3:=hid' hg3;clear own3 hg3 hn3)
   go_roundw
   case rel =>
    refine ⟨2,8,rfl,by omega,?_,?_,(HB.out.alloc hsz _).grown HG3.out (by simp;omega) (own_ge OWN.out)⟩
    ·have o:=OWN3.out
     rw [← HQ.out] at o
     exact o
    ·exact grown_heap HG3.out (OWN.out.alloc _) ((Keep.refl _ wr).alloc _ _ _ _ ROW.out) (by decide)
   case measure => simp [intOf]
  ·have HQ:=hid' (byteOf_val (s / 256))
   have qb:0 ≤ (s / 256) % 256 ∧ (s / 256) % 256 < 256:=by omega
   have lw:=p8
   obtain ⟨q,hq⟩:∃ q,(s / 256) % 256 = q:=⟨_,rfl⟩
   rw [hq] at HQ qb lw
   clear own row hb hq p24 p16 p8 p0 q24 q16 q8 q0
   go_wp2_with (at_builtin;refine wpList_append_own _ (by rfl) (.tmp 10) (.tmp 17) 44 (by rfl) w.heap.size 5 i0 (.int .u8 0) 1 1 Tryz.underlying44 hi0 hz0 hz1 hz2 rfl (by decide) (.slice va 2 vcp) 2 _ (by rfl) (OWN.out.alloc _) ⟨wr.heap.size,0,none⟩ 1 1 [.int .u8 q] (by rfl) (by rfl) (World.news_of_block (cs:=#[.int .u8 q]) (t:=5) (fr:=(0,0)) (heap_alloc_new wr _)) (by simp [Value.oneCell']) (by unfold maxLen;omega) (by omega) (by simp <;> omega) ?_;intro v3 w3 own3 hg3 hn3;have OWN3:=hid' own3;have HG3:=hid' hg3;clear own3 hg3 hn3)
   go_roundw
   case rel =>
    refine ⟨3,0,rfl,by omega,?_,?_,(HB.out.alloc hsz _).grown HG3.out (by simp;omega) (own_ge OWN.out)⟩
    ·have o:=OWN3.out
     rw [← HQ.out] at o
     exact o
    ·exact grown_heap HG3.out (OWN.out.alloc _) ((Keep.refl _ wr).alloc _ _ _ _ ROW.out) (by decide)
   case measure => simp [intOf]
  ·have HQ:=hid' (byteOf_val s)
   have qb:0 ≤ s % 256 ∧ s % 256 < 256:=by omega
   have lw:=p0
   obtain ⟨q,hq⟩:∃ q,s % 256 = q:=⟨_,rfl⟩
   rw [hq] at HQ qb lw
   clear own row hb hq p24 p16 p8 p0 q24 q16 q8 q0
   go_wp2_with (at_builtin;refine wpList_append_own _ (by rfl) (.tmp 10) (.tmp 17) 44 (by rfl) w.heap.size 5 i0 (.int .u8 0) 1 1 Tryz.underlying44 hi0 hz0 hz1 hz2 rfl (by decide) (.slice va 3 vcp) 3 _ (by rfl) (OWN.out.alloc _) ⟨wr.heap.size,0,none⟩ 1 1 [.int .u8 q] (by rfl) (by rfl) (World.news_of_block (cs:=#[.int .u8 q]) (t:=5) (fr:=(0,0)) (heap_alloc_new wr _)) (by simp [Value.oneCell']) (by unfold maxLen;omega) (by omega) (by simp <;> omega) ?_;intro v3 w3 own3 hg3 hn3;have OWN3:=hid' own3;have HG3:=hid' hg3;clear own3 hg3 hn3)
   go_roundw
   case rel =>
    refine ⟨4,-8,rfl,by omega,?_,?_,(HB.out.alloc hsz _).grown HG3.out (by simp;omega) (own_ge OWN.out)⟩
    ·have o:=OWN3.out
     rw [← HQ.out] at o
     exact o
    ·exact grown_heap HG3.out (OWN.out.alloc _) ((Keep.refl _ wr).alloc _ _ _ _ ROW.out) (by decide)
   case measure => simp [intOf]
  ·clear own row hb c0
   go_wp2
   go_loopw [3,5] (fun v sv wr => ∃ (k:Nat) (sh:Int),sv = .int .i64 sh ∧ ((k = 0 ∧ sh = 24) ∨ (k = 1 ∧ sh = 16) ∨ (k = 2 ∧ sh = 8) ∨ (k = 3 ∧ sh = 0) ∨ (k = 4 ∧ sh = -8)) ∧ wr.ownsRow w.heap.size 5 1 v (4 + k) (cells8 (four s ++ (four f).take k)) ∧ wr.heap[w.heap.size]? = some (.cells #[.int .i64 s,.int .i64 f] 35 (0,0)) ∧ Below w.heap.size w wr) (fun _ sv _ => (intOf sv + 8).toNat)
   case atStart => exact ⟨0,24,rfl,by omega,OWN.out,ROW.out,HB.out⟩
   case round =>
    clear OWN ROW HB hsz hlt
    rename World => wr2
    obtain ⟨k,sh,rfl,hks,own,row,hb⟩:=hrel
    have ROW:=hid' row
    have HB:=hid' hb
    have c0:=cell_of_row _ _ 1 _ _ _ row
    simp at c0
    have hsz:=hb.size
    have hlt:=lt_of_heap row
    obtain ⟨va,vcp,hv⟩:=own_slice own
    subst hv
    have OWN:=hid' own
    rcases hks with ⟨rfl,rfl⟩ | ⟨rfl,rfl⟩ | ⟨rfl,rfl⟩ | ⟨rfl,rfl⟩ | ⟨rfl,rfl⟩
    ·have HQ:=hid' (byteOf_val (f / 16777216))
     have qb:0 ≤ (f / 16777216) % 256 ∧ (f / 16777216) % 256 < 256:=by omega
     have lw:=q24
     obtain ⟨q,hq⟩:∃ q,(f / 16777216) % 256 = q:=⟨_,rfl⟩
     rw [hq] at HQ qb lw
     clear own row hb hq p24 p16 p8 p0 q24 q16 q8 q0
     go_wp2_with (at_builtin;refine wpList_append_own _ (by rfl) (.tmp 23) (.tmp 30) 44 (by rfl) w.heap.size 5 i0 (.int .u8 0) 1 1 Tryz.underlying44 hi0 hz0 hz1 hz2 rfl (by decide) (.slice va 4 vcp) 4 _ (by rfl) (OWN.out.alloc _) ⟨wr2.heap.size,0,none⟩ 1 1 [.int .u8 q] (by rfl) (by rfl) (World.news_of_block (cs:=#[.int .u8 q]) (t:=5) (fr:=(0,0)) (heap_alloc_new wr2 _)) (by simp [Value.oneCell']) (by unfold maxLen;omega) (by omega) (by simp <;> omega) ?_;intro v3 w3 own3 hg3 hn3;have OWN3:=hid' own3;have HG3:=hid' hg3;clear own3 hg3 hn3)
     go_roundw
     case rel =>
      refine ⟨1,16,rfl,by omega,?_,?_,(HB.out.alloc hsz _).grown HG3.out (by simp;omega) (own_ge OWN.out)⟩
      ·have o:=OWN3.out
       rw [← HQ.out] at o
       exact o
      ·exact grown_heap HG3.out (OWN.out.alloc _) ((Keep.refl _ wr2).alloc _ _ _ _ ROW.out) (by decide)
     case measure => simp [intOf]
    ·have HQ:=hid' (byteOf_val (f / 65536))
     have qb:0 ≤ (f / 65536) % 256 ∧ (f / 65536) % 256 < 256:=by omega
     have lw:=q16
     obtain ⟨q,hq⟩:∃ q,(f / 65536) % 256 = q:=⟨_,rfl⟩
     rw [hq] at HQ qb lw
     clear own row hb hq p24 p16 p8 p0 q24 q16 q8 q0
     go_wp2_with (at_builtin;refine wpList_append_own _ (by rfl) (.tmp 23) (.tmp 30) 44 (by rfl) w.heap.size 5 i0 (.int .u8 0) 1 1 Tryz.underlying44 hi0 hz0 hz1 hz2 rfl (by decide) (.slice va 5 vcp) 5 _ (by rfl) (OWN.out.alloc _) ⟨wr2.heap.size,0,none⟩ 1 1 [.int .u8 q] (by rfl) (by rfl) (World.news_of_block (cs:=#[.int .u8 q]) (t:=5) (fr:=(0,0)) (heap_alloc_new wr2 _)) (by simp [Value.oneCell']) (by unfold maxLen;omega) (by omega) (by simp <;> omega) ?_;intro v3 w3 own3 hg3 hn3;have OWN3:=hid' own3;have HG3:=hid' hg3;clear own3 hg3 hn3)
     go_roundw
     case rel =>
      refine ⟨2,8,rfl,by omega,?_,?_,(HB.out.alloc hsz _).grown HG3.out (by simp;omega) (own_ge OWN.out)⟩
      ·have o:=OWN3.out
       rw [← HQ.out] at o
       exact o
      ·exact grown_heap HG3.out (OWN.out.alloc _) ((Keep.refl _ wr2).alloc _ _ _ _ ROW.out) (by decide)
     case measure => simp [intOf]
    ·have HQ:=hid' (byteOf_val (f / 256))
     have qb:0 ≤ (f / 256) % 256 ∧ (f / 256) % 256 < 256:=by omega
     have lw:=q8
     obtain ⟨q,hq⟩:∃ q,(f / 256) % 256 = q:=⟨_,rfl⟩
     rw [hq] at HQ qb lw
     clear own row hb hq p24 p16 p8 p0 q24 q16 q8 q0
     go_wp2_with (at_builtin;refine wpList_append_own _ (by rfl) (.tmp 23) (.tmp 30) 44 (by rfl) w.heap.size 5 i0 (.int .u8 0) 1 1 Tryz.underlying44 hi0 hz0 hz1 hz2 rfl (by decide) (.slice va 6 vcp) 6 _ (by rfl) (OWN.out.alloc _) ⟨wr2.heap.size,0,none⟩ 1 1 [.int .u8 q] (by rfl) (by rfl) (World.news_of_block (cs:=#[.int .u8 q]) (t:=5) (fr:=(0,0)) (heap_alloc_new wr2 _)) (by simp [Value.oneCell']) (by unfold maxLen;omega) (by omega) (by simp <;> omega) ?_;intro v3 w3 own3 hg3 hn3;have OWN3:=hid' own3;have HG3:=hid' hg3;clear own3 hg3 hn3)
     go_roundw
     case rel =>
      refine ⟨3,0,rfl,by omega,?_,?_,(HB.out.alloc hsz _).grown HG3.out (by simp;omega) (own_ge OWN.out)⟩
      ·have o:=OWN3.out
       rw [← HQ.out] at o
       exact o
      ·exact grown_heap HG3.out (OWN.out.alloc _) ((Keep.refl _ wr2).alloc _ _ _ _ ROW.out) (by decide)
     case measure => simp [intOf]
    ·have HQ:=hid' (byteOf_val f)
     have qb:0 ≤ f % 256 ∧ f % 256 < 256:=by omega
     have lw:=q0
     obtain ⟨q,hq⟩:∃ q,f % 256 = q:=⟨_,rfl⟩
     rw [hq] at HQ qb lw
     clear own row hb hq p24 p16 p8 p0 q24 q16 q8 q0
     go_wp2_with (at_builtin;refine wpList_append_own _ (by rfl) (.tmp 23) (.tmp 30) 44 (by rfl) w.heap.size 5 i0 (.int .u8 0) 1 1 Tryz.underlying44 hi0 hz0 hz1 hz2 rfl (by decide) (.slice va 7 vcp) 7 _ (by rfl) (OWN.out.alloc _) ⟨wr2.heap.size,0,none⟩ 1 1 [.int .u8 q] (by rfl) (by rfl) (World.news_of_block (cs:=#[.int .u8 q]) (t:=5) (fr:=(0,0)) (heap_alloc_new wr2 _)) (by simp [Value.oneCell']) (by unfold maxLen;omega) (by omega) (by simp <;> omega) ?_;intro v3 w3 own3 hg3 hn3;have OWN3:=hid' own3;have HG3:=hid' hg3;clear own3 hg3 hn3)
     go_roundw
     case rel =>
      refine ⟨4,-8,rfl,by omega,?_,?_,(HB.out.alloc hsz _).grown HG3.out (by simp;omega) (own_ge OWN.out)⟩
      ·have o:=OWN3.out
       rw [← HQ.out] at o
       exact o
      ·exact grown_heap HG3.out (OWN.out.alloc _) ((Keep.refl _ wr2).alloc _ _ _ _ ROW.out) (by decide)
     case measure => simp [intOf]
    ·obtain ⟨g8,cap8,hg8⟩:=own_some own (by omega)
     obtain ⟨rfl,_,rfl⟩:=Value.slice.inj hg8
     have cv:=conv_back own rfl
     clear own row hb c0 hg8
     go_wp2
     go_ret
     exact ⟨rfl,HB.out⟩
end Go.Proofs.YtmmkhodaljpjgaaGreatDoor
