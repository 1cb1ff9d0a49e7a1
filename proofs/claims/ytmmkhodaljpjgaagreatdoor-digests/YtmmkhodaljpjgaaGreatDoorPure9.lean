import Derived.Test.YtmmkhodaljpjgaaGreatDoorRefOf
import Derived.Test.YtmmkhodaljpjgaaGreatDoorStep2
namespace Go.Proofs.YtmmkhodaljpjgaaGreatDoor
open Go.RowKit

set_option maxRecDepth 100000 in
set_option maxHeartbeats 1000000 in
theorem pure_digest {X : Xs} (B bW n : Nat) (o : Op) (w : World) (ho : o.Ok) (hn : n ≤ 100000) (hI : Inv X B bW n w) (hT : Table w) (hk : o.kind = 9) :
    Calls Tryz.prog 17 #[.pointer (some ⟨bW, 0, none⟩), .agg #[.int .i64 o.kind, .int .i64 o.x, .int .i64 o.a, .int .i64 o.b, .int .i64 o.c, .int .i64 o.d, .string o.s]] w fun e w' => e = .returned (.bool true) ∧ Below w.heap.size w w' := by
  have hTx := text_any B bW n o.a (w.alloc (.cells #[.int .i64 o.kind, .int .i64 o.x, .int .i64 o.a, .int .i64 o.b, .int .i64 o.c, .int .i64 o.d, .string o.s] 27)) ho.a hn (inv_alloc hI _)
  have HTx := hid' hTx
  have HT := hid' hT
  clear hTx ho hI hT
  obtain ⟨k, x, a, b, c, d, s⟩ := o
  simp only at *
  subst hk
  have HB0 := hid' ((Below.refl w.heap.size w).alloc (Nat.le_refl _) (.cells #[.int .i64 9, .int .i64 x, .int .i64 a, .int .i64 b, .int .i64 c, .int .i64 d, .string s] 27))
  go_enter Tryz.func17, Tryz.ntmps17
  go_wp2_with fail
  refine HTx.out.mono ?_
  rintro e w1 ⟨t, m, rfl, hts, hw1⟩
  have hb1 : Below w.heap.size w w1 := by rw [hw1]; exact below_drewN HB0.out m
  have HB1 := hid' hb1
  have HT1 := hid' (HT.out.below hb1)
  clear hw1 hb1 HTx
  go_wp2_with fail
  refine (digest_any t w1 (by omega) HT1.out).mono ?_
  rintro e w2 ⟨rfl, hb2⟩
  have HB2 := hid' (HB1.out.trans (hb2.mono HB1.out.size))
  clear hb2
  go_wp2_with fail
  refine (ref_of t w2 (by omega)).mono ?_
  rintro e w3 ⟨rfl, hb3⟩
  have HB3 := hid' (HB2.out.trans (hb3.mono HB2.out.size))
  clear hb3
  generalize ByteArray.mk (Sha.digest t).toArray = D
  go_wp2
  go_ret
  exact ⟨rfl, HB3.out⟩

theorem does_digest {X : Xs} (w : World) (hT : Table w) (o : Op) (hk : o.kind = 9) (hok : o.Ok) (B n : Nat) (wr : World) (hB : w.heap.size ≤ B) (hn : n ≤ 100000) (hb : Below w.heap.size w wr) : Does X B B n o wr := by
  refine does_pure (.inr (by omega)) (by omega) ?_
  intro w1 hI hB1 hb1
  refine (pure_digest B B n o w1 hok hn hI (hT.below (hb.trans (hb1.mono hB))) hk).mono ?_
  rintro e w' ⟨rfl, hbb⟩
  exact ⟨rfl, (hI.below hbb).up (Nat.le_succ _), Keep.below hbb, hbb.mono hB1⟩

end Go.Proofs.YtmmkhodaljpjgaaGreatDoor
