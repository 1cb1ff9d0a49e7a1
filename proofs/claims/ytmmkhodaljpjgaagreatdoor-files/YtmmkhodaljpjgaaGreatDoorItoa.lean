import Derived.Test.YtmmkhodaljpjgaaGreatDoorTxtM
import Derived.Shelf.Strconv.Itoa3
import Derived.Shelf.Lay
import Derived.Ground.NamesProg
import Derived.Lib.AppendIntMem
/-! strconv.Itoa, by the shelf's contract. -/
namespace Go.Proofs
open Go.Shelf

shelf_lay LaysM.n171 Nm 171 at Tryz as Tryz.laysItoa

end Go.Proofs

namespace Go.Proofs.YtmmkhodaljpjgaaGreatDoor
open Go.RowKit

/-- The powers of ten, as they were laid. -/
def Pows (w : World) : Prop := Lib.TabIs Tryz.prog w "internal/strconv.uint64pow10" .u64 Lib.pow10Tab
theorem Pows.below {w w' : World} (h : Pows w) (hb : Below w.heap.size w w') : Pows w' := Lib.tabBelow_of_tabIs h w' hb

theorem dec_itoa (n : Nat) : Lib.decDigits n = Txt.dec n := by
  induction n using Nat.strongRecOn with
  | _ n ih =>
    rw [Lib.decDigits]
    by_cases h : n < 10
    · rw [dif_pos h, Txt.dec_low n (by omega)]
    · rw [dif_neg h, Txt.dec_up n (by omega), ih (n / 10) (by omega)]

theorem itoa_any (n : Nat) (w : World) (hn : n ≤ 1000000000000) (hP : Pows w) :
    Calls Tryz.prog 128 #[.int .i64 n] w fun e w' => e = .returned (.string ⟨(Txt.dec n).toArray⟩) ∧ Below w.heap.size w w' := by
  refine (Any.strconv_Itoa Tryz.laysItoa (n : Int) (by omega) (by omega) w hP).mono ?_
  rintro e w' ⟨rfl, k, os, rfl⟩
  refine ⟨?_, ?_⟩
  · have : Lib.itoa (n : Int) = Txt.dec n := by
      unfold Lib.itoa
      rw [if_neg (by omega), Int.toNat_natCast, dec_itoa]
    rw [this]
  · exact (below_drewN (Below.refl w.heap.size w) k).trans ⟨rfl, rfl, rfl, by simp, fun j hj => Sort.heap_grow_old _ _ hj⟩

end Go.Proofs.YtmmkhodaljpjgaaGreatDoor
