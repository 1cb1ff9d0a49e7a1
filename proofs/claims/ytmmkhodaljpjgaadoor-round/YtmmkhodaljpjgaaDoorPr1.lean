import Derived.Test.YtmmkhodaljpjgaaDoorPrM
import Derived.Test.YtmmkhodaljpjgaaDoorItoa
import Derived.Test.YtmmkhodaljpjgaaDoorOf
import Derived.Test.YtmmkhodaljpjgaaDoorTable2
/-! Package file: hashLine, Print. -/
namespace Go.Proofs.YtmmkhodaljpjgaaDoor
open Go.RowKit

set_option maxRecDepth 100000 in
theorem hash_line (h : ByteArray) (w : World) (hs : h.size = 40) :
    Calls Tryd.prog 22 #[.string h] w fun e w' => e = .returned (.string (Txt.hl h)) ∧ w' = w := by
  have H : Hid (Txt.hl h = Txt.hlTo h 5 ++ ⟨#[10]⟩) := rfl
  go_enter Tryd.func22, Tryd.ntmps22
  go_wp2
  go_loop [3, 4] (fun l i => ∃ k : Nat, k ≤ 5 ∧ i = .int .i64 ((k * 8 : Nat) : Int) ∧ l = .string (Txt.hlTo h k)) (fun _ i => 40 - (intOf i).toNat)
  case atStart => exact ⟨0, by omega, rfl, rfl⟩
  case round =>
    obtain ⟨k, hk, rfl, rfl⟩ := hrel
    have hz := Txt.hlTo_size h k
    by_cases hlt : k < 5
    · obtain ⟨b, hb⟩ : ∃ b, k * 8 = b := ⟨_, rfl⟩
      have HK : Hid (Txt.hlTo h (k + 1) = Txt.hlTo h k ++ (⟨#[32]⟩ ++ h.extract b (b + 8))) := by show _ = _; rw [Txt.hlTo, hb]
      rw [hb]
      have HB := hid' hb
      have hb8 : b + 8 ≤ 40 := by omega
      have hx : (h.extract b (b + 8)).size ≤ 8 := by rw [ByteArray.size_extract]; omega
      clear hb
      generalize Txt.hlTo h k = l at *
      go_wp2
      exact ⟨⟨k + 1, by omega, by have := HB.out; go_num; try omega, by rw [HK.out]⟩, by simp [intOf]; omega⟩
    · have ek : k = 5 := by omega
      subst ek
      generalize Txt.hlTo h 5 = l at *
      go_wp2
      go_ret
      exact ⟨ret_str H.out.symm, rfl⟩

end Go.Proofs.YtmmkhodaljpjgaaDoor
