import Derived.Test.YtmmkhodaljpjgaaDoorRows
import Derived.Test.YtmmkhodaljpjgaaDoorOf
import Derived.Test.YtmmkhodaljpjgaaDoorEval
import Derived.Test.YtmmkhodaljpjgaaDoorTie
import Derived.Test.YtmmkhodaljpjgaaDoorCards
import Derived.WalkKit
import Derived.ProofKit
import Derived.LaidMore
import Derived.OpenShut
import Derived.Stop.Joined
import Derived.SevenTiedAt
namespace Go.Proofs.YtmmkhodaljpjgaaDoor.known
open Go.ChangeShapes Go.WideShapes Go.ChangeAt Go.RowKit
set_option linter.unusedVariables false

theorem neg_part (c n : Int) (h : c < 0) (h1 : 1 ≤ n) : 0 ≤ -((c + 1).tmod n) ∧ -((c + 1).tmod n) < n := by
  rw [← Int.neg_tmod]
  exact ⟨Int.tmod_nonneg _ (by omega), Int.tmod_lt_of_pos _ (by omega)⟩

theorem pick_any (c : Int) (n : Int) (w : World) (w0 : (Lit.int .i64 c).wf = true) (h1 : 1 ≤ n) (h2 : n ≤ 1000000) :
    Calls Tryd.prog 5 #[.int .i64 c, .int .i64 n] w fun e w' => (∃ r : Int, e = .returned (.int .i64 r) ∧ 0 ≤ r ∧ r < n) ∧ w' = w := by
  have hb := bounds_i64 w0
  clear w0
  by_cases hc : c < 0
  · go_enter Tryd.func5, Tryd.ntmps5
    go_wp2
    go_ret
    exact ⟨⟨_, rfl, (neg_part c n hc h1).1, (neg_part c n hc h1).2⟩, rfl⟩
  · go_enter Tryd.func5, Tryd.ntmps5
    go_wp2
    go_ret
    exact ⟨⟨_, rfl, Int.emod_nonneg _ (by omega), Int.emod_lt_of_pos _ (by omega)⟩, rfl⟩

theorem dig0 (w : World) (hT : Table w) :
    Calls Tryd.prog 6 #[.string ⟨#[]⟩] w fun q w' => q = .returned (.string ⟨#[100, 97, 51, 57, 97, 51, 101, 101, 53, 101, 54, 98, 52, 98, 48, 100, 51, 50, 53, 53, 98, 102, 101, 102, 57, 53, 54, 48, 49, 56, 57, 48, 97, 102, 100, 56, 48, 55, 48, 57]⟩) ∧ Below w.heap.size w w' := by
  have h := digest_any ⟨text0.toArray⟩ w (by decide) hT
  rw [eval0] at h
  exact h

theorem dig1 (w : World) (hT : Table w) :
    Calls Tryd.prog 6 #[.string ⟨#[97, 98, 99]⟩] w fun q w' => q = .returned (.string ⟨#[97, 57, 57, 57, 51, 101, 51, 54, 52, 55, 48, 54, 56, 49, 54, 97, 98, 97, 51, 101, 50, 53, 55, 49, 55, 56, 53, 48, 99, 50, 54, 99, 57, 99, 100, 48, 100, 56, 57, 100]⟩) ∧ Below w.heap.size w w' := by
  have h := digest_any ⟨text1.toArray⟩ w (by decide) hT
  rw [eval1] at h
  exact h

theorem dig2 (w : World) (hT : Table w) :
    Calls Tryd.prog 6 #[.string ⟨#[97, 98, 99, 100, 98, 99, 100, 101, 99, 100, 101, 102, 100, 101, 102, 103, 101, 102, 103, 104, 102, 103, 104, 105, 103, 104, 105, 106, 104, 105, 106, 107, 105, 106, 107, 108, 106, 107, 108, 109, 107, 108, 109, 110, 108, 109, 110, 111, 109, 110, 111, 112, 110, 111, 112, 113]⟩] w fun q w' => q = .returned (.string ⟨#[56, 52, 57, 56, 51, 101, 52, 52, 49, 99, 51, 98, 100, 50, 54, 101, 98, 97, 97, 101, 52, 97, 97, 49, 102, 57, 53, 49, 50, 57, 101, 53, 101, 53, 52, 54, 55, 48, 102, 49]⟩) ∧ Below w.heap.size w w' := by
  have h := digest_any ⟨text2.toArray⟩ w (by decide) hT
  rw [eval2] at h
  exact h

theorem dig3 (w : World) (hT : Table w) :
    Calls Tryd.prog 6 #[.string ⟨#[84, 104, 101, 32, 113, 117, 105, 99, 107, 32, 98, 114, 111, 119, 110, 32, 102, 111, 120, 32, 106, 117, 109, 112, 115, 32, 111, 118, 101, 114, 32, 116, 104, 101, 32, 108, 97, 122, 121, 32, 100, 111, 103]⟩] w fun q w' => q = .returned (.string ⟨#[50, 102, 100, 52, 101, 49, 99, 54, 55, 97, 50, 100, 50, 56, 102, 99, 101, 100, 56, 52, 57, 101, 101, 49, 98, 98, 55, 54, 101, 55, 51, 57, 49, 98, 57, 51, 101, 98, 49, 50]⟩) ∧ Below w.heap.size w w' := by
  have h := digest_any ⟨text3.toArray⟩ w (by decide) hT
  rw [eval3] at h
  exact h

theorem dig4 (w : World) (hT : Table w) :
    Calls Tryd.prog 6 #[.string ⟨text4.toArray⟩] w fun q w' => q = .returned (.string ⟨#[100, 101, 97, 51, 53, 54, 97, 50, 99, 100, 100, 100, 57, 48, 99, 55, 97, 55, 101, 99, 101, 100, 99, 53, 101, 98, 98, 53, 54, 51, 57, 51, 52, 102, 52, 54, 48, 52, 53, 50]⟩) ∧ Below w.heap.size w w' := by
  have h := digest_any ⟨text4.toArray⟩ w (by rw [text4_size]; omega) hT
  rw [eval4] at h
  exact h

theorem walk (a0 : Int) (w0 : (Lit.int .i64 a0).wf = true) (w : World) (hT : Table w) :
    Calls Tryd.prog 3 #[.int .i64 a0] w fun e w' => e = .returned (.bool true) ∧ Below w.heap.size w w' := by
  have HT := hid hT
  clear hT
  go_enter Tryd.func3, Tryd.ntmps3
  go_wp2_with fail
  refine (pick_any a0 5 _ w0 (by omega) (by omega)).mono ?_
  rintro e w' ⟨⟨r, rfl, hr0, hr1⟩, rfl⟩
  clear w0
  have hcase : r = 0 ∨ r = 1 ∨ r = 2 ∨ r = 3 ∨ r = 4 := by omega
  rcases hcase with rfl | rfl | rfl | rfl | rfl
  · go_wp2_with fail
    refine (dig0 _ HT.out).mono ?_
    rintro q w1 ⟨rfl, hb⟩
    go_wp2
    go_ret
    exact ⟨rfl, hb⟩
  · go_wp2_with fail
    refine (dig1 _ HT.out).mono ?_
    rintro q w1 ⟨rfl, hb⟩
    go_wp2
    go_ret
    exact ⟨rfl, hb⟩
  · go_wp2_with fail
    refine (dig2 _ HT.out).mono ?_
    rintro q w1 ⟨rfl, hb⟩
    go_wp2
    go_ret
    exact ⟨rfl, hb⟩
  · go_wp2_with fail
    refine (dig3 _ HT.out).mono ?_
    rintro q w1 ⟨rfl, hb⟩
    go_wp2
    go_ret
    exact ⟨rfl, hb⟩
  · go_wp2_with fail
    go_loop [3, 4] (fun s i => ∃ k : Nat, k ≤ 8 ∧ i = .int .i64 k ∧ s = .string ⟨(chunks k).toArray⟩) (fun _ i => 8 - (intOf i).toNat)
    case atStart => exact ⟨0, by omega, rfl, rfl⟩
    case round =>
      obtain ⟨k, hk, rfl, rfl⟩ := hrel
      by_cases hlt : k < 8
      · have hl : (ByteArray.mk (chunks k).toArray).size = 32 * k := by simpa [ByteArray.size] using chunks_length k
        have HE : Hid (ByteArray.mk (chunks k).toArray ++ ByteArray.mk chunk.toArray = ByteArray.mk (chunks (k + 1)).toArray) := by show _ = _; congr 1
        generalize ByteArray.mk (chunks k).toArray = l at *
        go_wp2
        exact ⟨⟨k + 1, by omega, by go_num, by rw [← HE.out]; rfl⟩, by simp [intOf]; omega⟩
      · have e8 : k = 8 := by omega
        subst e8
        have hl : (ByteArray.mk (chunks 8).toArray).size = 256 := by simpa [ByteArray.size] using chunks_length 8
        have HJ := hid text4_join
        have HD := fun w h => hid (dig4 w h)
        generalize ByteArray.mk (chunks 8).toArray = l at *
        generalize ByteArray.mk text4.toArray = tx at *
        go_wp2_with fail
        rw [HJ.out]
        refine (HD _ HT.out).out.mono ?_
        rintro q w1 ⟨rfl, hb⟩
        go_wp2
        go_ret
        exact ⟨rfl, hb⟩

end Go.Proofs.YtmmkhodaljpjgaaDoor.known
