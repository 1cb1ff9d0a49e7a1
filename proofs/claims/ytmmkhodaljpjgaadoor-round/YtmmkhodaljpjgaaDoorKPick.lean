import Derived.Test.YtmmkhodaljpjgaaDoorMem
/-! Which of n things a raw number speaks of; a list of ints that was handed in. -/
namespace Go.Proofs.YtmmkhodaljpjgaaDoor
open Go.RowKit

theorem keep_neg (c n : Int) (h : c < 0) (h1 : 1 ≤ n) : 0 ≤ -((c + 1).tmod n) ∧ -((c + 1).tmod n) < n := by
  rw [← Int.neg_tmod]
  exact ⟨Int.tmod_nonneg _ (by omega), Int.tmod_lt_of_pos _ (by omega)⟩

/-- What pick answers. -/
def kpick (c n : Int) : Int := if c < 0 then -((c + 1).tmod n) else c % n
theorem kpick_bd (c n : Int) (h1 : 1 ≤ n) : 0 ≤ kpick c n ∧ kpick c n < n := by
  unfold kpick
  split
  · rename_i h; exact keep_neg c n h h1
  · exact ⟨Int.emod_nonneg _ (by omega), Int.emod_lt_of_pos _ (by omega)⟩

theorem keep_pick (c : Int) (n : Int) (w : World) (w0 : (Lit.int .i64 c).wf = true) (h1 : 1 ≤ n) (h2 : n ≤ 2000000000000) :
    Calls Tryd.prog 5 #[.int .i64 c, .int .i64 n] w fun e w' => e = .returned (.int .i64 (kpick c n)) ∧ w' = w := by
  have hb := bounds_i64 w0
  clear w0
  by_cases hc : c < 0
  · have H : Hid (kpick c n = -((c + 1).tmod n)) := by show _ = _; unfold kpick; rw [if_pos hc]
    go_enter Tryd.func5, Tryd.ntmps5
    go_wp2
    go_ret
    exact ⟨ret_int H.out.symm, rfl⟩
  · have H : Hid (kpick c n = c % n) := by show _ = _; unfold kpick; rw [if_neg hc]
    go_enter Tryd.func5, Tryd.ntmps5
    go_wp2
    go_ret
    exact ⟨ret_int H.out.symm, rfl⟩

/-- A list of ints that was handed in. -/
structure Ints (w : World) (lo : Option Addr) (L : Nat) : Prop where
  some : 0 < L → ∃ b off, lo = .some ⟨b, off, none⟩ ∧ b < w.heap.size ∧ ∀ k, k < L → ∃ x : Int, w.cell? ⟨b, off + k, none⟩ = .some (.int .i64 x) ∧ (Lit.int .i64 x).wf = true

end Go.Proofs.YtmmkhodaljpjgaaDoor
