import Derived.Test.YtmmkhodaljpjgaaGreatDoorW01
import Derived.Test.YtmmkhodaljpjgaaGreatDoorW03
namespace Go.Proofs.YtmmkhodaljpjgaaGreatDoor
open Go.RowKit
theorem turn1 (x : Int) (w : World) :
    Calls Tryz.prog 76 #[.int .u32 x, .int .i64 1] w fun e w' => e = .returned (.int .u32 (Sha.rol1 x)) ∧ ∃ m, w' = w.drewN m := by
  go_enter Tryz.func76, Tryz.ntmps76
  go_wp2_with fail
  go_quiet (fail)
  go_wp2
  go_ret
  exact ⟨rfl, nq, rfl⟩
theorem turn5 (x : Int) (w : World) :
    Calls Tryz.prog 76 #[.int .u32 x, .int .i64 5] w fun e w' => e = .returned (.int .u32 (Sha.rol5 x)) ∧ ∃ m, w' = w.drewN m := by
  go_enter Tryz.func76, Tryz.ntmps76
  go_wp2_with fail
  go_quiet (fail)
  go_wp2
  go_ret
  exact ⟨rfl, nq, rfl⟩
theorem turn30 (x : Int) (w : World) :
    Calls Tryz.prog 76 #[.int .u32 x, .int .i64 30] w fun e w' => e = .returned (.int .u32 (Sha.rol30 x)) ∧ ∃ m, w' = w.drewN m := by
  go_enter Tryz.func76, Tryz.ntmps76
  go_wp2_with fail
  go_quiet (fail)
  go_wp2
  go_ret
  exact ⟨rfl, nq, rfl⟩
/-- A digit from below. -/
theorem digit_at (x : Int) (h0 : 0 ≤ x) (h1 : x < 4294967296) (k : Nat) (hk : k < 8) : x * 16 ^ k % 4294967296 / 268435456 = x / 16 ^ (7 - k) % 16 := by
  match k, hk with
  | 0, _ => simp; omega
  | 1, _ => simp; omega
  | 2, _ => simp; omega
  | 3, _ => simp; omega
  | 4, _ => simp; omega
  | 5, _ => simp; omega
  | 6, _ => simp; omega
  | 7, _ => simp; omega
theorem hexs_at (x : Int) (n k : Nat) (h : k < n) : (Sha.hexs x n)[k]? = some (Sha.hexd (x * 16 ^ k % 4294967296 / 268435456)) := by
  induction n with
  | zero => omega
  | succ n ih =>
    have hl := Sha.hexs_length x n
    by_cases e : k = n
    · subst e
      simp only [Sha.hexs]
      rw [List.getElem?_append_right (by omega)]
      simp [hl]
    · simp only [Sha.hexs]
      rw [List.getElem?_append_left (by omega)]
      exact ih (by omega)
def zeros8 : Array Value := (List.replicate 8 (Value.int .u8 0)).toArray
theorem make8 : ∀ w, (Instr.makeSlice 44 (.int .i64 8) (.int .i64 8)).run Tryz.prog w = .ok (.slice (some ⟨w.heap.size, 0, none⟩) 8 8) (w.alloc (.cells zeros8 5)) := fun _ => by kernel_rfl
/-- The digits from place k on are there. -/
structure Digs (x : Int) (k : Nat) (cs : Array Value) : Prop where
  size : cs.size = 8
  at' : ∀ j, k ≤ j → j < 8 → cs[j]? = some (.int .u8 ((Sha.hexd (x / 16 ^ (7 - j) % 16)).toNat : Int))
theorem Digs.put {x : Int} {k : Nat} {cs : Array Value} (h : Digs x (k + 1) cs) (hk : k < 8) : Digs x k (cs.setIfInBounds k (.int .u8 ((Sha.hexd (x / 16 ^ (7 - k) % 16)).toNat : Int))) := by
  refine ⟨by simp [h.size], fun j h1 h2 => ?_⟩
  by_cases e : j = k
  · subst e; simp [h.size, hk]
  · rw [Array.getElem?_setIfInBounds_ne (by omega)]; exact h.at' j (by omega) h2
theorem and15 (x : Int) (h0 : 0 ≤ x) (h1 : x < 2 ^ 62) : bits .and .i64 x 15 = x % 16 := by
  have := bits_mask .i64 62 (by decide) (fun n a b => by rw [IntKind.wrap_i64]; omega) 4 (by decide) x h0 h1
  simpa using this
theorem and255 (x : Int) (h0 : 0 ≤ x) (h1 : x < 2 ^ 62) : bits .and .i64 x 255 = x % 256 := by
  have := bits_mask .i64 62 (by decide) (fun n a b => by rw [IntKind.wrap_i64]; omega) 8 (by decide) x h0 h1
  simpa using this
theorem hexd_low (d : Int) (h0 : 0 ≤ d) (h1 : d < 10) : ((Sha.hexd d).toNat : Int) = 48 + d := by
  unfold Sha.hexd; rw [if_pos h1]; simp; omega
theorem hexd_high (d : Int) (h0 : 10 ≤ d) (h1 : d < 16) : ((Sha.hexd d).toNat : Int) = 87 + d := by
  unfold Sha.hexd; rw [if_neg (by omega)]; simp; omega
set_option maxHeartbeats 1000000 in
theorem ref_hex (x : Int) (w : World) (h0 : 0 ≤ x) (h1 : x < 4294967296) :
    Calls Tryz.prog 39 #[.int .i64 x, .int .i64 8] w fun e w' => e = .returned (.string ⟨(Sha.hexs x 8).toArray⟩) ∧ Below w.heap.size w w' := by
  have mk := make8
  go_enter Tryz.func39, Tryz.ntmps39
  go_wp2
  clear mk
  go_loopw [0, 6, 7] (fun n i _ wr => ∃ (k : Nat) (cs : Array Value), k ≤ 8 ∧ i = .int .i64 ((k : Int) - 1) ∧ n = .int .i64 (x / 16 ^ (8 - k)) ∧ wr = w.alloc (.cells cs 5) ∧ Digs x k cs) (fun _ i _ _ => (intOf i + 1).toNat)
  case atStart => exact ⟨8, zeros8, by omega, rfl, by simp, rfl, ⟨by simp [zeros8], fun j a b => by omega⟩⟩
  case round =>
    obtain ⟨k, cs, hk, rfl, rfl, rfl, hd⟩ := hrel
    cases k with
    | zero =>
      have hconv := bytes_back (V := w.alloc (.cells cs 5)) (t := Sha.hexs x 8) (cs := cs) (fr := (0, 0)) (g := w.heap.size) (cap := 8) (n := 8) (heap_alloc_new _ _) ⟨by simp [hd.size, Sha.hexs_length], fun j hj => by
        rw [hd.at' j (by omega) (by simpa [Sha.hexs_length] using hj)]
        have h8 : j < 8 := by simpa [Sha.hexs_length] using hj
        have := hexs_at x 8 j h8
        rw [List.getElem?_eq_getElem hj] at this
        rw [Option.some.inj this, digit_at x h0 h1 j h8]⟩ (by simp [Sha.hexs_length]) 0
      have HC : (convert 44 9 (.slice (some ⟨w.heap.size, 0, none⟩) 8 8)).run Tryz.prog (w.alloc (.cells cs 5)) = .ok (.string ⟨(Sha.hexs x 8).toArray⟩) (w.alloc (.cells cs 5)) := hconv
      clear hconv hd
      go_wp2
      go_ret
      exact ⟨rfl, (Below.refl _ _).alloc (Nat.le_refl _) _⟩
    | succ k =>
      have HPUT := hid' (hd.put (by omega))
      obtain ⟨v0, hv0⟩ : ∃ v, cs[k]? = some v := ⟨_, Array.getElem?_eq_getElem (by have := hd.size; omega)⟩
      have e7 : 8 - (k + 1) = 7 - k := by omega
      have HN : Hid (x / 16 ^ (7 - k) / 16 = x / 16 ^ (8 - k)) := by
        show _ = _
        rw [Int.ediv_ediv_of_nonneg (Int.le_of_lt (Int.pow_pos (by omega))), ← Int.pow_succ, show (7 - k).succ = 8 - k from by omega]
      rw [e7]
      have y0 : 0 ≤ x / 16 ^ (7 - k) := Int.ediv_nonneg h0 (Int.le_of_lt (Int.pow_pos (by omega)))
      have y1 : x / 16 ^ (7 - k) ≤ x := Int.ediv_le_self _ h0
      generalize x / 16 ^ (7 - k) = y at *
      have hand := and15 y y0 (by omega)
      generalize hdg : y % 16 = dg at *
      have d0 : 0 ≤ dg := by omega
      have d1 : dg < 16 := by omega
      clear hdg hd e7
      by_cases hlo : dg < 10
      · have HV := hid' (hexd_low dg d0 hlo)
        go_wp2
        refine ⟨⟨k, _, by omega, rfl, by rw [HN.out], ?_, HPUT.out⟩, by simp [intOf]⟩
        rw [HV.out]
      · have HV := hid' (hexd_high dg (by omega) d1)
        go_wp2
        refine ⟨⟨k, _, by omega, rfl, by rw [HN.out], ?_, HPUT.out⟩, by simp [intOf]⟩
        rw [HV.out]
        congr 4
        omega
end Go.Proofs.YtmmkhodaljpjgaaGreatDoor
