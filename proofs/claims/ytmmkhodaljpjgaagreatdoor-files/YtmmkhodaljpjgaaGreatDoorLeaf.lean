import Derived.Test.YtmmkhodaljpjgaaGreatDoorChecked
import Derived.Test.YtmmkhodaljpjgaaGreatDoorSha
import Derived.WalkKit
import Derived.WalkSpells
import Derived.WalkLawsBesides
import Derived.Below
import Derived.Outline
namespace Go.Proofs.YtmmkhodaljpjgaaGreatDoor
open Go.RowKit

theorem ret_u32 {k : IntKind} {a b : Int} (h : a = b) : Ending.returned (.int k a) = .returned (.int k b) := by rw [h]
theorem ret_str {a b : ByteArray} (h : a = b) : Ending.returned (.string a) = .returned (.string b) := by rw [h]

theorem getD_bytes (s : ByteArray) (n : Nat) (h : n < s.size) : s.data.toList.getD n 0 = s[n] := by
  have h' : n < s.data.toList.length := by simpa using h
  rw [List.getD_eq_getElem?_getD, List.getElem?_eq_getElem h']
  rfl

theorem byte_any (s : ByteArray) (i e : Int) (w : World) (h0 : 0 ≤ i) (h1 : i ≤ 2000000000) (h2 : 0 ≤ e) (h3 : e ≤ 2000000000) (hs : s.size ≤ 1000000000) :
    Calls Tryz.prog 158 #[.string s, .int .i64 i, .int .i64 e] w fun q w' => q = .returned (.int .u32 (Sha.pbyte s i e)) ∧ w' = w := by
  by_cases c1 : i < s.size
  · have H : Hid (Sha.pbyte s i e = (s[i.toNat]'(by omega)).toNat % 4294967296) := by
      show _ = _
      unfold Sha.pbyte; rw [if_pos c1, getD_bytes s i.toNat (by omega)]
      have := (s[i.toNat]'(by omega)).toNat_lt; omega
    go_enter Tryz.func158, Tryz.ntmps158
    go_wp2
    go_ret
    exact ⟨ret_u32 H.out.symm, rfl⟩
  · by_cases c2 : i = s.size
    · have H : Hid (Sha.pbyte s i e = 128) := by show _ = _; unfold Sha.pbyte; rw [if_neg c1, if_pos c2]
      have c2' : (i == (s.size : Int)) = true := by rw [beq_iff_eq]; exact c2
      clear c2
      go_enter Tryz.func158, Tryz.ntmps158
      go_wp2
      go_ret
      exact ⟨ret_u32 H.out.symm, rfl⟩
    · have c2' : (i == (s.size : Int)) = false := by rw [beq_eq_false_iff_ne]; exact c2
      by_cases c3 : 0 ≤ e - 1 - i
      · by_cases c4 : e - 1 - i < 8
        · have H : Hid (Sha.pbyte s i e = (s.size : Int) * 8 / 2 ^ (8 * (e - 1 - i)).toNat % 256) := by show _ = _; unfold Sha.pbyte; rw [if_neg c1, if_neg c2, if_pos ⟨c3, c4⟩]
          have hx0 : 0 ≤ (s.size : Int) * 8 / 2 ^ (8 * (e - 1 - i)).toNat := Int.ediv_nonneg (by omega) (Int.le_of_lt (Int.pow_pos (by omega)))
          have hx1 : (s.size : Int) * 8 / 2 ^ (8 * (e - 1 - i)).toNat ≤ (s.size : Int) * 8 := Int.ediv_le_self _ (by omega)
          have HX : Hid (bits .and .u64 ((s.size : Int) * 8 / 2 ^ (8 * (e - 1 - i)).toNat) 255 % 4294967296 = (s.size : Int) * 8 / 2 ^ (8 * (e - 1 - i)).toNat % 256) := Sha.and_byte _ hx0 (by omega)
          clear hx0 hx1 c2
          go_enter Tryz.func158, Tryz.ntmps158
          go_wp2
          go_ret
          exact ⟨ret_u32 (HX.out.trans H.out.symm), rfl⟩
        · have H : Hid (Sha.pbyte s i e = 0) := by show _ = _; unfold Sha.pbyte; rw [if_neg c1, if_neg c2, if_neg (by omega)]
          clear c2
          go_enter Tryz.func158, Tryz.ntmps158
          go_wp2
          go_ret
          exact ⟨ret_u32 H.out.symm, rfl⟩
      · have H : Hid (Sha.pbyte s i e = 0) := by show _ = _; unfold Sha.pbyte; rw [if_neg c1, if_neg c2, if_neg (by omega)]
        clear c2
        go_enter Tryz.func158, Tryz.ntmps158
        go_wp2
        go_ret
        exact ⟨ret_u32 H.out.symm, rfl⟩

theorem word_any (s : ByteArray) (i e : Int) (w : World) (h0 : 0 ≤ i) (h1 : i ≤ 1900000000) (h2 : 0 ≤ e) (h3 : e ≤ 2000000000) (hs : s.size ≤ 1000000000) :
    Calls Tryz.prog 118 #[.string s, .int .i64 i, .int .i64 e] w fun q w' => q = .returned (.int .u32 (Sha.pword s i e)) ∧ w' = w := by
  go_enter Tryz.func118, Tryz.ntmps118
  go_wp2
  go_loop [7, 8] (fun x i' => ∃ k : Nat, k ≤ 4 ∧ i' = .int .i64 k ∧ x = .int .u32 (Sha.pfirst s i e k)) (fun _ i' => 4 - (intOf i').toNat)
  case atStart => exact ⟨0, by omega, rfl, rfl⟩
  case round =>
    obtain ⟨k, hk, rfl, rfl⟩ := hrel
    by_cases hlt : k < 4
    · have hb := Sha.pfirst_bd s i e k hlt
      have hc := Sha.pbyte_bd s (i + k) e
      have HO : Hid (bits .or .u32 (Sha.pfirst s i e k * 256) (Sha.pbyte s (i + k) e) = Sha.pfirst s i e (k + 1)) := Sha.or_byte _ _ hb.1 hb.2 hc.1 hc.2
      go_wp2_with (go_at_call 158; refine (byte_any _ _ _ _ (by omega) (by omega) (by omega) (by omega) (by omega)).mono ?_; rintro q w' ⟨rfl, rfl⟩)
      go_round
      case rel => exact ⟨k + 1, by omega, by go_num, by rw [HO.out]⟩
      case measure => simp [intOf]; omega
    · have e4 : k = 4 := by omega
      subst e4
      go_wp2
      go_ret
      exact ⟨ret_u32 (Sha.pfirst_four s i e), rfl⟩

theorem hex_any (x : Int) (w : World) (h0 : 0 ≤ x) (h1 : x < 4294967296) :
    Calls Tryz.prog 75 #[.int .u32 x] w fun e w' => e = .returned (.string ⟨(Sha.hexs x 8).toArray⟩) ∧ w' = w := by
  go_enter Tryz.func75, Tryz.ntmps75
  go_wp2
  go_loop [0, 3, 4, 5] (fun xx s i _ => ∃ k : Nat, k ≤ 8 ∧ i = .int .i64 k ∧ xx = .int .u32 (x * 16 ^ k % 4294967296) ∧ s = .string ⟨(Sha.hexs x k).toArray⟩) (fun _ _ i _ => 8 - (intOf i).toNat)
  case atStart => exact ⟨0, by omega, rfl, by rw [Int.pow_zero, Int.mul_one, Int.emod_eq_of_lt h0 h1], rfl⟩
  case round =>
    obtain ⟨k, hk, rfl, rfl, rfl⟩ := hrel
    by_cases hlt : k < 8
    · have hl := Sha.hexs_length x k
      have HS : Hid (x * 16 ^ k % 4294967296 * 16 % 4294967296 = x * 16 ^ (k + 1) % 4294967296) := Sha.shift_more x k
      have HD : Hid (Sha.hexs x (k + 1) = Sha.hexs x k ++ [Sha.hexd (x * 16 ^ k % 4294967296 / 268435456)]) := rfl
      generalize hy : x * 16 ^ k % 4294967296 = y at *
      have hy0 : 0 ≤ y := by rw [← hy]; exact Int.emod_nonneg _ (by omega)
      have hy1 : y < 4294967296 := by rw [← hy]; exact Int.emod_lt_of_pos _ (by omega)
      clear hy
      generalize Sha.hexs x k = l at *
      have hsz : (ByteArray.mk l.toArray).size = k := by simpa [ByteArray.size] using hl
      have HC : Hid ((ByteArray.mk #[48, 49, 50, 51, 52, 53, 54, 55, 56, 57, 97, 98, 99, 100, 101, 102]).extract (y / 268435456).toNat (y / 268435456 + 1).toNat = ByteArray.mk #[Sha.hexd (y / 268435456)]) := Sha.digit_cut _ (by omega) (by omega)
      generalize hla : ByteArray.mk l.toArray = la at *
      have HL : Hid (ByteArray.mk l.toArray = la) := hla
      clear hla hl
      go_wp2
      refine ⟨⟨k + 1, by omega, by go_num, by rw [HS.out], ?_⟩, by simp [intOf]; omega⟩
      rw [HC.out, ← HL.out, HD.out]
      congr 1
    · have e8 : k = 8 := by omega
      subst e8
      go_wp2
      go_ret
      exact ⟨rfl, rfl⟩

theorem count_any (n : Nat) (w : World) (h1 : n ≤ 1000000000) :
    Calls Tryz.prog 72 #[.int .i64 n] w fun e w' => e = .returned (.int .i64 (Sha.blocks n)) ∧ w' = w := by
  by_cases h : 56 ≤ n % 64
  · have H : Hid (((n : Int) / 64 + 1 + 1) = Sha.blocks n) := by show _ = _; unfold Sha.blocks; rw [if_pos h]; omega
    go_enter Tryz.func72, Tryz.ntmps72
    go_wp2
    go_ret
    exact ⟨ret_u32 H.out, rfl⟩
  · have H : Hid (((n : Int) / 64 + 1) = Sha.blocks n) := by show _ = _; unfold Sha.blocks; rw [if_neg h]; omega
    go_enter Tryz.func72, Tryz.ntmps72
    go_wp2
    go_ret
    exact ⟨ret_u32 H.out, rfl⟩

theorem combine_any (t : Nat) (b c d : Int) (w : World) (h : t < 80) :
    Calls Tryz.prog 119 #[.int .i64 t, .int .u32 b, .int .u32 c, .int .u32 d] w fun e w' => e = .returned (.int .u32 (Sha.f t b c d)) ∧ w' = w := by
  by_cases c0 : t < 20
  · have H : Hid (Sha.f t b c d = bits .or .u32 (bits .and .u32 b c) (bits .and .u32 (bits .xor .u32 IntKind.u32.max b) d)) := by show _ = _; unfold Sha.f; rw [if_pos c0]
    go_enter Tryz.func119, Tryz.ntmps119
    go_wp2
    go_ret
    exact ⟨ret_u32 H.out.symm, rfl⟩
  by_cases c1 : t < 40
  · have H : Hid (Sha.f t b c d = bits .xor .u32 (bits .xor .u32 b c) d) := by show _ = _; unfold Sha.f; rw [if_neg c0, if_pos c1]
    go_enter Tryz.func119, Tryz.ntmps119
    go_wp2
    go_ret
    exact ⟨ret_u32 H.out.symm, rfl⟩
  by_cases c2 : t < 60
  · have H : Hid (Sha.f t b c d = bits .or .u32 (bits .or .u32 (bits .and .u32 b c) (bits .and .u32 b d)) (bits .and .u32 c d)) := by show _ = _; unfold Sha.f; rw [if_neg c0, if_neg c1, if_pos c2]
    go_enter Tryz.func119, Tryz.ntmps119
    go_wp2
    go_ret
    exact ⟨ret_u32 H.out.symm, rfl⟩
  · have H : Hid (Sha.f t b c d = bits .xor .u32 (bits .xor .u32 b c) d) := by show _ = _; unfold Sha.f; rw [if_neg c0, if_neg c1, if_neg c2]
    go_enter Tryz.func119, Tryz.ntmps119
    go_wp2
    go_ret
    exact ⟨ret_u32 H.out.symm, rfl⟩

end Go.Proofs.YtmmkhodaljpjgaaGreatDoor
