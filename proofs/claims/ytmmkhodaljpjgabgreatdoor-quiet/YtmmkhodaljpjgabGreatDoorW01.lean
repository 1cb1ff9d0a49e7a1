import Derived.Laws.BitsAllLaws
import Derived.Test.YtmmkhodaljpjgabGreatDoorChecked
import Derived.WalkKit
import Derived.WalkSpells
import Derived.WalkLawsBesides
import Derived.Below
import Derived.Outline
import Derived.BigQuiet
import Derived.Deep.QuietTactic
import Derived.Deep.WholeRow
import Derived.Deep.Draws
import Derived.WalkSmall
import Derived.Lib.LaidTab
namespace Go.Proofs.YtmmkhodaljpjgabGreatDoor.Sha
open Go
/-- Byte i of the bytes with their padding, of which there are e. -/
def pbyte (s : ByteArray) (i e : Int) : Int :=
  if i < s.size then ((s.data.toList.getD i.toNat 0).toNat : Int)
  else if i = s.size then 128
  else if 0 ≤ e - 1 - i ∧ e - 1 - i < 8 then (s.size : Int) * 8 / 2 ^ (8 * (e - 1 - i)).toNat % 256
  else 0
theorem pbyte_bd (s : ByteArray) (i e : Int) : 0 ≤ pbyte s i e ∧ pbyte s i e < 256 := by
  unfold pbyte
  split
  · have := (s.data.toList.getD i.toNat 0).toNat_lt; omega
  · split
    · omega
    · split
      · exact ⟨Int.emod_nonneg _ (by omega), Int.emod_lt_of_pos _ (by omega)⟩
      · omega
/-- Four bytes, the high one first. -/
def pword (s : ByteArray) (i e : Int) : Int :=
  ((pbyte s i e * 256 + pbyte s (i + 1) e) * 256 + pbyte s (i + 2) e) * 256 + pbyte s (i + 3) e
theorem pword_bd (s : ByteArray) (i e : Int) : 0 ≤ pword s i e ∧ pword s i e < 4294967296 := by
  have a := pbyte_bd s i e
  have b := pbyte_bd s (i + 1) e
  have c := pbyte_bd s (i + 2) e
  have d := pbyte_bd s (i + 3) e
  unfold pword; omega
/-- The first k of the four bytes. -/
def pfirst (s : ByteArray) (i e : Int) : Nat → Int
  | 0 => 0
  | k + 1 => pfirst s i e k * 256 + pbyte s (i + k) e
theorem pfirst_four (s : ByteArray) (i e : Int) : pfirst s i e 4 = pword s i e := by
  simp [pfirst, pword]
theorem pfirst_bd (s : ByteArray) (i e : Int) (k : Nat) (h : k < 4) : 0 ≤ pfirst s i e k ∧ pfirst s i e k < 16777216 := by
  have a := pbyte_bd s i e
  have b := pbyte_bd s (i + 1) e
  have c := pbyte_bd s (i + 2) e
  match k, h with
  | 0, _ => simp [pfirst]
  | 1, _ => simp [pfirst]; omega
  | 2, _ => simp [pfirst]; omega
  | 3, _ => simp [pfirst]; omega
theorem or_byte (y b : Int) (h0 : 0 ≤ y) (h1 : y < 16777216) (b0 : 0 ≤ b) (b1 : b < 256) : bits .or .u32 (y * 256) b = y * 256 + b := by
  rw [u32_or _ _ (by omega) (by omega) b0 (by omega), nat_join 8 _ _ (by omega) (by omega)]
  omega
theorem and_byte (x : Int) (h0 : 0 ≤ x) (h1 : x < 18446744073709551616) : bits .and .u64 x 255 % 4294967296 = x % 256 := by
  rw [u64_and _ _ h0 h1 (by omega) (by omega)]
  have e : x.toNat &&& (255 : Int).toNat = x.toNat % 256 := nat_mask8 x.toNat
  rw [e]
  omega
/-- A hexadecimal digit. -/
def hexd (v : Int) : UInt8 := if v < 10 then UInt8.ofNat (48 + v.toNat) else UInt8.ofNat (87 + v.toNat)
theorem digit_cut (v : Int) (h0 : 0 ≤ v) (h1 : v < 16) :
    (ByteArray.mk #[48, 49, 50, 51, 52, 53, 54, 55, 56, 57, 97, 98, 99, 100, 101, 102]).extract v.toNat (v + 1).toNat = ByteArray.mk #[hexd v] := by
  obtain ⟨n, rfl⟩ := Int.eq_ofNat_of_zero_le h0
  have hn : n < 16 := by omega
  match n, hn with
  | 0, _ | 1, _ | 2, _ | 3, _ | 4, _ | 5, _ | 6, _ | 7, _ | 8, _ | 9, _ | 10, _ | 11, _ | 12, _ | 13, _ | 14, _ | 15, _ => decide +kernel
/-- The first k of a word's eight digits. -/
def hexs (x : Int) : Nat → List UInt8
  | 0 => []
  | k + 1 => hexs x k ++ [hexd (x * 16 ^ k % 4294967296 / 268435456)]
theorem hexs_length (x : Int) (k : Nat) : (hexs x k).length = k := by
  induction k with
  | zero => rfl
  | succ k ih => simp [hexs, ih]
theorem shift_more (x : Int) (k : Nat) : x * 16 ^ k % 4294967296 * 16 % 4294967296 = x * 16 ^ (k + 1) % 4294967296 := by
  rw [Int.pow_succ, ← Int.mul_assoc]; omega
/-- How many blocks of 64 bytes the padded bytes are. -/
def blocks (n : Nat) : Nat := if 56 ≤ n % 64 then n / 64 + 2 else n / 64 + 1
/-- What the rounds mix. -/
def f (t : Nat) (b c d : Int) : Int :=
  if t < 20 then bits .or .u32 (bits .and .u32 b c) (bits .and .u32 (bits .xor .u32 IntKind.u32.max b) d)
  else if t < 40 then bits .xor .u32 (bits .xor .u32 b c) d
  else if t < 60 then bits .or .u32 (bits .or .u32 (bits .and .u32 b c) (bits .and .u32 b d)) (bits .and .u32 c d)
  else bits .xor .u32 (bits .xor .u32 b c) d
/-- The round's constant. -/
def K (t : Nat) : Int := if t < 20 then 1518500249 else if t < 40 then 1859775393 else if t < 60 then 2400959708 else 3395469782
def rol1 (x : Int) : Int := bits .or .u32 (x * 2 % 4294967296) (x / 2147483648)
def rol5 (x : Int) : Int := bits .or .u32 (x * 32 % 4294967296) (x / 134217728)
def rol30 (x : Int) : Int := bits .or .u32 (x * 1073741824 % 4294967296) (x / 4)
/-- The word behind the first n of a block's words. -/
def nextW (s : ByteArray) (b e : Int) (l : List Int) (n : Nat) : Int :=
  if n < 16 then pword s (b + 4 * n) e
  else rol1 (bits .xor .u32 (bits .xor .u32 (bits .xor .u32 (l.getD (n - 3) 0) (l.getD (n - 8) 0)) (l.getD (n - 14) 0)) (l.getD (n - 16) 0))
/-- The first n words of a block. -/
def wl (s : ByteArray) (b e : Int) : Nat → List Int
  | 0 => []
  | n + 1 => wl s b e n ++ [nextW s b e (wl s b e n) n]
theorem wl_length (s : ByteArray) (b e : Int) (n : Nat) : (wl s b e n).length = n := by
  induction n with
  | zero => rfl
  | succ n ih => simp [wl, ih]
theorem wl_old (s : ByteArray) (b e : Int) (n j : Nat) (h : j < n) : (wl s b e (n + 1)).getD j 0 = (wl s b e n).getD j 0 := by
  have hl := wl_length s b e n
  simp only [wl, List.getD_eq_getElem?_getD]
  rw [List.getElem?_append_left (by omega)]
theorem wl_new (s : ByteArray) (b e : Int) (n : Nat) : (wl s b e (n + 1)).getD n 0 = nextW s b e (wl s b e n) n := by
  have hl := wl_length s b e n
  simp only [wl, List.getD_eq_getElem?_getD]
  rw [List.getElem?_append_right (by omega)]
  simp [hl]
theorem bits_bd (o : BinOp) (a b : Int) : 0 ≤ bits o .u32 a b ∧ bits o .u32 a b < 4294967296 := by
  unfold bits
  simp only [IntKind.wrap_u32']
  exact ⟨Int.emod_nonneg _ (by omega), Int.emod_lt_of_pos _ (by omega)⟩
theorem rol1_bd (x : Int) : 0 ≤ rol1 x ∧ rol1 x < 4294967296 := by unfold rol1; exact bits_bd _ _ _
theorem rol30_bd (x : Int) : 0 ≤ rol30 x ∧ rol30 x < 4294967296 := by unfold rol30; exact bits_bd _ _ _
theorem mod_bd (x : Int) : 0 ≤ x % 4294967296 ∧ x % 4294967296 < 4294967296 := ⟨Int.emod_nonneg _ (by omega), Int.emod_lt_of_pos _ (by omega)⟩
theorem nextW_bd (s : ByteArray) (b e : Int) (l : List Int) (n : Nat) : 0 ≤ nextW s b e l n ∧ nextW s b e l n < 4294967296 := by
  unfold nextW
  split
  · exact pword_bd _ _ _
  · exact rol1_bd _
theorem wl_bd (s : ByteArray) (b e : Int) (n j : Nat) : 0 ≤ (wl s b e n).getD j 0 ∧ (wl s b e n).getD j 0 < 4294967296 := by
  induction n with
  | zero => simp [wl]
  | succ n ih =>
    by_cases h : j < n
    · rw [wl_old s b e n j h]; exact ih
    · by_cases h' : j = n
      · subst h'; rw [wl_new]; exact nextW_bd _ _ _ _ _
      · have hl := wl_length s b e (n + 1)
        rw [List.getD_eq_getElem?_getD, List.getElem?_eq_none (by omega)]
        simp
/-- Five words. -/
structure St where
  a : Int
  b : Int
  c : Int
  d : Int
  e : Int
/-- Each is a word. -/
structure St.Ok (x : St) : Prop where
  a : 0 ≤ x.a ∧ x.a < 4294967296
  b : 0 ≤ x.b ∧ x.b < 4294967296
  c : 0 ≤ x.c ∧ x.c < 4294967296
  d : 0 ≤ x.d ∧ x.d < 4294967296
  e : 0 ≤ x.e ∧ x.e < 4294967296
/-- A round. -/
def step (x : St) (t : Nat) (wt : Int) : St :=
  ⟨(rol5 x.a + f t x.b x.c x.d + x.e + K t + wt) % 4294967296, x.a, rol30 x.b, x.c, x.d⟩
/-- The first n rounds. -/
def rounds (l : List Int) (x : St) : Nat → St
  | 0 => x
  | n + 1 => step (rounds l x n) n (l.getD n 0)
theorem rounds_ok (l : List Int) (x : St) (h : x.Ok) (n : Nat) : (rounds l x n).Ok := by
  induction n with
  | zero => exact h
  | succ n ih => exact ⟨mod_bd _, ih.a, rol30_bd _, ih.c, ih.d⟩
/-- A block: 80 rounds, and what was there is added. -/
def mixed (l : List Int) (x : St) : St :=
  ⟨(x.a + (rounds l x 80).a) % 4294967296, (x.b + (rounds l x 80).b) % 4294967296, (x.c + (rounds l x 80).c) % 4294967296, (x.d + (rounds l x 80).d) % 4294967296, (x.e + (rounds l x 80).e) % 4294967296⟩
theorem mixed_ok (l : List Int) (x : St) : (mixed l x).Ok :=
  ⟨mod_bd _, mod_bd _, mod_bd _, mod_bd _, mod_bd _⟩
/-- The five words as an array's cells. -/
def St.cells (x : St) : Array Value := #[.int .u32 x.a, .int .u32 x.b, .int .u32 x.c, .int .u32 x.d, .int .u32 x.e]
def first : St := ⟨1732584193, 4023233417, 2562383102, 271733878, 3285377520⟩
/-- Behind the first n blocks. -/
def behind (s : ByteArray) (e : Int) : Nat → St
  | 0 => first
  | n + 1 => mixed (wl s (n * 64) e 80) (behind s e n)
/-- One of the five. -/
def St.word (x : St) : Nat → Int
  | 0 => x.a
  | 1 => x.b
  | 2 => x.c
  | 3 => x.d
  | _ => x.e
theorem St.Ok.word {x : St} (h : x.Ok) (j : Nat) : 0 ≤ x.word j ∧ x.word j < 4294967296 := by
  match j with
  | 0 => exact h.a
  | 1 => exact h.b
  | 2 => exact h.c
  | 3 => exact h.d
  | _ + 4 => exact h.e
theorem St.cells_at (x : St) (j : Nat) (h : j < 5) : x.cells[j]? = some (.int .u32 (x.word j)) := by
  match j, h with
  | 0, _ => rfl
  | 1, _ => rfl
  | 2, _ => rfl
  | 3, _ => rfl
  | 4, _ => rfl
/-- The digits of the first n words. -/
def St.text (x : St) : Nat → List UInt8
  | 0 => []
  | n + 1 => x.text n ++ hexs (x.word n) 8
theorem St.text_length (x : St) (n : Nat) : (x.text n).length = 8 * n := by
  induction n with
  | zero => rfl
  | succ n ih => simp [St.text, ih, hexs_length]; omega
/-- The digest. -/
def digest (s : ByteArray) : List UInt8 := (behind s (blocks s.size * 64) (blocks s.size)).text 5
end Go.Proofs.YtmmkhodaljpjgabGreatDoor.Sha
namespace Go.Proofs.YtmmkhodaljpjgabGreatDoor
open Go.RowKit
theorem ret_u32 {k : IntKind} {a b : Int} (h : a = b) : Ending.returned (.int k a) = .returned (.int k b) := by rw [h]
theorem ret_str {a b : ByteArray} (h : a = b) : Ending.returned (.string a) = .returned (.string b) := by rw [h]
theorem getD_bytes (s : ByteArray) (n : Nat) (h : n < s.size) : s.data.toList.getD n 0 = s[n] := by
  have h' : n < s.data.toList.length := by simpa using h
  rw [List.getD_eq_getElem?_getD, List.getElem?_eq_getElem h']
  rfl
theorem byte_any (s : ByteArray) (i e : Int) (w : World) (h0 : 0 ≤ i) (h1 : i ≤ 2000000000) (h2 : 0 ≤ e) (h3 : e ≤ 2000000000) (hs : s.size ≤ 1000000000) :
    Calls Tryz.prog 119 #[.string s, .int .i64 i, .int .i64 e] w fun q w' => q = .returned (.int .u32 (Sha.pbyte s i e)) ∧ w' = w := by
  by_cases c1 : i < s.size
  · have H : Hid (Sha.pbyte s i e = (s[i.toNat]'(by omega)).toNat % 4294967296) := by
      show _ = _
      unfold Sha.pbyte; rw [if_pos c1, getD_bytes s i.toNat (by omega)]
      have := (s[i.toNat]'(by omega)).toNat_lt; omega
    go_enter Tryz.func119, Tryz.ntmps119
    go_wp2
    go_ret
    exact ⟨ret_u32 H.out.symm, rfl⟩
  · by_cases c2 : i = s.size
    · have H : Hid (Sha.pbyte s i e = 128) := by show _ = _; unfold Sha.pbyte; rw [if_neg c1, if_pos c2]
      have c2' : (i == (s.size : Int)) = true := by rw [beq_iff_eq]; exact c2
      clear c2
      go_enter Tryz.func119, Tryz.ntmps119
      go_wp2
      go_ret
      exact ⟨ret_u32 H.out.symm, rfl⟩
    · have c2' : (i == (s.size : Int)) = false := by rw [beq_eq_false_iff_ne]; exact c2
      by_cases c3 : 0 ≤ e - 1 - i
      · by_cases c4 : e - 1 - i < 8
        · have H : Hid (Sha.pbyte s i e = (s.size : Int) * 8 / 2 ^ (8 * (e - 1 - i)).toNat % 256) := by show _ = _; unfold Sha.pbyte; rw [if_neg c1, if_neg c2, if_pos ⟨c3, c4⟩]
          have hx0 : 0 ≤ (s.size : Int) * 8 / 2 ^ (8 * (e - 1 - i)).toNat := Int.ediv_nonneg (by omega) (Int.le_of_lt (Int.pow_pos (by omega)))
          have hx1 : (s.size : Int) * 8 / 2 ^ (8 * (e - 1 - i)).toNat ≤ (s.size : Int) * 8 := Int.ediv_le_self _ (by omega)
          have HX : Hid (bits .and .u64 ((s.size : Int) * 8 / 2 ^ (8 * (e - 1 - i)).toNat) 255 % 4294967296 = (s.size : Int) * 8 / 2 ^ (8 * (e - 1 - i)).toNat % 256) := Sha.and_byte _ hx0 (by omega)
          clear hx0 hx1 c2
          go_enter Tryz.func119, Tryz.ntmps119
          go_wp2
          go_ret
          exact ⟨ret_u32 (HX.out.trans H.out.symm), rfl⟩
        · have H : Hid (Sha.pbyte s i e = 0) := by show _ = _; unfold Sha.pbyte; rw [if_neg c1, if_neg c2, if_neg (by omega)]
          clear c2
          go_enter Tryz.func119, Tryz.ntmps119
          go_wp2
          go_ret
          exact ⟨ret_u32 H.out.symm, rfl⟩
      · have H : Hid (Sha.pbyte s i e = 0) := by show _ = _; unfold Sha.pbyte; rw [if_neg c1, if_neg c2, if_neg (by omega)]
        clear c2
        go_enter Tryz.func119, Tryz.ntmps119
        go_wp2
        go_ret
        exact ⟨ret_u32 H.out.symm, rfl⟩
theorem word_any (s : ByteArray) (i e : Int) (w : World) (h0 : 0 ≤ i) (h1 : i ≤ 1900000000) (h2 : 0 ≤ e) (h3 : e ≤ 2000000000) (hs : s.size ≤ 1000000000) :
    Calls Tryz.prog 105 #[.string s, .int .i64 i, .int .i64 e] w fun q w' => q = .returned (.int .u32 (Sha.pword s i e)) ∧ w' = w := by
  go_enter Tryz.func105, Tryz.ntmps105
  go_wp2
  go_loop [7, 8] (fun x i' => ∃ k : Nat, k ≤ 4 ∧ i' = .int .i64 k ∧ x = .int .u32 (Sha.pfirst s i e k)) (fun _ i' => 4 - (intOf i').toNat)
  case atStart => exact ⟨0, by omega, rfl, rfl⟩
  case round =>
    obtain ⟨k, hk, rfl, rfl⟩ := hrel
    by_cases hlt : k < 4
    · have hb := Sha.pfirst_bd s i e k hlt
      have hc := Sha.pbyte_bd s (i + k) e
      have HO : Hid (bits .or .u32 (Sha.pfirst s i e k * 256) (Sha.pbyte s (i + k) e) = Sha.pfirst s i e (k + 1)) := Sha.or_byte _ _ hb.1 hb.2 hc.1 hc.2
      go_wp2_with (go_at_call 119; refine (byte_any _ _ _ _ (by omega) (by omega) (by omega) (by omega) (by omega)).mono ?_; rintro q w' ⟨rfl, rfl⟩)
      go_round
      case rel => exact ⟨k + 1, by omega, by go_num, by rw [HO.out]⟩
      case measure => simp [intOf]; omega
    · have e4 : k = 4 := by omega
      subst e4
      go_wp2
      go_ret
      exact ⟨ret_u32 (Sha.pfirst_four s i e), rfl⟩
theorem hex_any (x : Int) (w : World) (h0 : 0 ≤ x) (h1 : x < 4294967296) :
    Calls Tryz.prog 87 #[.int .u32 x] w fun e w' => e = .returned (.string ⟨(Sha.hexs x 8).toArray⟩) ∧ w' = w := by
  go_enter Tryz.func87, Tryz.ntmps87
  go_wp2
  go_loop [0, 3, 4, 5] (fun xx s i _ => ∃ k : Nat, k ≤ 8 ∧ i = .int .i64 k ∧ xx = .int .u32 (x * 16 ^ k % 4294967296) ∧ s = .string ⟨(Sha.hexs x k).toArray⟩) (fun _ _ i _ => 8 - (intOf i).toNat)
  case atStart => exact ⟨0, by omega, rfl, by rw [Int.pow_zero, Int.mul_one, Int.emod_eq_of_lt h0 h1], rfl⟩
  case round =>
    obtain ⟨k, hk, rfl, rfl, rfl⟩ := hrel
    by_cases hlt : k < 8
    · have hl := Sha.hexs_length x k
      have HS : Hid (x * 16 ^ k % 4294967296 * 16 % 4294967296 = x * 16 ^ (k + 1) % 4294967296) := Sha.shift_more x k
      have HD : Hid (Sha.hexs x (k + 1) = Sha.hexs x k ++ [Sha.hexd (x * 16 ^ k % 4294967296 / 268435456)]) := rfl
      generalize hy : x * 16 ^ k % 4294967296 = y at *
      have hy0 : 0 ≤ y := by rw [← hy]; exact Int.emod_nonneg _ (by omega)
      have hy1 : y < 4294967296 := by rw [← hy]; exact Int.emod_lt_of_pos _ (by omega)
      clear hy
      generalize Sha.hexs x k = l at *
      have hsz : (ByteArray.mk l.toArray).size = k := by simpa [ByteArray.size] using hl
      have HC : Hid ((ByteArray.mk #[48, 49, 50, 51, 52, 53, 54, 55, 56, 57, 97, 98, 99, 100, 101, 102]).extract (y / 268435456).toNat (y / 268435456 + 1).toNat = ByteArray.mk #[Sha.hexd (y / 268435456)]) := Sha.digit_cut _ (by omega) (by omega)
      generalize hla : ByteArray.mk l.toArray = la at *
      have HL : Hid (ByteArray.mk l.toArray = la) := hla
      clear hla hl
      go_wp2
      refine ⟨⟨k + 1, by omega, by go_num, by rw [HS.out], ?_⟩, by simp [intOf]; omega⟩
      rw [HC.out, ← HL.out, HD.out]
      congr 1
    · have e8 : k = 8 := by omega
      subst e8
      go_wp2
      go_ret
      exact ⟨rfl, rfl⟩
theorem count_any (n : Nat) (w : World) (h1 : n ≤ 1000000000) :
    Calls Tryz.prog 84 #[.int .i64 n] w fun e w' => e = .returned (.int .i64 (Sha.blocks n)) ∧ w' = w := by
  by_cases h : 56 ≤ n % 64
  · have H : Hid (((n : Int) / 64 + 1 + 1) = Sha.blocks n) := by show _ = _; unfold Sha.blocks; rw [if_pos h]; omega
    go_enter Tryz.func84, Tryz.ntmps84
    go_wp2
    go_ret
    exact ⟨ret_u32 H.out, rfl⟩
  · have H : Hid (((n : Int) / 64 + 1) = Sha.blocks n) := by show _ = _; unfold Sha.blocks; rw [if_neg h]; omega
    go_enter Tryz.func84, Tryz.ntmps84
    go_wp2
    go_ret
    exact ⟨ret_u32 H.out, rfl⟩
theorem combine_any (t : Nat) (b c d : Int) (w : World) (h : t < 80) :
    Calls Tryz.prog 106 #[.int .i64 t, .int .u32 b, .int .u32 c, .int .u32 d] w fun e w' => e = .returned (.int .u32 (Sha.f t b c d)) ∧ w' = w := by
  by_cases c0 : t < 20
  · have H : Hid (Sha.f t b c d = bits .or .u32 (bits .and .u32 b c) (bits .and .u32 (bits .xor .u32 IntKind.u32.max b) d)) := by show _ = _; unfold Sha.f; rw [if_pos c0]
    go_enter Tryz.func106, Tryz.ntmps106
    go_wp2
    go_ret
    exact ⟨ret_u32 H.out.symm, rfl⟩
  by_cases c1 : t < 40
  · have H : Hid (Sha.f t b c d = bits .xor .u32 (bits .xor .u32 b c) d) := by show _ = _; unfold Sha.f; rw [if_neg c0, if_pos c1]
    go_enter Tryz.func106, Tryz.ntmps106
    go_wp2
    go_ret
    exact ⟨ret_u32 H.out.symm, rfl⟩
  by_cases c2 : t < 60
  · have H : Hid (Sha.f t b c d = bits .or .u32 (bits .or .u32 (bits .and .u32 b c) (bits .and .u32 b d)) (bits .and .u32 c d)) := by show _ = _; unfold Sha.f; rw [if_neg c0, if_neg c1, if_pos c2]
    go_enter Tryz.func106, Tryz.ntmps106
    go_wp2
    go_ret
    exact ⟨ret_u32 H.out.symm, rfl⟩
  · have H : Hid (Sha.f t b c d = bits .xor .u32 (bits .xor .u32 b c) d) := by show _ = _; unfold Sha.f; rw [if_neg c0, if_neg c1, if_neg c2]
    go_enter Tryz.func106, Tryz.ntmps106
    go_wp2
    go_ret
    exact ⟨ret_u32 H.out.symm, rfl⟩
def zeros (n : Nat) : Array Value := (List.replicate n (Value.int .u32 0)).toArray
theorem zeros_size (n : Nat) : (zeros n).size = n := by simp [zeros]
theorem zero80 : (∀ w, (zeroValue 128).run Tryz.prog w = .ok (.agg (zeros 80)) w) ∧ (Tryz.prog.info? 128).map (·.size) = some 80 :=
  zero_of_info (by kernel_rfl)
/-- An array holds a list's words at its first n places. -/
structure Has (cs : Array Value) (n : Nat) (l : List Int) : Prop where
  size : cs.size = 80
  at' : ∀ j, j < n → cs[j]? = some (.int .u32 (l.getD j 0))
theorem Has.start : Has (zeros 80) 0 [] := ⟨zeros_size 80, fun j h => absurd h (Nat.not_lt_zero j)⟩
theorem Has.put {cs : Array Value} {s : ByteArray} {b e : Int} {n : Nat} (h : Has cs n (Sha.wl s b e n)) (hn : n < 80) :
    Has (cs.setIfInBounds n (.int .u32 (Sha.nextW s b e (Sha.wl s b e n) n))) (n + 1) (Sha.wl s b e (n + 1)) := by
  refine ⟨by simp [h.size], fun j hj => ?_⟩
  by_cases e' : j = n
  · subst e'
    rw [Sha.wl_new]
    simp [h.size, hn]
  · rw [Sha.wl_old _ _ _ _ _ (by omega), Array.getElem?_setIfInBounds_ne (by omega)]
    exact h.at' j (by omega)
theorem Has.whole {cs : Array Value} {l : List Int} (h : Has cs 80 l) (hl : l.length = 80) : cs = (l.map (Value.int .u32)).toArray := by
  apply Array.ext_getElem?
  intro i
  by_cases hi : i < 80
  · rw [h.at' i hi]
    simp [List.getD_eq_getElem?_getD, hl, hi]
  · rw [Array.getElem?_eq_none (by have := h.size; omega), Array.getElem?_eq_none (by simp; omega)]
theorem words_one (l : List Int) : ((l.map (Value.int .u32)).toArray).all (·.oneCell') = true := by
  rw [Array.all_eq_true_iff_forall_mem]
  intro v hv
  simp at hv
  obtain ⟨x, _, rfl⟩ := hv
  rfl
theorem hid {p : Prop} (h : p) : Hid p := h
theorem wpl_load {P : Program} {ops : Array Oper} {rest : List Oper} {a : Act} {w : World} {Q : Exit → Act → World → Prop} {dst : Option Tmp} {ty tt : TypeId} {x : Operand} {pos : String} {after : Array Edge}
    {g : Nat} {t : TypeId} {cs : Array Value} {fr : Nat × Nat} {d : TypeDesc} (hg : w.heap[g]? = some (.cells cs t fr))
    (hu : P.underlying ty = some d) (hd : (match d with | .struct _ | .array _ _ => true | _ => false) = true) (hi : (P.info? ty).map (·.size) = some cs.size)
    (hx : a.eval x = .pointer (some ⟨g, 0, none⟩))
    (h : wpList P ops Q rest (a.put dst (.agg cs)) w) : wpList P ops Q ({ dst := dst, op := .load ty x, type := tt, pos := pos, after := after, guard := none } :: rest) a w :=
  wpList_load_row rfl ty x rfl g hx t cs fr d hg hu hd hi h
theorem wpl_store {P : Program} {ops : Array Oper} {rest : List Oper} {a : Act} {w : World} {Q : Exit → Act → World → Prop} {dst : Option Tmp} {ty tt : TypeId} {x y : Operand} {pos : String} {after : Array Edge}
    {g : Nat} {t : TypeId} {cells old : Array Value} (hg : w.heap[g]? = some (.cells old t (0, 0))) (hi : (P.info? ty).map (·.size) = some cells.size)
    (hold : old.size = cells.size) (h1 : cells.all (·.oneCell') = true) (hx : a.eval x = .pointer (some ⟨g, 0, none⟩)) (hy : a.eval y = .agg cells)
    (h : wpList P ops Q rest (a.put dst undef) (w.setRow g cells)) : wpList P ops Q ({ dst := dst, op := .store ty x y, type := tt, pos := pos, after := after, guard := none } :: rest) a w :=
  wpList_store_row rfl ty x y rfl g cells hx hy t old hg hi hold h1 h
theorem below_setRow {B g : Nat} {a w : World} {cs : Array Value} (h : Below B a w) (hg : B ≤ g) : Below B a (w.setRow g cs) :=
  h.trans ⟨rfl, rfl, rfl, by simp, fun i hi => setRow_other w g i cs (by omega)⟩
theorem set_drawn (W : World) (cs : Array Value) (t : TypeId) (n k g : Nat) (v : Value) (hg : g = W.heap.size) :
    ((W.alloc (.cells cs t)).drewN n).setCell ⟨g, k, none⟩ v = (W.alloc (.cells (cs.setIfInBounds k v) t)).drewN n := by
  rw [← World.setCell_alloc_at cs t g k v hg]; rfl
set_option maxRecDepth 100000 in
set_option maxHeartbeats 1000000 in
theorem sched_any (s : ByteArray) (b e : Int) (w : World) (h0 : 0 ≤ b) (h1 : b ≤ 1800000000) (h2 : 0 ≤ e) (h3 : e ≤ 2000000000) (hs : s.size ≤ 1000000000) :
    Calls Tryz.prog 85 #[.string s, .int .i64 b, .int .i64 e] w fun q w' => q = .returned (.agg ((Sha.wl s b e 80).map (Value.int .u32)).toArray) ∧ Below w.heap.size w w' := by
  have hz := zero80.1
  go_enter Tryz.func85, Tryz.ntmps85
  go_wp2
  clear hz
  go_loopw [8] (fun i wr => ∃ k : Nat, ∃ cs : Array Value, k ≤ 16 ∧ i = .int .i64 k ∧ wr = (w.alloc (.cells (zeros 80) 128)).alloc (.cells cs 128) ∧ Has cs k (Sha.wl s b e k)) (fun i _ => 16 - (intOf i).toNat)
  case atStart => exact ⟨0, _, by omega, rfl, rfl, Has.start⟩
  case round =>
    obtain ⟨k, cs, hk, rfl, rfl, hc⟩ := hrel
    by_cases hlt : k < 16
    · have hsz : cs.size = 80 := hc.size
      have HN : Hid (Has (cs.setIfInBounds k (.int .u32 (Sha.nextW s b e (Sha.wl s b e k) k))) (k + 1) (Sha.wl s b e (k + 1))) := hc.put (by omega)
      have HE : Hid (Sha.nextW s b e (Sha.wl s b e k) k = Sha.pword s (b + 4 * k) e) := by show _ = _; unfold Sha.nextW; rw [if_pos hlt]
      obtain ⟨v0, hv0⟩ : ∃ v, cs[k]? = some v := ⟨_, Array.getElem?_eq_getElem (by omega)⟩
      clear hc
      go_wp2_with (go_at_call 105; refine (word_any _ _ _ _ (by omega) (by omega) (by omega) (by omega) (by omega)).mono ?_; rintro q w' ⟨rfl, rfl⟩)
      exact ⟨⟨k + 1, _, by omega, by go_num, by rw [← HE.out], HN.out⟩, by simp [intOf]; omega⟩
    · have e16 : k = 16 := by omega
      subst e16
      clear hlt hk
      go_wp2
      go_loopw [9, 10] (fun i _ wr => ∃ k n : Nat, ∃ cs : Array Value, 16 ≤ k ∧ k ≤ 80 ∧ i = .int .i64 k ∧ wr = ((w.alloc (.cells (zeros 80) 128)).alloc (.cells cs 128)).drewN n ∧ Has cs k (Sha.wl s b e k)) (fun i _ _ => 80 - (intOf i).toNat)
      case atStart => exact ⟨16, 0, cs, by omega, by omega, rfl, rfl, hc⟩
      case round =>
        clear hc cs
        obtain ⟨k, n, cs, hk0, hk, rfl, rfl, hc⟩ := hrel
        by_cases hlt : k < 80
        · have hsz : cs.size = 80 := hc.size
          have HN : Hid (Has (cs.setIfInBounds k (.int .u32 (Sha.nextW s b e (Sha.wl s b e k) k))) (k + 1) (Sha.wl s b e (k + 1))) := hc.put hlt
          obtain ⟨v0, hv0⟩ : ∃ v, cs[k]? = some v := ⟨_, Array.getElem?_eq_getElem (by omega)⟩
          have g3 := hc.at' (k - 3) (by omega)
          have g8 := hc.at' (k - 8) (by omega)
          have g14 := hc.at' (k - 14) (by omega)
          have g16 := hc.at' (k - 16) (by omega)
          have HE : Hid (Sha.nextW s b e (Sha.wl s b e k) k = Sha.rol1 (bits .xor .u32 (bits .xor .u32 (bits .xor .u32 ((Sha.wl s b e k).getD (k - 3) 0) ((Sha.wl s b e k).getD (k - 8) 0)) ((Sha.wl s b e k).getD (k - 14) 0)) ((Sha.wl s b e k).getD (k - 16) 0))) := by show _ = _; unfold Sha.nextW; rw [if_neg (by omega)]
          clear hc
          generalize (Sha.wl s b e k).getD (k - 3) 0 = x3 at *
          generalize (Sha.wl s b e k).getD (k - 8) 0 = x8 at *
          generalize (Sha.wl s b e k).getD (k - 14) 0 = x14 at *
          generalize (Sha.wl s b e k).getD (k - 16) 0 = x16 at *
          go_wp2_with fail
          go_quiet (fail)
          go_wp2
          refine ⟨⟨k + 1, n + nq, _, by omega, by omega, by go_num, ?_, HN.out⟩, by simp [intOf]; omega⟩
          rw [HE.out]
          exact set_drawn (w.alloc (.cells (zeros 80) 128)) _ _ _ _ _ _ (by simp)
        · have e80 : k = 80 := by omega
          subst e80
          have hsz : cs.size = 80 := hc.size
          have HF : Hid (cs = ((Sha.wl s b e 80).map (Value.int .u32)).toArray) := hc.whole (Sha.wl_length s b e 80)
          have H1 : Hid (cs.all (·.oneCell') = true) := by show _ = _; rw [HF.out]; exact words_one _
          clear hc
          have hg1 : (((w.alloc (.cells (zeros 80) 128)).alloc (.cells cs 128)).drewN n).heap[w.heap.size + 1]? = some (.cells cs 128 (0, 0)) := heap_alloc2_new w _ _
          have hg0 : (((w.alloc (.cells (zeros 80) 128)).alloc (.cells cs 128)).drewN n).heap[w.heap.size]? = some (.cells (zeros 80) 128 (0, 0)) := heap_alloc2_old w _ _
          have hi : (Tryz.prog.info? 128).map (·.size) = some cs.size := by rw [hsz]; exact zero80.2
          have G1 := hid hg1
          have G0 := hid hg0
          have I := hid hi
          clear hg1 hg0 hi
          go_wp2_with (first
            | ((with_reducible refine wpl_load (g := w.heap.size + 1) G1.out Tryz.underlying128 ?_ I.out ?_ ?_); exact rfl; exact rfl)
            | ((with_reducible refine wpl_store (g := w.heap.size) G0.out I.out ?_ H1.out ?_ ?_ ?_); (rw [zeros_size, hsz]); exact rfl; exact rfl))
          refine bodyPost_ret (v := .agg cs) (results_cell_row rfl _ _ w.heap.size 128 cs (0, 0) _ rfl (setRow_heap _ _ _ _ _ _ G0.out) Tryz.underlying128 rfl I.out) rfl ?_
          refine ⟨by rw [HF.out], ?_⟩
          exact below_setRow (below_drewN (((Below.refl _ _).alloc (Nat.le_refl _) _).alloc (by simp) _) n) (Nat.le_refl _)
theorem zero5 : (∀ w, (zeroValue 127).run Tryz.prog w = .ok (.agg (zeros 5)) w) ∧ (Tryz.prog.info? 127).map (·.size) = some 5 :=
  zero_of_info (by kernel_rfl)
/-- The constants' table, as it was laid. -/
structure Table (w : World) : Prop where
  c0 : w.cell? ⟨0, 0, none⟩ = some (.int .u32 1518500249)
  c1 : w.cell? ⟨0, 1, none⟩ = some (.int .u32 1859775393)
  c2 : w.cell? ⟨0, 2, none⟩ = some (.int .u32 2400959708)
  c3 : w.cell? ⟨0, 3, none⟩ = some (.int .u32 3395469782)
theorem Table.at' {w : World} (h : Table w) (t : Nat) (ht : t < 80) : w.cell? ⟨0, t / 20, none⟩ = some (.int .u32 (Sha.K t)) := by
  unfold Sha.K
  by_cases c0 : t < 20
  · rw [if_pos c0, show t / 20 = 0 from by omega]; exact h.c0
  by_cases c1 : t < 40
  · rw [if_neg c0, if_pos c1, show t / 20 = 1 from by omega]; exact h.c1
  by_cases c2 : t < 60
  · rw [if_neg c0, if_neg c1, if_pos c2, show t / 20 = 2 from by omega]; exact h.c2
  · rw [if_neg c0, if_neg c1, if_neg c2, show t / 20 = 3 from by omega]; exact h.c3
theorem Table.pos {w : World} (h : Table w) : 0 < w.heap.size := block_lt_of_cell h.c0
theorem Table.below {w w' : World} (h : Table w) (hb : Below w.heap.size w w') : Table w' := by
  have hp := h.pos
  exact ⟨by rw [hb.cell hp]; exact h.c0, by rw [hb.cell hp]; exact h.c1, by rw [hb.cell hp]; exact h.c2, by rw [hb.cell hp]; exact h.c3⟩
set_option maxRecDepth 100000 in
set_option maxHeartbeats 1000000 in
theorem mix_any (x : Sha.St) (l : List Int) (w : World) (hx : x.Ok) (hl : l.length = 80) (hlb : ∀ j, 0 ≤ l.getD j 0 ∧ l.getD j 0 < 4294967296) (hT : Table w) :
    Calls Tryz.prog 86 #[.agg #[.int .u32 x.a, .int .u32 x.b, .int .u32 x.c, .int .u32 x.d, .int .u32 x.e], .agg (l.map (Value.int .u32)).toArray] w fun q w' => q = .returned (.agg (Sha.mixed l x).cells) ∧ Below w.heap.size w w' := by
  have hz := zero5.1
  have hp := hT.pos
  generalize hcs : (l.map (Value.int .u32)).toArray = cs
  have hsz : cs.size = 80 := by rw [← hcs]; simp [hl]
  have hat : ∀ j, j < 80 → cs[j]? = some (.int .u32 (l.getD j 0)) := by
    intro j hj
    rw [← hcs]
    simp [List.getD_eq_getElem?_getD, hl, hj]
  clear hcs
  have HAT := hid hat
  have HLB := hid hlb
  have HT := hid hT
  have HX := hid hx
  have HSZ := hid hsz
  clear hat hlb hT hl hx hsz
  go_enter Tryz.func86, Tryz.ntmps86
  go_wp2_with fail
  go_quiet (fail)
  go_wp2_with fail
  clear hz
  go_loopw [5, 6, 7, 8, 9, 10, 11, 12] (fun a b c d e i _ _ wr => ∃ t n : Nat, t ≤ 80 ∧ i = .int .i64 t ∧ a = .int .u32 (Sha.rounds l x t).a ∧ b = .int .u32 (Sha.rounds l x t).b ∧ c = .int .u32 (Sha.rounds l x t).c ∧ d = .int .u32 (Sha.rounds l x t).d ∧ e = .int .u32 (Sha.rounds l x t).e
      ∧ wr = (((w.alloc (.cells #[.int .u32 x.a, .int .u32 x.b, .int .u32 x.c, .int .u32 x.d, .int .u32 x.e] 127)).alloc (.cells cs 128)).alloc (.cells (zeros 5) 127)).drewN n) (fun _ _ _ _ _ i _ _ _ => 80 - (intOf i).toNat)
  case atStart => exact ⟨0, nq, by omega, rfl, rfl, rfl, rfl, rfl, rfl, rfl⟩
  case round =>
    obtain ⟨t, n, ht, rfl, rfl, rfl, rfl, rfl, rfl, rfl⟩ := hrel
    by_cases hlt : t < 80
    · have hok := Sha.rounds_ok l x HX.out t
      have HR : Hid (Sha.rounds l x (t + 1) = Sha.step (Sha.rounds l x t) t (l.getD t 0)) := rfl
      have g := HAT.out t hlt
      have gb := HLB.out t
      have hk : (((w.alloc (.cells #[.int .u32 x.a, .int .u32 x.b, .int .u32 x.c, .int .u32 x.d, .int .u32 x.e] 127)).alloc (.cells cs 128)).alloc (.cells (zeros 5) 127)).cell? ⟨0, t / 20, none⟩ = some (.int .u32 (Sha.K t)) := by
        refine (Table.below HT.out ?_).at' t hlt
        exact ((((Below.refl _ _).alloc (Nat.le_refl _) _).alloc (by simp) _).alloc (by simp; omega) _)
      obtain ⟨q, hq⟩ : ∃ q, t / 20 = q := ⟨_, rfl⟩
      have hq4 : (q : Int) < 4 := by omega
      have hqw : IntKind.i64.wrap ((t : Int) / 20) = (q : Int) := by rw [IntKind.wrap_i64]; omega
      rw [hq] at hk
      clear hq
      generalize Sha.rounds l x t = y at *
      obtain ⟨a, b, c, d, e⟩ := y
      generalize l.getD t 0 = wt at *
      have HK : Hid (Sha.K t = Sha.K t) := rfl
      generalize hkt : Sha.K t = kt at *
      have HKT := hid hkt
      clear hkt HK
      obtain ⟨ha, hb, hc, hd, he⟩ := hok
      simp only at ha hb hc hd he
      go_wp2_with (go_at_call 106; refine (combine_any t _ _ _ _ hlt).mono ?_; rintro q w' ⟨rfl, rfl⟩)
      go_quiet (fail)
      go_wp2
      refine ⟨⟨t + 1, n + nq, by omega, by go_num, ?_, ?_, ?_, ?_, ?_, rfl⟩, by simp [intOf]; omega⟩
      · rw [HR.out]
        simp only [Sha.step, Sha.rol5, HKT.out]
        congr 1
        omega
      · rw [HR.out]; rfl
      · rw [HR.out]; rfl
      · rw [HR.out]; rfl
      · rw [HR.out]; rfl
    · have e80 : t = 80 := by omega
      subst e80
      have G : Hid (((((w.alloc (.cells #[.int .u32 x.a, .int .u32 x.b, .int .u32 x.c, .int .u32 x.d, .int .u32 x.e] 127)).alloc (.cells cs 128)).alloc (.cells (zeros 5) 127)).drewN n).heap[w.heap.size + 1 + 1]? = some (.cells (zeros 5) 127 (0, 0))) := by
        have e2 : ((w.alloc (.cells #[.int .u32 x.a, .int .u32 x.b, .int .u32 x.c, .int .u32 x.d, .int .u32 x.e] 127)).alloc (.cells cs 128)).heap.size = w.heap.size + 1 + 1 := by simp
        show (((w.alloc (.cells #[.int .u32 x.a, .int .u32 x.b, .int .u32 x.c, .int .u32 x.d, .int .u32 x.e] 127)).alloc (.cells cs 128)).alloc (.cells (zeros 5) 127)).heap[w.heap.size + 1 + 1]? = _
        rw [← e2]; exact heap_alloc_new _ _
      have I : Hid ((Tryz.prog.info? 127).map (·.size) = some (Sha.mixed l x).cells.size) := zero5.2
      have H1 : Hid ((Sha.mixed l x).cells.all (·.oneCell') = true) := by show _ = _; simp [Sha.St.cells, Value.oneCell']
      have HB := hid (below_drewN ((((Below.refl w.heap.size w).alloc (Nat.le_refl _) (.cells #[.int .u32 x.a, .int .u32 x.b, .int .u32 x.c, .int .u32 x.d, .int .u32 x.e] 127)).alloc (by simp) (.cells cs 128)).alloc (by simp; omega) (.cells (zeros 5) 127)) n)
      go_wp2_with ((with_reducible refine wpl_store (g := w.heap.size + 1 + 1) (cells := (Sha.mixed l x).cells) G.out I.out ?_ H1.out ?_ ?_ ?_); (rw [zeros_size]; exact rfl); exact rfl; exact rfl)
      refine bodyPost_ret (v := .agg (Sha.mixed l x).cells) (results_cell_row rfl _ _ (w.heap.size + 1 + 1) 127 (Sha.mixed l x).cells (0, 0) _ rfl (setRow_heap _ _ _ _ _ _ G.out) Tryz.underlying127 rfl I.out) rfl ?_
      exact ⟨rfl, below_setRow HB.out (by omega)⟩
theorem laid_mem {P : Program} {w : World} {n : String} {d : DataW Unit} : ∀ {l : List (String × DataW Unit)} {ps : List MemPlace}, DataW.LaidVars P w l ps → (n, d) ∈ l →
    ∃ g t cs fuel p, P.globalNamed n = some g ∧ (P.globals[g]?).map (·.type) = some t ∧ w.var? P n = some cs ∧ DataW.trod (fun _ => ()) P w 0 (fun _ => true) false fuel t cs.toList = some (d, p)
  | [], _, _, hm => by cases hm
  | (m, e) :: r, ps, h, hm => by
    obtain ⟨g, t, cs, fuel, p, q, a, b, c, f, hr, _⟩ := h
    rcases List.mem_cons.1 hm with hm | hm
    · cases hm; exact ⟨g, t, cs, fuel, p, a, b, c, f⟩
    · exact laid_mem hr hm
theorem tab_of_laid {P : Program} {W : World} {name : String} {k : IntKind} {zs : List Int} {laid : List (String × DataW Unit)} {g : Nat} {t e : TypeId} {n : Nat}
    (hg : P.globalNamed name = some g) (hty : (P.globals[g]?).map (·.type) = some t) (ht : P.underlying t = some (.array n e)) (he : P.underlying e = some (.int k)) (hce : P.cellsOf e = 1) (hct : P.cellsOf t = n)
    (hm : (name, Lib.tabData k zs) ∈ laid) (h : laidMet P laid W) : Lib.TabIs P W name k zs := by
  obtain ⟨ps, hl, _⟩ := h
  obtain ⟨g', t', cs, fuel, p, hg', ht', hvar, hd⟩ := laid_mem hl hm
  obtain rfl := Option.some.inj (hg.symm.trans hg')
  obtain rfl := Option.some.inj (hty.symm.trans ht')
  unfold Lib.TabIs
  rw [hvar, ← Lib.cells_of_tab ht he hce hct hd]
theorem table_of_laid {W : World} {laid : List (String × DataW Unit)} (hm : ("smear/digest.roundConstants", Lib.tabData .u32 [1518500249, 1859775393, 2400959708, 3395469782]) ∈ laid) (h : laidMet Tryz.prog laid W) : Table W := by
  have ht := tab_of_laid (P := Tryz.prog) (g := 0) (by kernel_rfl) (by kernel_rfl) Tryz.underlying146 Tryz.underlying126 (by kernel_rfl) (by kernel_rfl) hm h
  have hg : Tryz.prog.globalNamed "smear/digest.roundConstants" = some 0 := by kernel_rfl
  exact ⟨ht.cell hg 0 (by decide), ht.cell hg 1 (by decide), ht.cell hg 2 (by decide), ht.cell hg 3 (by decide)⟩
end Go.Proofs.YtmmkhodaljpjgabGreatDoor
namespace Go.Proofs.YtmmkhodaljpjgabGreatDoor.Cal
/-- One in a leap year, else nought. -/
def lp (y : Int) : Int := if y % 4 = 0 ∧ (y % 100 ≠ 0 ∨ y % 400 = 0) then 1 else 0
/-- The number of the first day of a year. -/
def yb (y : Int) : Int := 365 * (y - 1900) + ((y - 1) / 4 - (y - 1) / 100 + (y - 1) / 400) - 460
/-- The days of a month. -/
def dim (y m : Int) : Int := if m = 2 then 28 + lp y else if m = 4 ∨ m = 6 ∨ m = 9 ∨ m = 11 then 30 else 31
/-- The days ahead of a month, in its year. -/
def cum (y m : Int) : Int :=
  if m ≤ 1 then 0 else if m = 2 then 31 else if m = 3 then 59 + lp y else if m = 4 then 90 + lp y else if m = 5 then 120 + lp y
  else if m = 6 then 151 + lp y else if m = 7 then 181 + lp y else if m = 8 then 212 + lp y else if m = 9 then 243 + lp y
  else if m = 10 then 273 + lp y else if m = 11 then 304 + lp y else if m = 12 then 334 + lp y else 365 + lp y
theorem lp_01 (y : Int) : 0 ≤ lp y ∧ lp y ≤ 1 := by unfold lp; split <;> omega
theorem yb_succ (y : Int) : yb (y + 1) = yb y + 365 + lp y := by
  unfold yb lp; split <;> omega
theorem yb_first : yb 1900 = 0 := by decide
theorem yb_last : yb 3000 = 401767 := by decide
theorem yb_mono (a b : Int) (h : a ≤ b) : yb a ≤ yb b := by unfold yb; omega
theorem yb_bd (y : Int) (h0 : 1900 ≤ y) (h : y ≤ 3000) : 0 ≤ yb y ∧ yb y ≤ 401767 := by
  have a := yb_mono 1900 y h0
  have b := yb_mono y 3000 h
  rw [yb_first] at a; rw [yb_last] at b; exact ⟨a, b⟩
/-- The guess is never too late. -/
theorem yb_guess (n : Int) (h0 : 0 ≤ n) : yb (1900 + n / 366) ≤ n := by unfold yb; omega
theorem dim_bd (y m : Int) : 28 ≤ dim y m ∧ dim y m ≤ 31 := by
  have := lp_01 y
  unfold dim; split
  · omega
  · split <;> omega
theorem months (m : Int) (h1 : 1 ≤ m) (h2 : m ≤ 12) : m = 1 ∨ m = 2 ∨ m = 3 ∨ m = 4 ∨ m = 5 ∨ m = 6 ∨ m = 7 ∨ m = 8 ∨ m = 9 ∨ m = 10 ∨ m = 11 ∨ m = 12 := by omega
theorem cum_one (y : Int) : cum y 1 = 0 := by unfold cum; rfl
theorem cum_end (y : Int) : cum y 13 = 365 + lp y := by unfold cum; simp
theorem cum_succ (y m : Int) (h1 : 1 ≤ m) (h2 : m ≤ 12) : cum y (m + 1) = cum y m + dim y m := by
  rcases months m h1 h2 with rfl | rfl | rfl | rfl | rfl | rfl | rfl | rfl | rfl | rfl | rfl | rfl <;> simp [cum, dim] <;> omega
theorem cum_mono (y a b : Int) (h : a ≤ b) : cum y a ≤ cum y b := by
  have := lp_01 y
  unfold cum
  repeat' split
  all_goals omega
theorem cum_bd (y m : Int) (h1 : 1 ≤ m) (h2 : m ≤ 13) : 0 ≤ cum y m ∧ cum y m ≤ 366 := by
  have a := cum_mono y 1 m h1
  have b := cum_mono y m 13 h2
  have c := lp_01 y
  rw [cum_one] at a; rw [cum_end] at b
  omega
/-- The day n lies in the month m of the year y. -/
structure In (y m n : Int) : Prop where
  y1 : 1900 ≤ y
  y2 : y ≤ 2999
  m1 : 1 ≤ m
  m2 : m ≤ 12
  lo : yb y + cum y m ≤ n
  hi : n < yb y + cum y m + dim y m
theorem In.year {y m n : Int} (h : In y m n) : yb y ≤ n ∧ n < yb (y + 1) := by
  have a := cum_bd y m h.m1 (by have := h.m2; omega)
  have b := cum_succ y m h.m1 h.m2
  have c := cum_mono y (m + 1) 13 (by have := h.m2; omega)
  have d := cum_end y
  have e := yb_succ y
  have := h.lo
  have := h.hi
  omega
theorem In.only {y m z o n : Int} (a : In y m n) (b : In z o n) : y = z ∧ m = o := by
  have ay := a.year
  have by' := b.year
  have hy : y = z := by
    rcases Int.lt_trichotomy y z with h | h | h
    · have := yb_mono (y + 1) z h; omega
    · exact h
    · have := yb_mono (z + 1) y h; omega
  subst hy
  refine ⟨rfl, ?_⟩
  have al := a.lo
  have ah := a.hi
  have bl := b.lo
  have bh := b.hi
  have a1 := a.m1
  have a2 := a.m2
  have b1 := b.m1
  have b2 := b.m2
  have sa := cum_succ y m a1 a2
  have sb := cum_succ y o b1 b2
  rcases Int.lt_trichotomy m o with h | h | h
  · have := cum_mono y (m + 1) o h; omega
  · exact h
  · have := cum_mono y (o + 1) m h; omega
/-- The next day is the next of the month, or the first of the next month. -/
theorem In.next {y m z o n : Int} (a : In y m n) (b : In z o (n + 1)) :
    (z = y ∧ o = m ∧ n + 1 < yb y + cum y m + dim y m) ∨
    (n + 1 - (yb z + cum z o) + 1 = 1 ∧ n - (yb y + cum y m) + 1 = dim y m ∧ ((z = y ∧ o = m + 1) ∨ (z = y + 1 ∧ o = 1 ∧ m = 12))) := by
  have al := a.lo
  have ah := a.hi
  have s := cum_succ y m a.m1 a.m2
  have a1 := a.m1
  have a2 := a.m2
  by_cases h : n + 1 < yb y + cum y m + dim y m
  · have c : In y m (n + 1) := ⟨a.y1, a.y2, a.m1, a.m2, by omega, h⟩
    have d := b.only c
    exact .inl ⟨d.1, d.2, h⟩
  · right
    by_cases hm : m = 12
    · subst hm
      have e := yb_succ y
      have f : cum y (12 + 1) = 365 + lp y := cum_end y
      have g := b.year
      have y3 : y + 1 ≤ 2999 := by
        have hz := b.y2
        by_cases q : y + 1 ≤ 2999
        · exact q
        · have r : z + 1 ≤ y + 1 := by have := a.y2; omega
          have := yb_mono (z + 1) (y + 1) r
          omega
      have c : In (y + 1) 1 (n + 1) := ⟨by have := a.y1; omega, y3, by omega, by omega, by rw [cum_one]; omega, by have := dim_bd (y + 1) 1; rw [cum_one]; omega⟩
      have d := b.only c
      obtain ⟨rfl, rfl⟩ := d
      refine ⟨?_, by omega, .inr ⟨rfl, rfl, rfl⟩⟩
      rw [cum_one]; omega
    · have c : In y (m + 1) (n + 1) := ⟨a.y1, a.y2, by omega, by omega, by omega, by have := dim_bd y (m + 1); omega⟩
      have d := b.only c
      obtain ⟨rfl, rfl⟩ := d
      refine ⟨by omega, by omega, .inl ⟨rfl, rfl⟩⟩
end Go.Proofs.YtmmkhodaljpjgabGreatDoor.Cal
