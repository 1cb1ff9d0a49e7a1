import Derived.Laws.BitsAllLaws
/-! SHA-1 in plain integers and lists, in the words of the walk. -/
namespace Go.Proofs.YtmmkhodaljpjgaaGreatDoor.Sha
open Go

/-- Byte i of the bytes with their padding, of which there are e. -/
def pbyte (s : ByteArray) (i e : Int) : Int :=
  if i < s.size then ((s.data.toList.getD i.toNat 0).toNat : Int)
  else if i = s.size then 128
  else if 0 ≤ e - 1 - i ∧ e - 1 - i < 8 then (s.size : Int) * 8 / 2 ^ (8 * (e - 1 - i)).toNat % 256
  else 0

theorem pbyte_bd (s : ByteArray) (i e : Int) : 0 ≤ pbyte s i e ∧ pbyte s i e < 256 := by
  unfold pbyte
  split
  · have := (s.data.toList.getD i.toNat 0).toNat_lt; omega
  · split
    · omega
    · split
      · exact ⟨Int.emod_nonneg _ (by omega), Int.emod_lt_of_pos _ (by omega)⟩
      · omega

/-- Four bytes, the high one first. -/
def pword (s : ByteArray) (i e : Int) : Int :=
  ((pbyte s i e * 256 + pbyte s (i + 1) e) * 256 + pbyte s (i + 2) e) * 256 + pbyte s (i + 3) e

theorem pword_bd (s : ByteArray) (i e : Int) : 0 ≤ pword s i e ∧ pword s i e < 4294967296 := by
  have a := pbyte_bd s i e
  have b := pbyte_bd s (i + 1) e
  have c := pbyte_bd s (i + 2) e
  have d := pbyte_bd s (i + 3) e
  unfold pword; omega

/-- The first k of the four bytes. -/
def pfirst (s : ByteArray) (i e : Int) : Nat → Int
  | 0 => 0
  | k + 1 => pfirst s i e k * 256 + pbyte s (i + k) e

theorem pfirst_four (s : ByteArray) (i e : Int) : pfirst s i e 4 = pword s i e := by
  simp [pfirst, pword]

theorem pfirst_bd (s : ByteArray) (i e : Int) (k : Nat) (h : k < 4) : 0 ≤ pfirst s i e k ∧ pfirst s i e k < 16777216 := by
  have a := pbyte_bd s i e
  have b := pbyte_bd s (i + 1) e
  have c := pbyte_bd s (i + 2) e
  match k, h with
  | 0, _ => simp [pfirst]
  | 1, _ => simp [pfirst]; omega
  | 2, _ => simp [pfirst]; omega
  | 3, _ => simp [pfirst]; omega

theorem or_byte (y b : Int) (h0 : 0 ≤ y) (h1 : y < 16777216) (b0 : 0 ≤ b) (b1 : b < 256) : bits .or .u32 (y * 256) b = y * 256 + b := by
  rw [u32_or _ _ (by omega) (by omega) b0 (by omega), nat_join 8 _ _ (by omega) (by omega)]
  omega

theorem and_byte (x : Int) (h0 : 0 ≤ x) (h1 : x < 18446744073709551616) : bits .and .u64 x 255 % 4294967296 = x % 256 := by
  rw [u64_and _ _ h0 h1 (by omega) (by omega)]
  have e : x.toNat &&& (255 : Int).toNat = x.toNat % 256 := nat_mask8 x.toNat
  rw [e]
  omega

/-- A hexadecimal digit. -/
def hexd (v : Int) : UInt8 := if v < 10 then UInt8.ofNat (48 + v.toNat) else UInt8.ofNat (87 + v.toNat)

theorem digit_cut (v : Int) (h0 : 0 ≤ v) (h1 : v < 16) :
    (ByteArray.mk #[48, 49, 50, 51, 52, 53, 54, 55, 56, 57, 97, 98, 99, 100, 101, 102]).extract v.toNat (v + 1).toNat = ByteArray.mk #[hexd v] := by
  obtain ⟨n, rfl⟩ := Int.eq_ofNat_of_zero_le h0
  have hn : n < 16 := by omega
  match n, hn with
  | 0, _ | 1, _ | 2, _ | 3, _ | 4, _ | 5, _ | 6, _ | 7, _ | 8, _ | 9, _ | 10, _ | 11, _ | 12, _ | 13, _ | 14, _ | 15, _ => decide +kernel

/-- The first k of a word's eight digits. -/
def hexs (x : Int) : Nat → List UInt8
  | 0 => []
  | k + 1 => hexs x k ++ [hexd (x * 16 ^ k % 4294967296 / 268435456)]

theorem hexs_length (x : Int) (k : Nat) : (hexs x k).length = k := by
  induction k with
  | zero => rfl
  | succ k ih => simp [hexs, ih]

theorem shift_more (x : Int) (k : Nat) : x * 16 ^ k % 4294967296 * 16 % 4294967296 = x * 16 ^ (k + 1) % 4294967296 := by
  rw [Int.pow_succ, ← Int.mul_assoc]; omega

/-- How many blocks of 64 bytes the padded bytes are. -/
def blocks (n : Nat) : Nat := if 56 ≤ n % 64 then n / 64 + 2 else n / 64 + 1

/-- What the rounds mix. -/
def f (t : Nat) (b c d : Int) : Int :=
  if t < 20 then bits .or .u32 (bits .and .u32 b c) (bits .and .u32 (bits .xor .u32 IntKind.u32.max b) d)
  else if t < 40 then bits .xor .u32 (bits .xor .u32 b c) d
  else if t < 60 then bits .or .u32 (bits .or .u32 (bits .and .u32 b c) (bits .and .u32 b d)) (bits .and .u32 c d)
  else bits .xor .u32 (bits .xor .u32 b c) d

/-- The round's constant. -/
def K (t : Nat) : Int := if t < 20 then 1518500249 else if t < 40 then 1859775393 else if t < 60 then 2400959708 else 3395469782

def rol1 (x : Int) : Int := bits .or .u32 (x * 2 % 4294967296) (x / 2147483648)
def rol5 (x : Int) : Int := bits .or .u32 (x * 32 % 4294967296) (x / 134217728)
def rol30 (x : Int) : Int := bits .or .u32 (x * 1073741824 % 4294967296) (x / 4)

/-- The word behind the first n of a block's words. -/
def nextW (s : ByteArray) (b e : Int) (l : List Int) (n : Nat) : Int :=
  if n < 16 then pword s (b + 4 * n) e
  else rol1 (bits .xor .u32 (bits .xor .u32 (bits .xor .u32 (l.getD (n - 3) 0) (l.getD (n - 8) 0)) (l.getD (n - 14) 0)) (l.getD (n - 16) 0))

/-- The first n words of a block. -/
def wl (s : ByteArray) (b e : Int) : Nat → List Int
  | 0 => []
  | n + 1 => wl s b e n ++ [nextW s b e (wl s b e n) n]

theorem wl_length (s : ByteArray) (b e : Int) (n : Nat) : (wl s b e n).length = n := by
  induction n with
  | zero => rfl
  | succ n ih => simp [wl, ih]

theorem wl_old (s : ByteArray) (b e : Int) (n j : Nat) (h : j < n) : (wl s b e (n + 1)).getD j 0 = (wl s b e n).getD j 0 := by
  have hl := wl_length s b e n
  simp only [wl, List.getD_eq_getElem?_getD]
  rw [List.getElem?_append_left (by omega)]

theorem wl_new (s : ByteArray) (b e : Int) (n : Nat) : (wl s b e (n + 1)).getD n 0 = nextW s b e (wl s b e n) n := by
  have hl := wl_length s b e n
  simp only [wl, List.getD_eq_getElem?_getD]
  rw [List.getElem?_append_right (by omega)]
  simp [hl]

theorem bits_bd (o : BinOp) (a b : Int) : 0 ≤ bits o .u32 a b ∧ bits o .u32 a b < 4294967296 := by
  unfold bits
  simp only [IntKind.wrap_u32']
  exact ⟨Int.emod_nonneg _ (by omega), Int.emod_lt_of_pos _ (by omega)⟩

theorem rol1_bd (x : Int) : 0 ≤ rol1 x ∧ rol1 x < 4294967296 := by unfold rol1; exact bits_bd _ _ _
theorem rol30_bd (x : Int) : 0 ≤ rol30 x ∧ rol30 x < 4294967296 := by unfold rol30; exact bits_bd _ _ _
theorem mod_bd (x : Int) : 0 ≤ x % 4294967296 ∧ x % 4294967296 < 4294967296 := ⟨Int.emod_nonneg _ (by omega), Int.emod_lt_of_pos _ (by omega)⟩

theorem nextW_bd (s : ByteArray) (b e : Int) (l : List Int) (n : Nat) : 0 ≤ nextW s b e l n ∧ nextW s b e l n < 4294967296 := by
  unfold nextW
  split
  · exact pword_bd _ _ _
  · exact rol1_bd _

theorem wl_bd (s : ByteArray) (b e : Int) (n j : Nat) : 0 ≤ (wl s b e n).getD j 0 ∧ (wl s b e n).getD j 0 < 4294967296 := by
  induction n with
  | zero => simp [wl]
  | succ n ih =>
    by_cases h : j < n
    · rw [wl_old s b e n j h]; exact ih
    · by_cases h' : j = n
      · subst h'; rw [wl_new]; exact nextW_bd _ _ _ _ _
      · have hl := wl_length s b e (n + 1)
        rw [List.getD_eq_getElem?_getD, List.getElem?_eq_none (by omega)]
        simp

/-- Five words. -/
structure St where
  a : Int
  b : Int
  c : Int
  d : Int
  e : Int

/-- Each is a word. -/
structure St.Ok (x : St) : Prop where
  a : 0 ≤ x.a ∧ x.a < 4294967296
  b : 0 ≤ x.b ∧ x.b < 4294967296
  c : 0 ≤ x.c ∧ x.c < 4294967296
  d : 0 ≤ x.d ∧ x.d < 4294967296
  e : 0 ≤ x.e ∧ x.e < 4294967296

/-- A round. -/
def step (x : St) (t : Nat) (wt : Int) : St :=
  ⟨(rol5 x.a + f t x.b x.c x.d + x.e + K t + wt) % 4294967296, x.a, rol30 x.b, x.c, x.d⟩

/-- The first n rounds. -/
def rounds (l : List Int) (x : St) : Nat → St
  | 0 => x
  | n + 1 => step (rounds l x n) n (l.getD n 0)

theorem rounds_ok (l : List Int) (x : St) (h : x.Ok) (n : Nat) : (rounds l x n).Ok := by
  induction n with
  | zero => exact h
  | succ n ih => exact ⟨mod_bd _, ih.a, rol30_bd _, ih.c, ih.d⟩

/-- A block: 80 rounds, and what was there is added. -/
def mixed (l : List Int) (x : St) : St :=
  ⟨(x.a + (rounds l x 80).a) % 4294967296, (x.b + (rounds l x 80).b) % 4294967296, (x.c + (rounds l x 80).c) % 4294967296, (x.d + (rounds l x 80).d) % 4294967296, (x.e + (rounds l x 80).e) % 4294967296⟩

theorem mixed_ok (l : List Int) (x : St) : (mixed l x).Ok :=
  ⟨mod_bd _, mod_bd _, mod_bd _, mod_bd _, mod_bd _⟩

/-- The five words as an array's cells. -/
def St.cells (x : St) : Array Value := #[.int .u32 x.a, .int .u32 x.b, .int .u32 x.c, .int .u32 x.d, .int .u32 x.e]

def first : St := ⟨1732584193, 4023233417, 2562383102, 271733878, 3285377520⟩

/-- Behind the first n blocks. -/
def behind (s : ByteArray) (e : Int) : Nat → St
  | 0 => first
  | n + 1 => mixed (wl s (n * 64) e 80) (behind s e n)

/-- One of the five. -/
def St.word (x : St) : Nat → Int
  | 0 => x.a
  | 1 => x.b
  | 2 => x.c
  | 3 => x.d
  | _ => x.e

theorem St.Ok.word {x : St} (h : x.Ok) (j : Nat) : 0 ≤ x.word j ∧ x.word j < 4294967296 := by
  match j with
  | 0 => exact h.a
  | 1 => exact h.b
  | 2 => exact h.c
  | 3 => exact h.d
  | _ + 4 => exact h.e

theorem St.cells_at (x : St) (j : Nat) (h : j < 5) : x.cells[j]? = some (.int .u32 (x.word j)) := by
  match j, h with
  | 0, _ => rfl
  | 1, _ => rfl
  | 2, _ => rfl
  | 3, _ => rfl
  | 4, _ => rfl

/-- The digits of the first n words. -/
def St.text (x : St) : Nat → List UInt8
  | 0 => []
  | n + 1 => x.text n ++ hexs (x.word n) 8

theorem St.text_length (x : St) (n : Nat) : (x.text n).length = 8 * n := by
  induction n with
  | zero => rfl
  | succ n ih => simp [St.text, ih, hexs_length]; omega

/-- The digest. -/
def digest (s : ByteArray) : List UInt8 := (behind s (blocks s.size * 64) (blocks s.size)).text 5

end Go.Proofs.YtmmkhodaljpjgaaGreatDoor.Sha
