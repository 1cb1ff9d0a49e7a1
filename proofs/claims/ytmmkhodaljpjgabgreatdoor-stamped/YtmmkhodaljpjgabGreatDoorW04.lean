import Derived.Test.YtmmkhodaljpjgabGreatDoorW02
import Derived.Shelf.Strconv.Itoa3
import Derived.Shelf.Lay
import Derived.Ground.NamesProg
import Derived.Lib.AppendIntMem
import Derived.Deep.QuietTactic
import Derived.BigQuiet
namespace Go.Proofs.YtmmkhodaljpjgabGreatDoor
open Go.RowKit
namespace Txt
/-- A text's byte. -/
def byte (s : ByteArray) (i : Nat) : Int := ((s.data.toList.getD i 0).toNat : Int)
theorem byte_bd (s : ByteArray) (i : Nat) : 0 ≤ byte s i ∧ byte s i < 256 := by
  unfold byte; have := (s.data.toList.getD i 0).toNat_lt; omega
theorem byte_at (s : ByteArray) (i : Nat) (h : i < s.size) : byte s i = (s[i].toNat : Int) := by
  unfold byte; rw [getD_bytes s i h]
/-- The number that the first k digits are. -/
def numTo (s : ByteArray) : Nat → Int
  | 0 => 0
  | k + 1 => 10 * numTo s k + (byte s k - 48)
/-- Are the first k bytes digits? -/
def Digits (s : ByteArray) (k : Nat) : Prop := ∀ i, i < k → 48 ≤ byte s i ∧ byte s i ≤ 57
def digitsB (s : ByteArray) : Nat → Bool
  | 0 => true
  | k + 1 => digitsB s k && decide (48 ≤ byte s k ∧ byte s k ≤ 57)
theorem digitsB_iff (s : ByteArray) (k : Nat) : digitsB s k = true ↔ Digits s k := by
  induction k with
  | zero => exact ⟨fun _ i hi => by omega, fun _ => rfl⟩
  | succ k ih =>
    simp only [digitsB, Bool.and_eq_true, decide_eq_true_eq]
    rw [ih]
    refine ⟨fun h i hi => ?_, fun h => ⟨fun i hi => h i (by omega), h k (by omega)⟩⟩
    by_cases e : i = k
    · subst e; exact h.2
    · exact h.1 i (by omega)
/-- 1 to 11 digits; -1: it is none. -/
def number (s : ByteArray) : Int :=
  if s.size = 0 ∨ 11 < s.size then -1 else if digitsB s s.size = true then numTo s s.size else -1
theorem numTo_bd {s : ByteArray} (k : Nat) (h : Digits s k) : 0 ≤ numTo s k ∧ numTo s k < 10 ^ k := by
  induction k with
  | zero => simp [numTo]
  | succ k ih =>
    have a := ih (fun i hi => h i (by omega))
    have b := h k (by omega)
    simp only [numTo]
    rw [Int.pow_succ]
    omega
theorem pow10_le (k : Nat) (h : k ≤ 10) : (10 : Int) ^ k ≤ 10000000000 := by
  match k, h with
  | 0, _ | 1, _ | 2, _ | 3, _ | 4, _ | 5, _ | 6, _ | 7, _ | 8, _ | 9, _ | 10, _ => decide
/-- A hexadecimal digit (a small letter). -/
def HexB (c : Int) : Prop := (48 ≤ c ∧ c ≤ 57) ∨ (97 ≤ c ∧ c ≤ 102)
def Hexes (s : ByteArray) (k : Nat) : Prop := ∀ i, i < k → HexB (byte s i)
def hexesB (s : ByteArray) : Nat → Bool
  | 0 => true
  | k + 1 => hexesB s k && decide ((48 ≤ byte s k ∧ byte s k ≤ 57) ∨ (97 ≤ byte s k ∧ byte s k ≤ 102))
theorem hexesB_iff (s : ByteArray) (k : Nat) : hexesB s k = true ↔ Hexes s k := by
  induction k with
  | zero => exact ⟨fun _ i hi => by omega, fun _ => rfl⟩
  | succ k ih =>
    simp only [hexesB, Bool.and_eq_true, decide_eq_true_eq]
    rw [ih]
    refine ⟨fun h i hi => ?_, fun h => ⟨fun i hi => h i (by omega), h k (by omega)⟩⟩
    by_cases e : i = k
    · subst e; exact h.2
    · exact h.1 i (by omega)
def noughts : ByteArray := ⟨#[48, 48, 48, 48, 48, 48, 48, 48]⟩
/-- 1 to 8 hexadecimal digits, with noughts ahead: 8; empty: it is none. -/
def word (s : ByteArray) : ByteArray :=
  if s.size = 0 ∨ 8 < s.size then ⟨#[]⟩ else if hexesB s s.size = true then noughts.extract s.size 8 ++ s else ⟨#[]⟩
theorem word_no1 {s : ByteArray} (h : s.size = 0 ∨ 8 < s.size) : word s = ⟨#[]⟩ := by unfold word; rw [if_pos h]
theorem word_no2 {s : ByteArray} (h : ¬ Hexes s s.size) : word s = ⟨#[]⟩ := by
  unfold word
  split
  · rfl
  · rw [if_neg]; exact fun e => h ((hexesB_iff _ _).1 e)
theorem word_yes {s : ByteArray} (h : ¬ (s.size = 0 ∨ 8 < s.size)) (hd : Hexes s s.size) : word s = noughts.extract s.size 8 ++ s := by
  unfold word; rw [if_neg h, if_pos ((hexesB_iff _ _).2 hd)]
/-- Is the byte at k one of a word? -/
def inWord (s : ByteArray) (k : Nat) : Prop := k < s.size ∧ byte s k ≠ 32 ∧ byte s k ≠ 9
def inWordD (s : ByteArray) (k : Nat) : Decidable (inWord s k) := by unfold inWord; infer_instance
/-- The words behind the first k bytes, and what stands of one. -/
def scan (s : ByteArray) : Nat → List ByteArray × ByteArray
  | 0 => ([], ⟨#[]⟩)
  | k + 1 => @ite _ (inWord s k) (inWordD s k) ((scan s k).1, (scan s k).2 ++ s.extract k (k + 1)) <| if (scan s k).2 = ⟨#[]⟩ then scan s k else ((scan s k).1 ++ [(scan s k).2], ⟨#[]⟩)
/-- The words of a line. -/
def words (s : ByteArray) : List ByteArray := (scan s (s.size + 1)).1
theorem size_ext (s : ByteArray) (k : Nat) (h : k < s.size) : (s.extract k (k + 1)).size = 1 := by
  rw [ByteArray.size_extract]; omega
theorem not_empty {s : ByteArray} (h : ¬ s = ⟨#[]⟩) : s.toList.isEmpty = false := by
  rw [← decide_eq_emptyBytes]
  exact decide_eq_false h
theorem scan_bd (s : ByteArray) (k : Nat) : (scan s k).1.length ≤ k ∧ (scan s k).2.size ≤ k := by
  induction k with
  | zero => exact ⟨Nat.le_refl _, Nat.le_refl _⟩
  | succ k ih =>
    simp only [scan]
    split
    · rename_i h
      have := size_ext s k h.1
      refine ⟨by simp; omega, ?_⟩
      simp only [ByteArray.size_append]
      omega
    · split
      · omega
      · refine ⟨by simp; omega, by simp [ByteArray.size]⟩
/-- A number's digits. -/
def decF : Nat → Nat → List UInt8
  | 0, n => [UInt8.ofNat (48 + n)]
  | f + 1, n => if 9 < n then decF f (n / 10) ++ [UInt8.ofNat (48 + n % 10)] else [UInt8.ofNat (48 + n)]
theorem decF_succ (f n : Nat) : decF (f + 1) n = if 9 < n then decF f (n / 10) ++ [UInt8.ofNat (48 + n % 10)] else [UInt8.ofNat (48 + n)] := rfl
theorem decF_more (f n : Nat) (h : n ≤ f) : decF (f + 1) n = decF f n := by
  induction f generalizing n with
  | zero =>
    obtain rfl : n = 0 := by omega
    rfl
  | succ f ih =>
    rw [decF_succ, decF_succ f n]
    by_cases c : 9 < n
    · rw [if_pos c, if_pos c, ih (n / 10) (by omega)]
    · rw [if_neg c, if_neg c]
theorem decF_all (n k : Nat) : decF (n + k) n = decF n n := by
  induction k with
  | zero => rfl
  | succ k ih => rw [← ih]; exact decF_more (n + k) n (by omega)
def dec (n : Nat) : List UInt8 := decF n n
theorem dec_low (n : Nat) (h : ¬ 9 < n) : dec n = [UInt8.ofNat (48 + n)] := by
  unfold dec
  cases n with
  | zero => rfl
  | succ n => rw [decF_succ, if_neg h]
theorem dec_up (n : Nat) (h : 9 < n) : dec n = dec (n / 10) ++ [UInt8.ofNat (48 + n % 10)] := by
  obtain ⟨m, rfl⟩ : ∃ m, n = m + 1 := ⟨n - 1, by omega⟩
  have e := decF_all ((m + 1) / 10) (m - (m + 1) / 10)
  rw [show (m + 1) / 10 + (m - (m + 1) / 10) = m from by omega] at e
  unfold dec
  rw [decF_succ, if_pos h, e]
end Txt
namespace Txt
/-- A number's digits, as bytes. -/
def db (n : Int) : ByteArray := ⟨(dec n.toNat).toArray⟩
theorem dec_ten (n : Nat) (k : Nat) (h : n < 10 ^ (k + 1)) : (dec n).length ≤ k + 1 := by
  induction k generalizing n with
  | zero => rw [dec_low n (by omega)]; simp
  | succ k ih =>
    by_cases c : 9 < n
    · rw [dec_up n c, List.length_append]
      have := ih (n / 10) (by rw [Nat.pow_succ] at h; omega)
      simp; omega
    · rw [dec_low n c]; simp
theorem db_size (n : Int) (h : n < 1000000000000) : (db n).size ≤ 12 := by
  have := dec_ten n.toNat 11 (by omega)
  show (dec n.toNat).toArray.size ≤ 12
  simpa using this
def head (u x : Int) : ByteArray := ⟨#[35, 36, 32]⟩ ++ db u ++ ⟨#[10, 35, 64, 32]⟩ ++ db x ++ ⟨#[10]⟩
/-- One entry's line. -/
def eline (p : Int × Int) : ByteArray := db p.1 ++ ⟨#[32]⟩ ++ db p.2 ++ ⟨#[10]⟩
def prTo (u x : Int) (ls : List (Int × Int)) : Nat → ByteArray
  | 0 => head u x
  | k + 1 => prTo u x ls k ++ eline (ls.getD k (0, 0))
def dgTo (u x : Int) (ls : List (Int × Int)) : Nat → ByteArray
  | 0 => db u ++ db x
  | k + 1 => dgTo u x ls k ++ (db (ls.getD k (0, 0)).1 ++ db (ls.getD k (0, 0)).2)
def hlTo (h : ByteArray) : Nat → ByteArray
  | 0 => ⟨#[35, 104]⟩
  | k + 1 => hlTo h k ++ (⟨#[32]⟩ ++ h.extract (k * 8) (k * 8 + 8))
def hl (h : ByteArray) : ByteArray := hlTo h 5 ++ ⟨#[10]⟩
/-- The digest of all that is printed of a table. -/
def dgst (u x : Int) (ls : List (Int × Int)) : ByteArray := ⟨(Sha.digest (dgTo u x ls ls.length)).toArray⟩
/-- The file. -/
def print (u x : Int) (ls : List (Int × Int)) : ByteArray := prTo u x ls ls.length ++ hl (dgst u x ls)
theorem digest_size (s : ByteArray) : (ByteArray.mk (Sha.digest s).toArray).size = 40 := by
  show (Sha.digest s).toArray.size = 40
  unfold Sha.digest
  simp [Sha.St.text_length]
theorem size_app (a b : ByteArray) : (a ++ b).size = a.size + b.size := ByteArray.size_append
theorem head_size {u x : Int} (hu : u < 1000000000000) (hx : x < 1000000000000) : (head u x).size ≤ 32 := by
  have a := db_size u hu
  have b := db_size x hx
  unfold head
  rw [size_app, size_app, size_app, size_app]
  have c1 : (ByteArray.mk #[35, 36, 32]).size = 3 := rfl
  have c2 : (ByteArray.mk #[10, 35, 64, 32]).size = 4 := rfl
  have c3 : (ByteArray.mk #[10]).size = 1 := rfl
  omega
theorem eline_size {p : Int × Int} (h1 : p.1 < 1000000000000) (h2 : p.2 < 1000000000000) : (eline p).size ≤ 26 := by
  have a := db_size _ h1
  have b := db_size _ h2
  unfold eline
  rw [size_app, size_app, size_app]
  have c1 : (ByteArray.mk #[32]).size = 1 := rfl
  have c3 : (ByteArray.mk #[10]).size = 1 := rfl
  omega
theorem prTo_size {u x : Int} {ls : List (Int × Int)} (hu : u < 1000000000000) (hx : x < 1000000000000) (hl : ∀ i, (ls.getD i (0, 0)).1 < 1000000000000 ∧ (ls.getD i (0, 0)).2 < 1000000000000) (k : Nat) : (prTo u x ls k).size ≤ 32 + 26 * k := by
  induction k with
  | zero => exact head_size hu hx
  | succ k ih => rw [prTo, size_app]; have := eline_size (hl k).1 (hl k).2; omega
theorem dgTo_size {u x : Int} {ls : List (Int × Int)} (hu : u < 1000000000000) (hx : x < 1000000000000) (hl : ∀ i, (ls.getD i (0, 0)).1 < 1000000000000 ∧ (ls.getD i (0, 0)).2 < 1000000000000) (k : Nat) : (dgTo u x ls k).size ≤ 24 + 24 * k := by
  induction k with
  | zero => rw [dgTo, size_app]; have := db_size u hu; have := db_size x hx; omega
  | succ k ih => rw [dgTo, size_app, size_app]; have := db_size _ (hl k).1; have := db_size _ (hl k).2; omega
theorem hlTo_size (h : ByteArray) (k : Nat) : (hlTo h k).size ≤ 2 + 9 * k := by
  induction k with
  | zero => exact Nat.le_refl _
  | succ k ih =>
    rw [hlTo, size_app, size_app, ByteArray.size_extract]
    have c1 : (ByteArray.mk #[32]).size = 1 := rfl
    omega
end Txt
end Go.Proofs.YtmmkhodaljpjgabGreatDoor
namespace Go.Proofs
open Go.Shelf
shelf_lay LaysM.n171 Nm 171 at Tryz as Tryz.laysItoa
end Go.Proofs
namespace Go.Proofs.YtmmkhodaljpjgabGreatDoor
open Go.RowKit
/-- The powers of ten, as they were laid. -/
def Pows (w : World) : Prop := Lib.TabIs Tryz.prog w "internal/strconv.uint64pow10" .u64 Lib.pow10Tab
theorem Pows.below {w w' : World} (h : Pows w) (hb : Below w.heap.size w w') : Pows w' := Lib.tabBelow_of_tabIs h w' hb
theorem dec_itoa (n : Nat) : Lib.decDigits n = Txt.dec n := by
  induction n using Nat.strongRecOn with
  | _ n ih =>
    rw [Lib.decDigits]
    by_cases h : n < 10
    · rw [dif_pos h, Txt.dec_low n (by omega)]
    · rw [dif_neg h, Txt.dec_up n (by omega), ih (n / 10) (by omega)]
theorem itoa_any (n : Nat) (w : World) (hn : n ≤ 1000000000000) (hP : Pows w) :
    Calls Tryz.prog 64 #[.int .i64 n] w fun e w' => e = .returned (.string ⟨(Txt.dec n).toArray⟩) ∧ Below w.heap.size w w' := by
  refine (Any.strconv_Itoa Tryz.laysItoa (n : Int) (by omega) (by omega) w hP).mono ?_
  rintro e w' ⟨rfl, k, os, rfl⟩
  refine ⟨?_, ?_⟩
  · have : Lib.itoa (n : Int) = Txt.dec n := by
      unfold Lib.itoa
      rw [if_neg (by omega), Int.toNat_natCast, dec_itoa]
    rw [this]
  · exact (below_drewN (Below.refl w.heap.size w) k).trans ⟨rfl, rfl, rfl, by simp, fun j hj => Sort.heap_grow_old _ _ hj⟩
end Go.Proofs.YtmmkhodaljpjgabGreatDoor
namespace Go.Proofs.YtmmkhodaljpjgabGreatDoor
open Go.RowKit
theorem first_ok : Sha.first.Ok := ⟨by decide, by decide, by decide, by decide, by decide⟩
theorem behind_ok (s : ByteArray) (e : Int) (n : Nat) : (Sha.behind s e n).Ok := by
  cases n with
  | zero => exact first_ok
  | succ n => exact Sha.mixed_ok _ _
theorem blocks_bd (n : Nat) (h : n ≤ 1000000000) : Sha.blocks n ≤ 20000000 := by
  unfold Sha.blocks; split <;> omega
theorem mix_cells (x : Sha.St) (l : List Int) (w : World) (hx : x.Ok) (hl : l.length = 80) (hlb : ∀ j, 0 ≤ l.getD j 0 ∧ l.getD j 0 < 4294967296) (hT : Table w) :
    Calls Tryz.prog 86 #[.agg x.cells, .agg (l.map (Value.int .u32)).toArray] w fun q w' => q = .returned (.agg (Sha.mixed l x).cells) ∧ Below w.heap.size w w' :=
  mix_any x l w hx hl hlb hT
theorem words_size (l : List Int) (h : l.length = 80) : ((l.map (Value.int .u32)).toArray).size = 80 := by simp [h]
theorem st_one (x : Sha.St) : x.cells.all (·.oneCell') = true := by simp [Sha.St.cells, Value.oneCell']
set_option maxRecDepth 100000 in
set_option maxHeartbeats 1000000 in
theorem of_any (s : ByteArray) (w : World) (hs : s.size ≤ 1000000000) (hT : Table w) :
    Calls Tryz.prog 66 #[.string s] w fun q w' => q = .returned (.string ⟨(Sha.digest s).toArray⟩) ∧ Below w.heap.size w w' := by
  have hz := zero80.1
  have hp := hT.pos
  have hbl := blocks_bd s.size hs
  generalize hbn : Sha.blocks s.size = bn at *
  have HBN := hid hbn
  have HT := hid hT
  clear hbn hT
  go_enter Tryz.func66, Tryz.ntmps66
  go_wp2_with (go_at_call 84; refine (count_any _ _ hs).mono ?_; rw [HBN.out]; rintro q w' ⟨rfl, rfl⟩)
  go_loopw [5, 6] (fun i _ wr => ∃ k : Nat, k ≤ bn ∧ i = .int .i64 k ∧ Below w.heap.size w wr ∧ w.heap.size < wr.heap.size ∧ wr.heap[w.heap.size]? = some (.cells (Sha.behind s (bn * 64) k).cells 127 (0, 0))) (fun i _ _ => bn - (intOf i).toNat)
  case atStart => exact ⟨0, by omega, rfl, (Below.refl _ _).alloc (Nat.le_refl _) _, by simp, heap_alloc_new _ _⟩
  case round =>
    obtain ⟨k, hk, rfl, hbw, hlt0, hg⟩ := hrel
    by_cases hlt : k < bn
    · have HB := hid hbw
      have HG := hid hg
      have HTr := hid (HT.out.below hbw)
      clear hbw hg
      go_wp2_with fail
      refine (sched_any s (k * 64) (bn * 64) _ (by omega) (by omega) (by omega) (by omega) hs).mono ?_
      rintro q w1 ⟨rfl, hb1⟩
      have hw1 := hb1.size
      have HB1 := hid hb1
      have hl80 := Sha.wl_length s (k * 64) (bn * 64) 80
      have hlb := Sha.wl_bd s (k * 64) (bn * 64) 80
      have HN : Hid (Sha.behind s (bn * 64) (k + 1) = Sha.mixed (Sha.wl s (k * 64) (bn * 64) 80) (Sha.behind s (bn * 64) k)) := rfl
      have HOK := hid (behind_ok s (bn * 64) k)
      generalize Sha.wl s (k * 64) (bn * 64) 80 = l at *
      generalize Sha.behind s (bn * 64) k = x at *
      have HL := hid hl80
      have HLB := hid hlb
      have HW := hid (words_size l hl80)
      have HW1 := hid (words_one l)
      clear hl80 hlb hb1
      generalize hcs : (l.map (Value.int .u32)).toArray = cs at *
      have HCS := hid hcs
      clear hcs
      have GS : Hid ((w1.alloc (.cells (zeros 80) 128)).heap[w1.heap.size]? = some (.cells (zeros 80) 128 (0, 0))) := heap_alloc_new _ _
      have GX6 : Hid (((w1.alloc (.cells (zeros 80) 128)).setRow w1.heap.size cs).heap[w1.heap.size]? = some (.cells cs 128 (0, 0))) := setRow_heap _ _ _ _ _ _ GS.out
      have G1 : Hid (w1.heap[w.heap.size]? = some (.cells x.cells 127 (0, 0))) := by
        show _ = _; rw [HB1.out.block _ hlt0]; exact HG.out
      have GX3 : Hid (((w1.alloc (.cells (zeros 80) 128)).setRow w1.heap.size cs).heap[w.heap.size]? = some (.cells x.cells 127 (0, 0))) := by
        show _ = _; rw [setRow_other _ _ _ _ (by omega), Below.heap_alloc _ _ _ (by omega)]; exact G1.out
      have BX : Hid (Below w1.heap.size w1 ((w1.alloc (.cells (zeros 80) 128)).setRow w1.heap.size cs)) := below_setRow ((Below.refl _ _).alloc (Nat.le_refl _) _) (Nat.le_refl _)
      have SX : ((w1.alloc (.cells (zeros 80) 128)).setRow w1.heap.size cs).heap.size = w1.heap.size + 1 := by simp
      have I80 : Hid ((Tryz.prog.info? 128).map (·.size) = some cs.size) := by show _ = _; rw [HW.out]; exact zero80.2
      have I5 : Hid ((Tryz.prog.info? 127).map (·.size) = some x.cells.size) := zero5.2
      have SXH := hid SX
      clear SX
      go_wp2_with (first
        | ((with_reducible refine wpl_store (g := w1.heap.size) (cells := cs) GS.out I80.out ?_ HW1.out ?_ ?_ ?_); (rw [zeros_size, HW.out]); exact rfl; exact rfl)
        | ((with_reducible refine wpl_load (g := w.heap.size) GX3.out Tryz.underlying127 ?_ I5.out ?_ ?_); exact rfl; exact rfl)
        | ((with_reducible refine wpl_load (g := w1.heap.size) GX6.out Tryz.underlying128 ?_ I80.out ?_ ?_); exact rfl; exact rfl))
      generalize hX : (w1.alloc (.cells (zeros 80) 128)).setRow w1.heap.size cs = X at *
      clear hX
      have hsx := SXH.out
      have HTX : Table X := (HTr.out.below HB1.out).below BX.out
      have hm := mix_cells x l X HOK.out HL.out HLB.out HTX
      rw [HCS.out] at hm
      refine hm.mono ?_
      clear hm HTX
      rintro q w2 ⟨rfl, hb2⟩
      have G2 : Hid (w2.heap[w.heap.size]? = some (.cells x.cells 127 (0, 0))) := by show _ = _; rw [hb2.block _ (by omega)]; exact GX3.out
      have I5' : Hid ((Tryz.prog.info? 127).map (·.size) = some (Sha.mixed l x).cells.size) := zero5.2
      have H1' := hid (st_one (Sha.mixed l x))
      have hw2 := hb2.size
      have HB2 := hid hb2
      clear hb2
      go_wp2_with ((with_reducible refine wpl_store (g := w.heap.size) (cells := (Sha.mixed l x).cells) G2.out I5'.out ?_ H1'.out ?_ ?_ ?_); exact rfl; exact rfl; exact rfl)
      go_roundw
      case rel =>
        refine ⟨k + 1, by omega, by go_num, ?_, by simp; omega, ?_⟩
        · exact below_setRow (((HB.out.trans (HB1.out.mono (by omega))).trans (BX.out.mono (by omega))).trans (HB2.out.mono (by omega))) (Nat.le_refl _)
        · rw [HN.out]; exact setRow_heap _ _ _ _ _ _ G2.out
      case measure => simp [intOf]; omega
    · have ek : k = bn := by omega
      subst ek
      have HOK := hid (behind_ok s (k * 64) k)
      have HD : Hid (Sha.digest s = (Sha.behind s (k * 64) k).text 5) := by show _ = _; unfold Sha.digest; rw [HBN.out]
      generalize Sha.behind s (k * 64) k = x at *
      have HBW := hid hbw
      have HG := hid hg
      clear hbw hg
      go_wp2
      go_loop [7, 8] (fun t i => ∃ j : Nat, j ≤ 5 ∧ i = .int .i64 j ∧ t = .string ⟨(x.text j).toArray⟩) (fun _ i => 5 - (intOf i).toNat)
      case atStart => exact ⟨0, by omega, rfl, rfl⟩
      case round =>
        obtain ⟨j, hj, rfl, rfl⟩ := hrel
        by_cases hlt5 : j < 5
        · have hcell : wr.cell? ⟨w.heap.size, j, none⟩ = some (.int .u32 (x.word j)) := by
            rw [cell_of_row _ _ _ _ _ _ HG.out]; exact x.cells_at j hlt5
          have hwd := HOK.out.word j
          have htl := x.text_length j
          have HX : Hid (x.text (j + 1) = x.text j ++ Sha.hexs (x.word j) 8) := rfl
          have hxl := Sha.hexs_length (x.word j) 8
          have h1 : (ByteArray.mk (x.text j).toArray).size = 8 * j := by simpa [ByteArray.size] using htl
          have h2 : (ByteArray.mk (Sha.hexs (x.word j) 8).toArray).size = 8 := by simpa [ByteArray.size] using hxl
          clear htl hxl
          have HE : Hid (ByteArray.mk (x.text j).toArray ++ ByteArray.mk (Sha.hexs (x.word j) 8).toArray = ByteArray.mk (x.text (j + 1)).toArray) := by
            show _ = _; rw [HX.out]; congr 1
          have hcall := hex_any (x.word j) wr hwd.1 hwd.2
          have HCALL := hid hcall
          clear hcall
          generalize hA : ByteArray.mk (x.text j).toArray = A at *
          generalize hB : ByteArray.mk (Sha.hexs (x.word j) 8).toArray = B at *
          clear hA hB
          go_wp2_with (go_at_call 87; refine HCALL.out.mono ?_; rintro q w' ⟨rfl, rfl⟩)
          exact ⟨⟨j + 1, by omega, by go_num, by rw [HE.out]⟩, by simp [intOf]; omega⟩
        · have e5 : j = 5 := by omega
          subst e5
          go_wp2
          go_ret
          exact ⟨ret_str (by rw [HD.out]), HBW.out⟩
theorem begins_month (sec : Int) (w : World) (w0 : (Lit.int .i64 sec).wf = true) :
    Calls Tryz.prog 103 #[.int .i64 sec] w fun e w' => e = .returned (.bool (Tab.first sec)) ∧ w' = w := by
  have hb := bounds_i64 w0
  clear w0
  by_cases h0 : sec < 0
  · have H : Hid (Tab.first sec = false) := Tab.first_no fun h => by have := h.1; omega
    by_cases h1 : sec.tmod 86400 = 0
    · have h1' : (sec.tmod 86400 != 0) = false := by rw [bne_eq_false_iff_eq]; exact h1
      have hd : sec.tdiv 86400 < 0 := by
        have := Int.mul_tdiv_add_tmod sec 86400
        omega
      go_enter Tryz.func103, Tryz.ntmps103
      go_wp2_with fail
      refine (civil_no (sec.tdiv 86400) _ (.inl hd)).mono ?_
      rintro e w' ⟨rfl, rfl⟩
      go_wp2
      go_ret
      exact ⟨ret_bool H.out.symm, rfl⟩
    · have h1' : (sec.tmod 86400 != 0) = true := bne_iff_ne.2 h1
      go_enter Tryz.func103, Tryz.ntmps103
      go_wp2
      go_ret
      exact ⟨ret_bool H.out.symm, rfl⟩
  · by_cases h1 : sec % 86400 = 0
    · by_cases h2 : 401767 ≤ sec / 86400
      · have H : Hid (Tab.first sec = false) := Tab.first_no fun h => by
          obtain ⟨_, _, y, m, hi, _⟩ := h
          have a := hi.year
          have b := Cal.yb_mono (y + 1) 3000 (by have := hi.y2; omega)
          rw [Cal.yb_last] at b
          omega
        go_enter Tryz.func103, Tryz.ntmps103
        go_wp2_with fail
        refine (civil_no (sec / 86400) _ (.inr h2)).mono ?_
        rintro e w' ⟨rfl, rfl⟩
        go_wp2
        go_ret
        exact ⟨ret_bool H.out.symm, rfl⟩
      · go_enter Tryz.func103, Tryz.ntmps103
        go_wp2_with fail
        refine (civil_yes (sec / 86400) _ (by omega) (by omega)).mono ?_
        rintro e w' ⟨⟨y, m, rfl, hin⟩, rfl⟩
        have HI := hid' hin
        clear hin
        by_cases h3 : sec / 86400 = Cal.yb y + Cal.cum y m
        · have H : Hid (Tab.first sec = true) := Tab.first_yes ⟨by omega, h1, y, m, HI.out, h3⟩
          have hd : (sec / 86400 - Cal.yb y - Cal.cum y m + 1 == 1) = true := by rw [beq_iff_eq]; omega
          generalize sec / 86400 - Cal.yb y - Cal.cum y m + 1 = v at *
          clear h3
          go_wp2
          go_ret
          exact ⟨ret_bool H.out.symm, rfl⟩
        · have H : Hid (Tab.first sec = false) := Tab.first_no fun h => by
            obtain ⟨_, _, z, o, hi, hq⟩ := h
            obtain ⟨rfl, rfl⟩ := hi.only HI.out
            exact h3 hq
          have hd : (sec / 86400 - Cal.yb y - Cal.cum y m + 1 == 1) = false := by rw [beq_eq_false_iff_ne]; omega
          generalize sec / 86400 - Cal.yb y - Cal.cum y m + 1 = v at *
          clear h3
          go_wp2
          go_ret
          exact ⟨ret_bool H.out.symm, rfl⟩
    · have H : Hid (Tab.first sec = false) := Tab.first_no fun h => h1 h.2.1
      have h1' : (sec % 86400 != 0) = true := bne_iff_ne.2 h1
      go_enter Tryz.func103, Tryz.ntmps103
      go_wp2
      go_ret
      exact ⟨ret_bool H.out.symm, rfl⟩
set_option maxRecDepth 100000 in
set_option maxHeartbeats 1000000 in
theorem can_follow_nil (ao : Option Addr) (cap : Nat) (a o : Int) (w : World) (wa : (Lit.int .i64 a).wf = true) (wo : (Lit.int .i64 o).wf = true) :
    Calls Tryz.prog 82 #[.slice ao 0 cap, .agg #[.int .i64 a, .int .i64 o]] w fun e w' => e = .returned (.bool (Tab.follows [] a o)) ∧ Below w.heap.size w w' := by
  have HFst := hid' (begins_month a (w.alloc (.cells #[.int .i64 a, .int .i64 o] 49)) wa)
  have bo := bounds_i64 wo
  have HBel := hid' ((Below.refl w.heap.size w).alloc (Nat.le_refl _) (.cells #[.int .i64 a, .int .i64 o] 49))
  clear wa wo
  cases hf : Tab.first a with
  | false =>
    rw [hf] at HFst
    have H : Hid (Tab.follows [] a o = false) := Tab.follows_no1 hf
    clear hf
    go_enter Tryz.func82, Tryz.ntmps82
    go_wp2_with (go_at_call 103; refine HFst.out.mono ?_; rintro e w' ⟨rfl, rfl⟩)
    go_ret
    exact ⟨ret_bool H.out.symm, HBel.out⟩
  | true =>
    rw [hf] at HFst
    by_cases h0 : o < 0
    · have H : Hid (Tab.follows [] a o = false) := Tab.follows_no2 h0
      clear hf
      go_enter Tryz.func82, Tryz.ntmps82
      go_wp2_with (go_at_call 103; refine HFst.out.mono ?_; rintro e w' ⟨rfl, rfl⟩)
      go_ret
      exact ⟨ret_bool H.out.symm, HBel.out⟩
    · by_cases h1 : 200 < o
      · have H : Hid (Tab.follows [] a o = false) := Tab.follows_no3 h1
        clear hf
        go_enter Tryz.func82, Tryz.ntmps82
        go_wp2_with (go_at_call 103; refine HFst.out.mono ?_; rintro e w' ⟨rfl, rfl⟩)
        go_ret
        exact ⟨ret_bool H.out.symm, HBel.out⟩
      · have H : Hid (Tab.follows [] a o = true) := Tab.follows_nil hf (by omega) (by omega)
        clear hf
        go_enter Tryz.func82, Tryz.ntmps82
        go_wp2_with (go_at_call 103; refine HFst.out.mono ?_; rintro e w' ⟨rfl, rfl⟩)
        go_ret
        exact ⟨ret_bool H.out.symm, HBel.out⟩
set_option maxRecDepth 100000 in
set_option maxHeartbeats 1000000 in
theorem can_follow_some (g cap q : Nat) (ls : List (Int × Int)) (a o : Int) (w : World) (wa : (Lit.int .i64 a).wf = true) (wo : (Lit.int .i64 o).wf = true)
    (hq : ls.length = q + 1) (h40 : q < 40) (hl : Lies w g ls) (hg : g < w.heap.size) (hok : ∀ p ∈ ls, 0 ≤ p.2 ∧ p.2 ≤ 200) :
    Calls Tryz.prog 82 #[.slice (some ⟨g, 0, none⟩) ((q + 1 : Nat)) cap, .agg #[.int .i64 a, .int .i64 o]] w fun e w' => e = .returned (.bool (Tab.follows ls a o)) ∧ Below w.heap.size w w' := by
  have HFst := hid' (begins_month a (w.alloc (.cells #[.int .i64 a, .int .i64 o] 49)) wa)
  have bo := bounds_i64 wo
  have HBel := hid' ((Below.refl w.heap.size w).alloc (Nat.le_refl _) (.cells #[.int .i64 a, .int .i64 o] 49))
  have hp := hok (ls[q]'(by omega)) (List.getElem_mem _)
  have c1 := (HBel.out.cell (p := ⟨g, q * 2, none⟩) hg).trans (hl q (by omega)).1
  have c2 := (HBel.out.cell (p := ⟨g, q * 2 + 1, none⟩) hg).trans (hl q (by omega)).2
  have hlast := fun h h0 h1 h2 => Tab.follows_last (ls := ls) (a := a) (o := o) h h0 h1 h2 q hq
  have HLAST := hid' hlast
  clear hlast wa wo
  generalize ls[q]'(by omega) = p at *
  obtain ⟨pa, po⟩ := p
  simp only at hp c1 c2
  have hq40 : ls.length = 40 ↔ q = 39 := by omega
  have H40 := hid' hq40
  clear hok hq hq40 hl
  by_cases h2 : q = 39
  · have H : Hid (Tab.follows ls a o = false) := Tab.follows_no4 (H40.out.2 h2)
    clear c1 c2 H40 HLAST
    subst h2
    go_enter Tryz.func82, Tryz.ntmps82
    go_wp2
    go_ret
    exact ⟨ret_bool H.out.symm, HBel.out⟩
  have h39 : q < 39 := by omega
  clear h40
  cases hf : Tab.first a with
  | false =>
    rw [hf] at HFst
    have H : Hid (Tab.follows ls a o = false) := Tab.follows_no1 hf
    clear hf c1 c2
    go_enter Tryz.func82, Tryz.ntmps82
    go_wp2_with (go_at_call 103; refine HFst.out.mono ?_; rintro e w' ⟨rfl, rfl⟩)
    go_ret
    exact ⟨ret_bool H.out.symm, HBel.out⟩
  | true =>
    rw [hf] at HFst
    by_cases h0 : o < 0
    · have H : Hid (Tab.follows ls a o = false) := Tab.follows_no2 h0
      clear hf c1 c2
      go_enter Tryz.func82, Tryz.ntmps82
      go_wp2_with (go_at_call 103; refine HFst.out.mono ?_; rintro e w' ⟨rfl, rfl⟩)
      go_ret
      exact ⟨ret_bool H.out.symm, HBel.out⟩
    · by_cases h1 : 200 < o
      · have H : Hid (Tab.follows ls a o = false) := Tab.follows_no3 h1
        clear hf c1 c2
        go_enter Tryz.func82, Tryz.ntmps82
        go_wp2_with (go_at_call 103; refine HFst.out.mono ?_; rintro e w' ⟨rfl, rfl⟩)
        go_ret
        exact ⟨ret_bool H.out.symm, HBel.out⟩
      · have H : Hid (Tab.follows ls a o = Tab.behindB (pa, po) a o) := HLAST.out hf (by omega) (by omega) (fun h => h2 (H40.out.1 h))
        clear hf HLAST H40 h2
        go_enter Tryz.func82, Tryz.ntmps82
        go_wp2_with (go_at_call 103; refine HFst.out.mono ?_; rintro e w' ⟨rfl, rfl⟩)
        all_goals
          go_ret
          refine ⟨ret_bool ?_, ((Below.refl w.heap.size w).alloc (Nat.le_refl _) _).alloc (by simp) _⟩
          rw [H.out]
          unfold Tab.behindB
          simp
          try omega
end Go.Proofs.YtmmkhodaljpjgabGreatDoor
