import Derived.Deep.QuietTactic
import Derived.BigQuiet
import Derived.BigRegion
import Derived.Test.YtmmkhodaljpjgabGreatDoorW22
import Derived.Deep.RegionHeld3
import Derived.Deep.Cut
import Derived.Deep.CutBlock
namespace Go.Proofs.YtmmkhodaljpjgabGreatDoor
open Go.RowKit
namespace Txt
/-- How long the extension field at a place says it is. -/
def field (p : ByteArray) (i : Nat) : Int := byte p (i + 2) * 256 + byte p (i + 3)
theorem field_bd (p : ByteArray) (i : Nat) : 0 ≤ field p i ∧ field p i < 65536 := by
  have := byte_bd p (i + 2); have := byte_bd p (i + 3); unfold field; omega
/-- Nothing but extension fields from there on (f: at most so many). -/
def extsF (p : ByteArray) : Nat → Nat → Bool
  | 0, _ => true
  | f + 1, i => if p.size ≤ i then true else if p.size < i + 16 then false else if field p i < 16 ∨ field p i % 4 ≠ 0 ∨ (p.size : Int) - i < field p i then false else extsF p f (i + (field p i).toNat)
def exts (p : ByteArray) (i : Nat) : Bool := extsF p (p.size - i) i
theorem extsF_succ (p : ByteArray) (f i : Nat) : extsF p (f + 1) i = if p.size ≤ i then true else if p.size < i + 16 then false else if field p i < 16 ∨ field p i % 4 ≠ 0 ∨ (p.size : Int) - i < field p i then false else extsF p f (i + (field p i).toNat) := rfl
theorem extsF_more (p : ByteArray) (f i : Nat) (h : p.size - i ≤ f) : extsF p (f + 1) i = extsF p f i := by
  induction f generalizing i with
  | zero => rw [extsF_succ, if_pos (by omega)]; rfl
  | succ f ih =>
    by_cases c : p.size ≤ i
    · rw [extsF_succ p (f + 1) i, extsF_succ p f i, if_pos c, if_pos c]
    · rw [extsF_succ p (f + 1) i, extsF_succ p f i, if_neg c, if_neg c]
      by_cases c2 : p.size < i + 16
      · rw [if_pos c2, if_pos c2]
      · rw [if_neg c2, if_neg c2]
        by_cases c3 : field p i < 16 ∨ field p i % 4 ≠ 0 ∨ (p.size : Int) - i < field p i
        · rw [if_pos c3, if_pos c3]
        · rw [if_neg c3, if_neg c3, ih (i + (field p i).toNat) (by omega)]
theorem extsF_all (p : ByteArray) (i k : Nat) : extsF p (p.size - i + k) i = exts p i := by
  induction k with
  | zero => rfl
  | succ k ih => rw [← Nat.add_assoc, extsF_more _ _ _ (by omega), ih]
/-- P15: is it a client's packet? -/
def asks (p : ByteArray) : Bool := decide (48 ≤ p.size) && decide (p.size ≤ 300) && decide (byte p 0 % 8 = 3) && decide (1 ≤ byte p 0 / 8 % 8) && decide (byte p 0 / 8 % 8 ≤ 4) && exts p 48
theorem low3 (b : UInt8) : bits BinOp.and IntKind.u8 (b.toNat : Int) 7 = (b.toNat : Int) % 8 :=
  (show ∀ x : Fin 256, bits BinOp.and IntKind.u8 (x.val : Int) 7 = (x.val : Int) % 8 by decide +kernel) ⟨b.toNat, b.toNat_lt⟩
theorem or8 (a c : UInt8) : bits BinOp.or IntKind.i64 (wrap64 (wrap64 (a.toNat : Int) * 256)) (wrap64 (c.toNat : Int)) = (a.toNat : Int) * 256 + c.toNat := by
  have ha := a.toNat_lt
  have hc := c.toNat_lt
  generalize a.toNat = x at *
  generalize c.toNat = y at *
  have e1 : wrap64 (wrap64 (x : Int) * 256) = ((x * 256 : Nat) : Int) := by unfold wrap64; omega
  have e2 : wrap64 (y : Int) = (y : Int) := by unfold wrap64; omega
  rw [e1, e2]
  have h : x * 256 ||| y = x * 256 + y := by
    have := Nat.shiftLeft_add_eq_or_of_lt (a := x) (b := y) (i := 8) (by omega)
    rw [Nat.shiftLeft_eq] at this
    exact this.symm
  have hb : (BitVec.ofInt 64 ((x * 256 : Nat) : Int) ||| BitVec.ofInt 64 (y : Int)).toNat = x * 256 + y := by
    rw [BitVec.toNat_or, BitVec.ofInt_natCast, BitVec.ofInt_natCast, BitVec.toNat_ofNat, BitVec.toNat_ofNat, Nat.mod_eq_of_lt (by omega), Nat.mod_eq_of_lt (by omega), h]
  show IntKind.i64.wrap ((BitVec.ofInt 64 ((x * 256 : Nat) : Int) ||| BitVec.ofInt 64 (y : Int)).toNat : Int) = _
  rw [hb, IntKind.wrap_i64]
  omega
theorem exts_end {p : ByteArray} {i : Nat} (h : p.size ≤ i) : exts p i = true := by
  rw [exts, show p.size - i = 0 from by omega]; rfl
theorem exts_at {p : ByteArray} {i : Nat} (h : i < p.size) : exts p i = if p.size < i + 16 then false else if field p i < 16 ∨ field p i % 4 ≠ 0 ∨ (p.size : Int) - i < field p i then false else extsF p (p.size - i - 1) (i + (field p i).toNat) := by
  obtain ⟨k, hk⟩ : ∃ k, p.size - i = k + 1 := ⟨p.size - i - 1, by omega⟩
  rw [exts, hk, extsF_succ, if_neg (by omega), Nat.add_sub_cancel]
theorem exts_short {p : ByteArray} {i : Nat} (h : i < p.size) (h2 : p.size < i + 16) : exts p i = false := by rw [exts_at h, if_pos h2]
theorem exts_bad {p : ByteArray} {i : Nat} (h : i < p.size) (h2 : ¬ p.size < i + 16) (h3 : field p i < 16 ∨ field p i % 4 ≠ 0 ∨ (p.size : Int) - i < field p i) : exts p i = false := by rw [exts_at h, if_neg h2, if_pos h3]
theorem exts_next {p : ByteArray} {i : Nat} (h : i < p.size) (h2 : ¬ p.size < i + 16) (h3 : ¬ (field p i < 16 ∨ field p i % 4 ≠ 0 ∨ (p.size : Int) - i < field p i)) : exts p i = exts p (i + (field p i).toNat) := by
  rw [exts_at h, if_neg h2, if_neg h3]
  have e : p.size - (i + (field p i).toNat) + (p.size - i - 1 - (p.size - (i + (field p i).toNat))) = p.size - i - 1 := by omega
  rw [← extsF_all p (i + (field p i).toNat) (p.size - i - 1 - (p.size - (i + (field p i).toNat))), e]
end Txt
def byteOf (x : Int) : UInt8 := UInt8.ofNat (x % 256).toNat
theorem byteOf_val (x : Int) : ((byteOf x).toNat : Int) = x % 256 := by
  unfold byteOf; simp; omega
/-- A number's four bytes, the high ones first. -/
def four (x : Int) : List UInt8 := [byteOf (x / 16777216), byteOf (x / 65536), byteOf (x / 256), byteOf x]
/-- The first byte of an answer. -/
def first8 (li : Int) (p : ByteArray) : UInt8 := byteOf (li * 64 + Txt.byte p 0 / 8 % 8 * 8 + 4)
/-- P15: an answer. -/
def ansB (li : Int) (p : ByteArray) (tab : Bool) (ts tf : Int) : ByteArray :=
  ByteArray.mk #[first8 li p, if tab then 1 else 0, byteOf (Txt.byte p 2), 236, 0, 0, 0, 0, 0, 0, 0, 0] ++ (if tab then ByteArray.mk #[76, 69, 65, 80] else ByteArray.mk #[73, 78, 73, 84]) ++ ⟨(four ts ++ four tf).toArray⟩ ++ p.extract 40 48 ++ ⟨(four ts ++ four tf).toArray⟩ ++ ⟨(four ts ++ four tf).toArray⟩
namespace Txt
theorem byte_tail (p : ByteArray) (k j : Nat) : byte (p.extract k p.size) j = byte p (k + j) := by
  unfold byte
  by_cases h : k + j < p.size
  · rw [List.getD_eq_getElem?_getD, List.getD_eq_getElem?_getD]
    congr 2
    simp only [Array.getElem?_toList, ByteArray.data_extract, Array.getElem?_extract]
    rw [if_pos (by have : p.size = p.data.size := rfl; omega)]
  · have e1 : (p.extract k p.size).data.toList.length ≤ j := by
      have : (p.extract k p.size).size ≤ j := by rw [ByteArray.size_extract]; omega
      simpa using this
    have e2 : p.data.toList.length ≤ k + j := by
      have : p.size ≤ k + j := by omega
      simpa using this
    rw [List.getD_eq_getElem?_getD, List.getD_eq_getElem?_getD, List.getElem?_eq_none e1, List.getElem?_eq_none e2]
theorem field_ext (p : ByteArray) (k i : Nat) : field (p.extract k p.size) i = field p (k + i) := by
  unfold field; rw [byte_tail, byte_tail, Nat.add_assoc, Nat.add_assoc]
theorem size_ext' (p : ByteArray) (k : Nat) : (p.extract k p.size).size = p.size - k := by rw [ByteArray.size_extract]; omega
theorem extsF_ext (p : ByteArray) (k : Nat) (hk : k ≤ p.size) : ∀ f i, extsF (p.extract k p.size) f i = extsF p f (k + i) := by
  intro f
  induction f with
  | zero => intro i; rfl
  | succ f ih =>
    intro i
    rw [extsF_succ, extsF_succ, field_ext, size_ext', ih]
    have c1 : (p.size - k ≤ i) = (p.size ≤ k + i) := by rw [eq_iff_iff]; omega
    have c2 : (p.size - k < i + 16) = (p.size < k + i + 16) := by rw [eq_iff_iff]; omega
    have c3 : (((p.size - k : Nat) : Int) - (i : Int) < field p (k + i)) = ((p.size : Int) - ((k + i : Nat) : Int) < field p (k + i)) := by rw [eq_iff_iff]; omega
    rw [Nat.add_assoc k i (field p (k + i)).toNat]
    simp only [c1, c2, c3]
theorem exts_ext (p : ByteArray) (k : Nat) (hk : k ≤ p.size) : exts (p.extract k p.size) 0 = exts p k := by
  unfold exts; rw [extsF_ext p k hk, size_ext']; rfl
/-- How long the field says it is with which a text begins; 0, if it cannot be. -/
def flen (s : ByteArray) : Int := if s.size < 16 then 0 else if field s 0 % 4 ≠ 0 then 0 else field s 0
theorem ver3 (b : UInt8) : bits BinOp.and IntKind.u8 ((b.toNat : Int) / 8) 7 = (b.toNat : Int) / 8 % 8 :=
  (show ∀ x : Fin 256, bits BinOp.and IntKind.u8 ((x.val : Int) / 8) 7 = (x.val : Int) / 8 % 8 by decide +kernel) ⟨b.toNat, b.toNat_lt⟩
end Txt
/-- Four bytes become a text. -/
theorem four_back (V : World) (a c d e : UInt8) (x y z u : Int) (hx : x = (a.toNat : Int)) (hy : y = (c.toNat : Int)) (hz : z = (d.toNat : Int)) (hu : u = (e.toNat : Int)) : (convert 106 9 (.slice (some ⟨V.heap.size, 0, none⟩) 4 4)).run Tryz.prog (V.alloc (.cells #[.int .u8 x, .int .u8 y, .int .u8 z, .int .u8 u] 5)) = .ok (.string ⟨#[a, c, d, e]⟩) (V.alloc (.cells #[.int .u8 x, .int .u8 y, .int .u8 z, .int .u8 u] 5)) := by
  subst hx hy hz hu
  refine run_convert_bytes_back (P := Tryz.prog) _ 106 9 5 ⟨V.heap.size, 0, none⟩ 4 [a, c, d, e] Tryz.underlying106 Tryz.underlying5 Tryz.underlying9 (fun j hj => ?_)
  have hadd : (⟨V.heap.size, 0, none⟩ : Addr).add j = ⟨V.heap.size, j, none⟩ := by unfold Addr.add; split <;> simp_all
  rw [hadd, cell_of_row _ _ j _ _ _ (heap_alloc_new V _)]
  have h : j = 0 ∨ j = 1 ∨ j = 2 ∨ j = 3 := by simp at hj; omega
  rcases h with rfl | rfl | rfl | rfl <;> rfl
theorem ba_ext {a b : ByteArray} (h : a.data.toList = b.data.toList) : a = b := by
  cases a; cases b
  simp at h
  rw [ByteArray.mk.injEq]
  exact h
/-- An answer's bytes. -/
theorem ans_list (li : Int) (p : ByteArray) (ts tf : Int) (hp : 48 ≤ p.size) : ∃ A X : List UInt8, (ansB li p true ts tf).data.toList = A ++ (X ++ ((four ts ++ four tf) ++ (four ts ++ four tf))) ∧ A.length = 24 ∧ X.length = 8 ∧ (p.extract 40 48).data.toList = X ∧ A[0]? = some (first8 li p) := by
  refine ⟨[first8 li p, 1, byteOf (Txt.byte p 2), 236, 0, 0, 0, 0, 0, 0, 0, 0, 76, 69, 65, 80] ++ (four ts ++ four tf), (p.extract 40 48).data.toList, ?_, rfl, ?_, rfl, rfl⟩
  · unfold ansB
    simp [ByteArray.data_append, four]
  · have : (p.extract 40 48).size = 8 := by rw [ByteArray.size_extract]; omega
    rw [Array.length_toList]; exact this
theorem ans_size (li : Int) (p : ByteArray) (ts tf : Int) (hp : 48 ≤ p.size) : (ansB li p true ts tf).size = 48 := by
  obtain ⟨A, X, e, a, x, _⟩ := ans_list li p ts tf hp
  have : (ansB li p true ts tf).data.toList.length = 48 := by rw [e]; simp [a, x, four]
  simpa using this
theorem ext_list (a : ByteArray) (i j : Nat) : (a.extract i j).data.toList = (a.data.toList.drop i).take (j - i) := by
  simp [ByteArray.data_extract, Array.toList_extract]
theorem ans_own (li : Int) (p : ByteArray) (ts tf : Int) (hp : 48 ≤ p.size) : (ansB li p true ts tf).extract 24 32 = p.extract 40 48 := by
  obtain ⟨A, X, e, a, x, ex, _⟩ := ans_list li p ts tf hp
  apply ba_ext
  rw [ext_list, e, ex, List.drop_left' a, List.take_left' x]
theorem ans_rec (li : Int) (p : ByteArray) (ts tf : Int) (hp : 48 ≤ p.size) : (ansB li p true ts tf).extract 32 40 = (ansB li p true ts tf).extract 40 48 := by
  obtain ⟨A, X, e, a, x, ex, _⟩ := ans_list li p ts tf hp
  apply ba_ext
  rw [ext_list, ext_list, e]
  have h3 : (four ts ++ four tf).length = 8 := rfl
  generalize four ts ++ four tf = S at *
  have h1 : (A ++ X).length = 32 := by simp [a, x]
  have h2 : (A ++ X ++ S).length = 40 := by simp [a, x, h3]
  have e1 : List.drop 32 (A ++ (X ++ (S ++ S))) = S ++ S := by rw [← List.append_assoc]; exact List.drop_left' h1
  have e2 : List.drop 40 (A ++ (X ++ (S ++ S))) = S := by rw [← List.append_assoc, ← List.append_assoc]; exact List.drop_left' h2
  rw [e1, e2, List.take_left' (show S.length = 40 - 32 from h3), List.take_of_length_le (by omega)]
theorem ans_byte (li : Int) (p : ByteArray) (ts tf : Int) (hp : 48 ≤ p.size) (i : Nat) (hi : i < 8) : (ansB li p true ts tf).data.toList[40 + i]? = (four ts ++ four tf)[i]? := by
  obtain ⟨A, X, e, a, x, ex, _⟩ := ans_list li p ts tf hp
  have h2 : (A ++ X ++ (four ts ++ four tf)).length = 40 := by simp [a, x, four]
  rw [e, ← List.append_assoc, ← List.append_assoc, List.getElem?_append_right (by omega), h2, Nat.add_sub_cancel_left]
theorem ans_first (li : Int) (p : ByteArray) (ts tf : Int) (hp : 48 ≤ p.size) : (ansB li p true ts tf).data.toList[0]? = some (first8 li p) := by
  obtain ⟨A, X, e, a, x, ex, f⟩ := ans_list li p ts tf hp
  rw [e, List.getElem?_append_left (by omega), f]
/-- The question that is sent. -/
def asked (own : ByteArray) : ByteArray := ((ByteArray.mk #[35] ++ ByteArray.mk #[48, 49, 50, 51, 52, 53, 54, 55, 56, 57, 48, 49, 50, 51, 52, 53, 54, 55, 56, 57, 48, 49, 50, 51, 52, 53, 54, 55, 56, 57, 48, 49, 50, 51, 52, 53, 54, 55, 56]) ++ own) ++ ByteArray.mk #[48, 49, 50, 51, 52, 53, 54, 55]
theorem asked_size (own : ByteArray) : (asked own).size = 48 + own.size := by
  unfold asked
  rw [ByteArray.size_append, ByteArray.size_append, ByteArray.size_append]
  show 1 + 39 + own.size + 8 = 48 + own.size
  omega
theorem asked_byte (own : ByteArray) (n : Nat) (hn : 0 < n) : Txt.byte ((asked own).extract 0 n) 0 = 35 := by
  unfold Txt.byte
  rw [ext_list]
  have : (asked own).data.toList = 35 :: ((asked own).data.toList.drop 1) := by
    unfold asked
    simp [ByteArray.data_append]
  rw [this]
  obtain ⟨m, rfl⟩ : ∃ m, n = m + 1 := ⟨n - 1, by omega⟩
  rfl
theorem asked_cut (own : ByteArray) : ((asked own).extract 0 48).extract 40 48 = (asked own).extract 40 48 := by
  apply ba_ext
  rw [ext_list, ext_list, ext_list]
  simp [List.drop_take, List.take_take]
theorem asked_eq (own : ByteArray) : ByteArray.mk #[35] ++ (ByteArray.mk #[48, 49, 50, 51, 52, 53, 54, 55, 56, 57, 48, 49, 50, 51, 52, 53, 54, 55, 56, 57, 48, 49, 50, 51, 52, 53, 54, 55, 56, 57, 48, 49, 50, 51, 52, 53, 54, 55, 56, 57]).extract 0 39 ++ own ++ ByteArray.mk #[48, 49, 50, 51, 52, 53, 54, 55] = asked own := by
  have e : (ByteArray.mk #[48, 49, 50, 51, 52, 53, 54, 55, 56, 57, 48, 49, 50, 51, 52, 53, 54, 55, 56, 57, 48, 49, 50, 51, 52, 53, 54, 55, 56, 57, 48, 49, 50, 51, 52, 53, 54, 55, 56, 57]).extract 0 39 = ByteArray.mk #[48, 49, 50, 51, 52, 53, 54, 55, 56, 57, 48, 49, 50, 51, 52, 53, 54, 55, 56, 57, 48, 49, 50, 51, 52, 53, 54, 55, 56, 57, 48, 49, 50, 51, 52, 53, 54, 55, 56] := by
    apply ba_ext
    rw [ext_list]
    rfl
  rw [e]
  rfl
theorem asked_yes (own : ByteArray) : Txt.asks ((asked own).extract 0 48) = true ∧ ((asked own).extract 0 48).size = 48 := by
  have z : ((asked own).extract 0 48).size = 48 := by rw [ByteArray.size_extract, asked_size]; omega
  refine ⟨?_, z⟩
  unfold Txt.asks
  rw [asked_byte own 48 (by omega), z, Txt.exts_end (by omega)]
  decide
theorem asked_no (own : ByteArray) : Txt.asks ((asked own).extract 0 47) = false ∧ ((asked own).extract 0 47).size = 47 := by
  have z : ((asked own).extract 0 47).size = 47 := by rw [ByteArray.size_extract, asked_size]; omega
  refine ⟨?_, z⟩
  unfold Txt.asks
  rw [z]
  rfl
/-- A number out of its first bytes. -/
def acc4 (x : Int) : Nat → Int
  | 0 => 0
  | 1 => x / 16777216 % 256
  | 2 => 256 * (x / 16777216 % 256) + x / 65536 % 256
  | 3 => 256 * (256 * (x / 16777216 % 256) + x / 65536 % 256) + x / 256 % 256
  | _ => x % 4294967296
theorem acc4_end (x : Int) : acc4 x 4 = x % 4294967296 := rfl
theorem acc4_bd (x : Int) (j : Nat) (h : j ≤ 4) : 0 ≤ acc4 x j ∧ acc4 x j < 4294967296 := by
  have h' : j = 0 ∨ j = 1 ∨ j = 2 ∨ j = 3 ∨ j = 4 := by omega
  rcases h' with rfl | rfl | rfl | rfl | rfl <;> simp only [acc4] <;> omega
theorem get_byte {a : ByteArray} {i : Nat} {b : UInt8} (h : a.data.toList[i]? = some b) (hi : i < a.size) : a[i]'hi = b := by
  have h2 : i < a.data.toList.length := by rw [Array.length_toList]; exact hi
  rw [List.getElem?_eq_getElem h2, Array.getElem_toList] at h
  exact Option.some.inj h
/-- What the bytes of an answer are. -/
theorem four_at (x : Int) (j : Nat) (hj : j < 4) : ∃ b : UInt8, (four x)[j]? = some b ∧ 256 * acc4 x j + (b.toNat : Int) = acc4 x (j + 1) := by
  have h' : j = 0 ∨ j = 1 ∨ j = 2 ∨ j = 3 := by omega
  rcases h' with rfl | rfl | rfl | rfl
  · exact ⟨_, rfl, by rw [byteOf_val]; simp only [acc4]; omega⟩
  · exact ⟨_, rfl, by rw [byteOf_val]; simp only [acc4]⟩
  · exact ⟨_, rfl, by rw [byteOf_val]; simp only [acc4]⟩
  · exact ⟨_, rfl, by rw [byteOf_val]; simp only [acc4]; omega⟩
theorem ans_acc {ts tf : Int} {an : ByteArray} (h : ∀ i, i < 8 → an.data.toList[40 + i]? = (four ts ++ four tf)[i]?) (hz : an.size = 48) (j : Nat) (hj : j < 4) :
    256 * acc4 ts j + ((an[40 + j]'(by omega)).toNat : Int) = acc4 ts (j + 1) ∧ 256 * acc4 tf j + ((an[44 + j]'(by omega)).toNat : Int) = acc4 tf (j + 1) := by
  obtain ⟨b, hb, eb⟩ := four_at ts j hj
  obtain ⟨d, hd, ed⟩ := four_at tf j hj
  have l : (four ts).length = 4 := rfl
  have h1 := h j (by omega)
  rw [List.getElem?_append_left (by omega), hb] at h1
  have h2 := h (4 + j) (by omega)
  rw [List.getElem?_append_right (by omega), l, Nat.add_sub_cancel_left, hd, ← Nat.add_assoc] at h2
  rw [get_byte h1 (by omega), get_byte h2 (by omega)]
  exact ⟨eb, ed⟩
theorem first_ok' {li : Int} {p an : ByteArray} (hp : Txt.byte p 0 = 35) (h : an.data.toList[0]? = some (first8 li p)) (hz : 0 < an.size) (lb : li = 0 ∨ li = 1 ∨ li = 2) : (((an[0]'hz).toNat : Int) != bits BinOp.or IntKind.i64 (li * 64) 36 % 256) = false := by
  rw [get_byte h hz]
  unfold first8
  rw [byteOf_val, hp]
  rcases lb with rfl | rfl | rfl <;> decide
theorem p_version (b : UInt8) (w : World) : Calls Tryz.prog 56 #[.int .u8 (b.toNat : Int)] w fun e w' => e = .returned (.int .u8 ((b.toNat : Int) / 8 % 8)) ∧ w' = w := by
  have e := Txt.ver3 b
  have hb := b.toNat_lt
  go_enter Tryz.func56, Tryz.ntmps56
  go_wp2
  go_ret
  exact ⟨rfl, rfl⟩
set_option maxHeartbeats 1000000 in
theorem p_four (n : Int) (w : World) : Calls Tryz.prog 58 #[.int .i64 n] w fun e w' => e = .returned (.string ⟨(four n).toArray⟩) ∧ Below w.heap.size w w' := by
  have q24 := byteOf_val (n / 16777216)
  have q16 := byteOf_val (n / 65536)
  have q8 := byteOf_val (n / 256)
  have q0 := byteOf_val n
  have TB := four_back w (byteOf (n / 16777216)) (byteOf (n / 65536)) (byteOf (n / 256)) (byteOf n) _ _ _ _ q24.symm q16.symm q8.symm q0.symm
  clear q24 q16 q8 q0
  go_enter Tryz.func58, Tryz.ntmps58
  go_wp2
  go_ret
  exact ⟨rfl, (Below.refl w.heap.size w).alloc (Nat.le_refl _) _⟩
set_option maxHeartbeats 1000000 in
theorem p_flen (s : ByteArray) (w : World) (hs : s.size ≤ 1000000) : Calls Tryz.prog 79 #[.string s] w fun e w' => e = .returned (.int .i64 (Txt.flen s)) ∧ Below w.heap.size w w' := by
  by_cases c1 : s.size < 16
  · have z1 : (s.size : Int) < 16 := by omega
    have z3 : decide ((s.size : Int) < 16) = true := decide_eq_true z1
    have E : Hid (Txt.flen s = 0) := by show _ = _; unfold Txt.flen; rw [if_pos c1]
    go_enter Tryz.func79, Tryz.ntmps79
    go_wp2
    go_ret
    exact ⟨ret_int (by rw [E.out]), Below.refl _ _⟩
  have z1 : ¬ (s.size : Int) < 16 := by omega
  have z3 : decide ((s.size : Int) < 16) = false := decide_eq_false z1
  have l2 : 2 < s.size := by omega
  have l3 : 3 < s.size := by omega
  have i2 : (2 : Int) < (s.size : Int) := by omega
  have i3 : (3 : Int) < (s.size : Int) := by omega
  have FL := Txt.or8 (s[2]'l2) (s[3]'l3)
  have FE : ((s[2]'l2).toNat : Int) * (256 : Int) + ((s[3]'l3).toNat : Int) = Txt.field s 0 := by unfold Txt.field; rw [Txt.byte_at s _ l2, Txt.byte_at s _ l3]
  rw [FE] at FL
  have fb := Txt.field_bd s 0
  have EF : Hid (Txt.flen s = if Txt.field s 0 % 4 ≠ 0 then 0 else Txt.field s 0) := by show _ = _; unfold Txt.flen; rw [if_neg c1]
  clear FE
  generalize Txt.field s 0 = fl at *
  by_cases c2 : fl % 4 = 0
  · have n2 : (fl % 4 != 0) = false := by rw [bne_eq_false_iff_eq]; exact c2
    have E : Hid (Txt.flen s = fl) := by show _ = _; rw [EF.out, if_neg (by omega)]
    clear c2 EF
    go_enter Tryz.func79, Tryz.ntmps79
    go_wp2_with fail
    go_quiet (fail)
    go_wp2
    go_ret
    exact ⟨ret_int (by rw [E.out]), below_drewN (Below.refl _ _) _⟩
  · have n2 : (fl % 4 != 0) = true := bne_iff_ne.2 c2
    have E : Hid (Txt.flen s = 0) := by show _ = _; rw [EF.out, if_pos c2]
    clear c2 EF
    go_enter Tryz.func79, Tryz.ntmps79
    go_wp2_with fail
    go_quiet (fail)
    go_wp2
    go_ret
    exact ⟨ret_int (by rw [E.out]), below_drewN (Below.refl _ _) _⟩
theorem ext_ext (s : ByteArray) (i k : Nat) : (s.extract i s.size).extract k (s.extract i s.size).size = s.extract (i + k) s.size := by
  rw [Txt.size_ext']
  apply ByteArray.ext
  simp only [ByteArray.data_extract, Array.extract_extract]
  congr 1
  have : s.size = s.data.size := rfl
  omega
theorem ext_whole (s : ByteArray) : s.extract 0 s.size = s := by
  apply ByteArray.ext
  rw [ByteArray.data_extract]
  exact Array.extract_size
/-- A text's size. -/
def txtSz : Value → Nat | .string s => s.size | _ => 0
set_option maxRecDepth 100000 in
set_option maxHeartbeats 1000000 in
theorem p_fields (s : ByteArray) (w : World) (hs : s.size ≤ 1000000) : Calls Tryz.prog 57 #[.string s] w fun e w' => e = .returned (.bool (Txt.exts s 0)) ∧ Below w.heap.size w w' := by
  go_enter Tryz.func57, Tryz.ntmps57
  go_wp2
  go_loopw [3] (fun r wr => ∃ i : Nat, i ≤ s.size ∧ r = .string (s.extract i s.size) ∧ Txt.exts s i = Txt.exts s 0 ∧ Below w.heap.size w wr) (fun r _ => txtSz r)
  case atStart => exact ⟨0, by omega, by rw [ext_whole], rfl, Below.refl _ _⟩
  case round =>
    obtain ⟨i, hi, rfl, hx, hb⟩ := hrel
    have sz := Txt.size_ext' s i
    have HX := hid' hx
    have HB := hid' hb
    have sb := hb.size
    have FN := hid' (p_flen (s.extract i s.size) wr (by omega))
    have EE := hid' (fun k => ext_ext s i k)
    have EF : Hid (Txt.flen (s.extract i s.size) = if s.size - i < 16 then 0 else if Txt.field s i % 4 ≠ 0 then 0 else Txt.field s i) := by
      show _ = _
      unfold Txt.flen
      rw [Txt.field_ext, sz]; rfl
    have fb := Txt.field_bd s i
    clear hx hb
    by_cases c0 : s.size ≤ i
    · have E : Hid (Txt.exts s 0 = true) := by show _ = _; rw [← HX.out]; exact Txt.exts_end c0
      generalize s.extract i s.size = r at *
      have z0 : (r.size : Int) = 0 := by omega
      have z1 : decide ((0 : Int) < 0) = false := by decide
      clear EF EE FN HX
      go_wp2
      go_ret
      exact ⟨ret_bool E.out.symm, HB.out⟩
    · by_cases c1 : s.size < i + 16 ∨ (Txt.field s i < 16 ∨ Txt.field s i % 4 ≠ 0 ∨ (s.size : Int) - i < Txt.field s i)
      · have E : Hid (Txt.exts s 0 = false) := by
          show _ = _
          rw [← HX.out]
          by_cases c2 : s.size < i + 16
          · exact Txt.exts_short (by omega) c2
          · exact Txt.exts_bad (by omega) c2 (c1.resolve_left c2)
        have lb : Txt.flen (s.extract i s.size) < 16 ∨ ((s.extract i s.size).size : Int) < Txt.flen (s.extract i s.size) := by
          rw [EF.out, sz]
          split
          · omega
          · split
            · omega
            · omega
        have lz : 0 ≤ Txt.flen (s.extract i s.size) ∧ Txt.flen (s.extract i s.size) < 65536 := by
          rw [EF.out]
          split
          · omega
          · split <;> omega
        clear EF EE HX c1
        generalize Txt.flen (s.extract i s.size) = fl at *
        generalize s.extract i s.size = r at *
        have z0 : (0 : Int) < (r.size : Int) := by omega
        have z1 : decide ((0 : Int) < (r.size : Int)) = true := decide_eq_true z0
        by_cases c3 : fl < 16
        · have d3 : decide (fl < 16) = true := decide_eq_true c3
          clear lb
          go_wp2_with (go_at_call 79; refine FN.out.mono ?_; rintro e w1 ⟨rfl, b1⟩; have B1 := hid' (HB.out.trans (b1.mono sb)); clear b1)
          go_ret
          exact ⟨ret_bool E.out.symm, B1.out⟩
        · have d3 : decide (fl < 16) = false := decide_eq_false c3
          have c4 : (r.size : Int) < fl := by omega
          have d4 : decide ((r.size : Int) < fl) = true := decide_eq_true c4
          clear lb
          go_wp2_with (go_at_call 79; refine FN.out.mono ?_; rintro e w1 ⟨rfl, b1⟩; have B1 := hid' (HB.out.trans (b1.mono sb)); clear b1)
          go_ret
          exact ⟨ret_bool E.out.symm, B1.out⟩
      · have hn1 : ¬ s.size < i + 16 := fun h => c1 (.inl h)
        have hn2 : ¬ (Txt.field s i < 16 ∨ Txt.field s i % 4 ≠ 0 ∨ (s.size : Int) - i < Txt.field s i) := fun h => c1 (.inr h)
        have E := hid' ((Txt.exts_next (by omega) hn1 hn2).symm.trans HX.out)
        have lf : Txt.flen (s.extract i s.size) = Txt.field s i := by rw [EF.out, if_neg (by omega), if_neg (by omega)]
        rw [lf] at FN
        have EE' := EE.out
        clear EF HX c1 lf EE hn1
        generalize Txt.field s i = fl at *
        obtain ⟨k, rfl⟩ : ∃ k : Nat, fl = k := ⟨fl.toNat, by omega⟩
        have ek := hid' (EE' k)
        rw [Int.toNat_natCast] at E
        clear EE'
        obtain ⟨r, hr⟩ : ∃ r, s.extract i s.size = r := ⟨_, rfl⟩
        rw [hr] at FN ek sz
        have hk1 : ¬ (k : Int) < 16 := by omega
        have hk2 : ¬ (r.size : Int) < (k : Int) := by omega
        have z0 : (0 : Int) < (r.size : Int) := by omega
        rw [hr]
        have z1 : decide ((0 : Int) < (r.size : Int)) = true := decide_eq_true z0
        have z2 : decide ((k : Int) < 16) = false := decide_eq_false hk1
        have z3 : decide ((r.size : Int) < (k : Int)) = false := decide_eq_false hk2
        have HR := hid' hr
        clear hn2 hr
        go_wp2_with (go_at_call 79; refine FN.out.mono ?_; rintro e w1 ⟨rfl, b1⟩; have B1 := hid' (HB.out.trans (b1.mono sb)); clear b1)
        go_roundw
        case rel => exact ⟨i + k, by omega, by rw [← ek.out, sz], E.out, B1.out⟩
        case measure => simp [txtSz]; omega
set_option maxRecDepth 100000 in
set_option maxHeartbeats 1000000 in
theorem p_clients (p : ByteArray) (w : World) (hs : p.size ≤ 1000000) : Calls Tryz.prog 38 #[.string p] w fun e w' => e = .returned (.bool (Txt.asks p)) ∧ Below w.heap.size w w' := by
  have HA : Hid (Txt.asks p = (decide (48 ≤ p.size) && decide (p.size ≤ 300) && decide (Txt.byte p 0 % 8 = 3) && decide (1 ≤ Txt.byte p 0 / 8 % 8) && decide (Txt.byte p 0 / 8 % 8 ≤ 4) && Txt.exts p 48)) := rfl
  generalize Txt.asks p = res at *
  by_cases c1 : p.size < 48
  · have z1 : (p.size : Int) < 48 := by omega
    have z3 : decide ((p.size : Int) < 48) = true := decide_eq_true z1
    have e : Hid (res = false) := by show _ = _; rw [HA.out, decide_eq_false (by omega : ¬ 48 ≤ p.size)]; rfl
    clear HA
    go_enter Tryz.func38, Tryz.ntmps38
    go_wp2
    go_ret
    exact ⟨ret_bool e.out.symm, Below.refl _ _⟩
  have z1 : ¬ (p.size : Int) < 48 := by omega
  have z3 : decide ((p.size : Int) < 48) = false := decide_eq_false z1
  by_cases c2 : 300 < p.size
  · have z2 : (300 : Int) < (p.size : Int) := by omega
    have z4 : decide ((300 : Int) < (p.size : Int)) = true := decide_eq_true z2
    have e : Hid (res = false) := by show _ = _; rw [HA.out, decide_eq_false (by omega : ¬ p.size ≤ 300)]; simp
    clear HA
    go_enter Tryz.func38, Tryz.ntmps38
    go_wp2
    go_ret
    exact ⟨ret_bool e.out.symm, Below.refl _ _⟩
  have z2 : ¬ (300 : Int) < (p.size : Int) := by omega
  have z4 : decide ((300 : Int) < (p.size : Int)) = false := decide_eq_false z2
  have l0 : 0 < p.size := by omega
  have e1 := Txt.low3 (p[0]'l0)
  have PV := hid' (fun W => p_version (p[0]'l0) W)
  rw [← Txt.byte_at p 0 l0] at e1
  have bb := Txt.byte_bd p 0
  rw [decide_eq_true (by omega : 48 ≤ p.size), decide_eq_true (by omega : p.size ≤ 300)] at HA
  simp only [Bool.true_and] at HA
  have HV : Hid (((p[0]'l0).toNat : Int) = Txt.byte p 0) := (Txt.byte_at p 0 l0).symm
  obtain ⟨mo, hmo⟩ : ∃ mo, Txt.byte p 0 % 8 = mo := ⟨_, rfl⟩
  obtain ⟨ve, hve⟩ : ∃ ve, Txt.byte p 0 / 8 % 8 = ve := ⟨_, rfl⟩
  have PV2 : Hid (∀ W, Calls Tryz.prog 56 #[.int .u8 ((p[0]'l0).toNat : Int)] W fun e w' => e = .returned (.int .u8 ve) ∧ w' = W) := fun W => by
    have h := PV.out W
    rw [show (((p[0]'l0).toNat : Int)) / 8 % 8 = ve by rw [HV.out]; exact hve] at h
    exact h
  rw [hmo] at e1 HA
  rw [hve] at HA
  rw [Txt.byte_at p 0 l0] at e1
  have vb : 0 ≤ ve ∧ ve < 8 := by omega
  have mb : 0 ≤ mo ∧ mo < 8 := by omega
  clear hmo hve bb PV HV
  by_cases c3 : mo = 3
  case neg =>
    have n3 : (mo != 3) = true := bne_iff_ne.2 c3
    have e : Hid (res = false) := by show _ = _; rw [HA.out, decide_eq_false c3]; rfl
    clear HA
    go_enter Tryz.func38, Tryz.ntmps38
    go_wp2_with (go_at_call 56; refine (PV2.out _).mono ?_; rintro e w1 ⟨rfl, rfl⟩)
    go_ret
    exact ⟨ret_bool e.out.symm, Below.refl _ _⟩
  subst c3
  by_cases c4 : ve < 1
  · have d4 : decide (ve < 1) = true := decide_eq_true c4
    have e : Hid (res = false) := by show _ = _; rw [HA.out, decide_eq_false (by omega : ¬ 1 ≤ ve)]; simp
    clear HA
    go_enter Tryz.func38, Tryz.ntmps38
    go_wp2_with (go_at_call 56; refine (PV2.out _).mono ?_; rintro e w1 ⟨rfl, rfl⟩)
    go_ret
    exact ⟨ret_bool e.out.symm, Below.refl _ _⟩
  have d4 : decide (ve < 1) = false := decide_eq_false c4
  by_cases c5 : 4 < ve
  · have d5 : decide (4 < ve) = true := decide_eq_true c5
    have e : Hid (res = false) := by show _ = _; rw [HA.out, decide_eq_false (by omega : ¬ ve ≤ 4)]; simp
    clear HA
    go_enter Tryz.func38, Tryz.ntmps38
    go_wp2_with (go_at_call 56; refine (PV2.out _).mono ?_; rintro e w1 ⟨rfl, rfl⟩)
    go_ret
    exact ⟨ret_bool e.out.symm, Below.refl _ _⟩
  have d5 : decide (4 < ve) = false := decide_eq_false c5
  have PF := p_fields (p.extract 48 p.size) w (by rw [Txt.size_ext']; omega)
  have e : Hid (res = Txt.exts p 48) := by show _ = _; rw [HA.out, decide_eq_true (by omega : 1 ≤ ve), decide_eq_true (by omega : ve ≤ 4)]; simp
  rw [Txt.exts_ext p 48 (by omega), ← e.out] at PF
  have HF := hid' PF
  have i48 : (48 : Int) ≤ (p.size : Int) := by omega
  clear HA PF e
  go_enter Tryz.func38, Tryz.ntmps38
  go_wp2_with (go_at_call 56; refine (PV2.out _).mono ?_; rintro e w1 ⟨rfl, rfl⟩)
  refine HF.out.mono ?_
  rintro e w1 ⟨rfl, b1⟩
  have B1 := hid' b1
  clear b1 HF
  go_wp2
  go_ret
  exact ⟨rfl, B1.out⟩
theorem first_or' (b : UInt8) (li : Int) (hl : li = 0 ∨ li = 1 ∨ li = 2 ∨ li = 3) : bits BinOp.or IntKind.u8 (bits BinOp.or IntKind.u8 (li * 64) ((b.toNat : Int) / 8 % 8 * 8)) 4 = li * 64 + (b.toNat : Int) / 8 % 8 * 8 + 4 := by
  rcases hl with rfl | rfl | rfl | rfl
  · exact (show ∀ x : Fin 256, bits BinOp.or IntKind.u8 (bits BinOp.or IntKind.u8 ((0 : Int) * 64) ((x.val : Int) / 8 % 8 * 8)) 4 = 0 * 64 + (x.val : Int) / 8 % 8 * 8 + 4 by decide +kernel) ⟨b.toNat, b.toNat_lt⟩
  · exact (show ∀ x : Fin 256, bits BinOp.or IntKind.u8 (bits BinOp.or IntKind.u8 ((1 : Int) * 64) ((x.val : Int) / 8 % 8 * 8)) 4 = 1 * 64 + (x.val : Int) / 8 % 8 * 8 + 4 by decide +kernel) ⟨b.toNat, b.toNat_lt⟩
  · exact (show ∀ x : Fin 256, bits BinOp.or IntKind.u8 (bits BinOp.or IntKind.u8 ((2 : Int) * 64) ((x.val : Int) / 8 % 8 * 8)) 4 = 2 * 64 + (x.val : Int) / 8 % 8 * 8 + 4 by decide +kernel) ⟨b.toNat, b.toNat_lt⟩
  · exact (show ∀ x : Fin 256, bits BinOp.or IntKind.u8 (bits BinOp.or IntKind.u8 ((3 : Int) * 64) ((x.val : Int) / 8 % 8 * 8)) 4 = 3 * 64 + (x.val : Int) / 8 % 8 * 8 + 4 by decide +kernel) ⟨b.toNat, b.toNat_lt⟩
theorem first_bits' (li : Int) (p : ByteArray) (l0 : 0 < p.size) (hl : li = 0 ∨ li = 1 ∨ li = 2 ∨ li = 3) : bits BinOp.or IntKind.u8 (bits BinOp.or IntKind.u8 (li * 64) (((p[0]'l0).toNat : Int) / 8 % 8 * 8)) 4 = ((first8 li p).toNat : Int) := by
  rw [first_or' _ _ hl]
  unfold first8
  rw [byteOf_val, Txt.byte_at p 0 l0]
  have := (p[0]'l0).toNat_lt
  omega
theorem mk_app (a b : List UInt8) : ByteArray.mk (a ++ b).toArray = ByteArray.mk a.toArray ++ ByteArray.mk b.toArray := by
  apply ByteArray.ext
  simp
set_option maxRecDepth 100000 in
set_option maxHeartbeats 3200000 in
theorem p_ans (p : ByteArray) (li ts tf : Int) (tab : Bool) (w : World) (hz : 48 ≤ p.size) (hz2 : p.size ≤ 300) (hl : li = 0 ∨ li = 1 ∨ li = 2 ∨ li = 3) :
    Calls Tryz.prog 39 #[.string p, .int .i64 li, .bool tab, .agg #[.int .i64 ts, .int .i64 tf]] w fun e w' => e = .returned (.string (ansB li p tab ts tf)) ∧ Below w.heap.size w w' := by
  have l0 : 0 < p.size := by omega
  have l2 : 2 < p.size := by omega
  have FO := first_bits' li p l0 hl
  have PV := hid' (fun W => p_version (p[0]'l0) W)
  obtain ⟨Fi, hF⟩ : ∃ Fi : Int, ((first8 li p).toNat : Int) = Fi := ⟨_, rfl⟩
  rw [hF] at FO
  have fb : 0 ≤ Fi ∧ Fi < 256 := by have := (first8 li p).toNat_lt; omega
  have h2 : byteOf (Txt.byte p 2) = p[2]'l2 := by
    rw [Txt.byte_at p 2 l2]
    unfold byteOf
    have := (p[2]'l2).toNat_lt
    rw [Int.emod_eq_of_lt (by omega) (by omega)]
    simp
  have HR : Hid (ansB li p tab ts tf = ByteArray.mk #[first8 li p, if tab then 1 else 0, p[2]'l2, 236, 0, 0, 0, 0, 0, 0, 0, 0] ++ (if tab then ByteArray.mk #[76, 69, 65, 80] else ByteArray.mk #[73, 78, 73, 84]) ++ ⟨(four ts ++ four tf).toArray⟩ ++ p.extract 40 48 ++ ⟨(four ts ++ four tf).toArray⟩ ++ ⟨(four ts ++ four tf).toArray⟩) := by
    show ansB _ _ _ _ _ = _
    unfold ansB; rw [h2]
  have B0 := hid' ((Below.refl w.heap.size w).alloc (Nat.le_refl _) (.cells #[.int .i64 ts, .int .i64 tf] 33))
  have R0 := hid' (heap_alloc_new w (.cells #[.int .i64 ts, .int .i64 tf] 33))
  have i2 : (2 : Int) < (p.size : Int) := by omega
  have i48 : (48 : Int) ≤ (p.size : Int) := by omega
  have i40 : (40 : Int) ≤ (p.size : Int) := by omega
  have z1 : ¬ (p.size : Int) < 48 := by omega
  have hlb : 0 ≤ li ∧ li ≤ 3 := by omega
  have vb : 0 ≤ ((p[0]'l0).toNat : Int) / 8 % 8 ∧ ((p[0]'l0).toNat : Int) / 8 % 8 < 8 := by omega
  generalize ((p[0]'l0).toNat : Int) / 8 % 8 = ve at *
  have bb2 := (p[2]'l2).toNat_lt
  have SA : Hid (ByteArray.mk (four ts ++ four tf).toArray = ByteArray.mk (four ts).toArray ++ ByteArray.mk (four tf).toArray) := mk_app _ _
  rw [SA.out] at HR
  have P1 := hid' (fun W => p_four ts W)
  have P2 := hid' (fun W => p_four tf W)
  have za : (ByteArray.mk (four ts).toArray).size = 4 := rfl
  have zb : (ByteArray.mk (four tf).toArray).size = 4 := rfl
  generalize ByteArray.mk (four ts).toArray = a4 at *
  generalize ByteArray.mk (four tf).toArray = b4 at *
  have ze : (p.extract 40 48).size = 8 := by rw [ByteArray.size_extract]; omega
  have sV : (w.alloc (.cells #[.int .i64 ts, .int .i64 tf] 33)).heap.size = w.heap.size + 1 := by simp
  clear h2 hl SA
  cases tab with
  | false =>
    have TW := four_back (w.alloc (.cells #[.int .i64 ts, .int .i64 tf] 33)) (first8 li p) 0 (p[2]'l2) 236 Fi 0 ((p[2]'l2).toNat : Int) 236 hF.symm rfl rfl rfl
    rw [sV] at TW
    have BV := hid' (B0.out.alloc B0.out.size (.cells #[.int .u8 Fi, .int .u8 0, .int .u8 ((p[2]'l2).toNat : Int), .int .u8 236] 5))
    have RV := hid' ((((Below.refl _ (w.alloc (.cells #[.int .i64 ts, .int .i64 tf] 33))).alloc (Nat.le_refl _) (.cells #[.int .u8 Fi, .int .u8 0, .int .u8 ((p[2]'l2).toNat : Int), .int .u8 236] 5)).block _ (lt_of_heap R0.out)).trans R0.out)
    clear sV B0 R0
    go_enter Tryz.func39, Tryz.ntmps39
    go_wp2_with (go_at_call 56; refine (PV.out _).mono ?_; rintro e w1 ⟨rfl, rfl⟩)
    clear TW FO PV
    obtain ⟨V, hV⟩ : ∃ V, (w.alloc (.cells #[.int .i64 ts, .int .i64 tf] 33)).alloc (.cells #[.int .u8 Fi, .int .u8 0, .int .u8 ((p[2]'l2).toNat : Int), .int .u8 236] 5) = V := ⟨_, rfl⟩
    rw [hV] at BV RV
    rw [hV]
    clear hV
    have y0 := cell_of_row _ _ 0 _ _ _ RV.out
    have y1 := cell_of_row _ _ 1 _ _ _ RV.out
    simp at y0 y1
    have lV := lt_of_heap RV.out
    go_region_held3 (fun w' => w'.cell? ⟨w.heap.size, 0, none⟩ = some (.int .i64 ts) ∧ w'.cell? ⟨w.heap.size, 1, none⟩ = some (.int .i64 tf)) (first | go_keep | assumption)
      (first
        | (go_at_call_of 58 (Value.int .i64 ts); refine (P1.out _).mono ?_; rintro e w8 ⟨rfl, hb8⟩; have HB8 := hid' hb8; have m0 := hb8.cell (p := ⟨w.heap.size, 0, none⟩) lV; have m1 := hb8.cell (p := ⟨w.heap.size, 1, none⟩) lV; have lV8 := Nat.lt_of_lt_of_le lV hb8.size; clear hb8)
        | (go_at_call_of 58 (Value.int .i64 tf); refine (P2.out _).mono ?_; rintro e w9 ⟨rfl, hb9⟩; have HB9 := hid' hb9; have m2 := hb9.cell (p := ⟨w.heap.size, 0, none⟩) lV8; have m3 := hb9.cell (p := ⟨w.heap.size, 1, none⟩) lV8; clear hb9))
    all_goals
      go_wp2
      go_ret
      exact ⟨by rw [HR.out]; rfl, (BV.out.drew.trans (HB8.out.mono BV.out.drew.size)).trans (HB9.out.mono (Nat.le_of_lt lV8))⟩
  | true =>
    have TW := four_back (w.alloc (.cells #[.int .i64 ts, .int .i64 tf] 33)) (first8 li p) 1 (p[2]'l2) 236 Fi 1 ((p[2]'l2).toNat : Int) 236 hF.symm rfl rfl rfl
    rw [sV] at TW
    have BV := hid' (B0.out.alloc B0.out.size (.cells #[.int .u8 Fi, .int .u8 1, .int .u8 ((p[2]'l2).toNat : Int), .int .u8 236] 5))
    have RV := hid' ((((Below.refl _ (w.alloc (.cells #[.int .i64 ts, .int .i64 tf] 33))).alloc (Nat.le_refl _) (.cells #[.int .u8 Fi, .int .u8 1, .int .u8 ((p[2]'l2).toNat : Int), .int .u8 236] 5)).block _ (lt_of_heap R0.out)).trans R0.out)
    clear sV B0 R0
    go_enter Tryz.func39, Tryz.ntmps39
    go_wp2_with (go_at_call 56; refine (PV.out _).mono ?_; rintro e w1 ⟨rfl, rfl⟩)
    clear TW FO PV
    obtain ⟨V, hV⟩ : ∃ V, (w.alloc (.cells #[.int .i64 ts, .int .i64 tf] 33)).alloc (.cells #[.int .u8 Fi, .int .u8 1, .int .u8 ((p[2]'l2).toNat : Int), .int .u8 236] 5) = V := ⟨_, rfl⟩
    rw [hV] at BV RV
    rw [hV]
    clear hV
    have y0 := cell_of_row _ _ 0 _ _ _ RV.out
    have y1 := cell_of_row _ _ 1 _ _ _ RV.out
    simp at y0 y1
    have lV := lt_of_heap RV.out
    go_region_held3 (fun w' => w'.cell? ⟨w.heap.size, 0, none⟩ = some (.int .i64 ts) ∧ w'.cell? ⟨w.heap.size, 1, none⟩ = some (.int .i64 tf)) (first | go_keep | assumption)
      (first
        | (go_at_call_of 58 (Value.int .i64 ts); refine (P1.out _).mono ?_; rintro e w8 ⟨rfl, hb8⟩; have HB8 := hid' hb8; have m0 := hb8.cell (p := ⟨w.heap.size, 0, none⟩) lV; have m1 := hb8.cell (p := ⟨w.heap.size, 1, none⟩) lV; have lV8 := Nat.lt_of_lt_of_le lV hb8.size; clear hb8)
        | (go_at_call_of 58 (Value.int .i64 tf); refine (P2.out _).mono ?_; rintro e w9 ⟨rfl, hb9⟩; have HB9 := hid' hb9; have m2 := hb9.cell (p := ⟨w.heap.size, 0, none⟩) lV8; have m3 := hb9.cell (p := ⟨w.heap.size, 1, none⟩) lV8; clear hb9))
    all_goals
      go_wp2
      go_ret
      exact ⟨by rw [HR.out]; rfl, (BV.out.drew.trans (HB8.out.mono BV.out.drew.size)).trans (HB9.out.mono (Nat.le_of_lt lV8))⟩
set_option maxRecDepth 100000 in
set_option maxHeartbeats 3200000 in
theorem srv_answer_no (b : Nat) (p : ByteArray) (w : World) (hs : p.size ≤ 1000000) (ha : Txt.asks p = false) :
    Calls Tryz.prog 26 #[.pointer (some ⟨b, 0, none⟩), .string p] w fun e w' => e = .returned (.tuple #[.string ⟨#[]⟩, .int .i64 14]) ∧ Below w.heap.size w w' := by
  have HA := p_clients p w hs
  rw [ha] at HA
  have HA := hid' HA
  go_enter Tryz.func26, Tryz.ntmps26
  go_wp2_with fail
  refine HA.out.mono ?_
  rintro e w1 ⟨rfl, b1⟩
  have B1 := hid' b1
  clear b1 HA
  go_wp2
  go_ret2
  exact ⟨rfl, B1.out⟩
set_option maxRecDepth 100000 in
set_option maxHeartbeats 3200000 in
theorem srv_answer_yes (b : Nat) (p : ByteArray) (ts tf li er : Int) (w : World) (hs : p.size ≤ 1000000) (ha : Txt.asks p = true) (hN : ∀ W, Below w.heap.size w W → Tells 22 b ts tf li er W) (hl : li = 0 ∨ li = 1 ∨ li = 2 ∨ li = 3) :
    Calls Tryz.prog 26 #[.pointer (some ⟨b, 0, none⟩), .string p] w fun e w' => e = .returned (.tuple #[.string (ansB li p (er == 0) ts tf), .int .i64 0]) ∧ Below w.heap.size w w' := by
  have HA := p_clients p w hs
  rw [ha] at HA
  have HA := hid' HA
  have hz : 48 ≤ p.size ∧ p.size ≤ 300 := by
    have h := ha
    unfold Txt.asks at h
    simp only [Bool.and_eq_true, decide_eq_true_eq] at h
    exact ⟨h.1.1.1.1.1, h.1.1.1.1.2⟩
  have PA := hid' (fun W => p_ans p li ts tf (er == 0) W hz.1 hz.2 hl)
  have HN := hid' hN
  clear hN ha hz hl
  generalize ansB li p (er == 0) ts tf = res at *
  go_enter Tryz.func26, Tryz.ntmps26
  go_wp2_with fail
  refine HA.out.mono ?_
  rintro e w1 ⟨rfl, b1⟩
  have B1 := hid' b1
  clear b1 HA
  go_wp2_with fail
  refine Calls.mono (HN.out _ B1.out) ?_
  rintro e w2 ⟨rfl, b2⟩
  have a2 := (Below.refl w2.heap.size w2).alloc (Nat.le_refl _) (.cells #[.int .i64 ts, .int .i64 tf] 33)
  have B2 := hid' (B1.out.trans ((b2.trans (a2.mono b2.size)).mono B1.out.size))
  have T2 := hid' (heap_alloc_new w2 (.cells #[.int .i64 ts, .int .i64 tf] 33))
  clear b2 a2 HN
  go_wp2_with fail
  refine (PA.out _).mono ?_
  rintro e w3 ⟨rfl, b3⟩
  have B3 := hid' (B2.out.trans (b3.mono B2.out.size))
  clear b3 PA
  go_wp2
  go_ret2
  exact ⟨rfl, B3.out⟩
theorem p_answer_no (b : Nat) (p : ByteArray) (s : Sv) (F : Nat → Prop) (w : World) (h : PS b s F w) (hs : p.size ≤ 1000000) (ha : Txt.asks p = false) : Ans 14 b p ⟨#[]⟩ 14 w := by
  obtain ⟨dv, cv, op, bs, bf, r, o, _⟩ := h
  have SA := hid' (srv_answer_no b p w hs ha)
  clear o ha
  unfold Ans
  go_enter Tryz.func14, Tryz.ntmps14
  go_wp2_with fail
  refine SA.out.mono ?_
  rintro e w1 ⟨rfl, hb1⟩
  have B1 := hid' hb1
  clear hb1 SA
  go_wp2
  go_ret2
  exact ⟨rfl, B1.out⟩
theorem p_answer_yes (b : Nat) (p : ByteArray) (s : Sv) (F : Nat → Prop) (ts tf li er : Int) (w : World) (h : PS b s F w) (hI : s.Inv) (hT : s.Told ts tf li er) (hs : p.size ≤ 1000000) (ha : Txt.asks p = true) (hl : li = 0 ∨ li = 1 ∨ li = 2 ∨ li = 3) : Ans 14 b p (ansB li p (er == 0) ts tf) 0 w := by
  obtain ⟨dv, cv, op, bs, bf, r, o, _⟩ := h
  have SA := hid' (srv_answer_yes b p ts tf li er w hs ha (fun W hb => srv_now b s dv cv op bs bf ts tf li er W (r.below hb) o hI hT) hl)
  clear o hI hT ha hl
  unfold Ans
  generalize ansB li p (er == 0) ts tf = res at *
  go_enter Tryz.func14, Tryz.ntmps14
  go_wp2_with fail
  refine SA.out.mono ?_
  rintro e w1 ⟨rfl, hb1⟩
  have B1 := hid' hb1
  clear hb1 SA
  go_wp2
  go_ret2
  exact ⟨rfl, B1.out⟩
end Go.Proofs.YtmmkhodaljpjgabGreatDoor
