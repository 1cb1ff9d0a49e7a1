import Derived.Test.YtmmkhodaljpjgaaDoorTxtM
import Derived.Test.YtmmkhodaljpjgaaDoorTabN
import Derived.Test.YtmmkhodaljpjgaaDoorSha
/-! What is printed of a table. -/
namespace Go.Proofs.YtmmkhodaljpjgaaDoor
open Go.RowKit

namespace Txt
/-- A number's digits, as bytes. -/
def db (n : Int) : ByteArray := ⟨(dec n.toNat).toArray⟩
theorem dec_ten (n : Nat) (k : Nat) (h : n < 10 ^ (k + 1)) : (dec n).length ≤ k + 1 := by
  induction k generalizing n with
  | zero => rw [dec_low n (by omega)]; simp
  | succ k ih =>
    by_cases c : 9 < n
    · rw [dec_up n c, List.length_append]
      have := ih (n / 10) (by rw [Nat.pow_succ] at h; omega)
      simp; omega
    · rw [dec_low n c]; simp
theorem db_size (n : Int) (h : n < 1000000000000) : (db n).size ≤ 12 := by
  have := dec_ten n.toNat 11 (by omega)
  show (dec n.toNat).toArray.size ≤ 12
  simpa using this
def head (u x : Int) : ByteArray := ⟨#[35, 36, 32]⟩ ++ db u ++ ⟨#[10, 35, 64, 32]⟩ ++ db x ++ ⟨#[10]⟩
/-- One entry's line. -/
def eline (p : Int × Int) : ByteArray := db p.1 ++ ⟨#[32]⟩ ++ db p.2 ++ ⟨#[10]⟩
def prTo (u x : Int) (ls : List (Int × Int)) : Nat → ByteArray
  | 0 => head u x
  | k + 1 => prTo u x ls k ++ eline (ls.getD k (0, 0))
def dgTo (u x : Int) (ls : List (Int × Int)) : Nat → ByteArray
  | 0 => db u ++ db x
  | k + 1 => dgTo u x ls k ++ (db (ls.getD k (0, 0)).1 ++ db (ls.getD k (0, 0)).2)
def hlTo (h : ByteArray) : Nat → ByteArray
  | 0 => ⟨#[35, 104]⟩
  | k + 1 => hlTo h k ++ (⟨#[32]⟩ ++ h.extract (k * 8) (k * 8 + 8))
def hl (h : ByteArray) : ByteArray := hlTo h 5 ++ ⟨#[10]⟩
/-- The digest of all that is printed of a table. -/
def dgst (u x : Int) (ls : List (Int × Int)) : ByteArray := ⟨(Sha.digest (dgTo u x ls ls.length)).toArray⟩
/-- The file. -/
def print (u x : Int) (ls : List (Int × Int)) : ByteArray := prTo u x ls ls.length ++ hl (dgst u x ls)
theorem digest_size (s : ByteArray) : (ByteArray.mk (Sha.digest s).toArray).size = 40 := by
  show (Sha.digest s).toArray.size = 40
  unfold Sha.digest
  simp [Sha.St.text_length]
theorem size_app (a b : ByteArray) : (a ++ b).size = a.size + b.size := ByteArray.size_append
theorem head_size {u x : Int} (hu : u < 1000000000000) (hx : x < 1000000000000) : (head u x).size ≤ 32 := by
  have a := db_size u hu
  have b := db_size x hx
  unfold head
  rw [size_app, size_app, size_app, size_app]
  have c1 : (ByteArray.mk #[35, 36, 32]).size = 3 := rfl
  have c2 : (ByteArray.mk #[10, 35, 64, 32]).size = 4 := rfl
  have c3 : (ByteArray.mk #[10]).size = 1 := rfl
  omega
theorem eline_size {p : Int × Int} (h1 : p.1 < 1000000000000) (h2 : p.2 < 1000000000000) : (eline p).size ≤ 26 := by
  have a := db_size _ h1
  have b := db_size _ h2
  unfold eline
  rw [size_app, size_app, size_app]
  have c1 : (ByteArray.mk #[32]).size = 1 := rfl
  have c3 : (ByteArray.mk #[10]).size = 1 := rfl
  omega
theorem prTo_size {u x : Int} {ls : List (Int × Int)} (hu : u < 1000000000000) (hx : x < 1000000000000) (hl : ∀ i, (ls.getD i (0, 0)).1 < 1000000000000 ∧ (ls.getD i (0, 0)).2 < 1000000000000) (k : Nat) : (prTo u x ls k).size ≤ 32 + 26 * k := by
  induction k with
  | zero => exact head_size hu hx
  | succ k ih => rw [prTo, size_app]; have := eline_size (hl k).1 (hl k).2; omega
theorem dgTo_size {u x : Int} {ls : List (Int × Int)} (hu : u < 1000000000000) (hx : x < 1000000000000) (hl : ∀ i, (ls.getD i (0, 0)).1 < 1000000000000 ∧ (ls.getD i (0, 0)).2 < 1000000000000) (k : Nat) : (dgTo u x ls k).size ≤ 24 + 24 * k := by
  induction k with
  | zero => rw [dgTo, size_app]; have := db_size u hu; have := db_size x hx; omega
  | succ k ih => rw [dgTo, size_app, size_app]; have := db_size _ (hl k).1; have := db_size _ (hl k).2; omega
theorem hlTo_size (h : ByteArray) (k : Nat) : (hlTo h k).size ≤ 2 + 9 * k := by
  induction k with
  | zero => exact Nat.le_refl _
  | succ k ih =>
    rw [hlTo, size_app, size_app, ByteArray.size_extract]
    have c1 : (ByteArray.mk #[32]).size = 1 := rfl
    omega
end Txt

end Go.Proofs.YtmmkhodaljpjgaaDoor
