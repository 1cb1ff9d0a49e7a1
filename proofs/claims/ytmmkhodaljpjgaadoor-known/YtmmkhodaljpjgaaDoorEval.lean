import Derived.Test.YtmmkhodaljpjgaaDoorSha
/-! The digest at five texts, by the kernel. -/
namespace Go.Proofs.YtmmkhodaljpjgaaDoor
open Go

def chunk : List UInt8 := [48, 49, 50, 51, 52, 53, 54, 55, 48, 49, 50, 51, 52, 53, 54, 55, 48, 49, 50, 51, 52, 53, 54, 55, 48, 49, 50, 51, 52, 53, 54, 55]
def chunks : Nat → List UInt8
  | 0 => []
  | n + 1 => chunks n ++ chunk

theorem chunks_length (n : Nat) : (chunks n).length = 32 * n := by
  induction n with
  | zero => rfl
  | succ n ih => simp [chunks, ih, chunk]; omega

def text0 : List UInt8 := []
def said0 : List UInt8 := [100, 97, 51, 57, 97, 51, 101, 101, 53, 101, 54, 98, 52, 98, 48, 100, 51, 50, 53, 53, 98, 102, 101, 102, 57, 53, 54, 48, 49, 56, 57, 48, 97, 102, 100, 56, 48, 55, 48, 57]
set_option maxRecDepth 1000000 in
theorem eval0 : Sha.digest ⟨text0.toArray⟩ = said0 := by decide +kernel

def text1 : List UInt8 := [97, 98, 99]
def said1 : List UInt8 := [97, 57, 57, 57, 51, 101, 51, 54, 52, 55, 48, 54, 56, 49, 54, 97, 98, 97, 51, 101, 50, 53, 55, 49, 55, 56, 53, 48, 99, 50, 54, 99, 57, 99, 100, 48, 100, 56, 57, 100]
set_option maxRecDepth 1000000 in
theorem eval1 : Sha.digest ⟨text1.toArray⟩ = said1 := by decide +kernel

def text2 : List UInt8 := [97, 98, 99, 100, 98, 99, 100, 101, 99, 100, 101, 102, 100, 101, 102, 103, 101, 102, 103, 104, 102, 103, 104, 105, 103, 104, 105, 106, 104, 105, 106, 107, 105, 106, 107, 108, 106, 107, 108, 109, 107, 108, 109, 110, 108, 109, 110, 111, 109, 110, 111, 112, 110, 111, 112, 113]
def said2 : List UInt8 := [56, 52, 57, 56, 51, 101, 52, 52, 49, 99, 51, 98, 100, 50, 54, 101, 98, 97, 97, 101, 52, 97, 97, 49, 102, 57, 53, 49, 50, 57, 101, 53, 101, 53, 52, 54, 55, 48, 102, 49]
set_option maxRecDepth 1000000 in
theorem eval2 : Sha.digest ⟨text2.toArray⟩ = said2 := by decide +kernel

def text3 : List UInt8 := [84, 104, 101, 32, 113, 117, 105, 99, 107, 32, 98, 114, 111, 119, 110, 32, 102, 111, 120, 32, 106, 117, 109, 112, 115, 32, 111, 118, 101, 114, 32, 116, 104, 101, 32, 108, 97, 122, 121, 32, 100, 111, 103]
def said3 : List UInt8 := [50, 102, 100, 52, 101, 49, 99, 54, 55, 97, 50, 100, 50, 56, 102, 99, 101, 100, 56, 52, 57, 101, 101, 49, 98, 98, 55, 54, 101, 55, 51, 57, 49, 98, 57, 51, 101, 98, 49, 50]
set_option maxRecDepth 1000000 in
theorem eval3 : Sha.digest ⟨text3.toArray⟩ = said3 := by decide +kernel

def text4 : List UInt8 := chunks 8 ++ chunks 8 ++ (chunks 8).take 128
theorem text4_size : (ByteArray.mk text4.toArray).size = 640 := by
  simp [ByteArray.size, text4, chunks_length]
theorem text4_join : ByteArray.mk (chunks 8).toArray ++ ByteArray.mk (chunks 8).toArray ++ (ByteArray.mk (chunks 8).toArray).extract 0 128 = ByteArray.mk text4.toArray := by
  decide +kernel
def said4 : List UInt8 := [100, 101, 97, 51, 53, 54, 97, 50, 99, 100, 100, 100, 57, 48, 99, 55, 97, 55, 101, 99, 101, 100, 99, 53, 101, 98, 98, 53, 54, 51, 57, 51, 52, 102, 52, 54, 48, 52, 53, 50]
set_option maxRecDepth 1000000 in
theorem eval4 : Sha.digest ⟨text4.toArray⟩ = said4 := by decide +kernel

end Go.Proofs.YtmmkhodaljpjgaaDoor
