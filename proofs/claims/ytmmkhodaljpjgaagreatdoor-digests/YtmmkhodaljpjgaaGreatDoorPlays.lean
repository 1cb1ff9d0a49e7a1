import Derived.Test.YtmmkhodaljpjgaaGreatDoorUpto
namespace Go.Proofs.YtmmkhodaljpjgaaGreatDoor
open Go.RowKit

/-- A script that came in. -/
structure Script (w : World) (ao : Option Addr) (ops : List Op) : Prop where
  short : ∀ o ∈ ops, o.s.size ≤ 140737488351232
  some : 0 < ops.length → ∃ b off, ao = .some ⟨b, off, none⟩ ∧ b < w.heap.size ∧ ∀ k (h : k < ops.length) j, j < 7 → w.cell? ⟨b, off + k * 7 + j, none⟩ = (Op.cells ops[k])[j]?

/-- What 'small' answers. -/
def SmallSaid (ops : List Op) (e : Ending) : Prop := ∃ r : Bool, e = .returned (.bool r) ∧ (r = true → ops.length ≤ 16384 ∧ ∀ o ∈ ops, o.s.size ≤ 16384)

set_option maxRecDepth 100000 in
theorem small_any (ao : Option Addr) (cap : Nat) (ops : List Op) (w : World) (hS : Script w ao ops) (hlen : ops.length ≤ 140737488351232) :
    Calls Tryz.prog 13 #[.slice ao ops.length cap] w fun e w' => SmallSaid ops e ∧ w' = w := by
  by_cases hbig : 16384 < ops.length
  · have hbi : (16384 : Int) < (ops.length : Int) := by omega
    go_enter Tryz.func13, Tryz.ntmps13
    go_wp2
    go_ret
    exact ⟨⟨false, rfl, fun h => by cases h⟩, rfl⟩
  · have hbi : ¬ (16384 : Int) < (ops.length : Int) := by omega
    go_enter Tryz.func13, Tryz.ntmps13
    go_wp2
    go_loop [3, 4] (fun n i => ∃ k acc : Nat, k ≤ ops.length ∧ i = .int .i64 k ∧ n = .int .i64 acc ∧ acc ≤ 16384 ∧ ∀ j (h : j < ops.length), j < k → ops[j].s.size ≤ acc) (fun _ i => ops.length - (intOf i).toNat)
    case atStart => exact ⟨0, ops.length, by omega, rfl, rfl, by omega, fun j _ h => absurd h (Nat.not_lt_zero j)⟩
    case round =>
      obtain ⟨k, acc, hk, rfl, rfl, hacc, hall⟩ := hrel
      by_cases hlt : k < ops.length
      · obtain ⟨b, off, rfl, hbl, hcell⟩ := hS.some (by omega)
        have p6 := hcell k hlt 6 (by omega)
        have hsh := hS.short _ (List.getElem_mem hlt)
        have HALL := hid' hall
        have HS := hid' hS
        clear hcell hall hS
        obtain ⟨sk, hsk⟩ : ∃ sk, ops[k].s = sk := ⟨_, rfl⟩
        have HSK := hid' hsk
        simp [Op.cells] at p6
        rw [hsk] at p6 hsh
        clear hsk
        by_cases hover : 16384 < acc + sk.size
        · have hoi : (16384 : Int) < (acc : Int) + (sk.size : Int) := by omega
          go_wp2
          go_ret
          exact ⟨⟨false, rfl, fun h => by cases h⟩, rfl⟩
        · have hoi : ¬ (16384 : Int) < (acc : Int) + (sk.size : Int) := by omega
          go_wp2
          refine ⟨⟨k + 1, acc + sk.size, by omega, by go_num, by go_num, by omega, fun j hj hjk => ?_⟩, by simp [intOf]; omega⟩
          by_cases e : j = k
          · subst e; rw [HSK.out]; omega
          · have := HALL.out j hj (by omega); omega
      · have HALL := hid' hall
        clear hall
        go_wp2
        go_ret
        refine ⟨⟨true, rfl, fun _ => ⟨by omega, fun o ho => ?_⟩⟩, rfl⟩
        obtain ⟨j, hj, rfl⟩ := List.getElem_of_mem ho
        have := HALL.out j hj (by omega)
        omega

end Go.Proofs.YtmmkhodaljpjgaaGreatDoor
