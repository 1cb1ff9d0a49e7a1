import Derived.Test.YtmmkhodaljpjgaaGreatDoorStep2
namespace Go.Proofs.YtmmkhodaljpjgaaGreatDoor
open Go.RowKit

/-- Steps as cells. -/
def flatOps : List Op → List Value
  | [] => []
  | o :: r => .int .i64 o.kind :: .int .i64 o.x :: .int .i64 o.a :: .int .i64 o.b :: .int .i64 o.c :: .int .i64 o.d :: .string o.s :: flatOps r

theorem flatOps_length (l : List Op) : (flatOps l).length = l.length * 7 := by
  induction l with
  | nil => rfl
  | cons p r ih => simp [flatOps, ih]; omega
theorem flatOps_append (l r : List Op) : flatOps (l ++ r) = flatOps l ++ flatOps r := by
  induction l with
  | nil => rfl
  | cons p q ih => simp [flatOps, ih]

theorem flatOps_at (l : List Op) (k : Nat) (h : k < l.length) (j : Nat) (hj : j < 7) : (flatOps l)[k * 7 + j]? = (Op.cells l[k])[j]? := by
  induction l generalizing k with
  | nil => simp at h
  | cons p r ih =>
    cases k with
    | zero =>
      simp only [flatOps, Nat.zero_mul, Nat.zero_add, List.getElem_cons_zero]
      match j, hj with
      | 0, _ => rfl
      | 1, _ => rfl
      | 2, _ => rfl
      | 3, _ => rfl
      | 4, _ => rfl
      | 5, _ => rfl
      | 6, _ => rfl
    | succ k =>
      have h' : k < r.length := by simpa using h
      have e : (k + 1) * 7 + j = (k * 7 + j) + 7 := by omega
      rw [e]
      simp only [flatOps, List.getElem_cons_succ]
      exact ih k h'

set_option maxRecDepth 100000 in
set_option maxHeartbeats 1000000 in
theorem upTo_any {X : Xs} (hX : ∀ w, X.P 0 (fun _ => False) (.slice none 0 0) w) (v : Value) (ops : List Op) (B0 : Nat) (w : World) (hv : w.ownsRow B0 27 7 v ops.length (flatOps ops)) (hn : ops.length ≤ 16384) (hok : ∀ o ∈ ops, o.Ok)
    (hdo : ∀ o ∈ ops, o.kind < 1 ∨ 6 < o.kind → ∀ n wr, n ≤ 90000 → Below w.heap.size w wr → Does X w.heap.size w.heap.size n o wr) :
    Calls Tryz.prog 14 #[v] w fun e w' => e = .returned (.int .i64 (-1)) ∧ Below w.heap.size w w' := by
  obtain ⟨ao, cap, hvv⟩ : ∃ ao cap, v = .slice ao ops.length cap := by
    rcases hv.2 with ⟨rfl, h0⟩ | ⟨g, cap, cur, rfl, _⟩
    · exact ⟨none, 0, by rw [h0]⟩
    · exact ⟨_, _, rfl⟩
  have HV := hid' hv
  have HOK := hid' hok
  have HDO := hid' hdo
  clear hv hok hdo
  subst hvv
  go_enter Tryz.func14, Tryz.ntmps14
  go_wp2
  have INV0 : Inv X w.heap.size w.heap.size 0 (w.alloc (.cells #[.slice none 0 0, .int .i64 0, .int .i64 0, .slice none 0 0, .int .i64 0, .int .i64 0, .slice none 0 0] 38)) :=
    ⟨Nat.le_refl _, .slice none 0 0, .slice none 0 0, .slice none 0 0, fun _ => False, [], [], 0, 0, 0, 0, heap_alloc_new _ _, World.ownsRow_nil _ _ _ _, World.ownsRow_nil _ _ _ _, by simp, by simp, ⟨fun t h => (by cases h), fun p h => (by cases h), by decide, by decide, by decide, by decide⟩, ⟨hX _, fun _ h => h.elim⟩⟩
  have HI0 := hid' INV0
  clear INV0 hX
  go_loopw [4, 5] (fun i _ wr => ∃ k : Nat, k ≤ ops.length ∧ i = .int .i64 k ∧ Inv X w.heap.size w.heap.size k wr ∧ Below w.heap.size w wr) (fun i _ _ => ops.length - (intOf i).toNat)
  case atStart => exact ⟨0, by omega, rfl, HI0.out, (Below.refl _ _).alloc (Nat.le_refl _) _⟩
  case round =>
    obtain ⟨k, hk, rfl, hinv, hbel⟩ := hrel
    by_cases hlt : k < ops.length
    · obtain ⟨g, cap', hform, _, hgl⟩ := HV.out.form (by omega)
      have hao : ao = some ⟨g, 0, none⟩ := by simpa using (Value.slice.inj hform).1
      subst hao
      have hcap : cap = cap' := (Value.slice.inj hform).2.2
      subst hcap
      have hcell : ∀ j, j < 7 → wr.cell? ⟨g, k * 7 + j, none⟩ = (Op.cells ops[k])[j]? := by
        intro j hj
        rw [hbel.cell (p := ⟨g, k * 7 + j, none⟩) hgl, HV.out.cellAt (k * 7 + j) (by omega)]
        exact flatOps_at ops k hlt j hj
      have HINV := hid' hinv
      have HBEL := hid' hbel
      have hmem := List.getElem_mem hlt
      have hdoes : Does X w.heap.size w.heap.size k ops[k] wr := by
        by_cases hq : 1 ≤ ops[k].kind ∧ ops[k].kind ≤ 6
        · exact does_own (HOK.out _ hmem) (by omega) hq
        · exact HDO.out _ hmem (by omega) k wr (by omega) hbel
      have HST := hid' (hdoes wr hinv hbel.size (Below.refl _ _))
      clear hdoes
      clear hinv hbel hform hmem
      generalize ops[k] = o at *
      obtain ⟨ok, ox, oa, ob, oc, od, os⟩ := o
      have p0 := hcell 0 (by omega)
      have p1 := hcell 1 (by omega)
      have p2 := hcell 2 (by omega)
      have p3 := hcell 3 (by omega)
      have p4 := hcell 4 (by omega)
      have p5 := hcell 5 (by omega)
      have p6 := hcell 6 (by omega)
      simp [Op.cells] at p0 p1 p2 p3 p4 p5 p6
      clear hcell
      simp only at HST
      go_wp2_with fail
      refine HST.out.mono ?_
      rintro e w2 ⟨rfl, hleft⟩
      have HLF := hid' hleft
      clear hleft HST p0 p1 p2 p3 p4 p5 p6
      go_wp2
      go_roundw
      case rel => exact ⟨k + 1, by omega, by go_num, HLF.out.1, HBEL.out.trans HLF.out.2⟩
      case measure => simp [intOf]; omega
    · have HBEL := hid' hbel
      clear hbel hinv
      go_wp2
      go_ret
      exact ⟨rfl, HBEL.out⟩

end Go.Proofs.YtmmkhodaljpjgaaGreatDoor
