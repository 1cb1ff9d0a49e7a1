import Derived.Test.YtmmkhodaljpjgabTable2
namespace Go.Proofs.Ytmmkhodaljpjgab
open Go.RowKit

set_option maxRecDepth 100000 in
theorem turn_any (g cap i n : Nat) (ls : List (Int × Int)) (w : World) (hn : ls.length = n) (hi : i < n) (hl : Lies w g ls) (hf : Fine ls) (hb : n ≤ 100000) :
    Calls Try.prog 24 #[.slice (some ⟨g, 0, none⟩) n cap, .int .i64 i] w fun e w' => e = .returned (.int .i64 (Tab.when ls i)) ∧ w' = w := by
  have c := hl i (by omega)
  have f := hf _ (List.getElem_mem (show i < ls.length by omega))
  cases i with
  | zero =>
    have H : Hid (Tab.when ls 0 = (ls[0]'(by omega)).1 + (ls[0]'(by omega)).2) := by
      show _ = _; unfold Tab.when; rw [getD_at 0 (by omega)]; simp
    generalize ls[0]'(by omega) = p at *
    obtain ⟨pa, po⟩ := p
    obtain ⟨c1, c2⟩ := c
    simp only [Nat.zero_mul, Nat.zero_add] at c1 c2
    simp only at f
    clear hl hf hn
    go_enter Try.func24, Try.ntmps24
    go_wp2
    go_ret
    exact ⟨ret_int H.out.symm, rfl⟩
  | succ j =>
    have d := hl j (by omega)
    have e := hf _ (List.getElem_mem (show j < ls.length by omega))
    have H : Hid (Tab.when ls (j + 1) = (ls[j + 1]'(by omega)).1 + (if (ls[j]'(by omega)).2 < (ls[j + 1]'(by omega)).2 then (ls[j]'(by omega)).2 else (ls[j + 1]'(by omega)).2)) := by
      show _ = _; unfold Tab.when; rw [getD_at (j + 1) (by omega), show j + 1 - 1 = j from rfl, getD_at j (by omega)]; simp
    generalize ls[j + 1]'(by omega) = p at *
    generalize ls[j]'(by omega) = q at *
    obtain ⟨pa, po⟩ := p
    obtain ⟨qa, qo⟩ := q
    obtain ⟨c1, c2⟩ := c
    obtain ⟨_, d2⟩ := d
    simp only at f c1 c2 d2 e
    clear hl hf hn
    by_cases hlt : qo < po
    · have H2 : Hid (Tab.when ls (j + 1) = pa + qo) := by show _ = _; rw [H.out]; simp only; rw [if_pos hlt]
      go_enter Try.func24, Try.ntmps24
      go_wp2
      go_ret
      exact ⟨ret_int H2.out.symm, rfl⟩
    · have H2 : Hid (Tab.when ls (j + 1) = pa + po) := by show _ = _; rw [H.out]; simp only; rw [if_neg hlt]
      go_enter Try.func24, Try.ntmps24
      go_wp2
      go_ret
      exact ⟨ret_int H2.out.symm, rfl⟩

set_option maxRecDepth 100000 in
theorem holder_any (g cap n : Nat) (ls : List (Int × Int)) (sec : Int) (w : World) (hn : ls.length = n) (hl : Lies w g ls) (hf : Fine ls) (hb : n ≤ 100000) :
    Calls Try.prog 20 #[.slice (some ⟨g, 0, none⟩) n cap, .int .i64 sec] w fun e w' => e = .returned (.int .i64 (Tab.lastAt ls sec n)) ∧ w' = w := by
  have HL := hid' hl
  have HF := hid' hf
  have HN := hid' hn
  clear hl hf hn
  go_enter Try.func20, Try.ntmps20
  go_wp2
  go_loop [5] (fun i => ∃ k : Nat, k ≤ n ∧ i = .int .i64 ((k : Int) - 1) ∧ Tab.lastAt ls sec n = Tab.lastAt ls sec k) (fun i => (intOf i + 1).toNat)
  case atStart => exact ⟨n, by omega, rfl, rfl⟩
  case round =>
    obtain ⟨k, hk, rfl, hrl⟩ := hrel
    have HRL := hid' hrl
    clear hrl
    cases k with
    | zero =>
      have H : Hid (Tab.lastAt ls sec n = -1) := by show _ = _; rw [HRL.out]; rfl
      go_wp2
      go_ret
      exact ⟨ret_int H.out.symm, rfl⟩
    | succ k =>
      have HW := hid' (turn_any g cap k n ls w HN.out (by omega) HL.out HF.out hb)
      have hc : (((k + 1 : Nat) : Int) - 1) = (k : Int) := by omega
      rw [hc]
      clear hc
      by_cases hle : Tab.when ls k ≤ sec
      · have H : Hid (Tab.lastAt ls sec n = (k : Int)) := by show _ = _; rw [HRL.out]; simp only [Tab.lastAt]; rw [if_pos hle]
        generalize Tab.when ls k = v at *
        go_wp2_with (go_at_call 24; refine HW.out.mono ?_; rintro e w' ⟨rfl, rfl⟩)
        go_ret
        exact ⟨ret_int H.out.symm, rfl⟩
      · have H : Hid (Tab.lastAt ls sec n = Tab.lastAt ls sec k) := by show _ = _; rw [HRL.out]; rw [Tab.lastAt]; rw [if_neg hle]
        generalize Tab.when ls k = v at *
        go_wp2_with (go_at_call 24; refine HW.out.mono ?_; rintro e w' ⟨rfl, rfl⟩)
        exact ⟨⟨k, by omega, by go_num, H.out⟩, by simp [intOf]⟩

end Go.Proofs.Ytmmkhodaljpjgab
