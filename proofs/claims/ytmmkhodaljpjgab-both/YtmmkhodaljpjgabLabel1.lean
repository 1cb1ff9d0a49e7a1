import Derived.Test.YtmmkhodaljpjgabLabelM
import Derived.Test.YtmmkhodaljpjgabTable3
/-! Package label: lastAt, dayBegin, dayLength. -/
namespace Go.Proofs.Ytmmkhodaljpjgab
open Go.RowKit

set_option maxRecDepth 100000 in
theorem last_at (g cap n : Nat) (ls : List (Int × Int)) (d : Int) (w : World) (hn : ls.length = n) (hl : Lies w g ls) (hb : n ≤ 100000) (d0 : -10 ≤ d) (d1 : d ≤ 500000) :
    Calls Try.prog 16 #[.slice (some ⟨g, 0, none⟩) n cap, .int .i64 d] w fun e w' => e = .returned (.int .i64 (Tab.lastDay ls (d * 86400) n)) ∧ w' = w := by
  have HL := hid' hl
  have HN := hid' hn
  clear hl hn
  go_enter Try.func16, Try.ntmps16
  go_wp2
  go_loop [5] (fun i => ∃ k : Nat, k ≤ n ∧ i = .int .i64 ((k : Int) - 1) ∧ Tab.lastDay ls (d * 86400) n = Tab.lastDay ls (d * 86400) k) (fun i => (intOf i + 1).toNat)
  case atStart => exact ⟨n, by omega, rfl, rfl⟩
  case round =>
    obtain ⟨k, hk, rfl, hrl⟩ := hrel
    have HRL := hid' hrl
    clear hrl
    cases k with
    | zero =>
      have H : Hid (Tab.lastDay ls (d * 86400) n = -1) := by show _ = _; rw [HRL.out]; rfl
      go_wp2
      go_ret
      exact ⟨ret_int H.out.symm, rfl⟩
    | succ k =>
      have hc : (((k + 1 : Nat) : Int) - 1) = (k : Int) := by omega
      rw [hc]
      clear hc
      have hkl : k < ls.length := by rw [HN.out]; omega
      have c1 := (HL.out k hkl).1
      have hg := getD_at k hkl
      have HG := hid' hg
      clear hg
      generalize ls[k] = p at *
      obtain ⟨pa, po⟩ := p
      simp only at c1
      by_cases hle : pa ≤ d * 86400
      · have H : Hid (Tab.lastDay ls (d * 86400) n = (k : Int)) := by show _ = _; rw [HRL.out]; simp only [Tab.lastDay]; rw [HG.out, if_pos hle]
        go_wp2
        go_ret
        exact ⟨ret_int H.out.symm, rfl⟩
      · have H : Hid (Tab.lastDay ls (d * 86400) n = Tab.lastDay ls (d * 86400) k) := by show _ = _; rw [HRL.out]; rw [Tab.lastDay]; rw [HG.out, if_neg hle]
        go_wp2
        exact ⟨⟨k, by omega, by go_num, H.out⟩, by simp [intOf]⟩

set_option maxRecDepth 100000 in
theorem day_begin (g cap n : Nat) (ls : List (Int × Int)) (d : Int) (w : World) (hn : ls.length = n) (hl : Lies w g ls) (hG : Tab.Good ls) (d0 : -10 ≤ d) (d1 : d ≤ 500000) (h0 : (ls.getD 0 (0, 0)).1 ≤ d * 86400) :
    Calls Try.prog 14 #[.slice (some ⟨g, 0, none⟩) n cap, .int .i64 d] w fun e w' => e = .returned (.int .i64 (Tab.begins ls d)) ∧ w' = w := by
  have hb : n ≤ 100000 := by have := hG.len; omega
  have HLA := hid' (last_at g cap n ls d w hn hl hb d0 d1)
  obtain ⟨b0, b1⟩ := hG.begins_last d h0
  rw [hn] at b0 b1
  have bd := Tab.lastDay_bd ls (d * 86400) n
  obtain ⟨k, hk⟩ : ∃ k : Nat, Tab.lastDay ls (d * 86400) n = (k : Int) := ⟨(Tab.lastDay ls (d * 86400) n).toNat, by omega⟩
  rw [hk] at b1 bd HLA
  have hkl : k < ls.length := by omega
  rw [Int.toNat_natCast, getD_at k hkl] at b1
  have c2 := (hl k hkl).2
  have f := (hG.fine _ (List.getElem_mem hkl)).2
  have H := hid' b1
  have hkn : k < n := by omega
  clear b0 b1 hk bd hl hG h0
  generalize ls[k] = p at *
  obtain ⟨pa, po⟩ := p
  simp only at c2 f H
  clear hkl
  go_enter Try.func14, Try.ntmps14
  go_wp2_with (go_at_call 16; refine HLA.out.mono ?_; rintro e w' ⟨rfl, rfl⟩)
  go_ret
  exact ⟨ret_int H.out.symm, rfl⟩

set_option maxRecDepth 100000 in
theorem day_length (g cap n : Nat) (ls : List (Int × Int)) (d : Int) (w : World) (hn : ls.length = n) (hp : 0 < n) (hl : Lies w g ls) (hf : Fine ls) (hb : n ≤ 100000) (d0 : -10 ≤ d) (d1 : d ≤ 500000) :
    Calls Try.prog 17 #[.slice (some ⟨g, 0, none⟩) n cap, .int .i64 d] w fun e w' => e = .returned (.int .i64 (Tab.length ls d)) ∧ ∃ m, w' = w.drewN m := by
  have HL := hid' hl
  have HF := hid' hf
  have HN := hid' hn
  have H : Hid (Tab.length ls d = Tab.lenFrom ls ((d + 1) * 86400) 1 (n - 1)) := by show _ = _; unfold Tab.length; rw [hn]
  clear hl hf hn
  go_enter Try.func17, Try.ntmps17
  go_wp2
  go_loop [6] (fun i => ∃ k : Nat, k + 1 ≤ n ∧ i = .int .i64 ((k : Int) + 1) ∧ Tab.length ls d = Tab.lenFrom ls ((d + 1) * 86400) (k + 1) (n - (k + 1))) (fun i => n - (intOf i).toNat)
  case atStart => exact ⟨0, by omega, rfl, H.out⟩
  case round =>
    obtain ⟨k, hk, rfl, hrl⟩ := hrel
    have HRL := hid' hrl
    clear hrl H
    by_cases hlt : k + 1 < n
    · have hkl : k + 1 < ls.length := by rw [HN.out]; exact hlt
      obtain ⟨e1, e2⟩ := HL.out (k + 1) hkl
      obtain ⟨_, b2⟩ := HL.out k (by omega)
      have hfq := HF.out _ (List.getElem_mem hkl)
      have hfp := HF.out _ (List.getElem_mem (show k < ls.length by omega))
      have hS : Hid (Tab.length ls d = if ls[k + 1].1 = (d + 1) * 86400 then 86400 + ls[k + 1].2 - (ls[k]'(by omega)).2 else Tab.lenFrom ls ((d + 1) * 86400) (k + 1 + 1) (n - (k + 1 + 1))) := by
        show _ = _
        rw [HRL.out, show n - (k + 1) = n - (k + 1 + 1) + 1 from by omega, Tab.lenFrom, getD_at (k + 1) hkl, show k + 1 - 1 = k from rfl, getD_at k (by omega)]
      generalize ls[k + 1] = q at *
      generalize ls[k]'(by omega) = p at *
      clear hkl
      obtain ⟨qa, qo⟩ := q
      obtain ⟨pa, po⟩ := p
      simp only at e1 e2 hfq b2 hfp
      by_cases hle : qa = (d + 1) * 86400
      · have H2 : Hid (Tab.length ls d = 86400 + qo - po) := by show _ = _; rw [hS.out]; simp only; rw [if_pos hle]
        have hbq : (qa == (d + 1) * 86400) = true := by rw [beq_iff_eq]; exact hle
        clear hle hS HRL
        have r0 : IntKind.i64.wrap ((k : Int) + 1 - 1) = (k : Int) := by rw [IntKind.wrap_i64]; omega
        have r1 : IntKind.i64.wrap (86400 + qo) = 86400 + qo := by rw [IntKind.wrap_i64]; omega
        have r2 : IntKind.i64.wrap (86400 + qo - po) = 86400 + qo - po := by rw [IntKind.wrap_i64]; omega
        have z0 : (0 : Int) ≤ (k : Int) := by omega
        have z1 : (k : Int) < (n : Int) := by omega
        have z2 : (0 : Int) ≤ (k : Int) + 1 := by omega
        have z3 : (k : Int) + 1 < (n : Int) := by omega
        have z4 : ((k : Int) + 1).toNat = k + 1 := by omega
        go_wp2_with fail
        go_quiet (fail)
        go_wp2
        go_ret
        exact ⟨ret_int H2.out.symm, nq, rfl⟩
      · have H2 : Hid (Tab.length ls d = Tab.lenFrom ls ((d + 1) * 86400) (k + 1 + 1) (n - (k + 1 + 1))) := by show _ = _; rw [hS.out]; simp only; rw [if_neg hle]
        have hbq : (qa == (d + 1) * 86400) = false := by rw [beq_eq_false_iff_ne]; exact hle
        clear hle hS HRL
        go_wp2
        exact ⟨⟨k + 1, by omega, by go_num, H2.out⟩, by simp [intOf]; omega⟩
    · have H2 : Hid (Tab.length ls d = 86400) := by show _ = _; rw [HRL.out, show n - (k + 1) = 0 from by omega]; rfl
      go_wp2
      go_ret
      exact ⟨ret_int H2.out.symm, 0, rfl⟩

end Go.Proofs.Ytmmkhodaljpjgab
