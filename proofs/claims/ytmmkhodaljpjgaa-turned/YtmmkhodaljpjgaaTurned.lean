import Derived.Test.YtmmkhodaljpjgaaRows
import Derived.Test.YtmmkhodaljpjgaaCivilS
import Derived.Test.YtmmkhodaljpjgaaDay
import Derived.WalkKit
import Derived.ProofKit
import Derived.OpenShut
namespace Go.Proofs.Ytmmkhodaljpjgaa.turned
open Go.ChangeShapes Go.WideShapes Go.ChangeAt Go.RowKit
set_option linter.unusedVariables false

theorem own : ownKnob Try.prog.godebug = none := by kernel_rfl

theorem neg_part (c n : Int) (h : c < 0) (h1 : 1 ≤ n) : 0 ≤ -((c + 1).tmod n) ∧ -((c + 1).tmod n) < n := by
  rw [← Int.neg_tmod]
  exact ⟨Int.tmod_nonneg _ (by omega), Int.tmod_lt_of_pos _ (by omega)⟩

theorem pick_any (c : Int) (n : Int) (w : World) (w0 : (Lit.int .i64 c).wf = true) (h1 : 1 ≤ n) (h2 : n ≤ 1000000) :
    Calls Try.prog 4 #[.int .i64 c, .int .i64 n] w fun e w' => (∃ r : Int, e = .returned (.int .i64 r) ∧ 0 ≤ r ∧ r < n) ∧ w' = w := by
  have hb := bounds_i64 w0
  clear w0
  by_cases hc : c < 0
  · go_enter Try.func4, Try.ntmps4
    go_wp2
    go_ret
    exact ⟨⟨_, rfl, (neg_part c n hc h1).1, (neg_part c n hc h1).2⟩, rfl⟩
  · go_enter Try.func4, Try.ntmps4
    go_wp2
    go_ret
    exact ⟨⟨_, rfl, Int.emod_nonneg _ (by omega), Int.emod_lt_of_pos _ (by omega)⟩, rfl⟩

/-! ### STEP 1: THE WALK -/
set_option maxHeartbeats 1000000 in
theorem walk (a0 : Int) (w0 : (Lit.int .i64 a0).wf = true) (w : World) :
    Calls Try.prog 3 #[.int .i64 a0] w fun e w' => e = .returned (.bool true) ∧ Grown w w' := by
  go_enter Try.func3, Try.ntmps3
  go_wp2_with fail
  refine (pick_any a0 401766 _ w0 (by omega) (by omega)).mono ?_
  rintro e w' ⟨⟨n, rfl, hn0, hn1⟩, rfl⟩
  go_wp2_with fail
  refine (smear_civil_yes n _ hn0 (by omega)).mono ?_
  rintro e w' ⟨⟨y, m, rfl, a⟩, rfl⟩
  have hlo := a.lo
  have hhi := a.hi
  have hy1 := a.y1
  have hy2 := a.y2
  have hm1 := a.m1
  have hm2 := a.m2
  go_wp2_with fail
  refine (smear_day_yes y m _ _ hy1 hy2 hm1 hm2 (by omega) (by omega)).mono ?_
  rintro e w' ⟨rfl, rfl⟩
  have yb0 := Cal.yb_bd y hy1 (by omega)
  have cb := Cal.cum_bd y m hm1 (by omega)
  have db := Cal.dim_bd y m
  rw [show Cal.yb y + Cal.cum y m + (n - Cal.yb y - Cal.cum y m + 1) - 1 = n from by omega]
  go_wp2_with fail
  refine (smear_civil_yes (n + 1) _ (by omega) (by omega)).mono ?_
  rintro e w' ⟨⟨z, o, rfl, b⟩, rfl⟩
  have hx := a.next b
  have hnn : (n != n) = false := by simp
  rcases hx with ⟨rfl, rfl, hx⟩ | ⟨ht, hd, hx⟩
  · have e1 : n + 1 - Cal.yb z - Cal.cum z o + 1 = n - Cal.yb z - Cal.cum z o + 1 + 1 := by omega
    rw [e1]
    clear e1
    generalize hq : n - Cal.yb z - Cal.cum z o + 1 = q
    have q1 : 1 ≤ q := by omega
    have q2 : q ≤ 31 := by omega
    clear hq hx a b hlo hhi hy1 hy2 hm1 hm2 yb0 cb db
    have c1 : (q + 1 != 1) = true := by rw [bne_iff_ne]; omega
    have c2 : (q + 1 == q + 1) = true := by simp
    have c3 : (z == z) = true := by simp
    have c4 : (o == o) = true := by simp
    by_cases c5 : q < 28
    all_goals
      go_wp2
      go_ret
      exact ⟨rfl, Grown.refl _⟩
  · have e1 : n + 1 - Cal.yb z - Cal.cum z o + 1 = 1 := by omega
    have e2 : n - Cal.yb y - Cal.cum y m + 1 = Cal.dim y m := by omega
    rw [e1, e2]
    clear e1 e2 ht hd a b hlo hhi yb0 cb
    rcases hx with ⟨rfl, rfl⟩ | ⟨rfl, rfl, rfl⟩
    · have c3 : (z == z) = true := by simp
      have c4 : (m + 1 == m + 1) = true := by simp
      go_wp2
      go_ret
      exact ⟨rfl, Grown.refl _⟩
    · have c3 : (y + 1 == y) = false := by rw [beq_eq_false_iff_ne]; omega
      have c4 : (y + 1 == y + 1) = true := by simp
      go_wp2
      go_ret
      exact ⟨rfl, Grown.refl _⟩

/-! ### THE ROW's STEP: WRITTEN OUT: LEAVE IT -/
set_option maxRecDepth 100000 in
theorem lifted (os : Os) (started : os.Started) (H : Type) (enc : TypeId × Value → H) :
    ReturnsInHanded {} Try.checked os 3 .any (Rows.turnedSpec.pre6 enc Try.prog Try.f3 Rows.turnedRow.domain false) (Rows.turnedSpec.post enc Try.prog Try.f3 false true false false) := by
  refine returnsInHanded_of_change (C := Try.checked) own started (by kernel_rfl) Try.func3
    (ChangeSpec.witness6 (enc := enc) (C := Try.checked) false ⟨#[], #[.int .i64 0], []⟩ 8 (by kernel_rfl) (by kernel_rfl) (by kernel_rfl) (by kernel_rfl)) ?_
  intro W base args ds gs before hval0 hW hcnd _
  have hval : ∀ (j : Nat) t v, Try.f3.params[j]? = some t → args[j]? = some v → Value.okWide Try.prog W .any base t v := hval0
  have hW' := hW
  obtain ⟨p, q, hA0, hV, rfl, hfz, hnd⟩ := hW
  have hA : DataW.TrodAll enc Try.prog W 0 (fun _ => true) true Try.f3.params.toList args.toList ds p := hA0
  rw [Try.params3] at hA hval
  obtain ⟨v0, vs0, d0, ds0, p0, q0, hargs, rfl, rfl, h0, r0⟩ := trodAll_cons hA
  obtain ⟨rfl, rfl, rfl⟩ := trodAll_nil r0
  obtain rfl : args = #[v0] := by cases args; simp_all
  obtain ⟨rfl, rfl⟩ := trodVars_none hV
  obtain ⟨a0, rfl, rfl, rfl, w0⟩ := open_int Try.underlying3 (hval 0 3 v0 rfl rfl) h0
  clear hA0 hval0
  simp only [List.append_nil] at hW'
  refine (walk a0 w0 W).mono fun e W' ⟨he, hg⟩ => ?_
  subst he
  exact ⟨_, rfl, post_of_same (pa := []) (pv := []) hW' (fun _ _ _ => (trodAll_cons_mk (shut_bool Try.underlying4 _) trodAll_mk0)) (fun sp _ => (trodAll_cons_mk (shut_int Try.underlying3 w0) trodAll_mk0)) (fun _ _ => rfl) rfl
    (hg.frame _) hg.2.1 (ok_one (by kernel_rfl) rfl (okWide_bool_mk Try.underlying4 _))⟩

theorem over : Rows.turnedRow.holds Try.pinned (OpenSpec.ofChange Rows.turnedSpec) :=
  OpenClaim.holds_of_wide 3 Try.f3 rfl rfl rfl rfl rfl rfl rfl ⟨rfl, rfl, rfl, rfl, rfl⟩ rfl rfl rfl rfl rfl (by kernel_rfl) Try.func3 (by kernel_rfl)
    (of_decide_eq_true (by kernel_rfl)) (by unfold Func.isWrapper; first | (rw [if_pos (by decide +kernel)]; kernel_rfl) | (rw [if_neg (by decide +kernel)]; exact ⟨rfl, rfl⟩))
    (fun os started H enc _ => lifted os started H enc)

theorem proved : Rows.TurnedSaid :=
  over
end Go.Proofs.Ytmmkhodaljpjgaa.turned

namespace Go.Proofs.Ytmmkhodaljpjgaa
theorem turned_holds : Rows.TurnedSaid := turned.proved
end Go.Proofs.Ytmmkhodaljpjgaa
