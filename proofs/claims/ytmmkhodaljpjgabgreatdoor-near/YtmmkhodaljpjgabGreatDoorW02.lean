import Derived.Test.YtmmkhodaljpjgabGreatDoorW01
import Derived.WalkKit
import Derived.WalkSpells
import Derived.WalkLawsBesides
import Derived.Below
import Derived.OwnWalk
import Derived.Deep.RegionHeld3
import Derived.Deep.AppendLies
import Derived.Deep.Draws
import Derived.Laws.Rows
import Derived.Laws.AppendOwnNone
import Derived.WalkSmall
import Derived.OpenShut
namespace Go.Proofs.YtmmkhodaljpjgabGreatDoor
open Go.RowKit
theorem ret_int {k : IntKind} {a b : Int} (h : a = b) : Ending.returned (.int k a) = .returned (.int k b) := by rw [h]
theorem leap_yes (y : Int) (w : World) (h0 : 0 ≤ y) (h : Cal.lp y = 1) :
    Calls Tryz.prog 80 #[.int .i64 y] w fun e w' => e = .returned (.bool true) ∧ w' = w := by
  have h4 : y % 4 = 0 := by unfold Cal.lp at h; split at h <;> omega
  have hr : ¬ y % 100 = 0 ∨ y % 400 = 0 := by unfold Cal.lp at h; split at h <;> omega
  clear h
  by_cases c : y % 100 = 0
  · have d : y % 400 = 0 := by omega
    clear hr
    go_enter Tryz.func80, Tryz.ntmps80
    go_wp2
    go_ret
    exact ⟨rfl, rfl⟩
  · clear hr
    go_enter Tryz.func80, Tryz.ntmps80
    go_wp2
    go_ret
    exact ⟨rfl, rfl⟩
theorem leap_no (y : Int) (w : World) (h0 : 0 ≤ y) (h : Cal.lp y = 0) :
    Calls Tryz.prog 80 #[.int .i64 y] w fun e w' => e = .returned (.bool false) ∧ w' = w := by
  have hr : ¬ y % 4 = 0 ∨ (y % 100 = 0 ∧ ¬ y % 400 = 0) := by unfold Cal.lp at h; split at h <;> omega
  clear h
  by_cases c : y % 4 = 0
  · have d : y % 100 = 0 := by omega
    have f : (y % 400 == 0) = false := by rw [beq_eq_false_iff_ne]; omega
    clear hr
    go_enter Tryz.func80, Tryz.ntmps80
    go_wp2
    go_ret
    exact ⟨rfl, rfl⟩
  · clear hr
    go_enter Tryz.func80, Tryz.ntmps80
    go_wp2
    go_ret
    exact ⟨rfl, rfl⟩
theorem before_any (y : Int) (w : World) (h0 : 1 ≤ y) (h1 : y ≤ 10000) :
    Calls Tryz.prog 81 #[.int .i64 y] w fun e w' => e = .returned (.int .i64 ((y - 1) / 4 - (y - 1) / 100 + (y - 1) / 400)) ∧ w' = w := by
  go_enter Tryz.func81, Tryz.ntmps81
  go_wp2
  go_ret
  exact ⟨rfl, rfl⟩
theorem begin_any (y : Int) (w : World) (h0 : 1900 ≤ y) (h1 : y ≤ 3000) :
    Calls Tryz.prog 60 #[.int .i64 y] w fun e w' => e = .returned (.int .i64 (Cal.yb y)) ∧ w' = w := by
  go_enter Tryz.func60, Tryz.ntmps60
  go_wp2_with (go_at_call 81; refine (before_any _ _ (by omega) (by omega)).mono ?_; rintro e w' ⟨rfl, rfl⟩)
  go_ret
  exact ⟨rfl, rfl⟩
theorem dim_any (y m : Int) (w : World) (h0 : 0 ≤ y) :
    Calls Tryz.prog 59 #[.int .i64 y, .int .i64 m] w fun e w' => e = .returned (.int .i64 (Cal.dim y m)) ∧ w' = w := by
  by_cases h2 : m = 2
  · subst h2
    by_cases hl : Cal.lp y = 1
    · have he : Cal.dim y 2 = 29 := by unfold Cal.dim; rw [if_pos rfl]; omega
      have H : Hid (Cal.dim y 2 = 29) := he
      clear he
      go_enter Tryz.func59, Tryz.ntmps59
      go_wp2_with (go_at_call 80; refine (leap_yes _ _ h0 hl).mono ?_; rintro e w' ⟨rfl, rfl⟩)
      go_ret
      exact ⟨ret_int H.out.symm, rfl⟩
    · have hz : Cal.lp y = 0 := by have := Cal.lp_01 y; omega
      have he : Cal.dim y 2 = 28 := by unfold Cal.dim; rw [if_pos rfl]; omega
      have H : Hid (Cal.dim y 2 = 28) := he
      clear he
      go_enter Tryz.func59, Tryz.ntmps59
      go_wp2_with (go_at_call 80; refine (leap_no _ _ h0 hz).mono ?_; rintro e w' ⟨rfl, rfl⟩)
      go_ret
      exact ⟨ret_int H.out.symm, rfl⟩
  · by_cases h3 : m = 4 ∨ m = 6 ∨ m = 9 ∨ m = 11
    · rcases h3 with rfl | rfl | rfl | rfl
      all_goals
        go_enter Tryz.func59, Tryz.ntmps59
        go_wp2
        go_ret
        exact ⟨rfl, rfl⟩
    · have he : Cal.dim y m = 31 := by unfold Cal.dim; rw [if_neg h2, if_neg h3]
      have H : Hid (Cal.dim y m = 31) := he
      have a4 : ¬ m = 4 := by omega
      have a6 : ¬ m = 6 := by omega
      have a9 : ¬ m = 9 := by omega
      have a11 : ¬ m = 11 := by omega
      clear he h3
      go_enter Tryz.func59, Tryz.ntmps59
      go_wp2
      go_ret
      exact ⟨ret_int H.out.symm, rfl⟩
theorem hid' {p : Prop} (h : p) : Hid p := h
/-- Blocks of one type are as they were. -/
def Keep (t : TypeId) (w w' : World) : Prop := ∀ (k : Nat) (cs : Array Value) (fr : Nat × Nat), w.heap[k]? = some (.cells cs t fr) → w'.heap[k]? = some (.cells cs t fr)
theorem Keep.refl (t : TypeId) (w : World) : Keep t w w := fun _ _ _ h => h
theorem Keep.trans {t : TypeId} {a b c : World} (h : Keep t a b) (g : Keep t b c) : Keep t a c := fun k cs fr e => g k cs fr (h k cs fr e)
theorem lt_of_heap {w : World} {k : Nat} {o : Obj} (h : w.heap[k]? = some o) : k < w.heap.size := by
  by_cases c : k < w.heap.size
  · exact c
  · rw [Array.getElem?_eq_none (by omega)] at h; simp at h
theorem Keep.alloc {t : TypeId} {a w : World} (h : Keep t a w) (o : Obj) : Keep t a (w.alloc o) := fun k cs fr e => by
  have e' := h k cs fr e
  rw [Below.heap_alloc _ _ _ (lt_of_heap e')]; exact e'
theorem Keep.drewN {t : TypeId} {a w : World} (h : Keep t a w) (n : Nat) : Keep t a (w.drewN n) := h
theorem Keep.setCell {t u : TypeId} {a w : World} (h : Keep t a w) {p : Addr} {cs : Array Value} {fr : Nat × Nat} (hp : w.heap[p.block]? = some (.cells cs u fr)) (hu : u ≠ t) (v : Value) : Keep t a (w.setCell p v) := fun k cs' fr' e => by
  have e' := h k cs' fr' e
  rw [heap_setCell_other _ _ _ _ (by intro q; subst q; rw [e'] at hp; simp at hp; exact hu hp.2.1.symm)]; exact e'
theorem Keep.grown {t u : TypeId} {a w w' : World} {v : Value} {base size n : Nat} {xs : List Value} (h : Keep t a w) (hg : w.grownBy w' v.ownBlock) (ho : w.ownsRow base u size v n xs) (hu : u ≠ t) : Keep t a w' := fun k cs fr e => by
  have e' := h k cs fr e
  rw [hg.block k (lt_of_heap e') ?_]; exact e'
  intro q
  rcases ho.2 with ⟨rfl, _⟩ | ⟨g, cap, cur, rfl, _, hh, _⟩
  · simp [Value.ownBlock] at q
  · simp [Value.ownBlock] at q; subst q; rw [e'] at hh; simp at hh; exact hu hh.2.1.symm
/-- Pairs of numbers as cells. -/
def flat : List (Int × Int) → List Value
  | [] => []
  | p :: r => .int .i64 p.1 :: .int .i64 p.2 :: flat r
theorem flat_append (l r : List (Int × Int)) : flat (l ++ r) = flat l ++ flat r := by
  induction l with
  | nil => rfl
  | cons p q ih => simp [flat, ih]
theorem own_set {w : World} {B size n : Nat} {e u : TypeId} {v : Value} {xs : List Value} (h : w.ownsRow B e size v n xs) {p : Addr} {cs : Array Value} {fr : Nat × Nat}
    (hp : w.heap[p.block]? = some (.cells cs u fr)) (hu : u ≠ e) (x : Value) : (w.setCell p x).ownsRow B e size v n xs := by
  refine ⟨h.1, ?_⟩
  rcases h.2 with h | ⟨g, cap, cur, rfl, a, hh, b⟩
  · exact .inl h
  · refine .inr ⟨g, cap, cur, rfl, a, ?_, b⟩
    rw [heap_setCell_other _ _ _ _ (by intro q; subst q; rw [hh] at hp; simp at hp; exact hu hp.2.1.symm)]
    exact hh
/-- Another row than the one that grew. -/
theorem own_grown {w w' : World} {B B' size size' n n' : Nat} {e u : TypeId} {v v' : Value} {xs xs' : List Value} (h : w.ownsRow B e size v n xs) (hg : w.grownBy w' v'.ownBlock)
    (ho : w.ownsRow B' u size' v' n' xs') (hu : u ≠ e) : w'.ownsRow B e size v n xs := by
  refine ⟨h.1, ?_⟩
  rcases h.2 with h | ⟨g, cap, cur, rfl, a, hh, b⟩
  · exact .inl h
  · exact .inr ⟨g, cap, cur, rfl, a, (Keep.grown (Keep.refl e w) hg ho hu) _ _ _ hh, b⟩
theorem grown_heap {w w' : World} {v : Value} {B size n : Nat} {l : List Value} {u t : TypeId} {k : Nat} {cs : Array Value} {fr : Nat × Nat} (hg : w.grownBy w' v.ownBlock) (ho : w.ownsRow B u size v n l)
    (hk : w.heap[k]? = some (.cells cs t fr)) (hu : u ≠ t) : w'.heap[k]? = some (.cells cs t fr) := (Keep.grown (Keep.refl t w) hg ho hu) _ _ _ hk
theorem own_ge {w : World} {B e size n : Nat} {v : Value} {xs : List Value} (h : w.ownsRow B e size v n xs) : ∀ k, v.ownBlock = some k → B ≤ k := by
  intro k hk
  rcases h.2 with ⟨rfl, _⟩ | ⟨g, cap, cur, rfl, a, _⟩
  · simp [Value.ownBlock] at hk
  · simp [Value.ownBlock] at hk; omega
theorem ret_bool {a b : Bool} (h : a = b) : Ending.returned (.bool a) = .returned (.bool b) := by rw [h]
theorem flat_at0 (l : List (Int × Int)) (i : Nat) (h : i < l.length) : (flat l)[i * 2]? = some (.int .i64 l[i].1) := by
  induction l generalizing i with
  | nil => simp at h
  | cons p r ih =>
    cases i with
    | zero => rfl
    | succ i =>
      have := ih i (by simpa using h)
      rw [show (i + 1) * 2 = i * 2 + 1 + 1 from by omega]
      simpa [flat] using this
theorem flat_at1 (l : List (Int × Int)) (i : Nat) (h : i < l.length) : (flat l)[i * 2 + 1]? = some (.int .i64 l[i].2) := by
  induction l generalizing i with
  | nil => simp at h
  | cons p r ih =>
    cases i with
    | zero => rfl
    | succ i =>
      have := ih i (by simpa using h)
      rw [show (i + 1) * 2 + 1 = i * 2 + 1 + 1 + 1 from by omega]
      simpa [flat] using this
theorem own_down {w w' : World} {B size n : Nat} {e : TypeId} {v : Value} {xs : List Value} (h : w.ownsRow B e size v n xs) (hb : Below w.heap.size w w') : w'.ownsRow B e size v n xs := by
  have hlt := h.lt
  rcases h with ⟨h1, ⟨rfl, rfl⟩ | ⟨g, cap, cur, rfl, hbg, hg, r⟩⟩
  · exact ⟨h1, .inl ⟨rfl, rfl⟩⟩
  · exact ⟨h1, .inr ⟨g, cap, cur, rfl, hbg, (hb.block g (hlt g rfl).2).trans hg, r⟩⟩
/-- A pair whose numbers are ints. -/
def WfP (p : Int × Int) : Prop := (Lit.int .i64 p.1).wf = true ∧ (Lit.int .i64 p.2).wf = true
theorem own_some {w : World} {B n : Nat} {lv : Value} {xs : List Value} {e size : Nat} (h : w.ownsRow B e size lv n xs) (hn : 0 < n) : ∃ g cap, lv = .slice (some ⟨g, 0, none⟩) n cap := by
  rcases h.2 with ⟨rfl, h⟩ | ⟨g, cap, cur, rfl, _⟩
  · omega
  · exact ⟨_, _, rfl⟩
theorem results_four {fn : Func} {t u v x : Tmp} (h : fn.results = #[.tmp t, .tmp u, .tmp v, .tmp x]) (tmps : Array Value) (P : Program) (w : World) :
    (results fn tmps).run P w = .ok (.tuple #[tmps.getD t undef, tmps.getD u undef, tmps.getD v undef, tmps.getD x undef]) w := by
  simp [results, h]
theorem year_any (n : Int) (w : World) (h0 : 0 ≤ n) (h1 : n < 401767) :
    Calls Tryz.prog 122 #[.int .i64 n] w fun e w' => (∃ y : Int, e = .returned (.int .i64 y) ∧ 1900 ≤ y ∧ y ≤ 2999 ∧ Cal.yb y ≤ n ∧ n < Cal.yb (y + 1)) ∧ w' = w := by
  have g0 := Cal.yb_guess n h0
  go_enter Tryz.func122, Tryz.ntmps122
  go_wp2
  go_loop [3] (fun t => ∃ y : Int, 1900 ≤ y ∧ y ≤ 2999 ∧ Cal.yb y ≤ n ∧ t = .int .i64 y) (fun t => (2999 - intOf t).toNat)
  case atStart => exact ⟨_, by omega, by omega, g0, rfl⟩
  case round =>
    obtain ⟨y, hy1, hy2, hy3, rfl⟩ := hrel
    clear g0
    by_cases hc : y < 2999 ∧ Cal.yb (y + 1) ≤ n
    · obtain ⟨hlt, hd⟩ := hc
      go_wp2_with (go_at_call 60; refine (begin_any _ _ (by omega) (by omega)).mono ?_; rintro e w' ⟨rfl, rfl⟩)
      go_round
      case rel => exact ⟨y + 1, by omega, by omega, hd, rfl⟩
      case measure => simp [intOf]; omega
    · have hz : n < Cal.yb (y + 1) := by
        by_cases e : y = 2999
        · have := Cal.yb_last; rw [e]; show _ < Cal.yb 3000; omega
        · omega
      clear hc
      by_cases hlt : y < 2999
      all_goals
        go_wp2_with (go_at_call 60; refine (begin_any _ _ (by omega) (by omega)).mono ?_; rintro e w' ⟨rfl, rfl⟩)
        go_ret
        exact ⟨⟨y, rfl, hy1, hy2, hy3, hz⟩, rfl⟩
theorem civil_no (n : Int) (w : World) (h : n < 0 ∨ 401767 ≤ n) :
    Calls Tryz.prog 114 #[.int .i64 n] w fun e w' => e = .returned (.tuple #[.int .i64 0, .int .i64 0, .int .i64 0, .int .i64 1]) ∧ w' = w := by
  rcases h with h | h
  · go_enter Tryz.func114, Tryz.ntmps114
    go_wp2
    refine bodyPost_ret (results_four rfl _ _ _) rfl ?_
    exact ⟨rfl, rfl⟩
  · have h' : ¬ n < 0 := by omega
    go_enter Tryz.func114, Tryz.ntmps114
    go_wp2
    refine bodyPost_ret (results_four rfl _ _ _) rfl ?_
    exact ⟨rfl, rfl⟩
set_option maxHeartbeats 400000 in
theorem civil_yes (n : Int) (w : World) (h0 : 0 ≤ n) (h1 : n < 401767) :
    Calls Tryz.prog 114 #[.int .i64 n] w fun e w' => (∃ y m : Int, e = .returned (.tuple #[.int .i64 y, .int .i64 m, .int .i64 (n - Cal.yb y - Cal.cum y m + 1), .int .i64 0]) ∧ Cal.In y m n) ∧ w' = w := by
  go_enter Tryz.func114, Tryz.ntmps114
  go_wp2_with fail
  refine (year_any n _ h0 h1).mono ?_
  rintro e w' ⟨⟨y, rfl, hy1, hy2, hy3, hy4⟩, rfl⟩
  have yb0 := Cal.yb_bd y hy1 (by omega)
  have ys := Cal.yb_succ y
  have l01 := Cal.lp_01 y
  have HS : Hid (Cal.yb (y + 1) = Cal.yb y + 365 + Cal.lp y) := ys
  have hw : n - Cal.yb y < 366 := by omega
  clear ys
  go_wp2_with (go_at_call 60; refine (begin_any _ _ (by omega) (by omega)).mono ?_; rintro e w' ⟨rfl, rfl⟩)
  go_loop [7, 8] (fun r k => ∃ m : Int, 1 ≤ m ∧ m ≤ 12 ∧ k = .int .i64 m ∧ 0 ≤ n - Cal.yb y - Cal.cum y m ∧ r = .int .i64 (n - Cal.yb y - Cal.cum y m)) (fun _ k => (12 - intOf k).toNat)
  case atStart => exact ⟨1, by omega, by omega, rfl, by rw [Cal.cum_one]; omega, by rw [Cal.cum_one]; simp⟩
  case round =>
    obtain ⟨m, hm1, hm2, rfl, hr, rfl⟩ := hrel
    have cb := Cal.cum_bd y m hm1 (by omega)
    have db := Cal.dim_bd y m
    have cs := Cal.cum_succ y m hm1 hm2
    by_cases hc : m < 12 ∧ Cal.dim y m ≤ n - Cal.yb y - Cal.cum y m
    · obtain ⟨hm, hd⟩ := hc
      have HC : Hid (Cal.cum y (m + 1) = Cal.cum y m + Cal.dim y m) := cs
      clear cs
      go_wp2_with (go_at_call 59; refine (dim_any _ _ _ (by omega)).mono ?_; rintro e w' ⟨rfl, rfl⟩)
      go_round
      case rel => exact ⟨m + 1, by omega, by omega, rfl, by rw [HC.out]; omega, by rw [HC.out]; go_num⟩
      case measure => simp [intOf]; omega
    · have hv : n - Cal.yb y - Cal.cum y m < Cal.dim y m := by
        by_cases e : m = 12
        · subst e; have h13 : Cal.cum y (12 + 1) = 365 + Cal.lp y := Cal.cum_end y; have := HS.out; omega
        · omega
      clear hc cs
      by_cases hm : m < 12
      all_goals
        go_wp2_with (go_at_call 59; refine (dim_any _ _ _ (by omega)).mono ?_; rintro e w' ⟨rfl, rfl⟩)
        refine bodyPost_ret (results_four rfl _ _ _) rfl ?_
        exact ⟨⟨y, m, rfl, ⟨hy1, hy2, hm1, hm2, by omega, by omega⟩⟩, rfl⟩
/-- There is no such date. -/
def NoDate (y m d : Int) : Prop := y < 1900 ∨ 2999 < y ∨ m < 1 ∨ 12 < m ∨ d < 1 ∨ Cal.dim y m < d
theorem day_no (y m d : Int) (w : World) (h : NoDate y m d) :
    Calls Tryz.prog 40 #[.int .i64 y, .int .i64 m, .int .i64 d] w fun e w' => e = .returned (.tuple #[.int .i64 0, .int .i64 1]) ∧ w' = w := by
  unfold NoDate at h
  by_cases c1 : y < 1900
  · clear h
    go_enter Tryz.func40, Tryz.ntmps40
    go_wp2
    go_ret2
    exact ⟨rfl, rfl⟩
  by_cases c2 : 2999 < y
  · clear h
    go_enter Tryz.func40, Tryz.ntmps40
    go_wp2
    go_ret2
    exact ⟨rfl, rfl⟩
  by_cases c3 : m < 1
  · clear h
    go_enter Tryz.func40, Tryz.ntmps40
    go_wp2
    go_ret2
    exact ⟨rfl, rfl⟩
  by_cases c4 : 12 < m
  · clear h
    go_enter Tryz.func40, Tryz.ntmps40
    go_wp2
    go_ret2
    exact ⟨rfl, rfl⟩
  by_cases c5 : d < 1
  · clear h
    go_enter Tryz.func40, Tryz.ntmps40
    go_wp2
    go_ret2
    exact ⟨rfl, rfl⟩
  · have c6 : Cal.dim y m < d := by omega
    clear h
    go_enter Tryz.func40, Tryz.ntmps40
    go_wp2_with (go_at_call 59; refine (dim_any _ _ _ (by omega)).mono ?_; rintro e w' ⟨rfl, rfl⟩)
    go_ret2
    exact ⟨rfl, rfl⟩
set_option maxHeartbeats 400000 in
theorem day_yes (y m d : Int) (w : World) (hy1 : 1900 ≤ y) (hy2 : y ≤ 2999) (hm1 : 1 ≤ m) (hm2 : m ≤ 12) (hd1 : 1 ≤ d) (hd2 : d ≤ Cal.dim y m) :
    Calls Tryz.prog 40 #[.int .i64 y, .int .i64 m, .int .i64 d] w fun e w' => e = .returned (.tuple #[.int .i64 (Cal.yb y + Cal.cum y m + d - 1), .int .i64 0]) ∧ w' = w := by
  have db := Cal.dim_bd y m
  have yb0 := Cal.yb_bd y hy1 (by omega)
  go_enter Tryz.func40, Tryz.ntmps40
  go_wp2_with (first | (go_at_call 59; refine (dim_any _ _ _ (by omega)).mono ?_; rintro e w' ⟨rfl, rfl⟩) | (go_at_call 60; refine (begin_any _ _ (by omega) (by omega)).mono ?_; rintro e w' ⟨rfl, rfl⟩))
  go_loop [8, 9] (fun s k => ∃ q : Int, 1 ≤ q ∧ q ≤ m ∧ k = .int .i64 q ∧ s = .int .i64 (Cal.yb y + Cal.cum y q)) (fun _ k => (12 - intOf k).toNat)
  case atStart => exact ⟨1, by omega, by omega, rfl, by rw [Cal.cum_one]; simp⟩
  case round =>
    obtain ⟨q, hq1, hq2, rfl, rfl⟩ := hrel
    have cb := Cal.cum_bd y q hq1 (by omega)
    have dq := Cal.dim_bd y q
    have HC : Hid (Cal.cum y (q + 1) = Cal.cum y q + Cal.dim y q) := Cal.cum_succ y q hq1 (by omega)
    by_cases hlt : q < m
    · go_wp2_with (go_at_call 59; refine (dim_any _ _ _ (by omega)).mono ?_; rintro e w' ⟨rfl, rfl⟩)
      go_round
      case rel => exact ⟨q + 1, by omega, by omega, rfl, by rw [HC.out]; go_num⟩
      case measure => simp [intOf]; omega
    · have e : q = m := by omega
      subst e
      go_wp2
      go_ret2
      exact ⟨rfl, rfl⟩
theorem smear_day_yes (y m d : Int) (w : World) (hy1 : 1900 ≤ y) (hy2 : y ≤ 2999) (hm1 : 1 ≤ m) (hm2 : m ≤ 12) (hd1 : 1 ≤ d) (hd2 : d ≤ Cal.dim y m) :
    Calls Tryz.prog 27 #[.int .i64 y, .int .i64 m, .int .i64 d] w fun e w' => e = .returned (.tuple #[.int .i64 (Cal.yb y + Cal.cum y m + d - 1), .int .i64 0]) ∧ w' = w := by
  go_enter Tryz.func27, Tryz.ntmps27
  go_wp2_with (go_at_call 40; refine (day_yes _ _ _ _ hy1 hy2 hm1 hm2 hd1 hd2).mono ?_; rintro e w' ⟨rfl, rfl⟩)
  go_ret2
  exact ⟨rfl, rfl⟩
namespace Cal
def inB (y m n : Int) : Bool := decide (1900 ≤ y ∧ y ≤ 2999 ∧ 1 ≤ m ∧ m ≤ 12 ∧ yb y + cum y m ≤ n ∧ n < yb y + cum y m + dim y m)
theorem inB_in {y m n : Int} (h : inB y m n = true) : In y m n := by
  obtain ⟨a, b, c, d, e, f⟩ := of_decide_eq_true h
  exact ⟨a, b, c, d, e, f⟩
/-- All months. -/
def allMonths : List (Int × Int) := (List.range 13200).map fun (k : Nat) => (1900 + (k : Int) / 12, 1 + (k : Int) % 12)
/-- The month of a day. -/
def find (n : Int) : Option (Int × Int) := allMonths.find? fun p => inB p.1 p.2 n
theorem find_in {n : Int} {p : Int × Int} (h : find n = some p) : In p.1 p.2 n := by
  have q := List.find?_some (show List.find? (fun p => inB p.1 p.2 n) allMonths = some p from h)
  exact inB_in q
theorem find_eq {y m n : Int} (h : In y m n) : find n = some (y, m) := by
  cases e : find n with
  | none =>
    have mem : (y, m) ∈ allMonths := by
      have := h.y1
      have := h.y2
      have := h.m1
      have := h.m2
      refine List.mem_map.2 ⟨((y - 1900) * 12 + (m - 1)).toNat, List.mem_range.2 (by omega), ?_⟩
      have e : ((((y - 1900) * 12 + (m - 1)).toNat : Nat) : Int) = (y - 1900) * 12 + (m - 1) := by omega
      rw [e]
      exact Prod.ext (by simp only; omega) (by simp only; omega)
    have := List.find?_eq_none.1 e _ mem
    exact absurd (decide_eq_true ⟨h.y1, h.y2, h.m1, h.m2, h.lo, h.hi⟩) this
  | some p =>
    have o := (find_in e).only h
    exact congrArg some (Prod.ext o.1 o.2)
end Cal
namespace Tab
/-- A month begins at a second of UTC. -/
def IsFirst (sec : Int) : Prop := 0 ≤ sec ∧ sec % 86400 = 0 ∧ ∃ y m, Cal.In y m (sec / 86400) ∧ sec / 86400 = Cal.yb y + Cal.cum y m
def first (sec : Int) : Bool := decide (0 ≤ sec ∧ sec % 86400 = 0) && (match Cal.find (sec / 86400) with | none => false | some p => decide (sec / 86400 = Cal.yb p.1 + Cal.cum p.1 p.2))
theorem first_iff (sec : Int) : first sec = true ↔ IsFirst sec := by
  unfold first IsFirst
  rw [Bool.and_eq_true, decide_eq_true_eq]
  refine ⟨fun ⟨⟨a, b⟩, c⟩ => ⟨a, b, ?_⟩, fun ⟨a, b, y, m, hi, e⟩ => ⟨⟨a, b⟩, ?_⟩⟩
  · cases hf : Cal.find (sec / 86400) with
    | none => rw [hf] at c; cases c
    | some p => rw [hf] at c; exact ⟨p.1, p.2, Cal.find_in hf, of_decide_eq_true c⟩
  · rw [Cal.find_eq hi]; exact decide_eq_true e
theorem first_yes {sec : Int} (h : IsFirst sec) : first sec = true := (first_iff sec).2 h
theorem first_no {sec : Int} (h : ¬ IsFirst sec) : first sec = false := by
  cases e : first sec with
  | false => rfl
  | true => exact absurd ((first_iff sec).1 e) h
/-- May an entry stand behind another? -/
def behindB (p : Int × Int) (a o : Int) : Bool := decide (p.1 < a) && (o == p.2 + 1 || o == p.2 - 1)
/-- May an entry stand behind others? -/
def follows (ls : List (Int × Int)) (a o : Int) : Bool :=
  first a && (decide (0 ≤ o) && (decide (o ≤ 200) && ((!(ls.length == 40)) && (match ls.getLast? with | none => true | some p => behindB p a o))))
end Tab
namespace Tab
theorem follows_no1 {ls : List (Int × Int)} {a o : Int} (h : first a = false) : follows ls a o = false := by simp [follows, h]
theorem follows_no2 {ls : List (Int × Int)} {a o : Int} (h : o < 0) : follows ls a o = false := by
  have : decide (0 ≤ o) = false := by simp; omega
  simp [follows, this]
theorem follows_no3 {ls : List (Int × Int)} {a o : Int} (h : 200 < o) : follows ls a o = false := by
  have : decide (o ≤ 200) = false := by simp; omega
  simp [follows, this]
theorem follows_no4 {ls : List (Int × Int)} {a o : Int} (h : ls.length = 40) : follows ls a o = false := by simp [follows, h]
theorem follows_nil {a o : Int} (h : first a = true) (h0 : 0 ≤ o) (h1 : o ≤ 200) : follows [] a o = true := by simp [follows, h, h0, h1]
theorem follows_last {ls : List (Int × Int)} {a o : Int} (h : first a = true) (h0 : 0 ≤ o) (h1 : o ≤ 200) (h2 : ls.length ≠ 40) (q : Nat) (hq : ls.length = q + 1) :
    follows ls a o = behindB (ls[q]'(by omega)) a o := by
  have hl : ls.getLast? = some (ls[q]'(by omega)) := by
    rw [List.getLast?_eq_getElem?, List.getElem?_eq_getElem (by omega)]
    congr 1
    simp [hq]
  unfold follows
  rw [hl, h]
  simp [h0, h1, h2]
end Tab
namespace Tab
/-- Do the first k entries stand as they may? -/
def okUpTo (ls : List (Int × Int)) : Nat → Bool
  | 0 => true
  | k + 1 => okUpTo ls k && (match ls[k]? with | none => true | some p => follows (ls.take k) p.1 p.2)
/-- Is this a table? -/
def whole (up ex : Int) (ls : List (Int × Int)) : Bool :=
  decide (0 ≤ up) && (decide (up < ex) && (decide (ex ≤ 34000000000) && ((!(ls.length == 0)) && okUpTo ls ls.length)))
theorem okUpTo_succ (ls : List (Int × Int)) (k : Nat) (h : k < ls.length) : okUpTo ls (k + 1) = (okUpTo ls k && follows (ls.take k) ls[k].1 ls[k].2) := by
  simp only [okUpTo]; rw [List.getElem?_eq_getElem h]
theorem okUpTo_no {ls : List (Int × Int)} {k m : Nat} (h : okUpTo ls k = false) (hm : k ≤ m) : okUpTo ls m = false := by
  induction m with
  | zero => have : k = 0 := by omega
            subst this; exact h
  | succ m ih =>
    by_cases e : k = m + 1
    · subst e; exact h
    · simp [okUpTo, ih (by omega)]
theorem follows_off {ls : List (Int × Int)} {a o : Int} (h : follows ls a o = true) : 0 ≤ o ∧ o ≤ 200 := by
  by_cases h0 : o < 0
  · rw [follows_no2 h0] at h; cases h
  · by_cases h1 : 200 < o
    · rw [follows_no3 h1] at h; cases h
    · omega
theorem okUpTo_off {ls : List (Int × Int)} (k : Nat) (hk : k ≤ ls.length) (h : okUpTo ls k = true) : ∀ p ∈ ls.take k, 0 ≤ p.2 ∧ p.2 ≤ 200 := by
  induction k with
  | zero => intro p hp; simp at hp
  | succ k ih =>
    rw [okUpTo_succ ls k (by omega)] at h
    simp only [Bool.and_eq_true] at h
    intro p hp
    rw [List.take_succ_eq_append_getElem (by omega)] at hp
    rcases List.mem_append.1 hp with hp | hp
    · exact ih (by omega) h.1 p hp
    · simp at hp; subst hp; exact follows_off h.2
theorem whole_no1 {up ex : Int} {ls : List (Int × Int)} (h : up < 0) : whole up ex ls = false := by
  have : decide (0 ≤ up) = false := by simp; omega
  simp [whole, this]
theorem whole_no2 {up ex : Int} {ls : List (Int × Int)} (h : ex ≤ up) : whole up ex ls = false := by
  have : decide (up < ex) = false := by simp; omega
  simp [whole, this]
theorem whole_no3 {up ex : Int} {ls : List (Int × Int)} (h : 34000000000 < ex) : whole up ex ls = false := by
  have : decide (ex ≤ 34000000000) = false := by simp; omega
  simp [whole, this]
theorem whole_no4 {up ex : Int} {ls : List (Int × Int)} (h : ls.length = 0) : whole up ex ls = false := by simp [whole, h]
theorem whole_is {up ex : Int} {ls : List (Int × Int)} (h0 : ¬ up < 0) (h1 : ¬ ex ≤ up) (h2 : ¬ 34000000000 < ex) (h3 : ¬ ls.length = 0) : whole up ex ls = okUpTo ls ls.length := by
  have a : decide (0 ≤ up) = true := by simp; omega
  have b : decide (up < ex) = true := by simp; omega
  have c : decide (ex ≤ 34000000000) = true := by simp; omega
  have d : (ls.length == 0) = false := by rw [beq_eq_false_iff_ne]; exact h3
  simp only [whole, a, b, c, d, Bool.not_false, Bool.true_and]
end Tab
/-- A list of entries as it lies in memory. -/
def Lies (w : World) (g : Nat) (ls : List (Int × Int)) : Prop := ∀ i (h : i < ls.length), w.cell? ⟨g, i * 2, none⟩ = some (.int .i64 ls[i].1) ∧ w.cell? ⟨g, i * 2 + 1, none⟩ = some (.int .i64 ls[i].2)
/-- Entries within the calendar. -/
def Fine (ls : List (Int × Int)) : Prop := ∀ p ∈ ls, (0 ≤ p.1 ∧ p.1 ≤ 34712668800) ∧ (0 ≤ p.2 ∧ p.2 ≤ 200)
theorem Tab.first_bd {a : Int} (h : Tab.IsFirst a) : 0 ≤ a ∧ a ≤ 34712668800 := by
  obtain ⟨h0, _, y, m, hi, _⟩ := h
  have a := hi.year
  have b := Cal.yb_mono (y + 1) 3000 (by have := hi.y2; omega)
  rw [Cal.yb_last] at b
  omega
theorem Tab.follows_first {ls : List (Int × Int)} {a o : Int} (h : Tab.follows ls a o = true) : Tab.IsFirst a := by
  cases hf : Tab.first a with
  | false => rw [Tab.follows_no1 hf] at h; cases h
  | true => exact (Tab.first_iff a).1 hf
theorem Tab.okUpTo_at {ls : List (Int × Int)} (k : Nat) (hk : k ≤ ls.length) (h : Tab.okUpTo ls k = true) : ∀ i (hi : i < k), Tab.follows (ls.take i) (ls[i]'(by omega)).1 (ls[i]'(by omega)).2 = true := by
  induction k with
  | zero => intro i hi; omega
  | succ k ih =>
    rw [Tab.okUpTo_succ ls k (by omega)] at h
    simp only [Bool.and_eq_true] at h
    intro i hi
    by_cases e : i = k
    · subst e; exact h.2
    · exact ih (by omega) h.1 i (by omega)
theorem Tab.whole_ok {up ex : Int} {ls : List (Int × Int)} (h : Tab.whole up ex ls = true) : Tab.okUpTo ls ls.length = true ∧ 0 < ls.length := by
  unfold Tab.whole at h
  simp only [Bool.and_eq_true, Bool.not_eq_true', beq_eq_false_iff_ne, ne_eq] at h
  exact ⟨h.2.2.2.2, by omega⟩
theorem Tab.fine_of_whole {up ex : Int} {ls : List (Int × Int)} (h : Tab.whole up ex ls = true) : Fine ls := fun p hp => by
  obtain ⟨i, hi, rfl⟩ := List.getElem_of_mem hp
  have := Tab.okUpTo_at ls.length (Nat.le_refl _) (Tab.whole_ok h).1 i hi
  exact ⟨Tab.first_bd (Tab.follows_first this), Tab.follows_off this⟩
/-- The second from which an entry holds. -/
def Tab.when (ls : List (Int × Int)) (i : Nat) : Int :=
  (ls.getD i (0, 0)).1 + (if 0 < i ∧ (ls.getD (i - 1) (0, 0)).2 < (ls.getD i (0, 0)).2 then (ls.getD (i - 1) (0, 0)).2 else (ls.getD i (0, 0)).2)
theorem getD_at {ls : List (Int × Int)} (i : Nat) (h : i < ls.length) : ls.getD i (0, 0) = ls[i] := by
  rw [List.getD_eq_getElem?_getD, List.getElem?_eq_getElem h]; rfl
/-- The last of the first k entries that holds at a second; -1: none does. -/
def Tab.lastAt (ls : List (Int × Int)) (sec : Int) : Nat → Int
  | 0 => -1
  | k + 1 => if Tab.when ls k ≤ sec then (k : Int) else Tab.lastAt ls sec k
theorem Tab.lastAt_bd (ls : List (Int × Int)) (sec : Int) (k : Nat) : -1 ≤ Tab.lastAt ls sec k ∧ Tab.lastAt ls sec k < k := by
  induction k with
  | zero => simp [Tab.lastAt]
  | succ k ih => simp only [Tab.lastAt]; split <;> omega
/-- The offset at a second, and which error. -/
def Tab.offset (up ex : Int) (ls : List (Int × Int)) (sec : Int) : Int × Int :=
  if Tab.whole up ex ls = false then (0, 8) else if 34000000000 < sec then (0, 9)
  else if Tab.lastAt ls sec ls.length < 0 then (0, 9) else ((ls.getD (Tab.lastAt ls sec ls.length).toNat (0, 0)).2, 0)
theorem Lies.below {w w' : World} {g : Nat} {ls : List (Int × Int)} (h : Lies w g ls) (hg : g < w.heap.size) (hb : Below w.heap.size w w') : Lies w' g ls := fun i hi =>
  ⟨(hb.cell (p := ⟨g, i * 2, none⟩) hg).trans (h i hi).1, (hb.cell (p := ⟨g, i * 2 + 1, none⟩) hg).trans (h i hi).2⟩
/-- The offset at the second D of UTC, of the first k + 1 entries. -/
def Tab.offAt (ls : List (Int × Int)) (D : Int) : Nat → Int
  | 0 => (ls.getD 0 (0, 0)).2
  | k + 1 => if (ls.getD (k + 1) (0, 0)).1 ≤ D then (ls.getD (k + 1) (0, 0)).2 else Tab.offAt ls D k
/-- The second of TAI at which a day begins. -/
def Tab.begins (ls : List (Int × Int)) (d : Int) : Int :=
  if d * 86400 < (ls.getD 0 (0, 0)).1 then -1 else d * 86400 + Tab.offAt ls (d * 86400) (ls.length - 1)
/-- A day's seconds, by the entries from i on. -/
def Tab.lenFrom (ls : List (Int × Int)) (D : Int) (i : Nat) : Nat → Int
  | 0 => 86400
  | m + 1 => if (ls.getD i (0, 0)).1 = D then 86400 + (ls.getD i (0, 0)).2 - (ls.getD (i - 1) (0, 0)).2 else Tab.lenFrom ls D (i + 1) m
/-- How many seconds a day has. -/
def Tab.length (ls : List (Int × Int)) (d : Int) : Int := Tab.lenFrom ls ((d + 1) * 86400) 1 (ls.length - 1)
theorem Tab.lenFrom_bd {ls : List (Int × Int)} (hf : Fine ls) (D : Int) (m i : Nat) (hi : 1 ≤ i) (hm : i + m ≤ ls.length) : 86200 ≤ Tab.lenFrom ls D i m ∧ Tab.lenFrom ls D i m ≤ 86600 := by
  induction m generalizing i with
  | zero => simp [Tab.lenFrom]
  | succ m ih =>
    simp only [Tab.lenFrom]
    split
    · rw [getD_at i (by omega), getD_at (i - 1) (by omega)]
      have a := (hf _ (List.getElem_mem (show i < ls.length by omega))).2
      have b := (hf _ (List.getElem_mem (show i - 1 < ls.length by omega))).2
      omega
    · exact ih (i + 1) (by omega) (by omega)
/-- The second that is called so, and which error. -/
def Tab.second (up ex : Int) (ls : List (Int × Int)) (d s : Int) : Int × Int :=
  if Tab.whole up ex ls = false then (0, 8) else if d < 0 ∨ 401767 ≤ d then (0, 9)
  else if Tab.begins ls d < 0 ∨ s < 0 ∨ Tab.length ls d ≤ s ∨ 34000000000 < Tab.begins ls d + s then (0, 9) else (Tab.begins ls d + s, 0)
theorem Tab.length_bd {ls : List (Int × Int)} (hf : Fine ls) (hp : 0 < ls.length) (d : Int) : 86200 ≤ Tab.length ls d ∧ Tab.length ls d ≤ 86600 :=
  Tab.lenFrom_bd hf _ _ _ (Nat.le_refl _) (by omega)
namespace Tab
/-- What a table's entries are. -/
structure Good (ls : List (Int × Int)) : Prop where
  pos : 0 < ls.length
  fine : Fine ls
  day : ∀ i, i < ls.length → (ls.getD i (0, 0)).1 % 86400 = 0
  up : ∀ i, i + 1 < ls.length → (ls.getD i (0, 0)).1 < (ls.getD (i + 1) (0, 0)).1
  off : ∀ i, i + 1 < ls.length → (ls.getD (i + 1) (0, 0)).2 = (ls.getD i (0, 0)).2 + 1 ∨ (ls.getD (i + 1) (0, 0)).2 = (ls.getD i (0, 0)).2 - 1
  len : ls.length ≤ 40
theorem good_of_whole {up ex : Int} {ls : List (Int × Int)} (h : whole up ex ls = true) : Good ls := by
  obtain ⟨hok, hpos⟩ := whole_ok h
  have hat := okUpTo_at ls.length (Nat.le_refl _) hok
  have hlast : ∀ i (hi : i + 1 < ls.length), behindB ls[i] ls[i + 1].1 ls[i + 1].2 = true := fun i hi => by
    have hfl := hat (i + 1) hi
    have hne : (ls.take (i + 1)).length ≠ 40 := fun e => by rw [follows_no4 e] at hfl; cases hfl
    have hfi : first ls[i + 1].1 = true := by
      cases hf : first ls[i + 1].1 with
      | false => rw [follows_no1 hf] at hfl; cases hfl
      | true => rfl
    have ho := follows_off hfl
    have := follows_last (ls := ls.take (i + 1)) hfi ho.1 ho.2 hne i (by simp; omega)
    rw [this] at hfl
    simpa using hfl
  refine ⟨hpos, fine_of_whole h, fun i hi => ?_, fun i hi => ?_, fun i hi => ?_, ?_⟩
  · rw [getD_at i hi]; exact (follows_first (hat i hi)).2.1
  · rw [getD_at i (by omega), getD_at (i + 1) hi]
    have := hlast i hi
    simp only [behindB, Bool.and_eq_true, decide_eq_true_eq] at this
    exact this.1
  · rw [getD_at i (by omega), getD_at (i + 1) hi]
    have := hlast i hi
    simp only [behindB, Bool.and_eq_true, Bool.or_eq_true, beq_iff_eq] at this
    exact this.2
  · by_cases c : ls.length ≤ 40
    · exact c
    · have hfl := hat 40 (by omega)
      rw [follows_no4 (by simp; omega)] at hfl
      cases hfl
theorem Good.lt {ls : List (Int × Int)} (h : Good ls) (i j : Nat) (hij : i < j) (hj : j < ls.length) : (ls.getD i (0, 0)).1 < (ls.getD j (0, 0)).1 := by
  induction j with
  | zero => omega
  | succ j ih =>
    by_cases e : i = j
    · subst e; exact h.up i hj
    · have := ih (by omega) (by omega); have := h.up j hj; omega
/-- The last of the first k + 1 entries that is not behind D. -/
theorem Good.last {ls : List (Int × Int)} (_ : Good ls) (D : Int) (h0 : (ls.getD 0 (0, 0)).1 ≤ D) (k : Nat) (hk : k < ls.length) :
    ∃ j, j ≤ k ∧ (ls.getD j (0, 0)).1 ≤ D ∧ ∀ i, j < i → i ≤ k → D < (ls.getD i (0, 0)).1 := by
  induction k with
  | zero => exact ⟨0, Nat.le_refl _, h0, fun i a b => by omega⟩
  | succ k ih =>
    by_cases c : (ls.getD (k + 1) (0, 0)).1 ≤ D
    · exact ⟨k + 1, Nat.le_refl _, c, fun i a b => by omega⟩
    · obtain ⟨j, hj, hd, hr⟩ := ih (by omega)
      refine ⟨j, by omega, hd, fun i a b => ?_⟩
      by_cases e : i = k + 1
      · subst e; omega
      · exact hr i a (by omega)
theorem offAt_eq (ls : List (Int × Int)) (D : Int) (j k : Nat) (hjk : j ≤ k) (hd : (ls.getD j (0, 0)).1 ≤ D) (hr : ∀ i, j < i → i ≤ k → D < (ls.getD i (0, 0)).1) : offAt ls D k = (ls.getD j (0, 0)).2 := by
  induction k with
  | zero => have : j = 0 := by omega
            subst this; rfl
  | succ k ih =>
    simp only [offAt]
    by_cases e : j = k + 1
    · subst e; rw [if_pos hd]
    · have := hr (k + 1) (by omega) (Nat.le_refl _)
      rw [if_neg (by omega)]
      exact ih (by omega) (fun i a b => hr i a (by omega))
theorem lenFrom_no (ls : List (Int × Int)) (E : Int) (m i : Nat) (h : ∀ t, i ≤ t → t < i + m → (ls.getD t (0, 0)).1 ≠ E) : lenFrom ls E i m = 86400 := by
  induction m generalizing i with
  | zero => rfl
  | succ m ih =>
    simp only [lenFrom]
    rw [if_neg (h i (Nat.le_refl _) (by omega))]
    exact ih (i + 1) (fun t a b => h t (by omega) (by omega))
theorem lenFrom_yes (ls : List (Int × Int)) (E : Int) (m i t : Nat) (h0 : i ≤ t) (h1 : t < i + m) (ht : (ls.getD t (0, 0)).1 = E) (h : ∀ q, i ≤ q → q < t → (ls.getD q (0, 0)).1 ≠ E) :
    lenFrom ls E i m = 86400 + (ls.getD t (0, 0)).2 - (ls.getD (t - 1) (0, 0)).2 := by
  induction m generalizing i with
  | zero => omega
  | succ m ih =>
    simp only [lenFrom]
    by_cases e : i = t
    · subst e; rw [if_pos ht]
    · rw [if_neg (h i (Nat.le_refl _) (by omega))]
      exact ih (i + 1) (by omega) (by omega) (fun q a b => h q (by omega) b)
/-- A day begins where the one ahead of it ends. -/
theorem Good.next {ls : List (Int × Int)} (h : Good ls) (d : Int) (h0 : (ls.getD 0 (0, 0)).1 ≤ d * 86400) : begins ls (d + 1) = begins ls d + length ls d := by
  have hp := h.pos
  obtain ⟨j, hj, hd, hr⟩ := h.last (d * 86400) h0 (ls.length - 1) (by omega)
  have e1 : begins ls d = d * 86400 + (ls.getD j (0, 0)).2 := by
    unfold begins; rw [if_neg (by omega), offAt_eq ls (d * 86400) j (ls.length - 1) hj hd hr]
  have hb : ∀ i, j < i → i < ls.length → (d + 1) * 86400 ≤ (ls.getD i (0, 0)).1 := fun i a b => by
    have x := hr i a (by omega)
    have y := h.day i b
    omega
  by_cases c : j + 1 < ls.length ∧ (ls.getD (j + 1) (0, 0)).1 = (d + 1) * 86400
  · have e2 : begins ls (d + 1) = (d + 1) * 86400 + (ls.getD (j + 1) (0, 0)).2 := by
      unfold begins
      rw [if_neg (by omega), offAt_eq ls ((d + 1) * 86400) (j + 1) (ls.length - 1) (by omega) (by omega) (fun i a b => by have := h.lt (j + 1) i a (by omega); omega)]
    have e3 : length ls d = 86400 + (ls.getD (j + 1) (0, 0)).2 - (ls.getD j (0, 0)).2 := by
      unfold length
      exact lenFrom_yes ls ((d + 1) * 86400) (ls.length - 1) 1 (j + 1) (by omega) (by omega) c.2 (fun q a b => by have := h.lt q (j + 1) b c.1; omega)
    omega
  · have hb' : ∀ i, j < i → i < ls.length → (d + 1) * 86400 < (ls.getD i (0, 0)).1 := fun i a b => by
      by_cases e : i = j + 1
      · subst e
        have := hb (j + 1) (by omega) b
        have : (ls.getD (j + 1) (0, 0)).1 ≠ (d + 1) * 86400 := fun q => c ⟨b, q⟩
        omega
      · have := hb (j + 1) (by omega) (by omega)
        have := h.lt (j + 1) i (by omega) b
        omega
    have e2 : begins ls (d + 1) = (d + 1) * 86400 + (ls.getD j (0, 0)).2 := by
      unfold begins
      rw [if_neg (by omega), offAt_eq ls ((d + 1) * 86400) j (ls.length - 1) hj (by omega) (fun i a b => hb' i a (by omega))]
    have e3 : length ls d = 86400 := by
      unfold length
      refine lenFrom_no ls ((d + 1) * 86400) (ls.length - 1) 1 fun t a b => ?_
      by_cases e : t ≤ j
      · by_cases e' : t = j
        · subst e'; omega
        · have := h.lt t j (by omega) (by omega); omega
      · have := hb' t (by omega) (by omega); omega
    omega
/-- The day in which a second of TAI is. -/
structure Day (ls : List (Int × Int)) (sec d : Int) : Prop where
  from' : (ls.getD 0 (0, 0)).1 ≤ d * 86400
  lo : begins ls d ≤ sec
  hi : sec < begins ls d + length ls d
theorem Good.mono {ls : List (Int × Int)} (h : Good ls) (d : Int) (h0 : (ls.getD 0 (0, 0)).1 ≤ d * 86400) (m : Nat) : begins ls d + 86200 * m ≤ begins ls (d + m) := by
  induction m with
  | zero => simp
  | succ m ih =>
    have a := h.next (d + m) (by omega)
    have b := length_bd h.fine h.pos (d + m)
    rw [show d + ((m + 1 : Nat) : Int) = d + m + 1 from by omega]
    omega
theorem Good.le {ls : List (Int × Int)} (h : Good ls) (d e : Int) (h0 : (ls.getD 0 (0, 0)).1 ≤ d * 86400) (hde : d < e) : begins ls (d + 1) ≤ begins ls e := by
  have := h.mono (d + 1) (by omega) (e - (d + 1)).toNat
  rw [show d + 1 + (((e - (d + 1)).toNat : Nat) : Int) = e from by omega] at this
  omega
theorem Good.only {ls : List (Int × Int)} (h : Good ls) {sec d e : Int} (a : Day ls sec d) (b : Day ls sec e) : d = e := by
  rcases Int.lt_trichotomy d e with c | c | c
  · have := h.le d e a.from' c
    have := h.next d a.from'
    have := a.hi
    have := b.lo
    omega
  · exact c
  · have := h.le e d b.from' c
    have := h.next e b.from'
    have := b.hi
    have := a.lo
    omega
theorem Good.some {ls : List (Int × Int)} (h : Good ls) (sec : Int) (fuel : Nat) (d : Int) (h0 : (ls.getD 0 (0, 0)).1 ≤ d * 86400) (hb : begins ls d ≤ sec) (hf : sec - begins ls d < fuel) : ∃ e, Day ls sec e := by
  induction fuel generalizing d with
  | zero => omega
  | succ fuel ih =>
    by_cases c : sec < begins ls d + length ls d
    · exact ⟨d, h0, hb, c⟩
    · have n := h.next d h0
      have l := length_bd h.fine h.pos d
      exact ih (d + 1) (by omega) (by omega) (by omega)
end Tab
namespace Tab
/-- The second of UTC at which a month begins. -/
def mo (y m : Int) : Int := (Cal.yb y + Cal.cum y m) * 86400
theorem mo_first (y m : Int) (hy1 : 1900 ≤ y) (hy2 : y ≤ 2999) (hm1 : 1 ≤ m) (hm2 : m ≤ 12) : IsFirst (mo y m) := by
  have yb0 := Cal.yb_bd y hy1 (by omega)
  have cb := Cal.cum_bd y m hm1 (by omega)
  have db := Cal.dim_bd y m
  have e : mo y m / 86400 = Cal.yb y + Cal.cum y m := by unfold mo; omega
  refine ⟨by unfold mo; omega, by unfold mo; omega, y, m, ?_, e⟩
  rw [e]
  exact ⟨hy1, hy2, hm1, hm2, by omega, by omega⟩
theorem mo_lt (y m z o : Int) (hm1 : 1 ≤ m) (hm2 : m ≤ 12) (ho1 : 1 ≤ o) (ho2 : o ≤ 12) (h : y < z ∨ (y = z ∧ m < o)) : mo y m < mo z o := by
  have s := Cal.cum_succ y m hm1 hm2
  have db := Cal.dim_bd y m
  unfold mo
  rcases h with h | ⟨rfl, h⟩
  · have a := Cal.cum_mono y (m + 1) 13 (by omega)
    rw [Cal.cum_end] at a
    have b := Cal.yb_succ y
    have c := Cal.yb_mono (y + 1) z (by omega)
    have d := Cal.cum_bd z o ho1 (by omega)
    omega
  · have a := Cal.cum_mono y (m + 1) o (by omega)
    omega
theorem mo_bd (y m : Int) (hy1 : 1900 ≤ y) (hy2 : y ≤ 2040) (hm1 : 1 ≤ m) (hm2 : m ≤ 12) : 0 ≤ mo y m ∧ mo y m ≤ 5000000000 := by
  have a := Cal.yb_bd y hy1 (by omega)
  have b := Cal.yb_mono y 2040 hy2
  have c : Cal.yb 2040 = 51134 := by decide
  have d := Cal.cum_bd y m hm1 (by omega)
  unfold mo
  omega
theorem okUpTo_app1 (ls : List (Int × Int)) (x : Int × Int) (k : Nat) (hk : k ≤ ls.length) : okUpTo (ls ++ [x]) k = okUpTo ls k := by
  induction k with
  | zero => rfl
  | succ k ih =>
    rw [okUpTo_succ _ _ (by simp; omega), okUpTo_succ _ _ (by omega), ih (by omega), List.take_append_of_le_length (by omega), List.getElem_append_left (by omega)]
theorem okUpTo_grow (ls : List (Int × Int)) (a o : Int) (h : okUpTo ls ls.length = true) (hf : IsFirst a) (h0 : 0 ≤ o) (h1 : o ≤ 200) (hn : ls.length < 40)
    (hl : ∀ p, ls.getLast? = some p → p.1 < a ∧ (o = p.2 + 1 ∨ o = p.2 - 1)) : okUpTo (ls ++ [(a, o)]) (ls.length + 1) = true := by
  rw [okUpTo_succ _ _ (by simp), okUpTo_app1 _ _ _ (Nat.le_refl _), h]
  simp only [List.take_left, List.getElem_concat_length, Bool.true_and]
  cases hz : ls.length with
  | zero =>
    have : ls = [] := List.eq_nil_of_length_eq_zero hz
    subst this
    exact follows_nil (first_yes hf) h0 h1
  | succ q =>
    rw [follows_last (first_yes hf) h0 h1 (by omega) q hz]
    have hg : ls.getLast? = some (ls[q]'(by omega)) := by
      rw [List.getLast?_eq_getElem?, List.getElem?_eq_getElem (by omega)]
      congr 1
      simp [hz]
    have := hl _ hg
    unfold behindB
    simp only [Bool.and_eq_true, decide_eq_true_eq, Bool.or_eq_true, beq_iff_eq]
    exact this
/-- Behind k rounds: the year, the month and the offset to come, and the entries. -/
structure KS (n k : Nat) (y m o : Int) (ls : List (Int × Int)) : Prop where
  len : ls.length = k
  k12 : k ≤ 12
  kn : k ≤ n + 1
  y1 : 1960 ≤ y
  y2 : y ≤ 1999 + 3 * k
  m1 : 1 ≤ m
  m2 : m ≤ 12
  o1 : 12 - k ≤ o
  o2 : o ≤ 18 + k
  ok : okUpTo ls ls.length = true
  last : k ≤ n → ∀ p, ls.getLast? = some p → p.1 < mo y m ∧ (o = p.2 + 1 ∨ o = p.2 - 1)
  small : ∀ p ∈ ls, (0 ≤ p.1 ∧ p.1 ≤ 5000000000) ∧ 0 ≤ p.2 ∧ p.2 ≤ 200
theorem KS.start (n : Nat) (y o : Int) (y1 : 1960 ≤ y) (y2 : y ≤ 1999) (o1 : 12 ≤ o) (o2 : o ≤ 18) : KS n 0 y 1 o [] :=
  ⟨rfl, by omega, by omega, y1, by omega, by omega, by omega, by omega, by omega, rfl, fun _ p h => by simp at h, fun p h => by simp at h⟩
theorem KS.bd {n k : Nat} {y m o : Int} {ls : List (Int × Int)} (h : KS n k y m o ls) (hk : k < 12) (hn : k ≤ n) :
    okUpTo (ls ++ [(mo y m, o)]) (ls ++ [(mo y m, o)]).length = true ∧ ∀ p ∈ ls ++ [(mo y m, o)], (0 ≤ p.1 ∧ p.1 ≤ 5000000000) ∧ 0 ≤ p.2 ∧ p.2 ≤ 200 := by
  have hl := h.len
  have a := h.y1
  have b := h.y2
  have c := h.o1
  have d := h.o2
  constructor
  · rw [List.length_append]
    exact okUpTo_grow ls _ o h.ok (mo_first y m (by omega) (by omega) h.m1 h.m2) (by omega) (by omega) (by omega) (h.last hn)
  · intro p hp
    rcases List.mem_append.1 hp with hp | hp
    · exact h.small p hp
    · simp at hp
      subst hp
      exact ⟨mo_bd y m (by omega) (by omega) h.m1 h.m2, by simp only; omega, by simp only; omega⟩
/-- A round that is the last. -/
theorem KS.stay {n k : Nat} {y m o : Int} {ls : List (Int × Int)} (h : KS n k y m o ls) (hk : k < 12) (hn : k ≤ n) (he : ¬ k < n) : KS n (k + 1) y m o (ls ++ [(mo y m, o)]) := by
  obtain ⟨a, b⟩ := h.bd hk hn
  have y2 := h.y2
  have o1 := h.o1
  have o2 := h.o2
  exact ⟨by simp [h.len], by omega, by omega, h.y1, by omega, h.m1, h.m2, by omega, by omega, a, fun c => by omega, b⟩
/-- A round that goes on. -/
theorem KS.go {n k : Nat} {y m o y' m' o' : Int} {ls : List (Int × Int)} (h : KS n k y m o ls) (hk : k < 12) (hn : k ≤ n) (y1 : y ≤ y') (y2 : y' ≤ y + 3) (m1 : 1 ≤ m') (m2 : m' ≤ 12)
    (ho : o' = o + 1 ∨ o' = o - 1) (hlt : y < y' ∨ (y = y' ∧ m < m')) : KS n (k + 1) y' m' o' (ls ++ [(mo y m, o)]) := by
  obtain ⟨a, b⟩ := h.bd hk hn
  have z1 := h.y1
  have z2 := h.y2
  have p1 := h.o1
  have p2 := h.o2
  refine ⟨by simp [h.len], by omega, by omega, by omega, by omega, m1, m2, by omega, by omega, a, fun c p hp => ?_, b⟩
  simp at hp
  subst hp
  exact ⟨mo_lt y m y' m' h.m1 h.m2 m1 m2 hlt, ho⟩
theorem KS.whole {n k : Nat} {y m o : Int} {ls : List (Int × Int)} (h : KS n k y m o ls) (hk : 0 < k) (x : Int) (x0 : 0 ≤ x) (x1 : x < 100000000) :
    whole (ls.getD 0 (0, 0)).1 ((ls.getD (k - 1) (0, 0)).1 + 1 + x) ls = true := by
  have hl := h.len
  have g0 := getD_at (ls := ls) 0 (by omega)
  have gk := getD_at (ls := ls) (k - 1) (by omega)
  have s0 := h.small _ (List.getElem_mem (show 0 < ls.length by omega))
  have sk := h.small _ (List.getElem_mem (show k - 1 < ls.length by omega))
  rw [← g0] at s0
  rw [← gk] at sk
  have hle : (ls.getD 0 (0, 0)).1 ≤ (ls.getD (k - 1) (0, 0)).1 := by
    have hat := okUpTo_at ls.length (Nat.le_refl _) h.ok
    have key : ∀ j, (hj : j < ls.length) → (ls.getD 0 (0, 0)).1 ≤ (ls.getD j (0, 0)).1 := by
      intro j
      induction j with
      | zero => intro _; exact Int.le_refl _
      | succ i ih =>
        intro hj
        have hfl := hat (i + 1) hj
        have hne : (ls.take (i + 1)).length ≠ 40 := fun e => by rw [follows_no4 e] at hfl; cases hfl
        have hfi : first ls[i + 1].1 = true := by
          cases hf : first ls[i + 1].1 with
          | false => rw [follows_no1 hf] at hfl; cases hfl
          | true => rfl
        have ho := follows_off hfl
        have := follows_last (ls := ls.take (i + 1)) hfi ho.1 ho.2 hne i (by simp; omega)
        rw [this] at hfl
        simp only [behindB, Bool.and_eq_true, decide_eq_true_eq, List.getElem_take] at hfl
        have := ih (by omega)
        rw [getD_at i (by omega)] at this
        rw [getD_at (i + 1) hj]
        omega
    exact key (k - 1) (by omega)
  rw [whole_is (by omega) (by omega) (by omega) (by omega)]
  exact h.ok
end Tab
theorem keep_neg (c n : Int) (h : c < 0) (h1 : 1 ≤ n) : 0 ≤ -((c + 1).tmod n) ∧ -((c + 1).tmod n) < n := by
  rw [← Int.neg_tmod]
  exact ⟨Int.tmod_nonneg _ (by omega), Int.tmod_lt_of_pos _ (by omega)⟩
/-- What pick answers. -/
def kpick (c n : Int) : Int := if c < 0 then -((c + 1).tmod n) else c % n
theorem kpick_bd (c n : Int) (h1 : 1 ≤ n) : 0 ≤ kpick c n ∧ kpick c n < n := by
  unfold kpick
  split
  · rename_i h; exact keep_neg c n h h1
  · exact ⟨Int.emod_nonneg _ (by omega), Int.emod_lt_of_pos _ (by omega)⟩
theorem keep_pick (c : Int) (n : Int) (w : World) (w0 : (Lit.int .i64 c).wf = true) (h1 : 1 ≤ n) (h2 : n ≤ 2000000000000) :
    Calls Tryz.prog 15 #[.int .i64 c, .int .i64 n] w fun e w' => e = .returned (.int .i64 (kpick c n)) ∧ w' = w := by
  have hb := bounds_i64 w0
  clear w0
  by_cases hc : c < 0
  · have H : Hid (kpick c n = -((c + 1).tmod n)) := by show _ = _; unfold kpick; rw [if_pos hc]
    go_enter Tryz.func15, Tryz.ntmps15
    go_wp2
    go_ret
    exact ⟨ret_int H.out.symm, rfl⟩
  · have H : Hid (kpick c n = c % n) := by show _ = _; unfold kpick; rw [if_neg hc]
    go_enter Tryz.func15, Tryz.ntmps15
    go_wp2
    go_ret
    exact ⟨ret_int H.out.symm, rfl⟩
/-- A list of ints that was handed in. -/
structure Ints (w : World) (lo : Option Addr) (L : Nat) : Prop where
  some : 0 < L → ∃ b off, lo = .some ⟨b, off, none⟩ ∧ b < w.heap.size ∧ ∀ k, k < L → ∃ x : Int, w.cell? ⟨b, off + k, none⟩ = .some (.int .i64 x) ∧ (Lit.int .i64 x).wf = true
end Go.Proofs.YtmmkhodaljpjgabGreatDoor
