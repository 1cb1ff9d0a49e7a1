import Derived.Test.YtmmkhodaljpjgaaGreatDoorTabs
import Derived.Test.YtmmkhodaljpjgaaGreatDoorTables
/-! Which day a second is in, in plain integers. -/
namespace Go.Proofs.YtmmkhodaljpjgaaGreatDoor
open Go.RowKit

namespace Tab
/-- The last of the first k entries whose At is not above D; -1: there is none. -/
def lastDay (ls : List (Int × Int)) (D : Int) : Nat → Int
  | 0 => -1
  | k + 1 => if (ls.getD k (0, 0)).1 ≤ D then (k : Int) else lastDay ls D k
theorem lastDay_bd (ls : List (Int × Int)) (D : Int) (k : Nat) : -1 ≤ lastDay ls D k ∧ lastDay ls D k < k := by
  induction k with
  | zero => simp [lastDay]
  | succ k ih => simp only [lastDay]; split <;> omega
theorem lastDay_off (ls : List (Int × Int)) (D : Int) (k : Nat) (h0 : (ls.getD 0 (0, 0)).1 ≤ D) : 0 ≤ lastDay ls D (k + 1) ∧ offAt ls D k = (ls.getD (lastDay ls D (k + 1)).toNat (0, 0)).2 := by
  induction k with
  | zero => simp only [lastDay, offAt]; rw [if_pos h0]; simp
  | succ k ih =>
    rw [lastDay, offAt]
    by_cases c : (ls.getD (k + 1) (0, 0)).1 ≤ D
    · rw [if_pos c, if_pos c]; simp; omega
    · rw [if_neg c, if_neg c]; exact ih
theorem Good.lastDay_no {ls : List (Int × Int)} (h : Good ls) (D : Int) (h0 : D < (ls.getD 0 (0, 0)).1) (k : Nat) (hk : k ≤ ls.length) : lastDay ls D k = -1 := by
  induction k with
  | zero => rfl
  | succ k ih =>
    have : D < (ls.getD k (0, 0)).1 := by
      by_cases e : k = 0
      · subst e; exact h0
      · have := h.lt 0 k (by omega) (by omega); omega
    rw [lastDay, if_neg (by omega)]
    exact ih (by omega)
theorem Good.begins_last {ls : List (Int × Int)} (h : Good ls) (d : Int) (h0 : (ls.getD 0 (0, 0)).1 ≤ d * 86400) :
    0 ≤ lastDay ls (d * 86400) ls.length ∧ begins ls d = d * 86400 + (ls.getD (lastDay ls (d * 86400) ls.length).toNat (0, 0)).2 := by
  have := lastDay_off ls (d * 86400) (ls.length - 1) h0
  rw [show ls.length - 1 + 1 = ls.length from by have := h.pos; omega] at this
  refine ⟨this.1, ?_⟩
  unfold begins
  rw [if_neg (by omega), this.2]

theorem lastAt_is (ls : List (Int × Int)) (sec : Int) (n : Nat) (k : Nat) (h : lastAt ls sec n = (k : Int)) : k < n ∧ when ls k ≤ sec ∧ ∀ i, k < i → i < n → sec < when ls i := by
  induction n with
  | zero => simp [lastAt] at h
  | succ n ih =>
    rw [lastAt] at h
    by_cases c : when ls n ≤ sec
    · rw [if_pos c] at h
      have : k = n := by omega
      subst this
      exact ⟨by omega, c, fun i a b => by omega⟩
    · rw [if_neg c] at h
      obtain ⟨a, b, e⟩ := ih h
      refine ⟨by omega, b, fun i x y => ?_⟩
      by_cases q : i = n
      · subst q; omega
      · exact e i x (by omega)

/-- The day of a second, from the entry that holds. -/
theorem Good.day_of {ls : List (Int × Int)} (h : Good ls) (sec : Int) (k : Nat) (hk : lastAt ls sec ls.length = (k : Int)) : Day ls sec ((sec - (ls.getD k (0, 0)).2) / 86400) := by
  obtain ⟨hkl, hw, hr⟩ := lastAt_is ls sec ls.length k hk
  have dk := h.day k hkl
  have fk := (h.fine _ (List.getElem_mem hkl)).2
  rw [← getD_at k hkl] at fk
  have fka := (h.fine _ (List.getElem_mem hkl)).1
  rw [← getD_at k hkl] at fka
  -- the entry behind
  have hnext : ∀ (hl : k + 1 < ls.length), sec < (ls.getD (k + 1) (0, 0)).1 + (ls.getD k (0, 0)).2 ∧ sec < (ls.getD (k + 1) (0, 0)).1 + (ls.getD (k + 1) (0, 0)).2 := fun hl => by
    have := hr (k + 1) (by omega) hl
    unfold when at this
    rw [show k + 1 - 1 = k from rfl] at this
    split at this <;> omega
  have hlater : ∀ i, k < i → i < ls.length → k + 1 < ls.length ∧ (ls.getD (k + 1) (0, 0)).1 ≤ (ls.getD i (0, 0)).1 := fun i a b => by
    by_cases e : i = k + 1
    · subst e; exact ⟨b, Int.le_refl _⟩
    · have := h.lt (k + 1) i (by omega) b; exact ⟨by omega, by omega⟩
  by_cases hA : (ls.getD k (0, 0)).1 ≤ sec - (ls.getD k (0, 0)).2
  · generalize hd : (sec - (ls.getD k (0, 0)).2) / 86400 = d
    have hd1 : (ls.getD k (0, 0)).1 ≤ d * 86400 := by omega
    have hd2 : d * 86400 ≤ sec - (ls.getD k (0, 0)).2 := by omega
    have hd3 : sec - (ls.getD k (0, 0)).2 < (d + 1) * 86400 := by omega
    have h0 : (ls.getD 0 (0, 0)).1 ≤ d * 86400 := by
      by_cases e : k = 0
      · subst e; exact hd1
      · have := h.lt 0 k (by omega) hkl; omega
    have hoff : offAt ls (d * 86400) (ls.length - 1) = (ls.getD k (0, 0)).2 := offAt_eq ls _ k (ls.length - 1) (by omega) hd1 (fun i a b => by
      have x := hlater i a (by omega)
      have y := hnext x.1
      omega)
    have hb : begins ls d = d * 86400 + (ls.getD k (0, 0)).2 := by unfold begins; rw [if_neg (by omega), hoff]
    refine ⟨h0, by omega, ?_⟩
    rw [hb]
    by_cases hl : k + 1 < ls.length
    · have y := hnext hl
      have dn := h.day (k + 1) hl
      by_cases e : (ls.getD (k + 1) (0, 0)).1 = (d + 1) * 86400
      · have hlen : length ls d = 86400 + (ls.getD (k + 1) (0, 0)).2 - (ls.getD k (0, 0)).2 := by
          unfold length
          rw [lenFrom_yes ls _ (ls.length - 1) 1 (k + 1) (by omega) (by omega) e (fun q a b => by
            have := h.lt q (k + 1) b hl; omega)]
          rfl
        rw [hlen]
        rcases h.off k hl with o | o <;> omega
      · have hlen : length ls d = 86400 := by
          unfold length
          apply lenFrom_no
          intro t a b q
          by_cases c : t ≤ k
          · have : (ls.getD t (0, 0)).1 ≤ (ls.getD k (0, 0)).1 := by
              by_cases e' : t = k
              · subst e'; exact Int.le_refl _
              · have := h.lt t k (by omega) hkl; omega
            omega
          · have := hlater t (by omega) (by omega)
            omega
        rw [hlen]; omega
    · have hlen : length ls d = 86400 := by
        unfold length
        apply lenFrom_no
        intro t a b q
        have : (ls.getD t (0, 0)).1 ≤ (ls.getD k (0, 0)).1 := by
          by_cases e' : t = k
          · subst e'; exact Int.le_refl _
          · have := h.lt t k (by omega) hkl; omega
        omega
      rw [hlen]; omega
  · -- the second that is put in
    have hk0 : 0 < k := by
      by_cases e : k = 0
      · subst e; unfold when at hw; simp at hw; simp at hA; omega
      · omega
    obtain ⟨j, rfl⟩ : ∃ j, k = j + 1 := ⟨k - 1, by omega⟩
    have dj := h.day j (by omega)
    have uj := h.up j hkl
    have oj := h.off j hkl
    have hs : sec = (ls.getD (j + 1) (0, 0)).1 + (ls.getD j (0, 0)).2 ∧ (ls.getD (j + 1) (0, 0)).2 = (ls.getD j (0, 0)).2 + 1 := by
      unfold when at hw
      rw [show j + 1 - 1 = j from rfl] at hw
      split at hw <;> rcases oj with o | o <;> omega
    have hd : (sec - (ls.getD (j + 1) (0, 0)).2) / 86400 = (ls.getD (j + 1) (0, 0)).1 / 86400 - 1 := by omega
    rw [hd]
    generalize hdd : (ls.getD (j + 1) (0, 0)).1 / 86400 - 1 = d
    have e1 : (d + 1) * 86400 = (ls.getD (j + 1) (0, 0)).1 := by omega
    have hd1 : (ls.getD j (0, 0)).1 ≤ d * 86400 := by omega
    have h0 : (ls.getD 0 (0, 0)).1 ≤ d * 86400 := by
      by_cases e : j = 0
      · subst e; exact hd1
      · have := h.lt 0 j (by omega) (by omega); omega
    have hoff : offAt ls (d * 86400) (ls.length - 1) = (ls.getD j (0, 0)).2 := offAt_eq ls _ j (ls.length - 1) (by omega) hd1 (fun i a b => by
      by_cases e : i = j + 1
      · subst e; omega
      · have := h.lt (j + 1) i (by omega) (by omega); omega)
    have hb : begins ls d = d * 86400 + (ls.getD j (0, 0)).2 := by unfold begins; rw [if_neg (by omega), hoff]
    have hlen : length ls d = 86400 + (ls.getD (j + 1) (0, 0)).2 - (ls.getD j (0, 0)).2 := by
      unfold length
      rw [lenFrom_yes ls _ (ls.length - 1) 1 (j + 1) (by omega) (by omega) e1.symm (fun q a b => by
        have := h.lt q (j + 1) b hkl; omega)]
      rfl
    exact ⟨h0, by omega, by omega⟩
end Tab

end Go.Proofs.YtmmkhodaljpjgaaGreatDoor

/-! Package label: lastAt, dayBegin, dayLength. -/
namespace Go.Proofs.YtmmkhodaljpjgaaGreatDoor
open Go.RowKit

set_option maxRecDepth 100000 in
theorem last_at (g cap n : Nat) (ls : List (Int × Int)) (d : Int) (w : World) (hn : ls.length = n) (hl : Lies w g ls) (hb : n ≤ 100000) (d0 : -10 ≤ d) (d1 : d ≤ 500000) :
    Calls Tryz.prog 133 #[.slice (some ⟨g, 0, none⟩) n cap, .int .i64 d] w fun e w' => e = .returned (.int .i64 (Tab.lastDay ls (d * 86400) n)) ∧ w' = w := by
  have HL := hid' hl
  have HN := hid' hn
  clear hl hn
  go_enter Tryz.func133, Tryz.ntmps133
  go_wp2
  go_loop [5] (fun i => ∃ k : Nat, k ≤ n ∧ i = .int .i64 ((k : Int) - 1) ∧ Tab.lastDay ls (d * 86400) n = Tab.lastDay ls (d * 86400) k) (fun i => (intOf i + 1).toNat)
  case atStart => exact ⟨n, by omega, rfl, rfl⟩
  case round =>
    obtain ⟨k, hk, rfl, hrl⟩ := hrel
    have HRL := hid' hrl
    clear hrl
    cases k with
    | zero =>
      have H : Hid (Tab.lastDay ls (d * 86400) n = -1) := by show _ = _; rw [HRL.out]; rfl
      go_wp2
      go_ret
      exact ⟨ret_int H.out.symm, rfl⟩
    | succ k =>
      have hc : (((k + 1 : Nat) : Int) - 1) = (k : Int) := by omega
      rw [hc]
      clear hc
      have hkl : k < ls.length := by rw [HN.out]; omega
      have c1 := (HL.out k hkl).1
      have hg := getD_at k hkl
      have HG := hid' hg
      clear hg
      generalize ls[k] = p at *
      obtain ⟨pa, po⟩ := p
      simp only at c1
      by_cases hle : pa ≤ d * 86400
      · have H : Hid (Tab.lastDay ls (d * 86400) n = (k : Int)) := by show _ = _; rw [HRL.out]; simp only [Tab.lastDay]; rw [HG.out, if_pos hle]
        go_wp2
        go_ret
        exact ⟨ret_int H.out.symm, rfl⟩
      · have H : Hid (Tab.lastDay ls (d * 86400) n = Tab.lastDay ls (d * 86400) k) := by show _ = _; rw [HRL.out]; rw [Tab.lastDay]; rw [HG.out, if_neg hle]
        go_wp2
        exact ⟨⟨k, by omega, by go_num, H.out⟩, by simp [intOf]⟩

set_option maxRecDepth 100000 in
theorem day_begin (g cap n : Nat) (ls : List (Int × Int)) (d : Int) (w : World) (hn : ls.length = n) (hl : Lies w g ls) (hG : Tab.Good ls) (d0 : -10 ≤ d) (d1 : d ≤ 500000) (h0 : (ls.getD 0 (0, 0)).1 ≤ d * 86400) :
    Calls Tryz.prog 132 #[.slice (some ⟨g, 0, none⟩) n cap, .int .i64 d] w fun e w' => e = .returned (.int .i64 (Tab.begins ls d)) ∧ w' = w := by
  have hb : n ≤ 100000 := by have := hG.len; omega
  have HLA := hid' (last_at g cap n ls d w hn hl hb d0 d1)
  obtain ⟨b0, b1⟩ := hG.begins_last d h0
  rw [hn] at b0 b1
  have bd := Tab.lastDay_bd ls (d * 86400) n
  obtain ⟨k, hk⟩ : ∃ k : Nat, Tab.lastDay ls (d * 86400) n = (k : Int) := ⟨(Tab.lastDay ls (d * 86400) n).toNat, by omega⟩
  rw [hk] at b1 bd HLA
  have hkl : k < ls.length := by omega
  rw [Int.toNat_natCast, getD_at k hkl] at b1
  have c2 := (hl k hkl).2
  have f := (hG.fine _ (List.getElem_mem hkl)).2
  have H := hid' b1
  have hkn : k < n := by omega
  clear b0 b1 hk bd hl hG h0
  generalize ls[k] = p at *
  obtain ⟨pa, po⟩ := p
  simp only at c2 f H
  clear hkl
  go_enter Tryz.func132, Tryz.ntmps132
  go_wp2_with (go_at_call 133; refine HLA.out.mono ?_; rintro e w' ⟨rfl, rfl⟩)
  go_ret
  exact ⟨ret_int H.out.symm, rfl⟩

set_option maxRecDepth 100000 in
theorem day_length (g cap n : Nat) (ls : List (Int × Int)) (d : Int) (w : World) (hn : ls.length = n) (hp : 0 < n) (hl : Lies w g ls) (hf : Fine ls) (hb : n ≤ 100000) (d0 : -10 ≤ d) (d1 : d ≤ 500000) :
    Calls Tryz.prog 134 #[.slice (some ⟨g, 0, none⟩) n cap, .int .i64 d] w fun e w' => e = .returned (.int .i64 (Tab.length ls d)) ∧ ∃ m, w' = w.drewN m := by
  have HL := hid' hl
  have HF := hid' hf
  have HN := hid' hn
  have H : Hid (Tab.length ls d = Tab.lenFrom ls ((d + 1) * 86400) 1 (n - 1)) := by show _ = _; unfold Tab.length; rw [hn]
  clear hl hf hn
  go_enter Tryz.func134, Tryz.ntmps134
  go_wp2
  go_loop [6] (fun i => ∃ k : Nat, k + 1 ≤ n ∧ i = .int .i64 ((k : Int) + 1) ∧ Tab.length ls d = Tab.lenFrom ls ((d + 1) * 86400) (k + 1) (n - (k + 1))) (fun i => n - (intOf i).toNat)
  case atStart => exact ⟨0, by omega, rfl, H.out⟩
  case round =>
    obtain ⟨k, hk, rfl, hrl⟩ := hrel
    have HRL := hid' hrl
    clear hrl H
    by_cases hlt : k + 1 < n
    · have hkl : k + 1 < ls.length := by rw [HN.out]; exact hlt
      obtain ⟨e1, e2⟩ := HL.out (k + 1) hkl
      obtain ⟨_, b2⟩ := HL.out k (by omega)
      have hfq := HF.out _ (List.getElem_mem hkl)
      have hfp := HF.out _ (List.getElem_mem (show k < ls.length by omega))
      have hS : Hid (Tab.length ls d = if ls[k + 1].1 = (d + 1) * 86400 then 86400 + ls[k + 1].2 - (ls[k]'(by omega)).2 else Tab.lenFrom ls ((d + 1) * 86400) (k + 1 + 1) (n - (k + 1 + 1))) := by
        show _ = _
        rw [HRL.out, show n - (k + 1) = n - (k + 1 + 1) + 1 from by omega, Tab.lenFrom, getD_at (k + 1) hkl, show k + 1 - 1 = k from rfl, getD_at k (by omega)]
      generalize ls[k + 1] = q at *
      generalize ls[k]'(by omega) = p at *
      clear hkl
      obtain ⟨qa, qo⟩ := q
      obtain ⟨pa, po⟩ := p
      simp only at e1 e2 hfq b2 hfp
      by_cases hle : qa = (d + 1) * 86400
      · have H2 : Hid (Tab.length ls d = 86400 + qo - po) := by show _ = _; rw [hS.out]; simp only; rw [if_pos hle]
        have hbq : (qa == (d + 1) * 86400) = true := by rw [beq_iff_eq]; exact hle
        clear hle hS HRL
        have r0 : IntKind.i64.wrap ((k : Int) + 1 - 1) = (k : Int) := by rw [IntKind.wrap_i64]; omega
        have r1 : IntKind.i64.wrap (86400 + qo) = 86400 + qo := by rw [IntKind.wrap_i64]; omega
        have r2 : IntKind.i64.wrap (86400 + qo - po) = 86400 + qo - po := by rw [IntKind.wrap_i64]; omega
        have z0 : (0 : Int) ≤ (k : Int) := by omega
        have z1 : (k : Int) < (n : Int) := by omega
        have z2 : (0 : Int) ≤ (k : Int) + 1 := by omega
        have z3 : (k : Int) + 1 < (n : Int) := by omega
        have z4 : ((k : Int) + 1).toNat = k + 1 := by omega
        go_wp2_with fail
        go_quiet (fail)
        go_wp2
        go_ret
        exact ⟨ret_int H2.out.symm, nq, rfl⟩
      · have H2 : Hid (Tab.length ls d = Tab.lenFrom ls ((d + 1) * 86400) (k + 1 + 1) (n - (k + 1 + 1))) := by show _ = _; rw [hS.out]; simp only; rw [if_neg hle]
        have hbq : (qa == (d + 1) * 86400) = false := by rw [beq_eq_false_iff_ne]; exact hle
        clear hle hS HRL
        go_wp2
        exact ⟨⟨k + 1, by omega, by go_num, H2.out⟩, by simp [intOf]; omega⟩
    · have H2 : Hid (Tab.length ls d = 86400) := by show _ = _; rw [HRL.out, show n - (k + 1) = 0 from by omega]; rfl
      go_wp2
      go_ret
      exact ⟨ret_int H2.out.symm, 0, rfl⟩

end Go.Proofs.YtmmkhodaljpjgaaGreatDoor

/-! Package label: Offset, Label, Second. -/
namespace Go.Proofs.YtmmkhodaljpjgaaGreatDoor
open Go.RowKit

theorem Held.below {w w' : World} {lv : Value} {ls : List (Int × Int)} (h : Held w lv ls) (hb : Below w.heap.size w w') : Held w' lv ls := by
  rcases h with h | ⟨h3, g, cap, rfl, hcap, hgl, hlies⟩
  · exact .inl h
  · exact .inr ⟨h3, g, cap, rfl, hcap, by have := hb.size; omega, hlies.below hgl hb⟩

set_option maxRecDepth 100000 in
set_option maxHeartbeats 1000000 in
theorem label_offset (lv : Value) (ls : List (Int × Int)) (up ex sec : Int) (w : World) (wu : (Lit.int .i64 up).wf = true) (wx : (Lit.int .i64 ex).wf = true)
    (hv : Held w lv ls) (hn : ls.length ≤ 100000) (hwf : ∀ p ∈ ls, WfP p) :
    Calls Tryz.prog 82 #[.agg #[.int .i64 up, .int .i64 ex, lv], .int .i64 sec] w fun e w' =>
      e = .returned (.tuple #[.int .i64 (Tab.offset up ex ls sec).1, .int .i64 (Tab.offset up ex ls sec).2]) ∧ Below w.heap.size w w' := by
  have HBel := hid' ((Below.refl w.heap.size w).alloc (Nat.le_refl _) (.cells #[.int .i64 up, .int .i64 ex, lv] 78))
  have HW := hid' (is_table lv ls up ex (w.alloc (.cells #[.int .i64 up, .int .i64 ex, lv] 78)) wu wx (hv.below HBel.out) hn hwf)
  have HROW := hid' (heap_alloc_new w (.cells #[.int .i64 up, .int .i64 ex, lv] 78))
  clear wu wx hwf
  cases hwh : Tab.whole up ex ls with
  | false =>
    rw [hwh] at HW
    have H : Hid (Tab.offset up ex ls sec = (0, 8)) := by show _ = _; unfold Tab.offset; rw [if_pos hwh]
    clear hwh hv
    go_enter Tryz.func82, Tryz.ntmps82
    go_wp2_with (go_at_call 127; refine HW.out.mono ?_; rintro e w1 ⟨rfl, hb1⟩; have HB1 := hid' hb1; clear hb1)
    go_ret2
    exact ⟨ret_pair (by rw [H.out]) (by rw [H.out]), HBel.out.trans (HB1.out.mono HBel.out.size)⟩
  | true =>
    rw [hwh] at HW
    obtain ⟨hok, hpos⟩ := Tab.whole_ok hwh
    have hfine := Tab.fine_of_whole hwh
    have HFine := hid' hfine
    clear hok hfine
    have HNW := hid' (show ¬ Tab.whole up ex ls = false by rw [hwh]; simp)
    clear hwh
    rcases hv with ⟨rfl, _⟩ | ⟨_, g, cap, rfl, _, hgl, hlies⟩
    · simp at hpos
    have HLies := hid' hlies
    clear hlies
    have hbd := Tab.lastAt_bd ls sec ls.length
    have HAT : ∀ w1, Lies w1 g ls → Hid (Calls Tryz.prog 130 #[.slice (some ⟨g, 0, none⟩) ls.length cap, .int .i64 sec] w1 fun e w' => e = .returned (.int .i64 (Tab.lastAt ls sec ls.length)) ∧ w' = w1) := fun w1 h => holder_any g cap ls.length ls sec w1 rfl h HFine.out hn
    have HATH := hid' HAT
    clear HAT
    by_cases h1 : 34000000000 < sec
    · have H : Hid (Tab.offset up ex ls sec = (0, 9)) := by show _ = _; unfold Tab.offset; rw [if_neg HNW.out, if_pos h1]
      generalize Tab.lastAt ls sec ls.length = k at *
      go_enter Tryz.func82, Tryz.ntmps82
      go_wp2_with (first
        | (go_at_call 127; refine HW.out.mono ?_; rintro e w1 ⟨rfl, hb1⟩; have HB1 := hid' (HBel.out.trans (hb1.mono HBel.out.size)); have t2 := cell_of_row _ _ 2 _ _ _ ((hb1.block _ (lt_of_heap HROW.out)).trans HROW.out); (simp at t2); clear hb1)
        | (go_at_call 130; refine (HATH.out w1 (HLies.out.below hgl HB1.out)).out.mono ?_; rintro e w2 ⟨rfl, rfl⟩))
      go_ret2
      exact ⟨ret_pair (by rw [H.out]) (by rw [H.out]), HB1.out⟩
    · by_cases h2 : Tab.lastAt ls sec ls.length < 0
      · have H : Hid (Tab.offset up ex ls sec = (0, 9)) := by show _ = _; unfold Tab.offset; rw [if_neg HNW.out, if_neg h1, if_pos h2]
        generalize Tab.lastAt ls sec ls.length = k at *
        go_enter Tryz.func82, Tryz.ntmps82
        go_wp2_with (first
          | (go_at_call 127; refine HW.out.mono ?_; rintro e w1 ⟨rfl, hb1⟩; have HB1 := hid' (HBel.out.trans (hb1.mono HBel.out.size)); have t2 := cell_of_row _ _ 2 _ _ _ ((hb1.block _ (lt_of_heap HROW.out)).trans HROW.out); (simp at t2); clear hb1)
          | (go_at_call 130; refine (HATH.out w1 (HLies.out.below hgl HB1.out)).out.mono ?_; rintro e w2 ⟨rfl, rfl⟩))
        go_ret2
        exact ⟨ret_pair (by rw [H.out]) (by rw [H.out]), HB1.out⟩
      · obtain ⟨k, hk⟩ : ∃ k : Nat, Tab.lastAt ls sec ls.length = (k : Int) := ⟨(Tab.lastAt ls sec ls.length).toNat, by omega⟩
        have hkl : k < ls.length := by omega
        have H : Hid (Tab.offset up ex ls sec = (ls[k].2, 0)) := by show _ = _; unfold Tab.offset; rw [if_neg HNW.out, if_neg h1, if_neg h2, hk, Int.toNat_natCast, getD_at k hkl]
        rw [hk] at HATH
        have hcell := (HLies.out k hkl).2
        clear hk hbd h2
        generalize ls[k] = p at *
        obtain ⟨pa, po⟩ := p
        simp only at hcell
        go_enter Tryz.func82, Tryz.ntmps82
        go_wp2_with (first
          | (go_at_call 127; refine HW.out.mono ?_; rintro e w1 ⟨rfl, hb1⟩; have HB1 := hid' (HBel.out.trans (hb1.mono HBel.out.size)); have t2 := cell_of_row _ _ 2 _ _ _ ((hb1.block _ (lt_of_heap HROW.out)).trans HROW.out); (simp at t2); have hc1 := (HB1.out.cell (p := ⟨g, k * 2 + 1, none⟩) hgl).trans hcell; clear hb1)
          | (go_at_call 130; refine (HATH.out w1 (HLies.out.below hgl HB1.out)).out.mono ?_; rintro e w2 ⟨rfl, rfl⟩))
        go_ret2
        exact ⟨ret_pair (by rw [H.out]) (by rw [H.out]), HB1.out⟩

set_option maxRecDepth 100000 in
set_option maxHeartbeats 1000000 in
theorem label_label_no (lv : Value) (ls : List (Int × Int)) (up ex sec : Int) (w : World) (wu : (Lit.int .i64 up).wf = true) (wx : (Lit.int .i64 ex).wf = true)
    (hv : Held w lv ls) (hn : ls.length ≤ 100000) (hwf : ∀ p ∈ ls, WfP p) (he : (Tab.offset up ex ls sec).2 ≠ 0) :
    Calls Tryz.prog 84 #[.agg #[.int .i64 up, .int .i64 ex, lv], .int .i64 sec] w fun e w' =>
      e = .returned (.tuple #[.int .i64 0, .int .i64 0, .int .i64 (Tab.offset up ex ls sec).2]) ∧ Below w.heap.size w w' := by
  have HBel := hid' ((Below.refl w.heap.size w).alloc (Nat.le_refl _) (.cells #[.int .i64 up, .int .i64 ex, lv] 78))
  have HO := hid' (label_offset lv ls up ex sec (w.alloc (.cells #[.int .i64 up, .int .i64 ex, lv] 78)) wu wx (hv.below HBel.out) hn hwf)
  clear wu wx hwf hv hn
  have hne : ((Tab.offset up ex ls sec).2 != 0) = true := bne_iff_ne.2 he
  clear he
  generalize Tab.offset up ex ls sec = r at *
  obtain ⟨ro, re⟩ := r
  simp only at hne HO
  go_enter Tryz.func84, Tryz.ntmps84
  go_wp2_with (go_at_call 82; refine HO.out.mono ?_; rintro e w1 ⟨rfl, hb1⟩; have HB1 := hid' (HBel.out.trans (hb1.mono HBel.out.size)); clear hb1)
  go_ret3
  exact ⟨rfl, HB1.out⟩

theorem day_of (sec off : Int) (w : World) (h0 : 0 ≤ sec - off) (h1 : 0 ≤ off) (h2 : off ≤ 1000) (h3 : sec ≤ 1000000000000) :
    Calls Tryz.prog 131 #[.int .i64 sec, .int .i64 off] w fun e w' => e = .returned (.int .i64 ((sec - off) / 86400)) ∧ w' = w := by
  go_enter Tryz.func131, Tryz.ntmps131
  go_wp2
  go_ret
  exact ⟨rfl, rfl⟩

set_option maxRecDepth 100000 in
set_option maxHeartbeats 1000000 in
theorem label_label_yes (lv : Value) (ls : List (Int × Int)) (up ex sec d : Int) (w : World) (wu : (Lit.int .i64 up).wf = true) (wx : (Lit.int .i64 ex).wf = true)
    (hv : Held w lv ls) (hn : ls.length ≤ 100000) (hwf : ∀ p ∈ ls, WfP p) (he : (Tab.offset up ex ls sec).2 = 0) (hD : Tab.Day ls sec d) :
    Calls Tryz.prog 84 #[.agg #[.int .i64 up, .int .i64 ex, lv], .int .i64 sec] w fun e w' =>
      e = .returned (.tuple #[.int .i64 d, .int .i64 (sec - Tab.begins ls d), .int .i64 0]) ∧ Below w.heap.size w w' := by
  have HBel := hid' ((Below.refl w.heap.size w).alloc (Nat.le_refl _) (.cells #[.int .i64 up, .int .i64 ex, lv] 78))
  have HROW := hid' (heap_alloc_new w (.cells #[.int .i64 up, .int .i64 ex, lv] 78))
  have HO := hid' (label_offset lv ls up ex sec (w.alloc (.cells #[.int .i64 up, .int .i64 ex, lv] 78)) wu wx (hv.below HBel.out) hn hwf)
  obtain ⟨hwh, hs1, hla⟩ := Tab.offset_ok he
  have hG := Tab.good_of_whole hwh
  have hpos := hG.pos
  have hlb := Tab.lastAt_bd ls sec ls.length
  obtain ⟨k, hk⟩ : ∃ k : Nat, Tab.lastAt ls sec ls.length = (k : Int) := ⟨(Tab.lastAt ls sec ls.length).toNat, by omega⟩
  have hd := hG.only (hG.day_of sec k hk) hD
  have hkl : k < ls.length := by omega
  have fk := (hG.fine _ (List.getElem_mem hkl)).2
  rw [← getD_at k hkl] at fk
  have hoff : Tab.offset up ex ls sec = ((ls.getD k (0, 0)).2, 0) := by
    unfold Tab.offset
    rw [if_neg (by rw [hwh]; simp), if_neg (by omega), if_neg (by omega), hk, Int.toNat_natCast]
  rcases hv with ⟨rfl, _⟩ | ⟨_, g, cap, rfl, _, hgl, hlies⟩
  · simp at hpos
  have HLies := hid' hlies
  clear hlies
  rw [hoff] at HO
  simp only at HO
  generalize (ls.getD k (0, 0)).2 = off at *
  have a0 := (hG.fine _ (List.getElem_mem hpos)).1
  rw [← getD_at 0 hpos] at a0
  have hbe := hG.begins_ge d hD.from'
  have d1 := hD.lo
  have d3 := hD.from'
  have d0 : 0 ≤ d := by omega
  have dm : d ≤ 400000 := by omega
  have hso : 0 ≤ sec - off := by
    by_cases c : 0 ≤ sec - off
    · exact c
    · exfalso; have : d < 0 := by omega
      omega
  have hbg : ∀ w1, Lies w1 g ls → Calls Tryz.prog 132 #[.slice (some ⟨g, 0, none⟩) ls.length cap, .int .i64 d] w1 fun e w' => e = .returned (.int .i64 (Tab.begins ls d)) ∧ w' = w1 := fun w1 h => day_begin g cap ls.length ls d w1 rfl h hG (by omega) (by omega) hD.from'
  have HDO : Hid (∀ w1, Calls Tryz.prog 131 #[.int .i64 sec, .int .i64 off] w1 fun e w' => e = .returned (.int .i64 d) ∧ w' = w1) := fun w1 => by rw [← hd]; exact day_of sec off w1 hso (by omega) (by omega) (by omega)
  have HBG := hid' hbg
  clear wu wx hwf hwh hG hbg a0 d3 hD hoff hla hlb hk he hkl
  generalize Tab.begins ls d = b at *
  go_enter Tryz.func84, Tryz.ntmps84
  go_wp2_with (first
    | (go_at_call 82; refine HO.out.mono ?_; rintro e w1 ⟨rfl, hb1⟩; have HB1 := hid' (HBel.out.trans (hb1.mono HBel.out.size)); have t2 := cell_of_row _ _ 2 _ _ _ ((hb1.block _ (lt_of_heap HROW.out)).trans HROW.out); (simp at t2); clear hb1)
    | (go_at_call 131; refine (HDO.out _).mono ?_; rintro e w4 ⟨rfl, rfl⟩)
    | (go_at_call 132; refine (HBG.out _ (HLies.out.below hgl HB1.out)).mono ?_; rintro e w3 ⟨rfl, rfl⟩))
  go_ret3
  exact ⟨rfl, HB1.out⟩

set_option maxRecDepth 100000 in
set_option maxHeartbeats 1000000 in
theorem label_second (lv : Value) (ls : List (Int × Int)) (up ex d s : Int) (w : World) (wu : (Lit.int .i64 up).wf = true) (wx : (Lit.int .i64 ex).wf = true)
    (hv : Held w lv ls) (hn : ls.length ≤ 100000) (hwf : ∀ p ∈ ls, WfP p) :
    Calls Tryz.prog 87 #[.agg #[.int .i64 up, .int .i64 ex, lv], .int .i64 d, .int .i64 s] w fun e w' =>
      e = .returned (.tuple #[.int .i64 (Tab.second up ex ls d s).1, .int .i64 (Tab.second up ex ls d s).2]) ∧ Below w.heap.size w w' := by
  have HBel := hid' ((Below.refl w.heap.size w).alloc (Nat.le_refl _) (.cells #[.int .i64 up, .int .i64 ex, lv] 78))
  have HW := hid' (is_table lv ls up ex (w.alloc (.cells #[.int .i64 up, .int .i64 ex, lv] 78)) wu wx (hv.below HBel.out) hn hwf)
  have HROW := hid' (heap_alloc_new w (.cells #[.int .i64 up, .int .i64 ex, lv] 78))
  clear wu wx hwf
  cases hwh : Tab.whole up ex ls with
  | false =>
    rw [hwh] at HW
    have H : Hid (Tab.second up ex ls d s = (0, 8)) := by show _ = _; unfold Tab.second; rw [if_pos hwh]
    clear hwh hv
    go_enter Tryz.func87, Tryz.ntmps87
    go_wp2_with (go_at_call 127; refine HW.out.mono ?_; rintro e w1 ⟨rfl, hb1⟩; have HB1 := hid' hb1; clear hb1)
    go_ret2
    exact ⟨ret_pair (by rw [H.out]) (by rw [H.out]), HBel.out.trans (HB1.out.mono HBel.out.size)⟩
  | true =>
    rw [hwh] at HW
    have hG := Tab.good_of_whole hwh
    have hpos := hG.pos
    have hbb := Tab.begins_bd hG.fine hpos d
    have hlb := Tab.length_bd hG.fine hpos d
    have HNW := hid' (show ¬ Tab.whole up ex ls = false by rw [hwh]; simp)
    clear hwh
    rcases hv with ⟨rfl, _⟩ | ⟨_, g, cap, rfl, _, hgl, hlies⟩
    · simp at hpos
    have HLies := hid' hlies
    have HG := hid' hG
    clear hlies hG
    by_cases h1 : d < 0
    · have H : Hid (Tab.second up ex ls d s = (0, 9)) := by show _ = _; unfold Tab.second; rw [if_neg HNW.out, if_pos (.inl h1)]
      clear hbb hlb
      go_enter Tryz.func87, Tryz.ntmps87
      go_wp2_with (go_at_call 127; refine HW.out.mono ?_; rintro e w1 ⟨rfl, hb1⟩; have HB1 := hid' (HBel.out.trans (hb1.mono HBel.out.size)); have t2 := cell_of_row _ _ 2 _ _ _ ((hb1.block _ (lt_of_heap HROW.out)).trans HROW.out); (simp at t2); clear hb1)
      go_ret2
      exact ⟨ret_pair (by rw [H.out]) (by rw [H.out]), HB1.out⟩
    by_cases h2 : 401767 ≤ d
    · have H : Hid (Tab.second up ex ls d s = (0, 9)) := by show _ = _; unfold Tab.second; rw [if_neg HNW.out, if_pos (.inr h2)]
      clear hbb hlb
      go_enter Tryz.func87, Tryz.ntmps87
      go_wp2_with (go_at_call 127; refine HW.out.mono ?_; rintro e w1 ⟨rfl, hb1⟩; have HB1 := hid' (HBel.out.trans (hb1.mono HBel.out.size)); have t2 := cell_of_row _ _ 2 _ _ _ ((hb1.block _ (lt_of_heap HROW.out)).trans HROW.out); (simp at t2); clear hb1)
      go_ret2
      exact ⟨ret_pair (by rw [H.out]) (by rw [H.out]), HB1.out⟩
    have hD : ¬ (d < 0 ∨ 401767 ≤ d) := by omega
    have hla : ∀ w1, Lies w1 g ls → Calls Tryz.prog 133 #[.slice (some ⟨g, 0, none⟩) ls.length cap, .int .i64 d] w1 fun e w' => e = .returned (.int .i64 (Tab.lastDay ls (d * 86400) ls.length)) ∧ w' = w1 := fun w1 h => last_at g cap ls.length ls d w1 rfl h hn (by omega) (by omega)
    have HLA := hid' hla
    have hln : ∀ w1, Lies w1 g ls → Calls Tryz.prog 134 #[.slice (some ⟨g, 0, none⟩) ls.length cap, .int .i64 d] w1 fun e w' => e = .returned (.int .i64 (Tab.length ls d)) ∧ ∃ m, w' = w1.drewN m := fun w1 h => day_length g cap ls.length ls d w1 rfl hpos h HG.out.fine hn (by omega) (by omega)
    have HLN := hid' hln
    clear hla hln
    by_cases h3 : d * 86400 < (ls.getD 0 (0, 0)).1
    · have hbn : Tab.begins ls d = -1 := by unfold Tab.begins; rw [if_pos h3]
      have hQ : Tab.begins ls d < 0 ∨ s < 0 ∨ Tab.length ls d ≤ s ∨ 34000000000 < Tab.begins ls d + s := .inl (by omega)
      have H : Hid (Tab.second up ex ls d s = (0, 9)) := by show _ = _; unfold Tab.second; rw [if_neg HNW.out, if_neg hD, if_pos hQ]
      have hld : Tab.lastDay ls (d * 86400) ls.length = -1 := HG.out.lastDay_no _ h3 _ (Nat.le_refl _)
      rw [hld] at HLA
      clear hQ hbn hbb hlb hld
      go_enter Tryz.func87, Tryz.ntmps87
      go_wp2_with (first
        | (go_at_call 127; refine HW.out.mono ?_; rintro e w1 ⟨rfl, hb1⟩; have HB1 := hid' (HBel.out.trans (hb1.mono HBel.out.size)); have t2 := cell_of_row _ _ 2 _ _ _ ((hb1.block _ (lt_of_heap HROW.out)).trans HROW.out); (simp at t2); clear hb1)
        | (go_at_call 133; refine (HLA.out w1 (HLies.out.below hgl HB1.out)).mono ?_; rintro e w2 ⟨rfl, rfl⟩))
      go_ret2
      exact ⟨ret_pair (by rw [H.out]) (by rw [H.out]), HB1.out⟩
    have h3' : (ls.getD 0 (0, 0)).1 ≤ d * 86400 := by omega
    have hld := (HG.out.begins_last d h3').1
    have hb0 : 0 ≤ Tab.begins ls d := by have := HG.out.begins_ge d h3'; omega
    have hbg : ∀ w1, Lies w1 g ls → Calls Tryz.prog 132 #[.slice (some ⟨g, 0, none⟩) ls.length cap, .int .i64 d] w1 fun e w' => e = .returned (.int .i64 (Tab.begins ls d)) ∧ w' = w1 := fun w1 h => day_begin g cap ls.length ls d w1 rfl h HG.out (by omega) (by omega) h3'
    have HBG := hid' hbg
    clear hbg h3
    generalize Tab.lastDay ls (d * 86400) ls.length = la at *
    by_cases h4 : s < 0
    · have hQ : Tab.begins ls d < 0 ∨ s < 0 ∨ Tab.length ls d ≤ s ∨ 34000000000 < Tab.begins ls d + s := .inr (.inl h4)
      have H : Hid (Tab.second up ex ls d s = (0, 9)) := by show _ = _; unfold Tab.second; rw [if_neg HNW.out, if_neg hD, if_pos hQ]
      clear hQ
      generalize Tab.begins ls d = b at *
      generalize Tab.length ls d = n at *
      go_enter Tryz.func87, Tryz.ntmps87
      go_wp2_with (first
        | (go_at_call 127; refine HW.out.mono ?_; rintro e w1 ⟨rfl, hb1⟩; have HB1 := hid' (HBel.out.trans (hb1.mono HBel.out.size)); have t2 := cell_of_row _ _ 2 _ _ _ ((hb1.block _ (lt_of_heap HROW.out)).trans HROW.out); (simp at t2); clear hb1)
        | (go_at_call 133; refine (HLA.out w1 (HLies.out.below hgl HB1.out)).mono ?_; rintro e w2 ⟨rfl, rfl⟩))
      go_ret2
      exact ⟨ret_pair (by rw [H.out]) (by rw [H.out]), HB1.out⟩
    by_cases h5 : Tab.length ls d ≤ s
    · have hQ : Tab.begins ls d < 0 ∨ s < 0 ∨ Tab.length ls d ≤ s ∨ 34000000000 < Tab.begins ls d + s := .inr (.inr (.inl h5))
      have H : Hid (Tab.second up ex ls d s = (0, 9)) := by show _ = _; unfold Tab.second; rw [if_neg HNW.out, if_neg hD, if_pos hQ]
      clear hQ
      generalize Tab.begins ls d = b at *
      generalize Tab.length ls d = n at *
      go_enter Tryz.func87, Tryz.ntmps87
      go_wp2_with (first
        | (go_at_call 127; refine HW.out.mono ?_; rintro e w1 ⟨rfl, hb1⟩; have HB1 := hid' (HBel.out.trans (hb1.mono HBel.out.size)); have t2 := cell_of_row _ _ 2 _ _ _ ((hb1.block _ (lt_of_heap HROW.out)).trans HROW.out); (simp at t2); clear hb1)
        | (go_at_call 133; refine (HLA.out w1 (HLies.out.below hgl HB1.out)).mono ?_; rintro e w2 ⟨rfl, rfl⟩)
        | (go_at_call 134; refine (HLN.out _ (HLies.out.below hgl HB1.out)).mono ?_; rintro e w2 ⟨rfl, m2, rfl⟩))
      go_ret2
      exact ⟨ret_pair (by rw [H.out]) (by rw [H.out]), below_drewN HB1.out m2⟩
    by_cases h6 : 34000000000 < Tab.begins ls d + s
    · have hQ : Tab.begins ls d < 0 ∨ s < 0 ∨ Tab.length ls d ≤ s ∨ 34000000000 < Tab.begins ls d + s := .inr (.inr (.inr h6))
      have H : Hid (Tab.second up ex ls d s = (0, 9)) := by show _ = _; unfold Tab.second; rw [if_neg HNW.out, if_neg hD, if_pos hQ]
      clear hQ
      generalize Tab.begins ls d = b at *
      generalize Tab.length ls d = n at *
      go_enter Tryz.func87, Tryz.ntmps87
      go_wp2_with (first
        | (go_at_call 127; refine HW.out.mono ?_; rintro e w1 ⟨rfl, hb1⟩; have HB1 := hid' (HBel.out.trans (hb1.mono HBel.out.size)); have t2 := cell_of_row _ _ 2 _ _ _ ((hb1.block _ (lt_of_heap HROW.out)).trans HROW.out); (simp at t2); clear hb1)
        | (go_at_call 133; refine (HLA.out w1 (HLies.out.below hgl HB1.out)).mono ?_; rintro e w2 ⟨rfl, rfl⟩)
        | (go_at_call 134; refine (HLN.out _ (HLies.out.below hgl HB1.out)).mono ?_; rintro e w2 ⟨rfl, m2, rfl⟩)
        | (go_at_call 132; refine (HBG.out _ (HLies.out.below hgl (below_drewN HB1.out m2))).mono ?_; rintro e w3 ⟨rfl, rfl⟩))
      go_ret2
      exact ⟨ret_pair (by rw [H.out]) (by rw [H.out]), below_drewN HB1.out m2⟩
    have hQ : ¬ (Tab.begins ls d < 0 ∨ s < 0 ∨ Tab.length ls d ≤ s ∨ 34000000000 < Tab.begins ls d + s) := by omega
    have H : Hid (Tab.second up ex ls d s = (Tab.begins ls d + s, 0)) := by show _ = _; unfold Tab.second; rw [if_neg HNW.out, if_neg hD, if_neg hQ]
    clear hQ
    generalize Tab.begins ls d = b at *
    generalize Tab.length ls d = n at *
    go_enter Tryz.func87, Tryz.ntmps87
    go_wp2_with (first
      | (go_at_call 127; refine HW.out.mono ?_; rintro e w1 ⟨rfl, hb1⟩; have HB1 := hid' (HBel.out.trans (hb1.mono HBel.out.size)); have t2 := cell_of_row _ _ 2 _ _ _ ((hb1.block _ (lt_of_heap HROW.out)).trans HROW.out); (simp at t2); clear hb1)
      | (go_at_call 133; refine (HLA.out w1 (HLies.out.below hgl HB1.out)).mono ?_; rintro e w2 ⟨rfl, rfl⟩)
      | (go_at_call 134; refine (HLN.out _ (HLies.out.below hgl HB1.out)).mono ?_; rintro e w2 ⟨rfl, m2, rfl⟩)
      | (go_at_call 132; refine (HBG.out _ (HLies.out.below hgl (below_drewN HB1.out m2))).mono ?_; rintro e w3 ⟨rfl, rfl⟩))
    go_ret2
    exact ⟨ret_pair (by rw [H.out]) (by rw [H.out]), below_drewN HB1.out m2⟩

/-! The calls of package smear. -/

set_option maxRecDepth 100000 in
theorem smear_second (lv : Value) (ls : List (Int × Int)) (up ex d s : Int) (w : World) (wu : (Lit.int .i64 up).wf = true) (wx : (Lit.int .i64 ex).wf = true)
    (hv : Held w lv ls) (hn : ls.length ≤ 100000) (hwf : ∀ p ∈ ls, WfP p) :
    Calls Tryz.prog 51 #[.agg #[.int .i64 up, .int .i64 ex, lv], .int .i64 d, .int .i64 s] w fun e w' =>
      e = .returned (.tuple #[.int .i64 (Tab.second up ex ls d s).1, .int .i64 (Tab.second up ex ls d s).2]) ∧ Below w.heap.size w w' := by
  have HBel := hid' ((Below.refl w.heap.size w).alloc (Nat.le_refl _) (.cells #[.int .i64 up, .int .i64 ex, lv] 78))
  have HW := hid' (label_second lv ls up ex d s (w.alloc (.cells #[.int .i64 up, .int .i64 ex, lv] 78)) wu wx (hv.below HBel.out) hn hwf)
  clear wu wx hwf hv
  generalize Tab.second up ex ls d s = r at *
  go_enter Tryz.func51, Tryz.ntmps51
  go_wp2_with (go_at_call 87; refine HW.out.mono ?_; rintro e w1 ⟨rfl, hb1⟩; have HB1 := hid' (HBel.out.trans (hb1.mono HBel.out.size)); clear hb1)
  go_ret2
  exact ⟨rfl, HB1.out⟩

set_option maxRecDepth 100000 in
theorem smear_label_no (lv : Value) (ls : List (Int × Int)) (up ex sec : Int) (w : World) (wu : (Lit.int .i64 up).wf = true) (wx : (Lit.int .i64 ex).wf = true)
    (hv : Held w lv ls) (hn : ls.length ≤ 100000) (hwf : ∀ p ∈ ls, WfP p) (he : (Tab.offset up ex ls sec).2 ≠ 0) :
    Calls Tryz.prog 49 #[.agg #[.int .i64 up, .int .i64 ex, lv], .int .i64 sec] w fun e w' =>
      e = .returned (.tuple #[.int .i64 0, .int .i64 0, .int .i64 (Tab.offset up ex ls sec).2]) ∧ Below w.heap.size w w' := by
  have HBel := hid' ((Below.refl w.heap.size w).alloc (Nat.le_refl _) (.cells #[.int .i64 up, .int .i64 ex, lv] 78))
  have HW := hid' (label_label_no lv ls up ex sec (w.alloc (.cells #[.int .i64 up, .int .i64 ex, lv] 78)) wu wx (hv.below HBel.out) hn hwf he)
  clear wu wx hwf hv he
  generalize (Tab.offset up ex ls sec).2 = r at *
  go_enter Tryz.func49, Tryz.ntmps49
  go_wp2_with (go_at_call 84; refine HW.out.mono ?_; rintro e w1 ⟨rfl, hb1⟩; have HB1 := hid' (HBel.out.trans (hb1.mono HBel.out.size)); clear hb1)
  go_ret3
  exact ⟨rfl, HB1.out⟩

set_option maxRecDepth 100000 in
theorem smear_label_yes (lv : Value) (ls : List (Int × Int)) (up ex sec d : Int) (w : World) (wu : (Lit.int .i64 up).wf = true) (wx : (Lit.int .i64 ex).wf = true)
    (hv : Held w lv ls) (hn : ls.length ≤ 100000) (hwf : ∀ p ∈ ls, WfP p) (he : (Tab.offset up ex ls sec).2 = 0) (hD : Tab.Day ls sec d) :
    Calls Tryz.prog 49 #[.agg #[.int .i64 up, .int .i64 ex, lv], .int .i64 sec] w fun e w' =>
      e = .returned (.tuple #[.int .i64 d, .int .i64 (sec - Tab.begins ls d), .int .i64 0]) ∧ Below w.heap.size w w' := by
  have HBel := hid' ((Below.refl w.heap.size w).alloc (Nat.le_refl _) (.cells #[.int .i64 up, .int .i64 ex, lv] 78))
  have HW := hid' (label_label_yes lv ls up ex sec d (w.alloc (.cells #[.int .i64 up, .int .i64 ex, lv] 78)) wu wx (hv.below HBel.out) hn hwf he hD)
  clear wu wx hwf hv he hD
  generalize sec - Tab.begins ls d = r at *
  go_enter Tryz.func49, Tryz.ntmps49
  go_wp2_with (go_at_call 84; refine HW.out.mono ?_; rintro e w1 ⟨rfl, hb1⟩; have HB1 := hid' (HBel.out.trans (hb1.mono HBel.out.size)); clear hb1)
  go_ret3
  exact ⟨rfl, HB1.out⟩

end Go.Proofs.YtmmkhodaljpjgaaGreatDoor

namespace Go.Proofs.YtmmkhodaljpjgaaGreatDoor
open Go.RowKit

set_option maxRecDepth 100000 in
theorem smear_offset (lv : Value) (ls : List (Int × Int)) (up ex sec : Int) (w : World) (wu : (Lit.int .i64 up).wf = true) (wx : (Lit.int .i64 ex).wf = true)
    (hv : Held w lv ls) (hn : ls.length ≤ 100000) (hwf : ∀ p ∈ ls, WfP p) :
    Calls Tryz.prog 47 #[.agg #[.int .i64 up, .int .i64 ex, lv], .int .i64 sec] w fun e w' =>
      e = .returned (.tuple #[.int .i64 (Tab.offset up ex ls sec).1, .int .i64 (Tab.offset up ex ls sec).2]) ∧ Below w.heap.size w w' := by
  have HBel := hid' ((Below.refl w.heap.size w).alloc (Nat.le_refl _) (.cells #[.int .i64 up, .int .i64 ex, lv] 78))
  have HW := hid' (label_offset lv ls up ex sec (w.alloc (.cells #[.int .i64 up, .int .i64 ex, lv] 78)) wu wx (hv.below HBel.out) hn hwf)
  clear wu wx hwf hv
  generalize Tab.offset up ex ls sec = r at *
  go_enter Tryz.func47, Tryz.ntmps47
  go_wp2_with (go_at_call 82; refine HW.out.mono ?_; rintro e w1 ⟨rfl, hb1⟩; have HB1 := hid' (HBel.out.trans (hb1.mono HBel.out.size)); clear hb1)
  go_ret2
  exact ⟨rfl, HB1.out⟩

end Go.Proofs.YtmmkhodaljpjgaaGreatDoor
