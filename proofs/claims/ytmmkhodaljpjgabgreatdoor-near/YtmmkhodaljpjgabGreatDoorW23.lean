import Derived.Test.YtmmkhodaljpjgabGreatDoorW22
namespace Go.Proofs.YtmmkhodaljpjgabGreatDoor
open Go.RowKit
theorem Sv.agrees_eq {x : Sv} {ls : List (Int × Int)} (hf : Tab.Fit ls) : x.agrees ls = if x.ld = false then decide (0 ≤ Tab.lastAt ls x.ns ls.length) else (decide (Tab.lastAt ls x.ns ls.length < (x.done.length : Int)) && begB ls x.done) := by
  unfold Sv.agrees
  by_cases c : x.ld = false
  · rw [if_pos c, if_pos c]
    have q := hf.lastAt_iff x.ns ls.length 0 (Nat.le_refl _) hf.1
    by_cases z : Tab.when ls 0 ≤ x.ns
    · rw [decide_eq_true z, decide_eq_true (by have := q.1 z; omega)]
    · rw [decide_eq_false z, decide_eq_false (fun e => z (q.2 (by omega)))]
  · rw [if_neg c, if_neg c]
    have lb := Tab.lastAt_bd ls x.ns ls.length
    unfold begB
    by_cases c1 : ls.length < x.done.length
    · rw [if_pos c1, decide_eq_false (show ¬ x.done.length ≤ ls.length by omega)]; simp
    · rw [if_neg c1, decide_eq_true (show x.done.length ≤ ls.length by omega)]
      by_cases c2 : ls.take x.done.length = x.done
      · rw [if_pos c2, decide_eq_true c2]
        by_cases c3 : ls.length = x.done.length
        · rw [decide_eq_true c3, decide_eq_true (show Tab.lastAt ls x.ns ls.length < (x.done.length : Int) by omega)]; rfl
        · have q := hf.lastAt_iff x.ns ls.length x.done.length (Nat.le_refl _) (by omega)
          rw [decide_eq_false c3, Bool.false_or]
          by_cases c4 : x.ns < Tab.when ls x.done.length
          · rw [decide_eq_true c4, decide_eq_true (by
              by_cases z : Tab.lastAt ls x.ns ls.length < (x.done.length : Int)
              · exact z
              · have := q.2 (by omega); omega)]; rfl
          · rw [decide_eq_false c4, decide_eq_false (fun z => by have := q.1 (by omega); omega)]; rfl
      · rw [if_neg c2, decide_eq_false c2]; simp
set_option maxRecDepth 100000 in
set_option maxHeartbeats 3200000 in
theorem p_agrees (b : Nat) (s : Sv) (dv cv : Value) (op : Bool) (bs bf : Int) (g n cap : Nat) (ls : List (Int × Int)) (w : World) (h : PRow b s dv cv op bs bf w) (hl : Lies w g ls) (lg : g < w.heap.size) (hn : ls.length = n) (hf : Tab.Fit ls) (hd : s.done.length ≤ 900) :
    Calls Tryz.prog 70 #[.pointer (some ⟨b, 0, none⟩), .slice (some ⟨g, 0, none⟩) n cap] w fun e w' => e = .returned (.bool (s.agrees ls)) ∧ ∃ k, w' = w.drewN k := by
  have hG := hf.good
  have hlen := hG.len
  have HO := hid' (fun (W : World) (h : Lies W g ls) => holder_any g cap n ls s.ns W hn h hG.fine (by omega))
  have HA := hid' (s.agrees_eq hf)
  have q2 := h.c4
  have q4 := h.c6
  have q7 := h.c9
  obtain ⟨da, dcp, hdv⟩ := own_slice h.dd
  subst hdv
  have BW := hid' (fun W hr hd => begins_with (some ⟨g, 0, none⟩) da n s.done.length cap dcp ls s.done W hr hd hn rfl (by omega) (by omega))
  have RD := hid' (read_of h.dd rfl)
  have RL : Hid (Read w (some ⟨g, 0, none⟩) ls) := fun _ => ⟨g, rfl, lg, hl⟩
  have HL := hid' hl
  have lb := Tab.lastAt_bd ls s.ns ls.length
  rw [hn] at HA lb
  generalize s.agrees ls = res at *
  generalize Tab.lastAt ls s.ns n = la at *
  generalize begB ls s.done = bg at *
  clear h hl hf hG
  cases hld : s.ld with
  | false =>
    rw [hld] at q4
    have H : Hid (res = decide (0 ≤ la)) := by show _ = _; rw [HA.out, if_pos hld]
    clear HA hld
    by_cases c : 0 ≤ la
    · rw [decide_eq_true c] at H
      go_enter Tryz.func70, Tryz.ntmps70
      go_wp2_with fail
      refine (HO.out _ HL.out).mono ?_
      rintro e w1 ⟨rfl, rfl⟩
      go_wp2
      go_ret
      exact ⟨ret_bool H.out.symm, 0, rfl⟩
    · go_enter Tryz.func70, Tryz.ntmps70
      go_wp2_with fail
      refine (HO.out _ HL.out).mono ?_
      rintro e w1 ⟨rfl, rfl⟩
      go_wp2
      go_ret
      exact ⟨ret_bool H.out.symm, 0, rfl⟩
  | true =>
    rw [hld] at q4
    have H : Hid (res = (decide (la < (s.done.length : Int)) && bg)) := by show _ = _; rw [HA.out, if_neg (by rw [hld]; simp)]
    clear HA hld
    by_cases c : la < (s.done.length : Int)
    · rw [decide_eq_true c, Bool.true_and] at H
      go_enter Tryz.func70, Tryz.ntmps70
      go_wp2_with fail
      refine (HO.out _ HL.out).mono ?_
      rintro e w1 ⟨rfl, rfl⟩
      go_wp2_with fail
      refine (BW.out _ RL.out RD.out).mono ?_
      rintro e w2 ⟨rfl, k, hw2⟩
      have HW := hid' hw2
      clear hw2
      go_wp2
      go_ret
      exact ⟨ret_bool H.out.symm, k, HW.out⟩
    · rw [decide_eq_false c, Bool.false_and] at H
      go_enter Tryz.func70, Tryz.ntmps70
      go_wp2_with fail
      refine (HO.out _ HL.out).mono ?_
      rintro e w1 ⟨rfl, rfl⟩
      go_wp2
      go_ret
      exact ⟨ret_bool H.out.symm, 0, rfl⟩
set_option maxRecDepth 100000 in
set_option maxHeartbeats 3200000 in
theorem p_objection (b : Nat) (s : Sv) (dv cv : Value) (op : Bool) (bs bf : Int) (g n cap : Nat) (up ex : Int) (ls : List (Int × Int)) (w : World) (h : PRow b s dv cv op bs bf w) (hl : Lies w g ls) (lg : g < w.heap.size) (hn : ls.length = n) (hf : Tab.Fit ls) (hd : s.done.length ≤ 900) :
    Calls Tryz.prog 44 #[.pointer (some ⟨b, 0, none⟩), .agg #[.int .i64 up, .int .i64 ex, .slice (some ⟨g, 0, none⟩) n cap]] w fun e w' => e = .returned (.int .i64 (if s.ld = true ∧ up < s.up then 11 else if s.agrees ls = false then 12 else 0)) ∧ Below w.heap.size w w' := by
  have B0 := hid' ((Below.refl w.heap.size w).alloc (Nat.le_refl _) (.cells #[.int .i64 up, .int .i64 ex, .slice (some ⟨g, 0, none⟩) n cap] 29))
  have R0 := hid' (heap_alloc_new w (.cells #[.int .i64 up, .int .i64 ex, .slice (some ⟨g, 0, none⟩) n cap] 29))
  have P0 := hid' (h.below B0.out)
  have AG := hid' (fun (W : World) (hb : Below (w.alloc (.cells #[.int .i64 up, .int .i64 ex, .slice (some ⟨g, 0, none⟩) n cap] 29)).heap.size (w.alloc (.cells #[.int .i64 up, .int .i64 ex, .slice (some ⟨g, 0, none⟩) n cap] 29)) W) => p_agrees b s dv cv op bs bf g n cap ls W ((h.below B0.out).below hb) ((hl.below lg B0.out).below (by have := B0.out.size; omega) hb) (by have := B0.out.size; have := hb.size; omega) hn hf hd)
  generalize s.agrees ls = ag at *
  obtain ⟨rv, hrv⟩ : ∃ rv, (if s.ld = true ∧ up < s.up then (11 : Int) else if ag = false then 12 else 0) = rv := ⟨_, rfl⟩
  rw [hrv]
  have HRV := hid' hrv
  clear h hl hf hrv
  go_enter Tryz.func44, Tryz.ntmps44
  go_upto_region 1 with fail
  generalize hV : w.alloc (.cells #[.int .i64 up, .int .i64 ex, .slice (some ⟨g, 0, none⟩) n cap] 29) = V at *
  have hsz : V.heap.size = w.heap.size + 1 := by rw [← hV]; simp
  clear hV
  have q4 := P0.out.c6
  have q5 := P0.out.c7
  have t0 := cell_of_row _ _ 0 _ _ _ R0.out
  have t2 := cell_of_row _ _ 2 _ _ _ R0.out
  simp at t0 t2
  cases hld : s.ld with
  | true =>
    rw [hld] at q4
    by_cases c : up < s.up
    · have HV : Hid (rv = 11) := by show _ = _; rw [← HRV.out, if_pos ⟨hld, c⟩]
      clear hld HRV
      go_quiet (fail)
      go_wp2
      go_ret
      rw [HV.out]
      exact ⟨rfl, below_drewN B0.out nq⟩
    · have HV : Hid (rv = if ag = false then 12 else 0) := by show _ = _; rw [← HRV.out, if_neg (fun z => c z.2)]
      clear hld HRV
      go_quiet (fail)
      go_wp2_with fail
      refine (AG.out _ (below_drewN (Below.refl _ _) _)).mono ?_
      rintro e w2 ⟨rfl, k, hw2⟩
      have B2 := hid' (show Below w.heap.size w w2 by rw [hw2, World.drewN_drewN]; exact below_drewN B0.out _)
      clear hw2
      cases ag with
      | true =>
        go_wp2
        go_ret
        rw [HV.out, if_neg (by simp)]
        exact ⟨rfl, B2.out⟩
      | false =>
        go_wp2
        go_ret
        rw [HV.out]; first | rw [if_pos rfl] | rw [if_pos trivial]
        exact ⟨rfl, B2.out⟩
  | false =>
    rw [hld] at q4
    have HV : Hid (rv = if ag = false then 12 else 0) := by show _ = _; rw [← HRV.out, if_neg (fun z => by rw [hld] at z; cases z.1)]
    clear hld HRV
    go_quiet (fail)
    go_wp2_with fail
    refine (AG.out _ (below_drewN (Below.refl _ _) _)).mono ?_
    rintro e w2 ⟨rfl, k, hw2⟩
    have B2 := hid' (show Below w.heap.size w w2 by rw [hw2, World.drewN_drewN]; exact below_drewN B0.out _)
    clear hw2
    cases ag with
    | true =>
      go_wp2
      go_ret
      rw [HV.out, if_neg (by simp)]
      exact ⟨rfl, B2.out⟩
    | false =>
      go_wp2
      go_ret
      rw [HV.out]; first | rw [if_pos rfl] | rw [if_pos trivial]
      exact ⟨rfl, B2.out⟩
end Go.Proofs.YtmmkhodaljpjgabGreatDoor
