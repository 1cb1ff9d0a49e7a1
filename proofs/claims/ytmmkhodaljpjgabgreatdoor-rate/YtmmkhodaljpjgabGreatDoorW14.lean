import Derived.Test.YtmmkhodaljpjgabGreatDoorW13
namespace Go.Proofs.YtmmkhodaljpjgabGreatDoor
open Go.RowKit
theorem field_now (a b c d e f g h : Value) (w : World) : (Instr.field 36 (.agg #[a, b, c, d, e, f, g, h]) 0).run Tryz.prog w = .ok (.agg #[a, b]) w := by kernel_rfl
set_option maxRecDepth 100000 in
set_option maxHeartbeats 6400000 in
theorem k_near (bt bx : Nat) (s : Sv) (up ex mode win a : Int) (g N cap n : Nat) (ls : List (Int × Int)) (w : World) (hr : TrRow bt (.pointer (some ⟨bx, 0, none⟩)) up ex (.slice (some ⟨g, 0, none⟩) N cap) n mode win w) (hN : ls.length = N) (hl : Lies w g ls) (hg : g < w.heap.size) (hN2 : N ≤ 12)
    (hf : ∀ p ∈ ls, (0 ≤ p.1 ∧ p.1 ≤ 5000000000) ∧ 0 ≤ p.2 ∧ p.2 ≤ 200) (wa : (Lit.int .i64 a).wf = true) (hsee : ∀ W, Below w.heap.size w W → Shows bx s W) (n0 : 0 ≤ s.ns) (n1 : s.ns ≤ 34000000000) :
    Calls Tryz.prog 24 #[.pointer (some ⟨bt, 0, none⟩), .int .i64 a] w fun e w' => (∃ x y, e = .returned (.agg #[.int .i64 x, .int .i64 y])) ∧ Below w.heap.size w w' := by
  have lb := lt_of_heap hr
  have B0 := hid' ((Below.refl w.heap.size w).alloc (Nat.le_refl _) (.cells #[.int .i64 0, .int .i64 0] 33))
  have Z0 := hid' (heap_alloc_new w (.cells #[.int .i64 0, .int .i64 0] 33))
  have c0 := cell_of_row _ _ 0 _ _ _ hr
  simp at c0
  have HR := hid' hr
  have HL := hid' hl
  have HN := hid' hN
  have HF := hid' hf
  have HS := hid' (hsee _ B0.out)
  have k5 := kpick_bd a 5 (by omega)
  have kp := kpick_bd a 4294967296 (by omega)
  have P5 := hid' (fun W => keep_pick a 5 W wa (by omega) (by omega))
  have PP := hid' (fun W => keep_pick a 4294967296 W wa (by omega) (by omega))
  clear hr hl hf hN hsee
  go_enter Tryz.func24, Tryz.ntmps24
  go_wp2_with fail
  refine Calls.mono HS.out ?_
  rintro e w1 ⟨dv, cv, rfl, _, _, hb1⟩
  have a1 := (Below.refl w1.heap.size w1).alloc (Nat.le_refl _) (.cells #[.int .i64 s.ns, .int .i64 s.nf] 33)
  have s0 := B0.out.size
  have BV := hid' ((B0.out.trans (hb1.mono s0)).trans (a1.mono (Nat.le_trans s0 hb1.size)))
  have RV := hid' ((BV.out.block _ lb).trans HR.out)
  have ZV := hid' ((a1.block _ (lt_of_heap ((hb1.block _ (lt_of_heap Z0.out)).trans Z0.out))).trans ((hb1.block _ (lt_of_heap Z0.out)).trans Z0.out))
  have TV := hid' (heap_alloc_new w1 (.cells #[.int .i64 s.ns, .int .i64 s.nf] 33))
  have LV := hid' (HL.out.below hg BV.out)
  clear hb1 a1 HS Z0 HR HL c0
  have FN := field_now (.int .i64 s.ns) (.int .i64 s.nf) (.bool s.ld) (.int .i64 s.up) (.int .i64 s.ex) dv cv (.int .i64 s.ref) w1
  go_wp2
  generalize w1.alloc (.cells #[.int .i64 s.ns, .int .i64 s.nf] 33) = V at *
  clear FN
  have lz := lt_of_heap ZV.out
  have lt1 := lt_of_heap TV.out
  go_loopw [6] (fun i wr => ∃ k : Nat, k ≤ N ∧ i = .int .i64 k ∧ Below V.heap.size V wr) (fun i _ => N - (intOf i).toNat)
  case atStart => exact ⟨0, by omega, rfl, Below.refl _ _⟩
  case round =>
    obtain ⟨k, hk, rfl, hb⟩ := hrel
    have RW := hid' ((hb.block _ (lt_of_heap RV.out)).trans RV.out)
    have ZW := hid' ((hb.block _ lz).trans ZV.out)
    have TW := hid' ((hb.block _ lt1).trans TV.out)
    have LW := hid' (LV.out.below (Nat.lt_of_lt_of_le hg BV.out.size) hb)
    have HB := hid' hb
    have BW := hid' (BV.out.trans (hb.mono BV.out.size))
    have d3 := cell_of_row _ _ 3 _ _ _ RW.out
    have q0 := cell_of_row _ _ 0 _ _ _ TW.out
    have z0 := cell_of_row _ _ 0 _ _ _ ZW.out
    have z1 := cell_of_row _ _ 1 _ _ _ ZW.out
    have f0 := frozen_of_row _ _ 0 _ _ ZW.out
    have f1 := frozen_of_row _ _ 1 _ _ ZW.out
    simp at d3 q0 z0 z1
    clear hb
    by_cases hkl : k < N
    · have hkl' : k < ls.length := by rw [HN.out]; exact hkl
      obtain ⟨s1, s2⟩ := LW.out k hkl'
      have pb := HF.out _ (List.getElem_mem hkl')
      generalize (ls[k]'hkl').1 = pa at *
      generalize (ls[k]'hkl').2 = po at *
      have hi1 : (k : Int) < (N : Int) := by omega
      obtain ⟨d, hd⟩ : ∃ d, pa + po - s.ns - 3 = d := ⟨_, rfl⟩
      have db : -100000000000 ≤ d ∧ d ≤ 100000000000 := by omega
      by_cases hp : 0 < d
      · have hp' : decide (0 < d) = true := decide_eq_true hp
        go_wp2_with fail
        go_quiet (fail)
        go_wp2_with fail
        refine (P5.out _).mono ?_
        rintro e w2 ⟨rfl, rfl⟩
        go_wp2_with fail
        refine (PP.out _).mono ?_
        rintro e w2 ⟨rfl, rfl⟩
        go_wp2
        try simp only [Exit.inBlock, Exit.then]
        refine bodyPost_ret (results_cell_row rfl _ _ w.heap.size 33 #[.int .i64 (d + kpick a 5), .int .i64 (kpick a 4294967296)] (0, 0) _ rfl (two_row (by exact ZW.out)) Tryz.underlying33 rfl (by kernel_rfl)) rfl ?_
        exact ⟨⟨_, _, rfl⟩, ((below_drewN BW.out _).setCell (p := ⟨w.heap.size, 0, none⟩) (Nat.le_refl _) _).setCell (p := ⟨w.heap.size, 1, none⟩) (Nat.le_refl _) _⟩
      · have hp' : decide (0 < d) = false := decide_eq_false hp
        go_wp2_with fail
        go_quiet (fail)
        go_wp2_with fail
        go_roundw
        case rel => exact ⟨k + 1, by omega, by go_num, below_drewN HB.out _⟩
        case measure => simp [intOf]; omega
    · obtain rfl : k = N := by omega
      have hni : ¬ (k : Int) < (k : Int) := by omega
      go_wp2_with (go_at_call 15; refine (PP.out _).mono ?_; rintro e w2 ⟨rfl, rfl⟩)
      try simp only [Exit.inBlock, Exit.then]
      refine bodyPost_ret (results_cell_row rfl _ _ w.heap.size 33 #[.int .i64 (100), .int .i64 (kpick a 4294967296)] (0, 0) _ rfl (two_row ZW.out) Tryz.underlying33 rfl (by kernel_rfl)) rfl ?_
      exact ⟨⟨_, _, rfl⟩, (BW.out.setCell (p := ⟨w.heap.size, 0, none⟩) (Nat.le_refl _) _).setCell (p := ⟨w.heap.size, 1, none⟩) (Nat.le_refl _) _⟩
end Go.Proofs.YtmmkhodaljpjgabGreatDoor
