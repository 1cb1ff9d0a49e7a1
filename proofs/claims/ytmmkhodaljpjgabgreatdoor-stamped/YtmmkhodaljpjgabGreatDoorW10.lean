import Derived.Test.YtmmkhodaljpjgabGreatDoorW09
namespace Go.Proofs.YtmmkhodaljpjgabGreatDoor
open Go.RowKit
theorem clk_is (s f : Int) (w : World) :
    Calls Tryz.prog 62 #[.agg #[.int .i64 s, .int .i64 f]] w fun e w' => e = .returned (.bool (isT s f)) ∧ Below w.heap.size w w' := by
  have B0 := hid' ((Below.refl w.heap.size w).alloc (Nat.le_refl _) (.cells #[.int .i64 s, .int .i64 f] 33))
  have no : ¬ (0 ≤ s ∧ s ≤ 34000000000 ∧ 0 ≤ f ∧ f < 4294967296) → isT s f = false := fun h => decide_eq_false h
  have HNO := hid' no
  clear no
  by_cases h1 : 0 ≤ s
  · by_cases h2 : s ≤ 34000000000
    · by_cases h3 : 0 ≤ f
      · by_cases h4 : f < 4294967296
        · have H : Hid (isT s f = true) := decide_eq_true ⟨h1, h2, h3, h4⟩
          go_enter Tryz.func62, Tryz.ntmps62
          go_wp2
          go_ret
          exact ⟨ret_bool H.out.symm, B0.out⟩
        · have H := hid' (HNO.out (fun h => h4 h.2.2.2))
          go_enter Tryz.func62, Tryz.ntmps62
          go_wp2
          go_ret
          exact ⟨ret_bool H.out.symm, B0.out⟩
      · have H := hid' (HNO.out (fun h => h3 h.2.2.1))
        go_enter Tryz.func62, Tryz.ntmps62
        go_wp2
        go_ret
        exact ⟨ret_bool H.out.symm, B0.out⟩
    · have H := hid' (HNO.out (fun h => h2 h.2.1))
      go_enter Tryz.func62, Tryz.ntmps62
      go_wp2
      go_ret
      exact ⟨ret_bool H.out.symm, B0.out⟩
  · have H := hid' (HNO.out (fun h => h1 h.1))
    go_enter Tryz.func62, Tryz.ntmps62
    go_wp2
    go_ret
    exact ⟨ret_bool H.out.symm, B0.out⟩
theorem clk_earlier (s f z g : Int) (w : World) :
    Calls Tryz.prog 96 #[.agg #[.int .i64 s, .int .i64 f], .agg #[.int .i64 z, .int .i64 g]] w fun e w' => e = .returned (.bool (tLater z g s f)) ∧ Below w.heap.size w w' := by
  have B0 := hid' (((Below.refl w.heap.size w).alloc (Nat.le_refl _) (.cells #[.int .i64 s, .int .i64 f] 33)).alloc (by simp) (.cells #[.int .i64 z, .int .i64 g] 33))
  by_cases h1 : s = z
  · subst h1
    have e1 : (s != s) = false := by simp
    by_cases h3 : f < g
    · have H : Hid (tLater s g s f = true) := decide_eq_true (.inr ⟨rfl, h3⟩)
      go_enter Tryz.func96, Tryz.ntmps96
      go_wp2
      go_ret
      exact ⟨ret_bool H.out.symm, B0.out⟩
    · have H : Hid (tLater s g s f = false) := decide_eq_false (by omega)
      go_enter Tryz.func96, Tryz.ntmps96
      go_wp2
      go_ret
      exact ⟨ret_bool H.out.symm, B0.out⟩
  · have e1 : (s != z) = true := bne_iff_ne.2 h1
    by_cases h3 : s < z
    · have H : Hid (tLater z g s f = true) := decide_eq_true (.inl h3)
      clear h1
      go_enter Tryz.func96, Tryz.ntmps96
      go_wp2
      go_ret
      exact ⟨ret_bool H.out.symm, B0.out⟩
    · have H : Hid (tLater z g s f = false) := decide_eq_false (by omega)
      clear h1
      go_enter Tryz.func96, Tryz.ntmps96
      go_wp2
      go_ret
      exact ⟨ret_bool H.out.symm, B0.out⟩
theorem load_ptime {w : World} {g : Nat} {cs : Array Value} (hg : w.heap[g]? = some (.cells cs 33 (0, 0))) (hs : cs.size = 2) : (loadVar 33 ⟨g, 0, none⟩).run Tryz.prog w = .ok (.agg cs) w :=
  run_loadVar_row (P := Tryz.prog) w g 33 33 cs (0, 0) _ hg Tryz.underlying33 rfl (by rw [hs]; kernel_rfl)
/-- Two times together: the sum, and whether it is one. -/
def clkSum (s f z g : Int) : (Int × Int) × Bool := if isT z g = false then ((0, 0), false) else if isT (tSum s f z g).1 (tSum s f z g).2 = false then ((0, 0), false) else (tSum s f z g, true)
theorem three_rows (w : World) (a b c : Obj) : Below w.heap.size w (((w.alloc a).alloc b).alloc c) ∧ (((w.alloc a).alloc b).alloc c).heap.size = w.heap.size + 3 := by
  refine ⟨(((Below.refl _ _).alloc (Nat.le_refl _) a).alloc (by simp) b).alloc (by simp; omega) c, by simp⟩
set_option maxRecDepth 100000 in
set_option maxHeartbeats 3200000 in
theorem clk_sum (s f z g : Int) (w : World) (ht : isT s f = true) :
    Calls Tryz.prog 55 #[.agg #[.int .i64 s, .int .i64 f], .agg #[.int .i64 z, .int .i64 g]] w fun e w' => e = .returned (.tuple #[.agg #[.int .i64 (clkSum s f z g).1.1, .int .i64 (clkSum s f z g).1.2], .bool (clkSum s f z g).2]) ∧ Below w.heap.size w w' := by
  have ISA := hid' (fun W => clk_is s f W)
  rw [ht] at ISA
  have ISB := hid' (fun W => clk_is z g W)
  have ISS := hid' (fun W => clk_is (tSum s f z g).1 (tSum s f z g).2 W)
  have HCS : Hid (clkSum s f z g = if isT z g = false then ((0, 0), false) else if isT (tSum s f z g).1 (tSum s f z g).2 = false then ((0, 0), false) else (tSum s f z g, true)) := rfl
  obtain ⟨n0, n1, m0, m1⟩ := isT_bd ht
  have B0 := hid' (three_rows w (.cells #[.int .i64 s, .int .i64 f] 33) (.cells #[.int .i64 z, .int .i64 g] 33) (.cells #[.int .i64 0, .int .i64 0] 33))
  have RA : Hid ((((w.alloc (.cells #[.int .i64 s, .int .i64 f] 33)).alloc (.cells #[.int .i64 z, .int .i64 g] 33)).alloc (.cells #[.int .i64 0, .int .i64 0] 33)).heap[w.heap.size]? = some (.cells #[.int .i64 s, .int .i64 f] 33 (0, 0))) := by
    show _ = _
    rw [Below.heap_alloc _ _ _ (by simp; omega)]
    exact heap_alloc2_old w _ _
  have RB : Hid ((((w.alloc (.cells #[.int .i64 s, .int .i64 f] 33)).alloc (.cells #[.int .i64 z, .int .i64 g] 33)).alloc (.cells #[.int .i64 0, .int .i64 0] 33)).heap[w.heap.size + 1]? = some (.cells #[.int .i64 z, .int .i64 g] 33 (0, 0))) := by
    show _ = _
    rw [Below.heap_alloc _ _ _ (by simp)]
    exact heap_alloc2_new w _ _
  have RC : Hid ((((w.alloc (.cells #[.int .i64 s, .int .i64 f] 33)).alloc (.cells #[.int .i64 z, .int .i64 g] 33)).alloc (.cells #[.int .i64 0, .int .i64 0] 33)).heap[w.heap.size + 1 + 1]? = some (.cells #[.int .i64 0, .int .i64 0] 33 (0, 0))) := by
    have := heap_alloc_new ((w.alloc (.cells #[.int .i64 s, .int .i64 f] 33)).alloc (.cells #[.int .i64 z, .int .i64 g] 33)) (.cells #[.int .i64 0, .int .i64 0] 33)
    rw [show ((w.alloc (.cells #[.int .i64 s, .int .i64 f] 33)).alloc (.cells #[.int .i64 z, .int .i64 g] 33)).heap.size = w.heap.size + 1 + 1 from by simp] at this
    exact this
  clear ht
  go_enter Tryz.func55, Tryz.ntmps55
  go_upto_region 1 with fail
  generalize hV : ((w.alloc (.cells #[.int .i64 s, .int .i64 f] 33)).alloc (.cells #[.int .i64 z, .int .i64 g] 33)).alloc (.cells #[.int .i64 0, .int .i64 0] 33) = V at *
  clear hV
  have a0 := cell_of_row _ _ 0 _ _ _ RA.out
  have a1 := cell_of_row _ _ 1 _ _ _ RA.out
  simp at a0 a1
  have sv := B0.out.2
  go_wp2_with fail
  refine (ISA.out _).mono ?_
  rintro e w1 ⟨rfl, hb1⟩
  have B1 := hid' (B0.out.1.trans (hb1.mono (by omega)))
  have RB1 := hid' ((hb1.block _ (lt_of_heap RB.out)).trans RB.out)
  have RA1 := hid' ((hb1.block _ (lt_of_heap RA.out)).trans RA.out)
  have RC1 := hid' ((hb1.block _ (lt_of_heap RC.out)).trans RC.out)
  have b0 := cell_of_row _ _ 0 _ _ _ RB1.out
  have b1 := cell_of_row _ _ 1 _ _ _ RB1.out
  simp at b0 b1
  clear hb1 a0 a1 RA RB RC ISA
  go_wp2_with fail
  refine (ISB.out _).mono ?_
  rintro e w2 ⟨rfl, hb2⟩
  have B2 := hid' (B1.out.trans (hb2.mono B1.out.size))
  have RB2 := hid' ((hb2.block _ (lt_of_heap RB1.out)).trans RB1.out)
  have RA2 := hid' ((hb2.block _ (lt_of_heap RA1.out)).trans RA1.out)
  have RC2 := hid' ((hb2.block _ (lt_of_heap RC1.out)).trans RC1.out)
  have b0 := cell_of_row _ _ 0 _ _ _ RB2.out
  have b1 := cell_of_row _ _ 1 _ _ _ RB2.out
  have a0 := cell_of_row _ _ 0 _ _ _ RA2.out
  have a1 := cell_of_row _ _ 1 _ _ _ RA2.out
  have c0 := cell_of_row _ _ 0 _ _ _ RC2.out
  have c1 := cell_of_row _ _ 1 _ _ _ RC2.out
  have fc0 := frozen_of_row _ _ 0 _ _ RC2.out
  have fc1 := frozen_of_row _ _ 1 _ _ RC2.out
  have lc := lt_of_heap RC2.out
  simp at b0 b1 a0 a1 c0 c1
  clear hb2 RA1 RB1 RC1 ISB
  cases hzt : isT z g with
  | false =>
    have H : Hid (clkSum s f z g = ((0, 0), false)) := by show _ = _; rw [HCS.out, if_pos hzt]
    clear hzt
    go_wp2
    try simp only [Exit.inBlock, Exit.then]
    refine bodyPost_ret (results_row_tmp (p := 4) (u := 5) rfl _ _ (w.heap.size + 1 + 1) #[.int .i64 0, .int .i64 0] rfl (load_ptime (two_row RC2.out) rfl)) rfl ?_
    rw [H.out]
    exact ⟨rfl, (B2.out.setCell (p := ⟨w.heap.size + 1 + 1, 0, none⟩) (by simp only; omega) _).setCell (p := ⟨w.heap.size + 1 + 1, 1, none⟩) (by simp only; omega) _⟩
  | true =>
    obtain ⟨y0, y1, y2, y3⟩ := isT_bd hzt
    have HCS2 : Hid (clkSum s f z g = if isT (tSum s f z g).1 (tSum s f z g).2 = false then ((0, 0), false) else (tSum s f z g, true)) := by show _ = _; rw [HCS.out, if_neg (by rw [hzt]; simp)]
    have HTS : Hid (tSum s f z g = (s + z + (f + g) / 4294967296, (f + g) % 4294967296)) := rfl
    clear hzt HCS
    have BN := hid' ((Below.refl w2.heap.size w2).alloc (Nat.le_refl _) (.cells #[.int .i64 (s + z), .int .i64 (f + g)] 33))
    have RN := hid' (heap_alloc_new w2 (.cells #[.int .i64 (s + z), .int .i64 (f + g)] 33))
    have ne : w2.heap.size ≠ w.heap.size + 1 + 1 := by omega
    have s2 := B2.out.size
    by_cases hc : 4294967296 ≤ f + g
    · have HTS2 : Hid (tSum s f z g = (s + z + 1, f + g - 4294967296)) := by
        show _ = _
        rw [HTS.out]
        exact Prod.ext (by simp only; omega) (by simp only; omega)
      rw [HTS2.out] at ISS
      have BN2 := (Below.refl w2.heap.size w2).alloc (Nat.le_refl _) (.cells #[.int .i64 (s + z + 1), .int .i64 (f + g - 4294967296)] 33)
      have B3 := hid' (B2.out.trans (BN2.mono s2))
      have RD3 := hid' (heap_alloc_new w2 (.cells #[.int .i64 (s + z + 1), .int .i64 (f + g - 4294967296)] 33))
      have RC3 := hid' ((BN2.block _ lc).trans RC2.out)
      clear BN2
      go_wp2_with fail
      refine (ISS.out _).mono ?_
      rintro e w4 ⟨rfl, hb4⟩
      have RD4 := hid' ((hb4.block _ (lt_of_heap RD3.out)).trans RD3.out)
      have RC4 := hid' ((hb4.block _ (lt_of_heap RC3.out)).trans RC3.out)
      have B4 := hid' (B3.out.trans (hb4.mono B3.out.size))
      have d0 := cell_of_row _ _ 0 _ _ _ RD4.out
      have d1 := cell_of_row _ _ 1 _ _ _ RD4.out
      have c0 := cell_of_row _ _ 0 _ _ _ RC4.out
      have c1 := cell_of_row _ _ 1 _ _ _ RC4.out
      have fc0 := frozen_of_row _ _ 0 _ _ RC4.out
      have fc1 := frozen_of_row _ _ 1 _ _ RC4.out
      have lc := lt_of_heap RC4.out
      simp at d0 d1 c0 c1
      clear hb4
      cases hst : isT (s + z + 1) (f + g - 4294967296) with
      | false =>
        have H : Hid (clkSum s f z g = ((0, 0), false)) := by show _ = _; rw [HCS2.out, if_pos (by rw [HTS2.out]; exact hst)]
        clear hst
        go_wp2
        try simp only [Exit.inBlock, Exit.then]
        refine bodyPost_ret (results_row_tmp (p := 4) (u := 5) rfl _ _ (w.heap.size + 1 + 1) #[.int .i64 0, .int .i64 0] rfl (load_ptime (two_row RC4.out) rfl)) rfl ?_
        rw [H.out]
        exact ⟨rfl, (B4.out.setCell (p := ⟨w.heap.size + 1 + 1, 0, none⟩) (by simp only; omega) _).setCell (p := ⟨w.heap.size + 1 + 1, 1, none⟩) (by simp only; omega) _⟩
      | true =>
        have H : Hid (clkSum s f z g = ((s + z + 1, f + g - 4294967296), true)) := by show _ = _; rw [HCS2.out, if_neg (by rw [HTS2.out]; simp [hst]), HTS2.out]
        clear hst
        go_wp2
        try simp only [Exit.inBlock, Exit.then]
        refine bodyPost_ret (results_row_tmp (p := 4) (u := 5) rfl _ _ (w.heap.size + 1 + 1) #[.int .i64 (s + z + 1), .int .i64 (f + g - 4294967296)] rfl (load_ptime (two_row RC4.out) rfl)) rfl ?_
        rw [H.out]
        exact ⟨rfl, (B4.out.setCell (p := ⟨w.heap.size + 1 + 1, 0, none⟩) (by simp only; omega) _).setCell (p := ⟨w.heap.size + 1 + 1, 1, none⟩) (by simp only; omega) _⟩
    · have HTS2 : Hid (tSum s f z g = (s + z, f + g)) := by
        show _ = _
        rw [HTS.out]
        exact Prod.ext (by simp only; omega) (by simp only; omega)
      rw [HTS2.out] at ISS
      have B3 := hid' (B2.out.trans (BN.out.mono s2))
      have RD3 := hid' RN.out
      have RC3 := hid' ((BN.out.block _ lc).trans RC2.out)
      go_wp2_with fail
      refine (ISS.out _).mono ?_
      rintro e w4 ⟨rfl, hb4⟩
      have RD4 := hid' ((hb4.block _ (lt_of_heap RD3.out)).trans RD3.out)
      have RC4 := hid' ((hb4.block _ (lt_of_heap RC3.out)).trans RC3.out)
      have B4 := hid' (B3.out.trans (hb4.mono B3.out.size))
      have d0 := cell_of_row _ _ 0 _ _ _ RD4.out
      have d1 := cell_of_row _ _ 1 _ _ _ RD4.out
      have c0 := cell_of_row _ _ 0 _ _ _ RC4.out
      have c1 := cell_of_row _ _ 1 _ _ _ RC4.out
      have fc0 := frozen_of_row _ _ 0 _ _ RC4.out
      have fc1 := frozen_of_row _ _ 1 _ _ RC4.out
      have lc := lt_of_heap RC4.out
      simp at d0 d1 c0 c1
      clear hb4
      cases hst : isT (s + z) (f + g) with
      | false =>
        have H : Hid (clkSum s f z g = ((0, 0), false)) := by show _ = _; rw [HCS2.out, if_pos (by rw [HTS2.out]; exact hst)]
        clear hst
        go_wp2
        try simp only [Exit.inBlock, Exit.then]
        refine bodyPost_ret (results_row_tmp (p := 4) (u := 5) rfl _ _ (w.heap.size + 1 + 1) #[.int .i64 0, .int .i64 0] rfl (load_ptime (two_row RC4.out) rfl)) rfl ?_
        rw [H.out]
        exact ⟨rfl, (B4.out.setCell (p := ⟨w.heap.size + 1 + 1, 0, none⟩) (by simp only; omega) _).setCell (p := ⟨w.heap.size + 1 + 1, 1, none⟩) (by simp only; omega) _⟩
      | true =>
        have H : Hid (clkSum s f z g = ((s + z, f + g), true)) := by show _ = _; rw [HCS2.out, if_neg (by rw [HTS2.out]; simp [hst]), HTS2.out]
        clear hst
        go_wp2
        try simp only [Exit.inBlock, Exit.then]
        refine bodyPost_ret (results_row_tmp (p := 4) (u := 5) rfl _ _ (w.heap.size + 1 + 1) #[.int .i64 (s + z), .int .i64 (f + g)] rfl (load_ptime (two_row RC4.out) rfl)) rfl ?_
        rw [H.out]
        exact ⟨rfl, (B4.out.setCell (p := ⟨w.heap.size + 1 + 1, 0, none⟩) (by simp only; omega) _).setCell (p := ⟨w.heap.size + 1 + 1, 1, none⟩) (by simp only; omega) _⟩
def cmP (c : Cm) : Int × Int := (c.a, c.o)
/-- What has begun, and all that is to come. -/
def Sv.all (x : Sv) : List (Int × Int) := x.done ++ x.com.map cmP
/-- When the window of an entry began whose turn is T. -/
structure Sv.Bg (x : Sv) (T s f : Int) : Prop where
  f0 : 0 ≤ f
  f1 : f < 4294967296
  hi : s < T ∨ (s = T ∧ f ≤ 0)
  lo : T - x.win ≤ s
  now : s < x.ns ∨ (s = x.ns ∧ f ≤ x.nf)
  ov : (s + x.win < x.ns ∨ (s + x.win = x.ns ∧ f ≤ x.nf)) ∨ T - x.win / 2 ≤ s
/-- When the window of an entry begins that is to come. -/
structure Sv.Cg (x : Sv) (T : Int) (c : Cm) : Prop where
  f0 : 0 ≤ c.bf
  f1 : c.bf < 4294967296
  hi : c.bs < T ∨ (c.bs = T ∧ c.bf ≤ 0)
  lo : T - x.win / 2 ≤ c.bs
/-- A server that has a table. -/
structure Sv.Mid (x : Sv) : Prop where
  fit : Tab.Fit x.all
  pos : 0 < x.done.length
  first : Tab.when x.all 0 ≤ x.ns
  bl : x.began.length = x.done.length
  bg : ∀ i, i < x.done.length → x.Bg (Tab.when x.all i) (x.began.getD i (0, 0)).1 (x.began.getD i (0, 0)).2
  cg : ∀ i c, x.com[i]? = some c → x.Cg (Tab.when x.all (x.done.length + i)) c
/-- What its numbers are. -/
structure Sv.Num (x : Sv) : Prop where
  mode : (x.mode = 0 ∧ x.win = 0) ∨ ((x.mode = 1 ∨ x.mode = 2) ∧ 3600 ≤ x.win ∧ x.win ≤ 604800 ∧ x.win.tmod 2 = 0)
  f0 : 1 ≤ x.fresh
  f1 : x.fresh ≤ 604800
  t : isT x.ns x.nf = true
  sl : x.said.length ≤ 8
  sok : ∀ h ∈ x.said, h.Ok ∧ 0 ≤ h.leap ∧ h.leap ≤ 3
  r0 : 0 ≤ x.ref
theorem Sv.Num.win {x : Sv} (h : x.Num) : 0 ≤ x.win ∧ x.win ≤ 604800 := by
  rcases h.mode with ⟨_, a⟩ | ⟨_, a, b, _⟩ <;> omega
/-- What holds of every state. -/
structure Sv.Inv (x : Sv) : Prop where
  num : x.Num
  no : x.ld = false → x.done = [] ∧ x.began = [] ∧ x.com = [] ∧ x.up = 0 ∧ x.ex = 0
  mid : x.ld = true → x.Mid
  lat : x.ld = true → ∀ c ∈ x.com, tLater c.bs c.bf x.ns x.nf = true
  ex : x.ld = true → 0 ≤ x.up ∧ x.up < x.ex ∧ x.ex ≤ 34000000000
  fl : x.ld = true → (∀ c ∈ x.com, c.v = false) ∨ ∃ c, x.com = [c] ∧ c.v = true
theorem not_later {s f z g : Int} (h : tLater s f z g = false) : s < z ∨ (s = z ∧ f ≤ g) := by
  have := of_decide_eq_false h; omega
theorem is_later {s f z g : Int} (h : tLater s f z g = true) : z < s ∨ (s = z ∧ g < f) := of_decide_eq_true h
theorem Sv.all_one (x : Sv) (c : Cm) (r : List Cm) (hc : x.com = c :: r) : (x.one c r).all = x.all := by
  unfold Sv.all Sv.one; simp [hc, cmP]
theorem Sv.all_length (x : Sv) : x.all.length = x.done.length + x.com.length := by simp [Sv.all]
theorem getD_leftI (l r : List (Int × Int)) (i : Nat) (hi : i < l.length) : (l ++ r).getD i (0, 0) = l.getD i (0, 0) := Tab.getD_left l r i hi
theorem getD_new (l : List (Int × Int)) (p : Int × Int) : (l ++ [p]).getD l.length (0, 0) = p := by
  rw [List.getD_eq_getElem?_getD]; simp
/-- One entry begins. -/
theorem Sv.Mid.one {x : Sv} (h : x.Mid) (c : Cm) (r : List Cm) (hc : x.com = c :: r) (hl : tLater c.bs c.bf x.ns x.nf = false) (w0 : 0 ≤ x.win) : (x.one c r).Mid := by
  have ha := x.all_one c r hc
  have c0 := h.cg 0 c (by rw [hc]; rfl)
  have nl := not_later hl
  have e1 : (x.one c r).done = x.done ++ [(c.a, c.o)] := rfl
  have e2 : (x.one c r).began = x.began ++ [(c.bs, c.bf)] := rfl
  refine ⟨by rw [ha]; exact h.fit, by rw [e1]; simp, by rw [ha]; exact h.first, by rw [e1, e2]; simp [h.bl], fun i hi => ?_, fun i d hd => ?_⟩
  · rw [ha, e2]
    rw [e1, List.length_append, List.length_singleton] at hi
    by_cases e : i = x.done.length
    · subst e
      rw [← h.bl, getD_new, h.bl]
      exact ⟨c0.f0, c0.f1, c0.hi, by have := c0.lo; show _ - x.win ≤ _; simp only [Nat.add_zero] at this; omega, nl, .inr c0.lo⟩
    · rw [getD_leftI _ _ _ (by rw [h.bl]; omega)]
      have b := h.bg i (by omega)
      exact ⟨b.f0, b.f1, b.hi, b.lo, b.now, b.ov⟩
  · rw [ha, e1, List.length_append, List.length_singleton, Nat.add_assoc, Nat.add_comm 1 i]
    have d' := h.cg (i + 1) d (by rw [hc]; exact hd)
    exact ⟨d'.f0, d'.f1, d'.hi, d'.lo⟩
/-- What is to come is in order. -/
theorem Sv.Mid.order {x : Sv} (h : x.Mid) (w0 : 0 ≤ x.win) (w1 : x.win ≤ 604800) (i j : Nat) (c d : Cm) (hij : i < j) (hc : x.com[i]? = some c) (hd : x.com[j]? = some d) : c.bs < d.bs := by
  have a := h.cg i c hc
  have b := h.cg j d hd
  have lj : j < x.com.length := by
    by_cases q : j < x.com.length
    · exact q
    · rw [List.getElem?_eq_none (by omega)] at hd; cases hd
  have t := h.fit.when_lt (x.done.length + i) (x.done.length + j) (by omega) (by rw [x.all_length]; omega)
  have := a.hi
  have := b.lo
  omega
/-- What begun leaves. -/
structure Sv.Begun (x y : Sv) : Prop where
  mid : y.Mid
  lat : ∀ c ∈ y.com, tLater c.bs c.bf x.ns x.nf = true
  same : y = { x with done := y.done, began := y.began, com := y.com }
  all : y.all = x.all
  drop : ∃ k, y.com = x.com.drop k
theorem Sv.Mid.begun {x : Sv} (h : x.Mid) (w0 : 0 ≤ x.win) (w1 : x.win ≤ 604800) : x.Begun x.begun := by
  generalize hn : x.com.length = n
  induction n generalizing x with
  | zero =>
    have hc : x.com = [] := List.eq_nil_of_length_eq_zero hn
    rw [x.begun_end hc]
    exact ⟨h, (by rw [hc]; intro c q; cases q), rfl, rfl, 0, rfl⟩
  | succ n ih =>
    cases hc : x.com with
    | nil => rw [hc] at hn; cases hn
    | cons c r =>
      by_cases hl : tLater c.bs c.bf x.ns x.nf = true
      · rw [x.begun_stop c r hc hl]
        refine ⟨h, fun d hd => ?_, rfl, rfl, 0, rfl⟩
        obtain ⟨i, hi, rfl⟩ := List.getElem_of_mem hd
        by_cases z : i = 0
        · subst z
          have : x.com[0] = c := by simp [hc]
          rw [this]; exact hl
        · have o := h.order w0 w1 0 i c x.com[i] (by omega) (by rw [hc]; rfl) (List.getElem?_eq_getElem hi)
          have q := is_later hl
          exact decide_eq_true (by omega)
      · have hl' : tLater c.bs c.bf x.ns x.nf = false := by simpa using hl
        rw [x.begun_one c r hc hl']
        have g := ih (h.one c r hc hl' w0) w0 w1 (by show r.length = n; rw [hc] at hn; simpa using hn)
        refine ⟨g.mid, g.lat, ?_, g.all.trans (x.all_one c r hc), ?_⟩
        · rw [g.same]; rfl
        · obtain ⟨k, hk⟩ := g.drop
          exact ⟨k + 1, by rw [hk, hc]; rfl⟩
theorem Sv.Mid.doneFit {x : Sv} (h : x.Mid) : Tab.Fit x.done := h.fit.left h.pos
theorem Sv.Mid.firstD {x : Sv} (h : x.Mid) : Tab.when x.done 0 ≤ x.ns := by
  have := h.first
  unfold Sv.all at this
  rwa [Tab.when_append _ _ _ h.pos] at this
theorem Sv.Num.t' {x : Sv} (h : x.Num) : 0 ≤ x.ns ∧ x.ns ≤ 34000000000 ∧ 0 ≤ x.nf ∧ x.nf < 4294967296 := isT_bd h.t
/-- It can look around. -/
theorem Sv.Mid.can {x : Sv} (h : x.Mid) (hn : x.Num) : x.Can := by
  obtain ⟨t0, t1, _, _⟩ := hn.t'
  have w := hn.win
  have g := h.fit.good.len
  rw [x.all_length] at g
  have u := h.doneFit.utc_bd x.ns h.firstD
  have l := h.doneFit.lastAt_le x.ns h.firstD
  have f0 := hn.f0
  have f1 := hn.f1
  have sl := hn.sl
  exact ⟨h.doneFit.good.fine, by omega, l.1, t0, t1, u.1, by unfold Sv.utc; omega, by omega, fun q hq => (hn.sok q hq).1, by omega, by omega, w.1, by omega, by rw [h.bl]; omega, by omega⟩
theorem Sv.Num.of {x y : Sv} (h : x.Num) (hs : y = { x with done := y.done, began := y.began, com := y.com }) : y.Num := by
  rw [hs]; exact ⟨h.mode, h.f0, h.f1, h.t, h.sl, h.sok, h.r0⟩
/-- Nothing is to come. -/
theorem Sv.Mid.none {x : Sv} (h : x.Mid) : ({ x with com := [] } : Sv).Mid := by
  have ha : ({ x with com := [] } : Sv).all = x.done := by simp [Sv.all]
  have wa : ∀ i, i < x.done.length → Tab.when x.all i = Tab.when x.done i := fun i hi => Tab.when_append _ _ _ hi
  refine ⟨by rw [ha]; exact h.doneFit, h.pos, by rw [ha]; exact h.firstD, h.bl, fun i hi => ?_, fun i c hc => by simp at hc⟩
  rw [ha]
  have b := h.bg i hi
  rw [wa i hi] at b
  exact ⟨b.f0, b.f1, b.hi, b.lo, b.now, b.ov⟩
theorem Sv.opens_cg {x : Sv} {T : Int} (hn : x.Num) (hT : x.ns < T) (a o : Int) (v : Bool) : x.Cg T ⟨a, o, (x.opens T).1, (x.opens T).2, v⟩ := by
  obtain ⟨t0, t1, t2, t3⟩ := hn.t'
  have w := hn.win
  unfold Sv.opens
  split
  · rename_i q
    have := is_later q
    exact ⟨t2, t3, .inl hT, by show _ - x.win / 2 ≤ x.ns; omega⟩
  · exact ⟨by simp, by simp, by simp only; omega, by simp⟩
theorem Sv.old_eq {x : Sv} : x.old = (x.done.getD (x.done.length - 1) (0, 0)).2 := rfl
/-- An entry that sources say. -/
theorem Sv.Mid.vote {x : Sv} (h : x.Mid) (hn : x.Num) (ho : x.okN = true) (hw : x.ns < x.whenN) : ({ x with com := [⟨x.atN, x.old + x.sign, (x.opens x.whenN).1, (x.opens x.whenN).2, true⟩] } : Sv).Mid := by
  have hf : Tab.follows x.done x.atN (x.old + x.sign) = true := by
    unfold Sv.okN at ho
    simp only [Bool.and_eq_true] at ho
    exact ho.2
  have hs0 : x.sign ≠ 0 := by
    unfold Sv.okN at ho
    simp only [Bool.and_eq_true, bne_iff_ne, ne_eq] at ho
    exact ho.1.2
  have hF := h.doneFit.grow hf
  have ha : ({ x with com := [⟨x.atN, x.old + x.sign, (x.opens x.whenN).1, (x.opens x.whenN).2, true⟩] } : Sv).all = x.done ++ [(x.atN, x.old + x.sign)] := by simp only [Sv.all, List.map_cons, List.map_nil, cmP]
  have wa : ∀ i, i < x.done.length → Tab.when x.all i = Tab.when x.done i := fun i hi => Tab.when_append _ _ _ hi
  have wT : Tab.when (x.done ++ [(x.atN, x.old + x.sign)]) x.done.length = x.whenN := by
    unfold Tab.when Sv.whenN
    rw [getD_new, getD_leftI _ _ (x.done.length - 1) (by have := h.pos; omega), ← x.old_eq]
    have hp := h.pos
    rcases x.sign_bd with e | e | e
    · rw [e, if_pos (by simp only; omega), if_neg (by omega)]
    · rw [e, if_neg (by simp only; omega), if_pos (by omega)]
      simp only; omega
    · exact absurd e hs0
  refine ⟨by rw [ha]; exact hF, h.pos, ?_, h.bl, fun i hi => ?_, fun i c hc => ?_⟩
  · rw [ha, Tab.when_append _ _ _ h.pos]; exact h.firstD
  · rw [ha, Tab.when_append _ _ _ hi]
    have b := h.bg i hi
    rw [wa i hi] at b
    exact ⟨b.f0, b.f1, b.hi, b.lo, b.now, b.ov⟩
  · cases i with
    | zero =>
      simp only [List.getElem?_cons_zero, Option.some.injEq] at hc
      subst hc
      rw [ha, Nat.add_zero]
      show Sv.Cg _ (Tab.when (x.done ++ [(x.atN, x.old + x.sign)]) x.done.length) _
      rw [wT]
      have q := Sv.opens_cg hn hw x.atN (x.old + x.sign) true
      exact ⟨q.f0, q.f1, q.hi, q.lo⟩
    | succ i => simp at hc
/-- What looking around leaves. -/
structure Sv.Round (x y : Sv) : Prop where
  mid : y.Mid
  lat : ∀ c ∈ y.com, tLater c.bs c.bf x.ns x.nf = true
  same : y = { x with done := y.done, began := y.began, com := y.com }
  fl : (∀ c ∈ y.com, c.v = false) ∨ ∃ c, y.com = [c] ∧ c.v = true
theorem drop_one {c : Cm} (k : Nat) : [c].drop k = [c] ∨ [c].drop k = [] := by
  cases k with
  | zero => exact .inl rfl
  | succ k => exact .inr (by simp)
theorem Sv.Mid.weigh {x : Sv} (h : x.Mid) (hn : x.Num) (hl : x.ld = true) (hf : (∀ c ∈ x.com, c.v = false) ∨ ∃ c, x.com = [c] ∧ c.v = true) : x.Round x.weigh := by
  obtain ⟨w0, w1⟩ := hn.win
  have b := h.begun w0 w1
  have hf' : (∀ c ∈ x.begun.com, c.v = false) ∨ ∃ c, x.begun.com = [c] ∧ c.v = true := by
    obtain ⟨k, hk⟩ := b.drop
    rw [hk]
    rcases hf with hf | ⟨c, hc, hv⟩
    · exact .inl fun c q => hf c (List.mem_of_mem_drop q)
    · rw [hc]
      rcases drop_one (c := c) k with e | e
      · exact .inr ⟨c, e, hv⟩
      · rw [e]; exact .inl fun c q => by cases q
  unfold Sv.weigh
  rw [if_neg (by rw [hl]; simp)]
  by_cases c1 : x.begun.filed = true
  · rw [if_pos c1]
    exact ⟨b.mid, b.lat, b.same, hf'⟩
  · rw [if_neg c1]
    have hnb := hn.of b.same
    have en : x.begun.ns = x.ns := by rw [b.same]
    have ef : x.begun.nf = x.nf := by rw [b.same]
    have ew : x.begun.win = x.win := by rw [b.same]
    have bm := b.mid
    have bs := b.same
    generalize x.begun = z at *
    unfold Sv.voted
    split
    · refine ⟨bm.none, (by intro c q; cases q), ?_, .inl (by intro c q; cases q)⟩
      rw [bs]
    · rename_i q
      have q1 : z.okN = true := by
        cases e : z.okN with
        | true => rfl
        | false => exact absurd (.inl e) q
      have q2 : z.ns < z.whenN := by
        by_cases e : z.whenN ≤ z.ns
        · exact absurd (.inr e) q
        · omega
      have v := bm.vote hnb q1 q2
      have g := v.begun (by rw [show ({ z with com := [⟨z.atN, z.old + z.sign, (z.opens z.whenN).1, (z.opens z.whenN).2, true⟩] } : Sv).win = z.win from rfl, ew]; exact w0) (by rw [show ({ z with com := [⟨z.atN, z.old + z.sign, (z.opens z.whenN).1, (z.opens z.whenN).2, true⟩] } : Sv).win = z.win from rfl, ew]; exact w1)
      refine ⟨g.mid, fun c hc => by have := g.lat c hc; rw [← en, ← ef]; exact this, ?_, ?_⟩
      · have e1 := g.same
        generalize Sv.begun _ = y at *
        rw [e1, bs]
      · obtain ⟨k, hk⟩ := g.drop
        rw [hk]
        rcases drop_one (c := (⟨z.atN, z.old + z.sign, (z.opens z.whenN).1, (z.opens z.whenN).2, true⟩ : Cm)) k with e | e
        · exact .inr ⟨_, e, rfl⟩
        · exact .inl (by rw [e]; intro c q; cases q)
/-- Behind a look around all of it holds. -/
theorem Sv.Mid.inv {x : Sv} (h : x.Mid) (hn : x.Num) (hl : x.ld = true) (hf : (∀ c ∈ x.com, c.v = false) ∨ ∃ c, x.com = [c] ∧ c.v = true) (hx : 0 ≤ x.up ∧ x.up < x.ex ∧ x.ex ≤ 34000000000) : x.weigh.Inv := by
  have r := h.weigh hn hl hf
  have nn := hn.of r.same
  have m := r.mid
  have la := r.lat
  have fl := r.fl
  have s := r.same
  generalize x.weigh = y at *
  have e1 : y.ld = x.ld := by rw [s]
  have e2 : y.ns = x.ns := by rw [s]
  have e3 : y.nf = x.nf := by rw [s]
  have e4 : y.up = x.up := by rw [s]
  have e5 : y.ex = x.ex := by rw [s]
  exact ⟨nn, fun q => (by rw [e1, hl] at q; cases q), fun _ => m, fun _ c hc => (by rw [e2, e3]; exact la c hc), fun _ => (by rw [e4, e5]; exact hx), fun _ => fl⟩
/-- The clock moves on. -/
theorem Sv.Mid.at' {x : Sv} (h : x.Mid) (s f : Int) (hl : tLater x.ns x.nf s f = false) : (x.at' s f).Mid := by
  have ha : (x.at' s f).all = x.all := rfl
  have nl := not_later hl
  refine ⟨h.fit, h.pos, by rw [ha]; have := h.first; show _ ≤ s; omega, h.bl, fun i hi => ?_, fun i c hc => ?_⟩
  · have b := h.bg i hi
    rw [ha]
    refine ⟨b.f0, b.f1, b.hi, b.lo, ?_, ?_⟩
    · have := b.now; show _ < s ∨ _ = s ∧ _ ≤ f; show (x.began.getD i (0, 0)).1 < s ∨ (x.began.getD i (0, 0)).1 = s ∧ (x.began.getD i (0, 0)).2 ≤ f; omega
    · have := b.ov
      show ((x.began.getD i (0, 0)).1 + x.win < s ∨ (x.began.getD i (0, 0)).1 + x.win = s ∧ (x.began.getD i (0, 0)).2 ≤ f) ∨ Tab.when x.all i - x.win / 2 ≤ (x.began.getD i (0, 0)).1
      omega
  · have d := h.cg i c hc
    exact ⟨d.f0, d.f1, d.hi, d.lo⟩
theorem Sv.Num.at' {x : Sv} (h : x.Num) {s f : Int} (ht : isT s f = true) : (x.at' s f).Num := ⟨h.mode, h.f0, h.f1, ht, h.sl, h.sok, h.r0⟩
theorem tSum_later {a b s f : Int} (h : isT s f = true) (hb : isT a b = true) : tLater a b (tSum a b s f).1 (tSum a b s f).2 = false := by
  obtain ⟨s0, s1, f0, f1⟩ := isT_bd h
  obtain ⟨n0, n1, m0, m1⟩ := isT_bd hb
  unfold tLater tSum
  refine decide_eq_false (fun h => ?_)
  simp only at h
  omega
theorem Sv.Inv.adv {x : Sv} (h : x.Inv) (s f : Int) : (x.adv s f).2.Inv := by
  unfold Sv.adv
  split
  · exact h
  · rename_i c1
    have c1' : isT s f = true := by simpa using c1
    split
    · exact h
    · rename_i c2
      have c2' : isT (tSum x.ns x.nf s f).1 (tSum x.ns x.nf s f).2 = true := by simpa using c2
      have hl := tSum_later c1' h.num.t
      generalize tSum x.ns x.nf s f = q at *
      cases hd : x.ld with
      | true => exact ((h.mid hd).at' _ _ hl).inv (h.num.at' c2') hd (h.fl hd) (h.ex hd)
      | false =>
        show ((x.at' q.1 q.2).weigh).Inv
        unfold Sv.weigh
        rw [if_pos (by exact hd)]
        exact ⟨h.num.at' c2', fun _ => h.no hd, fun e => (by have e' : x.ld = true := e; rw [hd] at e'; cases e'), fun e => (by have e' : x.ld = true := e; rw [hd] at e'; cases e'), fun e => (by have e' : x.ld = true := e; rw [hd] at e'; cases e'), fun e => (by have e' : x.ld = true := e; rw [hd] at e'; cases e')⟩
theorem Sv.Inv.lens {x : Sv} (h : x.Inv) : x.done.length + x.com.length ≤ 40 ∧ x.began.length = x.done.length := by
  cases hd : x.ld with
  | true =>
    have g := (h.mid hd).fit.good.len
    rw [x.all_length] at g
    exact ⟨g, (h.mid hd).bl⟩
  | false =>
    obtain ⟨a, b, c, _⟩ := h.no hd
    rw [a, b, c]; simp
theorem Sv.Inv.refuse {x : Sv} (h : x.Inv) : x.refuse.Inv :=
  ⟨⟨h.num.mode, h.num.f0, h.num.f1, h.num.t, h.num.sl, h.num.sok, by have := h.num.r0; show 0 ≤ x.ref + 1; omega⟩, h.no, fun e => by
    have m := h.mid e
    exact ⟨m.fit, m.pos, m.first, m.bl, fun i hi => by have b := m.bg i hi; exact ⟨b.f0, b.f1, b.hi, b.lo, b.now, b.ov⟩, fun i c hc => by have b := m.cg i c hc; exact ⟨b.f0, b.f1, b.hi, b.lo⟩⟩, h.lat, h.ex, h.fl⟩
theorem Sv.says_mid {x : Sv} (m : x.Mid) (k : Nat) (leap : Int) : (x.says k leap).Mid :=
  ⟨m.fit, m.pos, m.first, m.bl, fun i hi => by have b := m.bg i hi; exact ⟨b.f0, b.f1, b.hi, b.lo, b.now, b.ov⟩, fun i c hc => by have b := m.cg i c hc; exact ⟨b.f0, b.f1, b.hi, b.lo⟩⟩
theorem Sv.says_num {x : Sv} (h : x.Num) (k : Nat) (leap : Int) (l0 : 0 ≤ leap) (l1 : leap ≤ 3) : (x.says k leap).Num := by
  refine ⟨h.mode, h.f0, h.f1, h.t, by show (x.said.set k _).length ≤ 8; rw [List.length_set]; exact h.sl, fun q hq => ?_, h.r0⟩
  rcases List.mem_or_eq_of_mem_set (show q ∈ x.said.set k _ from hq) with e | e
  · exact h.sok q e
  · subst e
    exact ⟨h.t', l0, l1⟩
theorem Sv.Inv.hear {x : Sv} (h : x.Inv) (src leap : Int) : (x.hear src leap).2.Inv := by
  unfold Sv.hear
  split
  · exact h
  · split
    · exact h
    · rename_i c2
      have nn := Sv.says_num h.num src.toNat leap (by omega) (by omega)
      cases hd : x.ld with
      | true => exact (Sv.says_mid (h.mid hd) src.toNat leap).inv nn hd (h.fl hd) (h.ex hd)
      | false =>
        show ((x.says src.toNat leap).weigh).Inv
        unfold Sv.weigh
        rw [if_pos (by exact hd)]
        exact ⟨nn, fun _ => h.no hd, fun e => (by have e' : x.ld = true := e; rw [hd] at e'; cases e'), fun e => (by have e' : x.ld = true := e; rw [hd] at e'; cases e'), fun e => (by have e' : x.ld = true := e; rw [hd] at e'; cases e'), fun e => (by have e' : x.ld = true := e; rw [hd] at e'; cases e')⟩
/-- Of the first file: what has begun, among the first k entries. -/
def Sv.tk (x : Sv) (ls : List (Int × Int)) : Nat → List (Int × Int) × List (Int × Int)
  | 0 => (x.done, x.began)
  | k + 1 => if Tab.when ls k ≤ x.ns then ((x.tk ls k).1 ++ [ls.getD k (0, 0)], (x.tk ls k).2 ++ [(Tab.when ls k - x.win, 0)]) else x.tk ls k
/-- An entry that is to come from now on. -/
def Sv.cmAt (x : Sv) (ls : List (Int × Int)) (i : Nat) : Cm := ⟨(ls.getD i (0, 0)).1, (ls.getD i (0, 0)).2, (x.opens (Tab.when ls i)).1, (x.opens (Tab.when ls i)).2, false⟩
/-- k entries from the i-th on. -/
def Sv.cms (x : Sv) (ls : List (Int × Int)) (i : Nat) : Nat → List Cm
  | 0 => []
  | k + 1 => x.cms ls i k ++ [x.cmAt ls (i + k)]
def Sv.begun1 (x : Sv) (ls : List (Int × Int)) : Sv := if x.ld = false then { x with done := (x.tk ls ls.length).1, began := (x.tk ls ls.length).2 } else x
def Sv.stamp (x : Sv) (up ex : Int) : Sv := { x with ld := true, up := up, ex := ex, com := [] }
def Sv.comes (x : Sv) (ls : List (Int × Int)) (k : Nat) : Sv := { x with com := x.cms ls x.done.length k }
/-- P11: a file is taken. -/
def Sv.taken (x : Sv) (up ex : Int) (ls : List (Int × Int)) : Sv := ((x.begun1 ls).stamp up ex).comes ls (ls.length - (x.begun1 ls).done.length)
/-- P11. -/
def Sv.load (x : Sv) (g : Txt.Got) : Int × Int × Sv := if x.loadErr g ≠ 0 then (x.loadErr g, g.num, x.refuse) else (0, 0, (x.taken g.up g.ex g.ls).weigh)
theorem Sv.cms_length (x : Sv) (ls : List (Int × Int)) (i k : Nat) : (x.cms ls i k).length = k := by
  induction k with
  | zero => rfl
  | succ k ih => simp [Sv.cms, ih]
theorem Sv.cms_at (x : Sv) (ls : List (Int × Int)) (i k j : Nat) (c : Cm) (h : (x.cms ls i k)[j]? = some c) : j < k ∧ c = x.cmAt ls (i + j) := by
  induction k with
  | zero => simp [Sv.cms] at h
  | succ k ih =>
    simp only [Sv.cms] at h
    by_cases e : j < k
    · rw [List.getElem?_append_left (by rw [x.cms_length]; exact e)] at h
      exact ⟨by omega, (ih h).2⟩
    · rw [List.getElem?_append_right (by rw [x.cms_length]; omega), x.cms_length] at h
      by_cases e' : j = k
      · subst e'; simp at h; exact ⟨by omega, h.symm⟩
      · rw [List.getElem?_eq_none (by simp; omega)] at h; cases h
theorem Sv.cms_map (x : Sv) (ls : List (Int × Int)) (i k : Nat) (h : i + k ≤ ls.length) : (x.cms ls i k).map cmP = (ls.drop i).take k := by
  induction k with
  | zero => simp [Sv.cms]
  | succ k ih =>
    have e1 := getD_at (ls := ls) (i + k) (by omega)
    rw [Sv.cms, List.map_append, ih (by omega), List.take_succ_eq_append_getElem (show k < (ls.drop i).length by rw [List.length_drop]; omega)]
    congr 1
    rw [List.getElem_drop]
    show [((ls.getD (i + k) (0, 0)).1, (ls.getD (i + k) (0, 0)).2)] = _
    rw [e1]
theorem Sv.cms_v (x : Sv) (ls : List (Int × Int)) (i k : Nat) : ∀ c ∈ x.cms ls i k, c.v = false := fun c hc => by
  obtain ⟨j, hj, rfl⟩ := List.getElem_of_mem hc
  rw [(x.cms_at ls i k j _ (List.getElem?_eq_getElem hj)).2]; rfl
/-- Of the first file the first entries have begun. -/
theorem Sv.tk_eq {x : Sv} {ls : List (Int × Int)} (hd : x.done = []) (hb : x.began = []) (hf : Tab.Fit ls) (k : Nat) (hk : k ≤ ls.length) :
    (x.tk ls k).1 = ls.take (min k (Tab.lastAt ls x.ns ls.length + 1).toNat) ∧ (x.tk ls k).2.length = min k (Tab.lastAt ls x.ns ls.length + 1).toNat ∧ ∀ i, i < min k (Tab.lastAt ls x.ns ls.length + 1).toNat → (x.tk ls k).2.getD i (0, 0) = (Tab.when ls i - x.win, 0) := by
  have lb := Tab.lastAt_bd ls x.ns ls.length
  induction k with
  | zero => simp [Sv.tk, hd, hb]
  | succ k ih =>
    obtain ⟨i1, i2, i3⟩ := ih (by omega)
    have q := hf.lastAt_iff x.ns ls.length k (Nat.le_refl _) (by omega)
    unfold Sv.tk
    by_cases c : Tab.when ls k ≤ x.ns
    · have c' := q.1 c
      rw [if_pos c]
      have m1 : min k (Tab.lastAt ls x.ns ls.length + 1).toNat = k := by omega
      have m2 : min (k + 1) (Tab.lastAt ls x.ns ls.length + 1).toNat = k + 1 := by omega
      rw [m1] at i1 i2 i3
      rw [m2]
      refine ⟨?_, by simp [i2], fun i hi => ?_⟩
      · show (x.tk ls k).1 ++ [ls.getD k (0, 0)] = _
        rw [i1, List.take_succ_eq_append_getElem (by omega), getD_at k (by omega)]
      · show ((x.tk ls k).2 ++ [(Tab.when ls k - x.win, 0)]).getD i (0, 0) = _
        by_cases e : i = k
        · subst e
          have := getD_new (x.tk ls i).2 (Tab.when ls i - x.win, 0)
          rw [i2] at this; exact this
        · rw [getD_leftI _ _ _ (by rw [i2]; omega)]; exact i3 i (by omega)
    · rw [if_neg c]
      have c' : ¬ (k : Int) ≤ Tab.lastAt ls x.ns ls.length := fun e => c (q.2 e)
      have m1 : min (k + 1) (Tab.lastAt ls x.ns ls.length + 1).toNat = min k (Tab.lastAt ls x.ns ls.length + 1).toNat := by omega
      rw [m1]
      exact ⟨i1, i2, i3⟩
/-- What holds where a file agrees. -/
theorem Sv.Inv.mid1 {x : Sv} (h : x.Inv) {ls : List (Int × Int)} (hf : Tab.Fit ls) (ha : x.agrees ls = true) :
    ∃ m, m ≤ ls.length ∧ 0 < m ∧ (x.begun1 ls).done = ls.take m ∧ (x.begun1 ls).began.length = m ∧ Tab.when ls 0 ≤ x.ns ∧ (m < ls.length → x.ns < Tab.when ls m) ∧ (∀ i, i < m → x.Bg (Tab.when ls i) ((x.begun1 ls).began.getD i (0, 0)).1 ((x.begun1 ls).began.getD i (0, 0)).2) ∧
      (x.begun1 ls) = { x with done := (x.begun1 ls).done, began := (x.begun1 ls).began } := by
  obtain ⟨t0, t1, t2, t3⟩ := h.num.t'
  obtain ⟨w0, w1⟩ := h.num.win
  rcases (Bool.eq_false_or_eq_true x.ld).symm with hd | hd
  · have a0 : Tab.when ls 0 ≤ x.ns := by
      unfold Sv.agrees at ha
      rw [if_pos hd] at ha
      exact of_decide_eq_true ha
    obtain ⟨n1, n2, n3, _⟩ := h.no hd
    obtain ⟨k1, k2, k3⟩ := Sv.tk_eq (x := x) n1 n2 hf ls.length (Nat.le_refl _)
    have l := hf.lastAt_le x.ns a0
    have e : x.begun1 ls = { x with done := (x.tk ls ls.length).1, began := (x.tk ls ls.length).2 } := by unfold Sv.begun1; rw [if_pos hd]
    have m1 : min ls.length (Tab.lastAt ls x.ns ls.length + 1).toNat = (Tab.lastAt ls x.ns ls.length + 1).toNat := by omega
    rw [m1] at k1 k2 k3
    refine ⟨(Tab.lastAt ls x.ns ls.length + 1).toNat, by omega, by omega, by rw [e]; exact k1, by rw [e]; exact k2, a0, fun q => ?_, fun i hi => ?_, by rw [e]⟩
    · have q' := hf.lastAt_iff x.ns ls.length (Tab.lastAt ls x.ns ls.length + 1).toNat (Nat.le_refl _) q
      by_cases z : x.ns < Tab.when ls (Tab.lastAt ls x.ns ls.length + 1).toNat
      · exact z
      · have := q'.1 (by omega); omega
    · rw [e]
      show x.Bg _ ((x.tk ls ls.length).2.getD i (0, 0)).1 ((x.tk ls ls.length).2.getD i (0, 0)).2
      rw [k3 i hi]
      have q := (hf.lastAt_iff x.ns ls.length i (Nat.le_refl _) (by omega)).2 (by omega)
      exact ⟨by simp, by simp, by simp only; omega, by simp, by simp only; omega, .inl (by simp only; omega)⟩
  · have e : x.begun1 ls = x := by unfold Sv.begun1; rw [if_neg (by rw [hd]; simp)]
    have m := h.mid hd
    unfold Sv.agrees at ha
    rw [if_neg (by rw [hd]; simp)] at ha
    split at ha
    · cases ha
    · rename_i hlen
      split at ha
      · rename_i htk
        have hA : ls = x.done ++ ls.drop x.done.length := by
          have := List.take_append_drop x.done.length ls
          rw [htk] at this
          exact this.symm
        have wD : ∀ i, i < x.done.length → Tab.when ls i = Tab.when x.done i := fun i hi => by
          have := Tab.when_append x.done (ls.drop x.done.length) i hi
          rw [← hA] at this
          exact this
        refine ⟨x.done.length, by omega, m.pos, by rw [e]; exact htk.symm, by rw [e]; exact m.bl, by rw [wD 0 m.pos]; exact m.firstD, fun q => ?_, fun i hi => ?_, by rw [e]⟩
        · simp only [Bool.or_eq_true, decide_eq_true_eq] at ha
          omega
        · rw [e, wD i hi]
          have b := m.bg i hi
          rw [show Tab.when x.all i = Tab.when x.done i from Tab.when_append _ _ _ hi] at b
          exact b
      · cases ha
theorem Sv.Inv.takenMid {x : Sv} (h : x.Inv) {ls : List (Int × Int)} (up ex : Int) (hf : Tab.Fit ls) (ha : x.agrees ls = true) : (x.taken up ex ls).Mid ∧ (x.taken up ex ls).Num ∧ (x.taken up ex ls).ld = true ∧ (∀ c ∈ (x.taken up ex ls).com, c.v = false) ∧ (x.taken up ex ls).up = up ∧ (x.taken up ex ls).ex = ex := by
  obtain ⟨m, h1, h2, h3, h4, h5, h6, h7, h8⟩ := h.mid1 hf ha
  unfold Sv.taken
  generalize x.begun1 ls = y at *
  obtain ⟨t0, t1, t2, t3⟩ := h.num.t'
  have dl : y.done.length = m := by rw [h3]; simp; omega
  have eo : ∀ T, (y.stamp up ex).opens T = x.opens T := fun T => by rw [h8]; rfl
  have en : (y.stamp up ex).ns = x.ns := by rw [h8]; rfl
  have ef : (y.stamp up ex).nf = x.nf := by rw [h8]; rfl
  have ew : (y.stamp up ex).win = x.win := by rw [h8]; rfl
  have hall : ((y.stamp up ex).comes ls (ls.length - y.done.length)).all = ls := by
    show y.done ++ ((y.stamp up ex).cms ls y.done.length (ls.length - y.done.length)).map cmP = ls
    rw [Sv.cms_map _ _ _ _ (by omega), h3]
    rw [show (ls.take m).length = m from by rw [← h3]; exact dl]
    rw [List.take_of_length_le (show (ls.drop m).length ≤ ls.length - m by simp)]
    exact List.take_append_drop m ls
  refine ⟨⟨by rw [hall]; exact hf, ?_, by rw [hall]; show _ ≤ (y.stamp up ex).ns; rw [en]; exact h5, ?_, fun i hi => ?_, fun i c hc => ?_⟩, ?_, rfl, ?_, rfl, rfl⟩
  · show 0 < y.done.length; omega
  · show y.began.length = y.done.length; omega
  · rw [hall]
    have b := h7 i (by have : i < y.done.length := hi; omega)
    exact ⟨b.f0, b.f1, b.hi, by show _ - (y.stamp up ex).win ≤ _; rw [ew]; exact b.lo, by show _ < (y.stamp up ex).ns ∨ _ = (y.stamp up ex).ns ∧ _ ≤ (y.stamp up ex).nf; rw [en, ef]; exact b.now, by show (_ + (y.stamp up ex).win < (y.stamp up ex).ns ∨ _ + (y.stamp up ex).win = (y.stamp up ex).ns ∧ _ ≤ (y.stamp up ex).nf) ∨ _ - (y.stamp up ex).win / 2 ≤ _; rw [en, ef, ew]; exact b.ov⟩
  · rw [hall]
    obtain ⟨hi, rfl⟩ := Sv.cms_at _ _ _ _ _ _ (show ((y.stamp up ex).cms ls y.done.length (ls.length - y.done.length))[i]? = some c from hc)
    show Sv.Cg _ (Tab.when ls (y.done.length + i)) _
    have hT : x.ns < Tab.when ls (y.done.length + i) := by
      have q := h6 (by omega)
      rw [dl]
      by_cases z : i = 0
      · subst z; exact q
      · have := hf.when_lt m (m + i) (by omega) (by omega); omega
    have q := Sv.opens_cg h.num hT (ls.getD (y.done.length + i) (0, 0)).1 (ls.getD (y.done.length + i) (0, 0)).2 false
    refine ⟨?_, ?_, ?_, ?_⟩
    · show 0 ≤ ((y.stamp up ex).opens _).2; rw [eo]; exact q.f0
    · show ((y.stamp up ex).opens _).2 < _; rw [eo]; exact q.f1
    · show ((y.stamp up ex).opens _).1 < _ ∨ ((y.stamp up ex).opens _).1 = _ ∧ ((y.stamp up ex).opens _).2 ≤ 0; rw [eo]; exact q.hi
    · show _ - (y.stamp up ex).win / 2 ≤ ((y.stamp up ex).opens _).1; rw [eo, ew]; exact q.lo
  · have nn := h.num
    rw [h8]
    exact ⟨nn.mode, nn.f0, nn.f1, nn.t, nn.sl, nn.sok, nn.r0⟩
  · exact Sv.cms_v _ _ _ _
theorem Sv.loadErr_ok {x : Sv} {t : ByteArray} (h : x.loadErr (Txt.parse t) = 0) : Tab.whole (Txt.parse t).up (Txt.parse t).ex (Txt.parse t).ls = true ∧ x.agrees (Txt.parse t).ls = true ∧ (Txt.parse t).num = 0 ∧ (Txt.parse t).err = 0 ∧ ¬ (x.ld = true ∧ (Txt.parse t).up < x.up) := by
  unfold Sv.loadErr at h
  split at h
  · rename_i q; exact absurd h q
  · rename_i q
    have q' : (Txt.parse t).err = 0 := by omega
    split at h
    · cases h
    · rename_i p
      split at h
      · cases h
      · rename_i r
        obtain ⟨a, b⟩ := Txt.parse_whole q'
        exact ⟨a, by simpa using r, b, q', p⟩
theorem Sv.Inv.load {x : Sv} (h : x.Inv) (t : ByteArray) : (x.load (Txt.parse t)).2.2.Inv := by
  unfold Sv.load
  split
  · exact h.refuse
  · rename_i q
    obtain ⟨a, b, _, _⟩ := Sv.loadErr_ok (x := x) (t := t) (by omega)
    obtain ⟨m, n, l, v, e1, e2⟩ := h.takenMid (Txt.parse t).up (Txt.parse t).ex (Tab.fit_of_whole a) b
    exact m.inv n l (.inl v) (by rw [e1, e2]; exact Tab.whole_bds a)
theorem init_inv {mode win src fresh s f : Int} (h : cfgB mode win src fresh s f = true) : (Sv.init mode win fresh s f src.toNat).Inv := by
  unfold cfgB at h
  simp only [Bool.and_eq_true, Bool.or_eq_true, decide_eq_true_eq] at h
  obtain ⟨⟨h1, h2⟩, h3⟩ := h
  refine ⟨⟨?_, h2.2.2.1, h2.2.2.2, h3, by show (List.replicate _ _).length ≤ 8; simp; omega, fun q hq => ?_, by show (0 : Int) ≤ 0; omega⟩, fun _ => ⟨rfl, rfl, rfl, rfl, rfl⟩, fun e => (by cases e), fun e => (by cases e), fun e => (by cases e), fun e => (by cases e)⟩
  · show (mode = 0 ∧ win = 0) ∨ ((mode = 1 ∨ mode = 2) ∧ 3600 ≤ win ∧ win ≤ 604800 ∧ win.tmod 2 = 0)
    rcases h1 with h1 | h1
    · exact .inl (of_decide_eq_true h1)
    · exact .inr (of_decide_eq_true h1)
  · obtain rfl := List.eq_of_mem_replicate (show q ∈ List.replicate _ noHd from hq)
    exact ⟨by unfold Hd.Ok; simp, by simp, by simp⟩
/-- A quotient, rounded up or down. -/
def quo (a b : Int) (up : Bool) : Int := if up = true then (a + b - 1) / b else a / b
theorem quo_two (x m W : Int) (up : Bool) (hm : 0 < m) : quo (quo x m up) W up = quo x (m * W) up := by
  unfold quo
  cases up
  · simp only [Bool.false_eq_true, if_false]
    rw [Int.ediv_ediv_of_nonneg (by omega)]
  · simp only [if_true]
    have e : (x + m - 1) / m + W - 1 = (x + m - 1 + m * (W - 1)) / m := by
      rw [Int.add_mul_ediv_left _ _ (by omega)]; omega
    rw [e, Int.ediv_ediv_of_nonneg (by omega)]
    congr 1
    rw [Int.mul_sub]; omega
theorem quo_add (a q b : Int) (up : Bool) (hb : 0 < b) : quo (a + q * b) b up = quo a b up + q := by
  unfold quo
  cases up
  · simp only [Bool.false_eq_true, if_false]
    rw [Int.add_mul_ediv_right _ _ (by omega)]
  · simp only [if_true]
    have : a + q * b + b - 1 = (a + b - 1) + q * b := by omega
    rw [this, Int.add_mul_ediv_right _ _ (by omega)]
/-- rise times rest, its whole seconds and its parts apart. -/
theorem quo_split (g rise r W : Int) (up : Bool) (hW : 0 < W) : quo (g * (W * 4294967296) + rise * r) (W * 4294967296) up = g + quo (rise * (r / 4294967296) + quo (rise * (r % 4294967296)) 4294967296 up) W up := by
  have e1 : rise * (r / 4294967296) + quo (rise * (r % 4294967296)) 4294967296 up = quo (rise * r) 4294967296 up := by
    have := quo_add (rise * (r % 4294967296)) (rise * (r / 4294967296)) 4294967296 up (by decide)
    rw [Int.add_comm, ← this]
    congr 1
    have h := Int.mul_ediv_add_emod r 4294967296
    have h2 : rise * (r % 4294967296) + rise * (r / 4294967296) * 4294967296 = rise * (4294967296 * (r / 4294967296) + r % 4294967296) := by
      rw [Int.mul_add, Int.mul_assoc, Int.mul_comm (r / 4294967296) 4294967296, Int.add_comm]
    rw [h2, h]
  rw [e1, quo_two _ _ _ _ (by decide), Int.add_comm, quo_add _ _ _ _ (by omega), Int.mul_comm W, Int.add_comm]
theorem quo_bd (a b c : Int) (up : Bool) (hb : 0 < b) (h0 : 0 ≤ a) (h1 : a ≤ c * b) : 0 ≤ quo a b up ∧ quo a b up ≤ c := by
  unfold quo
  cases up
  · simp only [Bool.false_eq_true, if_false]
    exact ⟨Int.ediv_nonneg h0 (by omega), Int.ediv_le_of_le_mul hb h1⟩
  · simp only [if_true]
    refine ⟨Int.ediv_nonneg (by omega) (by omega), ?_⟩
    have : (a + b - 1) / b < c + 1 := Int.ediv_lt_of_lt_mul hb (by rw [Int.add_mul]; omega)
    omega
theorem quo_nat (U D : Nat) (hD : 0 < D) : ((U / D : Nat) : Int) = quo U D false ∧ (((if U / D * D < U then U / D + 1 else U / D : Nat)) : Int) = quo U D true := by
  unfold quo
  refine ⟨by simp, ?_⟩
  simp only [if_true]
  have h := Nat.div_add_mod U D
  have m := Nat.mod_lt U hD
  have hc : D * (U / D) = U / D * D := Nat.mul_comm _ _
  by_cases c : U / D * D < U
  · rw [if_pos c]
    have e : ((U : Int) + D - 1) = ((U % D - 1 : Nat) : Int) + (((U / D + 1 : Nat)) : Int) * D := by
      have : (((U / D + 1 : Nat)) : Int) * D = ((U / D * D : Nat) : Int) + D := by push_cast; rw [Int.add_mul]; omega
      rw [this]; omega
    rw [e, Int.add_mul_ediv_right _ _ (by omega), Int.ediv_eq_zero_of_lt (by omega) (by omega)]; omega
  · rw [if_neg c]
    have e : ((U : Int) + D - 1) = ((D - 1 : Nat) : Int) + (((U / D : Nat)) : Int) * D := by
      have : (((U / D : Nat)) : Int) * D = ((U / D * D : Nat) : Int) := by push_cast; rfl
      rw [this]; omega
    rw [e, Int.add_mul_ediv_right _ _ (by omega), Int.ediv_eq_zero_of_lt (by omega) (by omega)]; omega
theorem pull_smooth {W n : Int} (h : PullOk W n) (up : Bool) : gZ (pI W n) + quo ((gZ (pI W n + 1) - gZ (pI W n)) * (pR W n / 4294967296) + quo ((gZ (pI W n + 1) - gZ (pI W n)) * (pR W n % 4294967296)) 4294967296 up) W up = quo (pullU 2 W n) (pullD 2 W) up := by
  unfold pullU pullD
  rw [if_neg (by decide), if_neg (by decide)]
  exact (quo_split _ _ _ _ _ h.w0).symm
/-- The pull at the k-th window, rounded up or down. -/
def Sv.pq (x : Sv) (k : Nat) (up : Bool) : Int := quo (pullU x.mode x.win (x.gap k)) (pullD x.mode x.win) up
theorem Sv.pq_bd {x : Sv} {k : Nat} (h : PullOk x.win (x.gap k)) (up : Bool) : 0 ≤ x.pq k up ∧ x.pq k up ≤ 4294967296 := by
  obtain ⟨a, b, c⟩ := h.u x.mode
  exact quo_bd _ _ _ _ c.1 a b
theorem Sv.pulled_eq {x : Sv} {k : Nat} (h : PullOk x.win (x.gap k)) : ((x.pulled k : Nat) : Int) = x.pq k false ∧ ((x.pulledUp k : Nat) : Int) = x.pq k true := by
  obtain ⟨a, b, c⟩ := h.u x.mode
  unfold Sv.pq Sv.pulledUp Sv.pulled
  generalize pullU x.mode x.win (x.gap k) = U at *
  generalize pullD x.mode x.win = D at *
  obtain ⟨u, rfl⟩ := Int.eq_ofNat_of_zero_le a
  obtain ⟨d, rfl⟩ := Int.eq_ofNat_of_zero_le (show 0 ≤ D by omega)
  exact quo_nat u d (by omega)
/-- A time that is moved by some parts. -/
def moved (s f p : Int) : Int × Int := if f + p < 0 then (s - 1, f + p + 4294967296) else if 4294967296 ≤ f + p then (s + 1, f + p - 4294967296) else (s, f + p)
theorem moved_up {s f p : Int} (f0 : 0 ≤ f) (f1 : f < 4294967296) (p0 : 0 ≤ p) (p1 : p ≤ 4294967296) : tSum s f 0 p = moved s f p := by
  unfold tSum moved
  rw [if_neg (by omega)]
  split
  · exact Prod.ext (by simp only; omega) (by simp only; omega)
  · exact Prod.ext (by simp only; omega) (by simp only; omega)
theorem moved_down {s f p : Int} (f0 : 0 ≤ f) (f1 : f < 4294967296) (p0 : 0 ≤ p) (p1 : p ≤ 4294967296) : tSum (s - 1) f 0 (4294967296 - p) = moved s f (-p) := by
  unfold tSum moved
  split
  · exact Prod.ext (by simp only; omega) (by simp only; omega)
  · rw [if_neg (by omega)]
    exact Prod.ext (by simp only; omega) (by simp only; omega)
theorem Sv.smeared_eq {x : Sv} {k : Nat} (h : PullOk x.win (x.gap k)) (f0 : 0 ≤ x.nf) (f1 : x.nf < 4294967296) : x.smeared k = if (x.done.getD k (0, 0)).2 < (x.done.getD (k - 1) (0, 0)).2 then moved (x.ns - (x.done.getD (k - 1) (0, 0)).2) x.nf (x.pq k false) else moved (x.ns - (x.done.getD (k - 1) (0, 0)).2) x.nf (-x.pq k true) := by
  obtain ⟨e1, e2⟩ := Sv.pulled_eq h
  unfold Sv.smeared
  rw [e1, e2]
  split
  · exact moved_up f0 f1 (Sv.pq_bd h _).1 (Sv.pq_bd h _).2
  · exact moved_down f0 f1 (Sv.pq_bd h _).1 (Sv.pq_bd h _).2
/-- How long ago a time was. -/
def gone (s f z g : Int) : Int × Int := if f - g < 0 then (s - z - 1, f - g + 4294967296) else (s - z, f - g)
theorem gone_later {s f z g k : Int} (f0 : 0 ≤ f) (f1 : f < 4294967296) (g0 : 0 ≤ g) (g1 : g < 4294967296) : tLater (gone s f z g).1 (gone s f z g).2 k 0 = tLater s f (tSum z g k 0).1 (tSum z g k 0).2 := by
  unfold gone tSum tLater
  split
  · exact decide_eq_decide.2 (by simp only; omega)
  · exact decide_eq_decide.2 (by simp only; omega)
theorem gone_till {s f z g k : Int} (f0 : 0 ≤ f) (f1 : f < 4294967296) (g0 : 0 ≤ g) (g1 : g < 4294967296) : tLater (tSum z g k 0).1 (tSum z g k 0).2 s f = decide ((gone s f z g).1 < k) := by
  unfold gone tSum tLater
  split
  · exact decide_eq_decide.2 (by simp only; omega)
  · exact decide_eq_decide.2 (by simp only; omega)
theorem gone_gap (s f z g : Int) : (gone s f z g).1 * 4294967296 + (gone s f z g).2 = (s - z) * 4294967296 + f - g := by
  unfold gone
  split
  · simp only; omega
  · simp only; omega
theorem gone_bd {s f z g : Int} (f0 : 0 ≤ f) (f1 : f < 4294967296) (g0 : 0 ≤ g) (g1 : g < 4294967296) (h : z < s ∨ (z = s ∧ g ≤ f)) : 0 ≤ (gone s f z g).1 ∧ (gone s f z g).1 ≤ s - z ∧ 0 ≤ (gone s f z g).2 ∧ (gone s f z g).2 < 4294967296 := by
  unfold gone
  split
  · simp only; omega
  · simp only; omega
/-- What the program knows of windows: when the last one began, if one did since New; else all are over. -/
def Opn (s : Sv) (op : Bool) (bs bf : Int) : Prop :=
  (op = true → 2 ≤ s.began.length ∧ s.began.getD (s.began.length - 1) (0, 0) = (bs, bf)) ∧ (op = false → ∀ i, i < s.began.length → (s.began.getD i (0, 0)).1 + s.win < s.ns ∨ ((s.began.getD i (0, 0)).1 + s.win = s.ns ∧ (s.began.getD i (0, 0)).2 ≤ s.nf))
theorem Sv.till_eq {x : Sv} (i : Nat) (h0 : 0 ≤ (x.began.getD i (0, 0)).2) (h1 : (x.began.getD i (0, 0)).2 < 4294967296) : x.till i = decide ((x.began.getD i (0, 0)).1 + x.win > x.ns ∨ ((x.began.getD i (0, 0)).1 + x.win = x.ns ∧ x.nf < (x.began.getD i (0, 0)).2)) := by
  unfold Sv.till tSum tLater
  exact decide_eq_decide.2 (by simp only; omega)
theorem Sv.Inv.pullOk {x : Sv} (h : x.Inv) (hl : x.ld = true) (k : Nat) (hk : k < x.done.length) (ht : x.till k = true) : PullOk x.win (x.gap k) := by
  have m := h.mid hl
  have w := h.num.mode
  obtain ⟨t0, t1, t2, t3⟩ := h.num.t'
  have b := m.bg k hk
  rw [Sv.till_eq k b.f0 b.f1] at ht
  have q := of_decide_eq_true ht
  have := b.now
  have := b.f0
  have := b.f1
  refine ⟨by omega, by omega, ?_, ?_⟩
  · unfold Sv.gap; omega
  · unfold Sv.gap pX; omega
def Sv.hd (x : Sv) (i : Nat) : Hd := x.said.getD i noHd
def Sv.freshB (x : Sv) (h : Hd) : Bool := h.said && !tLater x.ns x.nf (tSum h.ws h.wf x.fresh 0).1 (tSum h.ws h.wf x.fresh 0).2
/-- How many of the first k say so, and are fresh. -/
def Sv.cnt (x : Sv) (l : Int) : Nat → Int
  | 0 => 0
  | k + 1 => if (x.hd k).leap = l ∧ x.freshB (x.hd k) = true then x.cnt l k + 1 else x.cnt l k
theorem Sv.cnt_bd (x : Sv) (l : Int) (k : Nat) : 0 ≤ x.cnt l k ∧ x.cnt l k ≤ k := by
  induction k with
  | zero => simp [Sv.cnt]
  | succ k ih => unfold Sv.cnt; split <;> omega
theorem Sv.tally_cnt {x : Sv} (hs : ∀ h ∈ x.said, 0 ≤ h.leap ∧ h.leap ≤ 3) (k : Nat) (hk : k ≤ x.said.length) : x.tally k = (x.cnt 0 k + x.cnt 1 k + x.cnt 2 k, x.cnt 1 k, x.cnt 2 k) := by
  induction k with
  | zero => rfl
  | succ k ih =>
    have lk : k < x.said.length := by omega
    have e : x.said.getD k noHd = x.said[k] := by rw [List.getD_eq_getElem?_getD, List.getElem?_eq_getElem lk]; rfl
    have hb := hs _ (List.getElem_mem lk)
    rw [← e] at hb
    have eh : x.hd k = x.said.getD k noHd := rfl
    unfold Sv.tally Sv.cnt
    rw [ih (by omega), eh]
    generalize x.said.getD k noHd = h at *
    have ec : x.counts h = (x.freshB h && h.leap != 3) := rfl
    rw [ec]
    cases hf : x.freshB h with
    | false => simp
    | true =>
      obtain ⟨h0, h3⟩ := hb
      simp only [Bool.true_and, bne_iff_ne, ne_eq]
      have : h.leap = 0 ∨ h.leap = 1 ∨ h.leap = 2 ∨ h.leap = 3 := by omega
      rcases this with q | q | q | q
      · rw [q]; simp; omega
      · rw [q]; simp; omega
      · rw [q]; simp; omega
      · rw [q]; simp
theorem Sv.cnt_rest {x : Sv} (l : Int) (k : Nat) : x.cnt l (x.said.length + k) = x.cnt l x.said.length := by
  induction k with
  | zero => rfl
  | succ k ih =>
    have st : x.cnt l (x.said.length + k + 1) = if (x.hd (x.said.length + k)).leap = l ∧ x.freshB (x.hd (x.said.length + k)) = true then x.cnt l (x.said.length + k) + 1 else x.cnt l (x.said.length + k) := rfl
    rw [← Nat.add_assoc, st]
    have e : x.hd (x.said.length + k) = noHd := by
      unfold Sv.hd
      rw [List.getD_eq_getElem?_getD, List.getElem?_eq_none (by omega)]; rfl
    rw [e, if_neg (by intro h; cases h.2), ih]
theorem Sv.Num.most_eq {x : Sv} (h : x.Num) : x.most = if 2 * x.cnt 1 8 > x.cnt 1 8 + x.cnt 2 8 + x.cnt 0 8 then 1 else if 2 * x.cnt 2 8 > x.cnt 1 8 + x.cnt 2 8 + x.cnt 0 8 then -1 else 0 := by
  have e : ∀ l, x.cnt l 8 = x.cnt l x.said.length := fun l => by
    have := x.cnt_rest l (8 - x.said.length)
    rw [show x.said.length + (8 - x.said.length) = 8 from by have := h.sl; omega] at this
    exact this
  rw [e 0, e 1, e 2]
  unfold Sv.most
  rw [Sv.tally_cnt (fun q hq => (h.sok q hq).2) _ (Nat.le_refl _)]
  have : x.cnt 0 x.said.length + x.cnt 1 x.said.length + x.cnt 2 x.said.length = x.cnt 1 x.said.length + x.cnt 2 x.said.length + x.cnt 0 x.said.length := by omega
  simp only [this]
theorem Sv.fresh_eq {x : Sv} (h : Hd) (t2 : 0 ≤ x.nf) (t3 : x.nf < 4294967296) (w0 : 0 ≤ h.wf) (w1 : h.wf < 4294967296) : x.freshB h = (h.said && !tLater (gone x.ns x.nf h.ws h.wf).1 (gone x.ns x.nf h.ws h.wf).2 x.fresh 0) := by
  unfold Sv.freshB
  rw [gone_later t2 t3 w0 w1]
theorem Sv.Num.hd_ok {x : Sv} (h : x.Num) (i : Nat) : (x.hd i).Ok ∧ 0 ≤ (x.hd i).leap ∧ (x.hd i).leap ≤ 3 := by
  unfold Sv.hd
  rw [List.getD_eq_getElem?_getD]
  cases e : x.said[i]? with
  | none => exact ⟨⟨by decide, by decide, by decide, by decide⟩, by decide, by decide⟩
  | some q => exact h.sok q (List.mem_of_getElem? e)
end Go.Proofs.YtmmkhodaljpjgabGreatDoor
