import Derived.Test.YtmmkhodaljpjgabGreatDoorW29
namespace Go.Proofs.YtmmkhodaljpjgabGreatDoor
open Go.RowKit
theorem begun_cfg {v mode win s f : Int} (hm : mode = v % 3) (hw : win = if 0 < mode then 3600 + 2 * (v % 300601) else 0) (s0 : 0 ≤ s) (s1 : s ≤ 34000000000) (f0 : 0 ≤ f) (f1 : f < 4294967296) : cfgB mode win 3 300000 s f = true := by
  unfold cfgB stepB smearB isT
  simp only [Bool.and_eq_true, Bool.or_eq_true, decide_eq_true_eq]
  have : win.tmod 2 = win % 2 ∨ win < 0 := by
    by_cases c : 0 ≤ win
    · exact .inl (Int.tmod_eq_emod_of_nonneg c)
    · omega
  refine ⟨⟨?_, by omega⟩, by omega⟩
  split at hw <;> omega
/-- What 'begun' leaves. -/
def KBegP (w : World) (e : Ending) (w' : World) : Prop := ∃ (q : Tq) (n : Nat) (s : Sv) (F : Nat → Prop), e = .returned (.pointer (some ⟨q.bt, 0, none⟩)) ∧ Tri q w.heap.size 0 n s F w' ∧ Below w.heap.size w w'
/-- The parts, put together. -/
theorem tri_of {bt bx g N cap n : Nat} {up ex mode win st fr : Int} {ls : List (Int × Int)} {F F' : Nat → Prop} {w W W' : World} {t : ByteArray} (hcf : cfgB mode win 3 300000 st fr = true) (hT : Table w) (hP : Pows w)
    (hw : Tab.whole up ex ls = true) (hu : up = (ls.getD 0 (0, 0)).1) (hlen : ls.length = N) (hN : N ≤ 12) (hbd : ∀ p ∈ ls, (0 ≤ p.1 ∧ p.1 ≤ 5000000000) ∧ 0 ≤ p.2 ∧ p.2 ≤ 200) (u0 : 0 ≤ up) (u1 : up ≤ 5000000000) (x0 : 0 ≤ ex) (x1 : ex ≤ 6000000000) (n1 : 1 ≤ n) (n2 : n ≤ N) (hst : st = (ls.getD 0 (0, 0)).1 + (ls.getD 0 (0, 0)).2 + 86400)
    (short : Bool) (ht : t = (Txt.printed up (fileEx ex ls n short) (ls.take n)).1)
    (hrow : TrRow bt (.pointer none) up ex (.slice (some ⟨g, 0, none⟩) N cap) n mode win W) (hl : Lies W g ls) (lg : g < W.heap.size) (hgb : g ≠ bt) (gB : w.heap.size ≤ g) (bB : w.heap.size ≤ bt) (fB : ∀ k, F k → w.heap.size ≤ k) (fb : ¬ F bt) (fg : ¬ F g) (hb : Below w.heap.size w W)
    (hp : PS bx ((Sv.init mode win 300000 st fr 3).load (Txt.parse t)).2.2 F' W') (ho : Off F W W') (hf : ∀ k, F' k → F k ∨ W.heap.size ≤ k) :
    ((Sv.init mode win 300000 st fr 3).load (Txt.parse t)).1 = 0 ∧ Tri ⟨bt, bx, g, N, cap, up, ex, mode, win, ls⟩ w.heap.size 0 n ((Sv.init mode win 300000 st fr 3).load (Txt.parse t)).2.2 F' (W'.setCell ⟨bt, 0, none⟩ (.pointer (some ⟨bx, 0, none⟩))) ∧ Below w.heap.size w (W'.setCell ⟨bt, 0, none⟩ (.pointer (some ⟨bx, 0, none⟩))) := by
  have fw := file_whole hw hu hbd n n1 (by omega) short
  have pp : Txt.parse t = ⟨up, fileEx ex ls n short, ls.take n, 0, 0⟩ := by rw [ht]; exact printed_parse fw
  have wn : Tab.when (Txt.parse t).ls 0 ≤ st := by
    rw [pp]
    show Tab.when (ls.take n) 0 ≤ st
    rw [Tab.when_zero, getD_take _ _ _ (by omega)]
    omega
  have iv : (Sv.init mode win 300000 st fr 3).Inv := init_inv hcf
  obtain ⟨e0, e1, e2, e3, e4⟩ := Sv.first_load (mode := mode) (win := win) (fresh := 300000) (s := st) (f := fr) (n := 3) (g := Txt.parse t) (by rw [pp]) wn
  have lb := lt_of_heap hrow
  have sz := hb.size
  have hrow' := ho.heap hrow fb
  have hbW : Below w.heap.size w W' := hb.trans (ho.below fB sz)
  have r1 := heap_setCell_same _ bt 0 _ 31 (.pointer (some ⟨bx, 0, none⟩)) hrow'
  have r2 : #[Value.pointer none, .int .i64 up, .int .i64 ex, .slice (some ⟨g, 0, none⟩) N cap, .int .i64 (n : Int), .int .i64 mode, .int .i64 win].setIfInBounds 0 (.pointer (some ⟨bx, 0, none⟩)) = #[.pointer (some ⟨bx, 0, none⟩), .int .i64 up, .int .i64 ex, .slice (some ⟨g, 0, none⟩) N cap, .int .i64 n, .int .i64 mode, .int .i64 win] := rfl
  rw [r2] at r1
  have nb : ¬ F' bt := fun e => by rcases hf _ e with a | a; exact fb a; omega
  have ng : ¬ F' g := fun e => by rcases hf _ e with a | a; exact fg a; omega
  have bs := hbW.setCell (p := ⟨bt, 0, none⟩) bB (.pointer (some ⟨bx, 0, none⟩))
  refine ⟨e0, ⟨r1, ⟨hlen, hN, hbd, u0, u1, x0, x1⟩, fun i hi => ?_, ?_, hp.keep (fun k hk => heap_setCell_other _ _ _ _ (fun e => nb (by have e' : k = bt := e; rw [← e']; exact hk))), nb, ng, hgb, fun k e => ?_, bB, gB, bs.size, n1, n2, iv.load t, e1, Sv.wd_load iv (Sv.init_wd _ _ _ _ _ _) t, e2, e3, by rw [e4]; exact Int.le_refl _, w, rfl, hT, hP, bs⟩, bs⟩
  · have c := hl i hi
    have k : ∀ j, (W'.setCell ⟨bt, 0, none⟩ (.pointer (some ⟨bx, 0, none⟩))).cell? ⟨g, j, none⟩ = W.cell? ⟨g, j, none⟩ := fun j => World.cell?_of_block ((heap_setCell_other _ _ _ _ hgb).trans (ho.block g lg fg))
    exact ⟨(k _).trans c.1, (k _).trans c.2⟩
  · have := ho.size
    simp
    omega
  · rcases hf _ e with a | a
    · exact fB k a
    · omega
theorem below_two {w Z W : World} (h : Below w.heap.size w Z) (g : Below Z.heap.size Z W) : Below w.heap.size w W := h.trans (g.mono h.size)
theorem bg_new (mode win s f : Int) (W : World) (ww : (Lit.int .i64 win).wf = true) (hcf : cfgB mode win 3 300000 s f = true) : Calls Tryz.prog 17 #[.agg #[.int .i64 mode, .int .i64 win, .int .i64 3, .int .i64 300000, .int .i64 s, .int .i64 f]] W fun e w' => ∃ b F, e = .returned (.tuple #[.pointer (some ⟨b, 0, none⟩), .int .i64 0]) ∧ PS b (Sv.init mode win 300000 s f 3) F w' ∧ (∀ k, F k → W.heap.size ≤ k) ∧ Below W.heap.size W w' :=
  Calls.mono (p_new mode win 3 300000 s f ww W) fun _ _ h => h.2 hcf
set_option maxRecDepth 100000 in
set_option maxHeartbeats 6400000 in
theorem k_begun (c : Int) (lo : Option Addr) (L lcap : Nat) (w : World) (wc : (Lit.int .i64 c).wf = true) (hI : Ints w lo L) (hL : L ≤ 9223372036854775807) (hT : Table w) (hP : Pows w) :
    Calls Tryz.prog 8 #[.int .i64 c, .slice lo L lcap] w fun e w' => KBegP w e w' := by
  have KT := hid' (keep_table c lo L lcap w wc hI hL)
  have vb := kpick_bd c 1099511627776 (by omega)
  have PK := hid' (fun W => keep_pick c 1099511627776 W wc (by omega) (by omega))
  have HT := hid' hT
  have HP := hid' hP
  clear wc hI hT hP
  generalize kpick c 1099511627776 = v at *
  go_enter Tryz.func8, Tryz.ntmps8
  go_wp2_with fail
  refine (PK.out _).mono ?_
  rintro e w ⟨rfl, rfl⟩
  go_wp2_with fail
  refine KT.out.mono ?_
  rintro e w1 ⟨up, ex, lv, ls, rfl, own, hwh, h12, hsm, u0, u1, x0, x1, bel, hup⟩
  have hG := Tab.good_of_whole hwh
  obtain ⟨g, cap, rfl⟩ := own_some own hG.pos
  obtain ⟨N, hN⟩ : ∃ N, ls.length = N := ⟨_, rfl⟩
  have LS := hid' (lies_of own rfl)
  have lg : g < w1.heap.size := (own.lt _ rfl).2
  have gB : w.heap.size ≤ g := own_ge own g rfl
  have N0 : 0 < N := by have := hG.pos; omega
  have at0 := hsm _ (List.getElem_mem (show 0 < ls.length by omega))
  have cc := LS.out 0 (by omega)
  rw [← getD_at 0 (by omega)] at at0 cc
  have e0 : (0 : Nat) * 2 = 0 := rfl
  simp only [Nat.zero_mul, Nat.zero_add] at cc
  rw [hN] at h12 ⊢
  have HW := hid' hwh
  have HSM := hid' hsm
  have HUP := hid' hup
  have HN := hid' hN
  have a1 := (Below.refl w1.heap.size w1).alloc (Nat.le_refl _) (.cells #[.int .i64 up, .int .i64 ex, .slice (some ⟨g, 0, none⟩) N cap] 29)
  have BV := hid' (bel.trans (a1.mono bel.size))
  have RV := hid' (heap_alloc_new w1 (.cells #[.int .i64 up, .int .i64 ex, .slice (some ⟨g, 0, none⟩) N cap] 29))
  have LV := hid' (LS.out.below lg a1)
  have lgV := Nat.lt_of_lt_of_le lg a1.size
  have cV := hid' (And.intro ((a1.cell (p := ⟨g, 0, none⟩) lg).trans cc.1) ((a1.cell (p := ⟨g, 1, none⟩) lg).trans cc.2))
  have zV : (w1.alloc (.cells #[.int .i64 up, .int .i64 ex, .slice (some ⟨g, 0, none⟩) N cap] 29)).heap.size = w1.heap.size + 1 := by simp
  have sw := bel.size
  have md := Int.emod_nonneg v (show (N : Int) ≠ 0 by omega)
  have ml := Int.emod_lt_of_pos v (show (0 : Int) < N by omega)
  clear own hG a1 cc e0 hwh hsm hup hN bel KT PK LS
  go_upto_region 3 with fail
  generalize w1.alloc (.cells #[.int .i64 up, .int .i64 ex, .slice (some ⟨g, 0, none⟩) N cap] 29) = V at *
  have v0 := cell_of_row _ _ 0 _ _ _ RV.out
  have v1 := cell_of_row _ _ 1 _ _ _ RV.out
  have v2 := cell_of_row _ _ 2 _ _ _ RV.out
  simp at v0 v1 v2
  obtain ⟨n, hn⟩ : ∃ n : Nat, 1 + v % (N : Int) = n := ⟨(1 + v % (N : Int)).toNat, by omega⟩
  obtain ⟨a0, ha0⟩ : ∃ a0, (ls.getD 0 (0, 0)).1 = a0 := ⟨_, rfl⟩
  obtain ⟨o0, ho0⟩ : ∃ o0, (ls.getD 0 (0, 0)).2 = o0 := ⟨_, rfl⟩
  rw [ha0, ho0] at at0
  have HA0 := hid' ha0
  have HO0 := hid' ho0
  have RT0 := hid' (heap_alloc_new V (.cells #[.pointer none, .int .i64 up, .int .i64 ex, .slice (some ⟨g, 0, none⟩) N cap, .int .i64 (1 + v % (N : Int)), .int .i64 (v % 3), .int .i64 0] 31))
  rw [zV] at RT0
  have n1 : 1 ≤ n := by omega
  have n2 : n ≤ N := by omega
  have HNN := hid' hn
  clear ha0 ho0 hn
  go_cut [7] from 15 (fun s7 wx => s7 = .pointer (some ⟨w1.heap.size + 1, 0, none⟩) ∧ wx.heap[w1.heap.size + 1]? = some (.cells #[.pointer none, .int .i64 up, .int .i64 ex, .slice (some ⟨g, 0, none⟩) N cap, .int .i64 (n : Int), .int .i64 (v % 3), .int .i64 0] 31 (0, 0)) ∧ wx.heap.size = w1.heap.size + 2 ∧ Below V.heap.size V wx)
  case first =>
    go_region
    all_goals
      go_wp2_with fail
      go_meet
      case rel => exact ⟨rfl, by rw [← HNN.out]; exact RT0.out, by simp [zV], ((Below.refl V.heap.size V).alloc (Nat.le_refl _) _).drew⟩
  case rest =>
    obtain ⟨rfl, rt, sz, bx⟩ := hcut
    rename World => X
    have TBX := hid' ((bx.block _ (lt_of_heap RV.out)).trans RV.out)
    have LX := hid' (LV.out.below lgV bx)
    have lgX := Nat.lt_of_lt_of_le lgV bx.size
    have BX := hid' (BV.out.trans (bx.mono BV.out.size))
    have RX := hid' rt
    have SZ := hid' sz
    clear sz
    have r5 := cell_of_row _ _ 5 _ _ _ rt
    have r6 := cell_of_row _ _ 6 _ _ _ rt
    have f6 := frozen_of_row _ _ 6 _ _ rt
    simp at r5 r6
    clear rt bx RV LV BV RT0 v0 v1 v2 cV HNN
    by_cases hm : 0 < v % 3
    · have RTW := hid' (heap_setCell_same _ (w1.heap.size + 1) 6 _ 31 (.int .i64 (3600 + 2 * (v % 300601))) RX.out)
      have OTH : (X.setCell ⟨w1.heap.size + 1, 6, none⟩ (.int .i64 (3600 + 2 * (v % 300601)))).heap[w1.heap.size]? = some (.cells #[.int .i64 up, .int .i64 ex, .slice (some ⟨g, 0, none⟩) N cap] 29 (0, 0)) := (heap_setCell_other _ _ _ _ (by show w1.heap.size ≠ w1.heap.size + 1; omega)).trans TBX.out
      have RT := hid' (RTW.out : TrRow (w1.heap.size + 1) (.pointer none) up ex (.slice (some ⟨g, 0, none⟩) N cap) n (v % 3) (3600 + 2 * (v % 300601)) (X.setCell ⟨w1.heap.size + 1, 6, none⟩ (.int .i64 (3600 + 2 * (v % 300601)))))
      have BW := hid' (BX.out.setCell (p := ⟨w1.heap.size + 1, 6, none⟩) (by show w.heap.size ≤ w1.heap.size + 1; omega) _ : Below w.heap.size w (X.setCell ⟨w1.heap.size + 1, 6, none⟩ (.int .i64 (3600 + 2 * (v % 300601)))))
      have TB := hid' OTH
      have LW := hid' (LX.out.off lgX ((Off.refl (fun j => j = w1.heap.size + 1) X).setCell (p := ⟨w1.heap.size + 1, 6, none⟩) (fun _ => rfl) (.int .i64 (3600 + 2 * (v % 300601)))) (by omega))
      have GW : g < (X.setCell ⟨w1.heap.size + 1, 6, none⟩ (.int .i64 (3600 + 2 * (v % 300601)))).heap.size := by simpa using lgX
      have CF := hid' (begun_cfg (v := v) (mode := v % 3) (win := (3600 + 2 * (v % 300601))) (s := a0 + o0 + 86400) (f := v % 4294967296) rfl (by rw [if_pos hm]) (by omega) (by omega) (by omega) (by omega))
      have PN := hid' (fun W => bg_new (v % 3) (3600 + 2 * (v % 300601)) (a0 + o0 + 86400) (v % 4294967296) W (wf_of (by omega) (by omega)) CF.out)
      have WS : Hid ((X.setCell ⟨w1.heap.size + 1, 6, none⟩ (.int .i64 (3600 + 2 * (v % 300601)))).heap.size = w1.heap.size + 2) := by show _ = _; simpa using SZ.out
      go_upto_region 6 with fail
      generalize X.setCell ⟨w1.heap.size + 1, 6, none⟩ (.int .i64 (3600 + 2 * (v % 300601))) = W at *
      have t2 := cell_of_row _ _ 2 _ _ _ TB.out
      have g0 : W.cell? ⟨g, 0, none⟩ = some (.int .i64 a0) := by
        have h := (LW.out 0 (by rw [HN.out]; omega)).1
        rw [← getD_at 0 (by rw [HN.out]; omega), HA0.out] at h
        exact h
      have g1 : W.cell? ⟨g, 1, none⟩ = some (.int .i64 o0) := by
        have h := (LW.out 0 (by rw [HN.out]; omega)).2
        rw [← getD_at 0 (by rw [HN.out]; omega), HO0.out] at h
        exact h
      simp at t2
      have aW := (Below.refl W.heap.size W).alloc (Nat.le_refl _) (.cells #[.int .i64 0, .int .i64 0] 33)
      have t2a := (aW.cell (p := ⟨w1.heap.size, 2, none⟩) (lt_of_heap TB.out)).trans t2
      have g0a := (aW.cell (p := ⟨g, 0, none⟩) GW).trans g0
      have g1a := (aW.cell (p := ⟨g, 1, none⟩) GW).trans g1
      clear aW
      go_cut [8] from 15 (fun s8 wy => s8 = .pointer (some ⟨W.heap.size, 0, none⟩) ∧ wy.heap[W.heap.size]? = some (.cells #[.int .i64 (a0 + o0 + 86400), .int .i64 (v % 4294967296)] 33 (0, 0)) ∧ Below W.heap.size W wy)
      case first =>
        go_region
        all_goals
          go_wp2_with fail
          go_meet
          case rel => exact ⟨rfl, heap_alloc_new W _, ((Below.refl W.heap.size W).alloc (Nat.le_refl _) _).drew⟩
      case rest =>
        obtain ⟨rfl, ry, by1⟩ := hcut
        rename World => Y
        have RY := hid' ((by1.block _ (lt_of_heap RT.out)).trans RT.out)
        have BY := hid' (below_two BW.out by1)
        have LY := hid' (LW.out.below GW by1)
        have lgY := Nat.lt_of_lt_of_le GW by1.size
        have lbY := lt_of_heap RY.out
        have lsY := lt_of_heap ry
        have SY : w1.heap.size + 2 ≤ Y.heap.size := by rw [← WS.out]; exact by1.size
        have y0 := cell_of_row _ _ 0 _ _ _ ry
        have y1 := cell_of_row _ _ 1 _ _ _ ry
        have r5' := cell_of_row _ _ 5 _ _ _ RY.out
        have r6' := cell_of_row _ _ 6 _ _ _ RY.out
        simp at y0 y1 r5' r6'
        clear ry by1 t2 g0 g1 t2a g0a g1a LW RT BW TB GW r5 r6 f6 TBX LX BX RX
        go_upto_region 7 with fail
        go_region_held3 (fun w' => w'.cell? ⟨w1.heap.size + 1, 5, none⟩ = some (.int .i64 (v % 3)) ∧ w'.cell? ⟨w1.heap.size + 1, 6, none⟩ = some (.int .i64 (3600 + 2 * (v % 300601))) ∧ w'.cell? ⟨W.heap.size, 0, none⟩ = some (.int .i64 (a0 + o0 + 86400)) ∧ w'.cell? ⟨W.heap.size, 1, none⟩ = some (.int .i64 (v % 4294967296))) (first | go_keep | assumption) (first | (go_at_call 17; refine Calls.mono (PN.out _) ?_; rintro e w5 ⟨b, F, rfl, p5, f5, b5⟩; have Y5 := hid' (below_two (by exact (Below.refl Y.heap.size Y).drew) b5); have P5 := hid' p5; have FY : Hid (∀ k, F k → Y.heap.size ≤ k) := (fun k hk => f5 k hk); have m0 : w5.cell? ⟨w1.heap.size + 1, 5, none⟩ = Y.cell? ⟨w1.heap.size + 1, 5, none⟩ := Y5.out.cell (p := ⟨w1.heap.size + 1, 5, none⟩) lbY; have m1 : w5.cell? ⟨w1.heap.size + 1, 6, none⟩ = Y.cell? ⟨w1.heap.size + 1, 6, none⟩ := Y5.out.cell (p := ⟨w1.heap.size + 1, 6, none⟩) lbY; have m2 : w5.cell? ⟨W.heap.size, 0, none⟩ = Y.cell? ⟨W.heap.size, 0, none⟩ := Y5.out.cell (p := ⟨W.heap.size, 0, none⟩) lsY; have m3 : w5.cell? ⟨W.heap.size, 1, none⟩ = Y.cell? ⟨W.heap.size, 1, none⟩ := Y5.out.cell (p := ⟨W.heap.size, 1, none⟩) lsY; clear p5 f5 b5))
        all_goals
          have B5 := hid' (below_two BY.out Y5.out)
          have R5 := hid' ((Y5.out.block _ lbY).trans RY.out)
          have L5 := hid' (LY.out.below lgY Y5.out)
          have LI := hid' (k_lives w5 (HT.out.below B5.out) (HP.out.below B5.out))
          have s5 := Y5.out.size
          clear y0 y1 r5' r6' m0 m1 m2 m3 PN
          go_wp2_with fail
          refine Calls.mono LI.out ?_
          rintro e w6 ⟨rfl, b6⟩
          have B6 := hid' (below_two B5.out b6)
          have R6 := hid' ((b6.block _ (lt_of_heap R5.out)).trans R5.out)
          have l5 : g < w5.heap.size := by omega
          have L6 := hid' (L5.out.below l5 b6)
          have P6 := hid' (P5.out.below b6)
          have s6 := b6.size
          have FI := hid' (fun short => k_file (w1.heap.size + 1) (.pointer none) up ex (v % 3) (3600 + 2 * (v % 300601)) g N cap n ls short w6 R6.out HN.out L6.out (by omega) n1 n2 h12 HSM.out u0 u1 x0 x1 (HT.out.below B6.out) (HP.out.below B6.out))
          clear LI b6 R5 L5 P5
          go_wp2_with fail
          refine Calls.mono (FI.out _) ?_
          rintro e w7 ⟨rfl, b7⟩
          generalize (v % 2 == 0) = short
          obtain ⟨t, ht⟩ : ∃ t, (Txt.printed up (fileEx ex ls n short) (ls.take n)).1 = t := ⟨_, rfl⟩
          have tz : t.size ≤ 1000000 := by rw [← ht]; exact printed_size _ _ _ (by rw [List.length_take, HN.out]; omega)
          rw [ht]
          have TT := hid' ht.symm
          have B7 := hid' (below_two B6.out b7)
          have R7 := hid' ((b7.block _ (lt_of_heap R6.out)).trans R6.out)
          have L7 := hid' (L6.out.below (by omega) b7)
          have P7 := hid' (P6.out.below b7)
          have s7 := b7.size
          have IV : Hid ((Sv.init (v % 3) (3600 + 2 * (v % 300601)) 300000 (a0 + o0 + 86400) (v % 4294967296) 3).Inv) := init_inv CF.out
          have LD := hid' (p_load _ t IV.out (show (0 : Int) ≤ 1000000000000 by omega) tz b F w7 P7.out (HT.out.below B7.out))
          clear b7 FI ht P6 R6 L6
          go_wp2_with fail
          refine Calls.mono LD.out ?_
          rintro e w8 ⟨rfl, F8, p8, o8, f8⟩
          have fB : ∀ k, F k → w.heap.size ≤ k := fun k hk => by have := FY.out k hk; omega
          have fb : ¬ F (w1.heap.size + 1) := fun hk => by have := FY.out _ hk; omega
          have fg : ¬ F g := fun hk => by have := FY.out _ hk; omega
          have R8 := hid' (o8.heap R7.out fb)
          obtain ⟨z8, tri8, bel8⟩ := tri_of (bx := b) (t := t) CF.out HT.out HP.out HW.out HUP.out HN.out h12 HSM.out u0 u1 x0 x1 n1 n2 (by rw [HA0.out, HO0.out]) short TT.out R7.out L7.out (by omega) (by omega) gB (by omega) fB fb fg B7.out p8 o8 f8
          have TR8 := hid' tri8
          have BE8 := hid' bel8
          rw [z8]
          have q0 := cell_of_row _ _ 0 _ _ _ R8.out
          have fz := frozen_of_row _ _ 0 _ _ R8.out
          simp at q0
          clear tri8 bel8 p8 o8 f8 LD z8
          go_wp2
          go_ret
          exact ⟨⟨w1.heap.size + 1, b, g, N, cap, up, ex, v % 3, (3600 + 2 * (v % 300601)), ls⟩, n, _, F8, rfl, TR8.out, BE8.out⟩
    · have RTW := hid' RX.out
      have RT := hid' (RTW.out : TrRow (w1.heap.size + 1) (.pointer none) up ex (.slice (some ⟨g, 0, none⟩) N cap) n (v % 3) 0 X)
      have BW := hid' (BX.out : Below w.heap.size w (X))
      have TB := hid' TBX.out
      have LW := hid' LX.out
      have GW : g < (X).heap.size := lgX
      have CF := hid' (begun_cfg (v := v) (mode := v % 3) (win := 0) (s := a0 + o0 + 86400) (f := v % 4294967296) rfl (by rw [if_neg hm]) (by omega) (by omega) (by omega) (by omega))
      have PN := hid' (fun W => bg_new (v % 3) 0 (a0 + o0 + 86400) (v % 4294967296) W (wf_of (by omega) (by omega)) CF.out)
      have WS := hid' SZ.out
      go_upto_region 6 with fail
      generalize X = W at *
      have t2 := cell_of_row _ _ 2 _ _ _ TB.out
      have g0 : W.cell? ⟨g, 0, none⟩ = some (.int .i64 a0) := by
        have h := (LW.out 0 (by rw [HN.out]; omega)).1
        rw [← getD_at 0 (by rw [HN.out]; omega), HA0.out] at h
        exact h
      have g1 : W.cell? ⟨g, 1, none⟩ = some (.int .i64 o0) := by
        have h := (LW.out 0 (by rw [HN.out]; omega)).2
        rw [← getD_at 0 (by rw [HN.out]; omega), HO0.out] at h
        exact h
      simp at t2
      have aW := (Below.refl W.heap.size W).alloc (Nat.le_refl _) (.cells #[.int .i64 0, .int .i64 0] 33)
      have t2a := (aW.cell (p := ⟨w1.heap.size, 2, none⟩) (lt_of_heap TB.out)).trans t2
      have g0a := (aW.cell (p := ⟨g, 0, none⟩) GW).trans g0
      have g1a := (aW.cell (p := ⟨g, 1, none⟩) GW).trans g1
      clear aW
      go_cut [8] from 15 (fun s8 wy => s8 = .pointer (some ⟨W.heap.size, 0, none⟩) ∧ wy.heap[W.heap.size]? = some (.cells #[.int .i64 (a0 + o0 + 86400), .int .i64 (v % 4294967296)] 33 (0, 0)) ∧ Below W.heap.size W wy)
      case first =>
        go_region
        all_goals
          go_wp2_with fail
          go_meet
          case rel => exact ⟨rfl, heap_alloc_new W _, ((Below.refl W.heap.size W).alloc (Nat.le_refl _) _).drew⟩
      case rest =>
        obtain ⟨rfl, ry, by1⟩ := hcut
        rename World => Y
        have RY := hid' ((by1.block _ (lt_of_heap RT.out)).trans RT.out)
        have BY := hid' (below_two BW.out by1)
        have LY := hid' (LW.out.below GW by1)
        have lgY := Nat.lt_of_lt_of_le GW by1.size
        have lbY := lt_of_heap RY.out
        have lsY := lt_of_heap ry
        have SY : w1.heap.size + 2 ≤ Y.heap.size := by rw [← WS.out]; exact by1.size
        have y0 := cell_of_row _ _ 0 _ _ _ ry
        have y1 := cell_of_row _ _ 1 _ _ _ ry
        have r5' := cell_of_row _ _ 5 _ _ _ RY.out
        have r6' := cell_of_row _ _ 6 _ _ _ RY.out
        simp at y0 y1 r5' r6'
        clear ry by1 t2 g0 g1 t2a g0a g1a LW RT BW TB GW r5 r6 f6 TBX LX BX RX
        go_upto_region 7 with fail
        go_region_held3 (fun w' => w'.cell? ⟨w1.heap.size + 1, 5, none⟩ = some (.int .i64 (v % 3)) ∧ w'.cell? ⟨w1.heap.size + 1, 6, none⟩ = some (.int .i64 0) ∧ w'.cell? ⟨W.heap.size, 0, none⟩ = some (.int .i64 (a0 + o0 + 86400)) ∧ w'.cell? ⟨W.heap.size, 1, none⟩ = some (.int .i64 (v % 4294967296))) (first | go_keep | assumption) (first | (go_at_call 17; refine Calls.mono (PN.out _) ?_; rintro e w5 ⟨b, F, rfl, p5, f5, b5⟩; have Y5 := hid' (below_two (by exact (Below.refl Y.heap.size Y).drew) b5); have P5 := hid' p5; have FY : Hid (∀ k, F k → Y.heap.size ≤ k) := (fun k hk => f5 k hk); have m0 : w5.cell? ⟨w1.heap.size + 1, 5, none⟩ = Y.cell? ⟨w1.heap.size + 1, 5, none⟩ := Y5.out.cell (p := ⟨w1.heap.size + 1, 5, none⟩) lbY; have m1 : w5.cell? ⟨w1.heap.size + 1, 6, none⟩ = Y.cell? ⟨w1.heap.size + 1, 6, none⟩ := Y5.out.cell (p := ⟨w1.heap.size + 1, 6, none⟩) lbY; have m2 : w5.cell? ⟨W.heap.size, 0, none⟩ = Y.cell? ⟨W.heap.size, 0, none⟩ := Y5.out.cell (p := ⟨W.heap.size, 0, none⟩) lsY; have m3 : w5.cell? ⟨W.heap.size, 1, none⟩ = Y.cell? ⟨W.heap.size, 1, none⟩ := Y5.out.cell (p := ⟨W.heap.size, 1, none⟩) lsY; clear p5 f5 b5))
        all_goals
          have B5 := hid' (below_two BY.out Y5.out)
          have R5 := hid' ((Y5.out.block _ lbY).trans RY.out)
          have L5 := hid' (LY.out.below lgY Y5.out)
          have LI := hid' (k_lives w5 (HT.out.below B5.out) (HP.out.below B5.out))
          have s5 := Y5.out.size
          clear y0 y1 r5' r6' m0 m1 m2 m3 PN
          go_wp2_with fail
          refine Calls.mono LI.out ?_
          rintro e w6 ⟨rfl, b6⟩
          have B6 := hid' (below_two B5.out b6)
          have R6 := hid' ((b6.block _ (lt_of_heap R5.out)).trans R5.out)
          have l5 : g < w5.heap.size := by omega
          have L6 := hid' (L5.out.below l5 b6)
          have P6 := hid' (P5.out.below b6)
          have s6 := b6.size
          have FI := hid' (fun short => k_file (w1.heap.size + 1) (.pointer none) up ex (v % 3) 0 g N cap n ls short w6 R6.out HN.out L6.out (by omega) n1 n2 h12 HSM.out u0 u1 x0 x1 (HT.out.below B6.out) (HP.out.below B6.out))
          clear LI b6 R5 L5 P5
          go_wp2_with fail
          refine Calls.mono (FI.out _) ?_
          rintro e w7 ⟨rfl, b7⟩
          generalize (v % 2 == 0) = short
          obtain ⟨t, ht⟩ : ∃ t, (Txt.printed up (fileEx ex ls n short) (ls.take n)).1 = t := ⟨_, rfl⟩
          have tz : t.size ≤ 1000000 := by rw [← ht]; exact printed_size _ _ _ (by rw [List.length_take, HN.out]; omega)
          rw [ht]
          have TT := hid' ht.symm
          have B7 := hid' (below_two B6.out b7)
          have R7 := hid' ((b7.block _ (lt_of_heap R6.out)).trans R6.out)
          have L7 := hid' (L6.out.below (by omega) b7)
          have P7 := hid' (P6.out.below b7)
          have s7 := b7.size
          have IV : Hid ((Sv.init (v % 3) 0 300000 (a0 + o0 + 86400) (v % 4294967296) 3).Inv) := init_inv CF.out
          have LD := hid' (p_load _ t IV.out (show (0 : Int) ≤ 1000000000000 by omega) tz b F w7 P7.out (HT.out.below B7.out))
          clear b7 FI ht P6 R6 L6
          go_wp2_with fail
          refine Calls.mono LD.out ?_
          rintro e w8 ⟨rfl, F8, p8, o8, f8⟩
          have fB : ∀ k, F k → w.heap.size ≤ k := fun k hk => by have := FY.out k hk; omega
          have fb : ¬ F (w1.heap.size + 1) := fun hk => by have := FY.out _ hk; omega
          have fg : ¬ F g := fun hk => by have := FY.out _ hk; omega
          have R8 := hid' (o8.heap R7.out fb)
          obtain ⟨z8, tri8, bel8⟩ := tri_of (bx := b) (t := t) CF.out HT.out HP.out HW.out HUP.out HN.out h12 HSM.out u0 u1 x0 x1 n1 n2 (by rw [HA0.out, HO0.out]) short TT.out R7.out L7.out (by omega) (by omega) gB (by omega) fB fb fg B7.out p8 o8 f8
          have TR8 := hid' tri8
          have BE8 := hid' bel8
          rw [z8]
          have q0 := cell_of_row _ _ 0 _ _ _ R8.out
          have fz := frozen_of_row _ _ 0 _ _ R8.out
          simp at q0
          clear tri8 bel8 p8 o8 f8 LD z8
          go_wp2
          go_ret
          exact ⟨⟨w1.heap.size + 1, b, g, N, cap, up, ex, v % 3, 0, ls⟩, n, _, F8, rfl, TR8.out, BE8.out⟩
end Go.Proofs.YtmmkhodaljpjgabGreatDoor
