import Derived.Test.YtmmkhodaljpjgabGreatDoorW03
import Derived.Test.YtmmkhodaljpjgabGreatDoorW12
import Derived.Deep.QuietTactic
import Derived.BigQuiet
import Derived.BigRegion
namespace Go.Proofs.YtmmkhodaljpjgabGreatDoor
open Go.RowKit
theorem wf_of {x : Int} (h0 : -1000000000000 ≤ x) (h1 : x ≤ 1000000000000) : (Lit.int .i64 x).wf = true := by
  simp [Lit.wf, IntKind.min, IntKind.max, IntKind.signed, IntKind.bits]
  omega
theorem held_own {w : World} {B : Nat} {lv : Value} {ls : List (Int × Int)} (h : w.ownsRow B 49 2 lv ls.length (flat ls)) : Held w lv ls := by
  by_cases hp : 0 < ls.length
  · obtain ⟨g, cap, rfl⟩ := own_some h hp
    refine .inr ⟨hp, g, cap, rfl, ?_, (h.lt _ rfl).2, lies_of h rfl⟩
    rcases h.2 with ⟨h, _⟩ | ⟨g', cap', cur, h, _, _, h2, _⟩
    · cases h
    · cases h; exact h2
  · obtain ⟨va, vcp, rfl⟩ := own_slice h
    have : ls = [] := List.eq_nil_of_length_eq_zero (by omega)
    subst this
    exact .inl ⟨rfl, va, vcp, rfl⟩
/-- A trial lies there. -/
def TrRow (bt : Nat) (xv : Value) (up ex : Int) (lv : Value) (n mode win : Int) (w : World) : Prop := w.heap[bt]? = some (.cells #[xv, .int .i64 up, .int .i64 ex, lv, .int .i64 n, .int .i64 mode, .int .i64 win] 31 (0, 0))
/-- When a file of a trial's ends. -/
def fileEx (ex : Int) (ls : List (Int × Int)) (n : Nat) (short : Bool) : Int := if short then (ls.getD (n - 1) (0, 0)).1 + 2600000 else ex
theorem take_at (ls : List (Int × Int)) (k : Nat) (h : k < ls.length) : ls.take (k + 1) = ls.take k ++ [((ls[k]'h).1, (ls[k]'h).2)] := by
  rw [List.take_succ_eq_append_getElem h]
set_option maxRecDepth 100000 in
set_option maxHeartbeats 6400000 in
theorem k_file (bt : Nat) (xv : Value) (up ex mode win : Int) (g N cap n : Nat) (ls : List (Int × Int)) (short : Bool) (w : World) (hr : TrRow bt xv up ex (.slice (some ⟨g, 0, none⟩) N cap) n mode win w) (hN : ls.length = N) (hl : Lies w g ls) (hg : g < w.heap.size) (n1 : 1 ≤ n) (n2 : n ≤ N) (hN2 : N ≤ 12)
    (hf : ∀ p ∈ ls, (0 ≤ p.1 ∧ p.1 ≤ 5000000000) ∧ 0 ≤ p.2 ∧ p.2 ≤ 200) (u0 : 0 ≤ up) (u1 : up ≤ 5000000000) (x0 : 0 ≤ ex) (x1 : ex ≤ 6000000000) (hT : Table w) (hP : Pows w) :
    Calls Tryz.prog 19 #[.pointer (some ⟨bt, 0, none⟩), .bool short] w fun e w' => e = .returned (.string (Txt.printed up (fileEx ex ls n short) (ls.take n)).1) ∧ Below w.heap.size w w' := by
  obtain ⟨i0, hi0, hz0, hz1, hz2⟩ := info_parts infoApiLeap
  have lb := lt_of_heap hr
  have c1 := cell_of_row _ _ 1 _ _ _ hr
  have c2 := cell_of_row _ _ 2 _ _ _ hr
  have c3 := cell_of_row _ _ 3 _ _ _ hr
  simp at c1 c2 c3
  have HR := hid' hr
  have HL := hid' hl
  have HN := hid' hN
  have HF := hid' hf
  have HT := hid' hT
  have HP := hid' hP
  have hbq : ¬ bt = w.heap.size := by omega
  have hqb : ¬ w.heap.size = bt := by omega
  clear hr hl hf hT hP hN
  go_enter Tryz.func19, Tryz.ntmps19
  go_wp2
  go_loopw [6] (fun i wr => ∃ (k : Nat) (va : Option Addr) (vcp : Nat), k ≤ n ∧ i = .int .i64 k ∧ wr.heap[w.heap.size]? = some (.cells #[.int .i64 up, .int .i64 ex, .slice va k vcp] 29 (0, 0)) ∧ wr.ownsRow (w.heap.size + 1) 49 2 (.slice va k vcp) k (flat (ls.take k)) ∧ Below w.heap.size w wr) (fun i _ => n - (intOf i).toNat)
  case atStart =>
    exact ⟨0, none, 0, by omega, rfl, heap_alloc_new w _, World.ownsRow_nil _ _ _ _, (Below.refl w.heap.size w).alloc (Nat.le_refl _) _⟩
  case round =>
    obtain ⟨k, va, vcp, hk, rfl, row, own, hb⟩ := hrel
    clear c1 c2 c3
    have RW := hid' ((hb.block _ lb).trans HR.out)
    have LW := hid' (HL.out.below hg hb)
    have RT := hid' row
    have OWN := hid' own
    have HB := hid' hb
    have sz := hb.size
    have d3 := cell_of_row _ _ 3 _ _ _ RW.out
    have d4 := cell_of_row _ _ 4 _ _ _ RW.out
    have t2 := cell_of_row _ _ 2 _ _ _ row
    have lq := lt_of_heap row
    simp at d3 d4 t2
    clear row own hb
    by_cases hkn : k < n
    · have hkl : k < ls.length := by rw [HN.out]; omega
      obtain ⟨s1, s2⟩ := LW.out k hkl
      have TA := hid' (take_at ls k hkl)
      generalize (ls[k]'hkl).1 = pa at *
      generalize (ls[k]'hkl).2 = po at *
      have hi1 : (k : Int) < (n : Int) := by omega
      have hi2 : (k : Int) < (N : Int) := by omega
      have fz : ∀ o, (wr.alloc o).frozen? ⟨w.heap.size, 2, none⟩ = false := fun o => frozen_of_row _ _ 2 _ _ ((Keep.refl _ wr).alloc o _ _ _ RT.out)
      have lst : (ls.take k).length = k := by rw [List.length_take]; omega
      have LST := hid' lst
      clear lst
      go_wp2_with fail
      go_region_law ((refine step_append_lies _ ?_ (.tmp 23) (.tmp 32) 27 ?_ (w.heap.size + 1) 49 i0 (.agg #[.int .i64 0, .int .i64 0]) 2 16 Tryz.underlying27 hi0 hz0 hz1 hz2 rfl (by decide) (.slice va k vcp) k (flat (ls.take k)) ?_ ?_ ⟨wr.heap.size, 0, none⟩ 1 1 [.int .i64 pa, .int .i64 po] ?_ ?_ ?_ ?_ ?_ ?_ ?_ ?_ (wr.heap.size + 1) ?_ ?_; exact rfl; exact rfl; exact rfl; exact (OWN.out.alloc _).drew; exact rfl; exact rfl; exact (World.news_of_block (cs := #[.int .i64 pa, .int .i64 po]) (t := 49) (fr := (0, 0)) (heap_alloc_new wr _)); (simp [Value.oneCell']); decide; (unfold maxLen; omega); omega; (simp; omega); (simp); intro gg cap6 w6 own6 hg6 hat6 hlt6; have S6 := hid' (grown_heap (w := (wr.alloc (.cells #[.int .i64 pa, .int .i64 po] 49)).drew) (t := 29) hg6 (OWN.out.alloc _).drew ((Keep.refl _ wr).alloc _ _ _ _ RT.out) (by decide)); have c67 : w6.cell? ⟨w.heap.size, 2, none⟩ = some (.slice va k vcp) := cell_of_row _ _ 2 _ _ _ S6.out; have f67 := frozen_of_row _ _ 2 _ _ S6.out; have OWN6 := hid' own6; have HG6 := hid' hg6; have HAT6 := hid' hat6; clear own6 hg6 hat6))
      all_goals
        go_wp2_with fail
        go_roundw
        case rel =>
          have e1 := heap_setCell_same _ w.heap.size 2 _ 29 (.slice (some ⟨gg, 0, none⟩) (k + 1) cap6) S6.out
          refine ⟨k + 1, _, _, by omega, by go_num, by simpa using e1, ?_, ?_⟩
          · rw [TA.out, flat_append]
            exact own_set (p := ⟨w.heap.size, 2, none⟩) OWN6.out S6.out (by decide) _
          · exact (((HB.out.alloc sz _).drew).grown HG6.out (by simp; omega) (fun q e => Nat.le_trans (Nat.le_succ _) (own_ge OWN.out q e))).setCell (p := ⟨w.heap.size, 2, none⟩) (Nat.le_refl _) _
        case measure => simp [intOf]; omega
    · obtain rfl : k = n := by omega
      have hni : ¬ (k : Int) < (k : Int) := by omega
      have t0 := cell_of_row _ _ 0 _ _ _ RT.out
      have t1 := cell_of_row _ _ 1 _ _ _ RT.out
      simp at t0 t1
      have lst : (ls.take k).length = k := by rw [List.length_take, HN.out]; omega
      obtain ⟨g5, cap5, hv5⟩ := own_some (n := k) (by exact OWN.out) (by omega)
      obtain ⟨rfl, _, rfl⟩ := Value.slice.inj hv5
      have hk0 : k - 1 < ls.length := by rw [HN.out]; omega
      have hk1 : k - 1 < (ls.take k).length := by omega
      have LT : Lies wr g5 (ls.take k) := lies_of (by exact OWN.out) lst
      have sx := (LT (k - 1) hk1).1
      have eL : ((ls.take k)[k - 1]'hk1).1 = (ls.getD (k - 1) (0, 0)).1 := by rw [List.getElem_take, getD_at (k - 1) hk0]
      rw [eL] at sx
      have pb := (HF.out _ (List.getElem_mem hk0)).1
      rw [← getD_at (k - 1) hk0] at pb
      have WF : Hid (∀ p ∈ ls.take k, WfP p) := fun p hp => by
        have := HF.out p (List.mem_of_mem_take hp)
        exact ⟨wf_of (by omega) (by omega), wf_of (by omega) (by omega)⟩
      have hi : ((k : Int) - 1) < (k : Int) := by omega
      have hi0' : (0 : Int) ≤ (k : Int) - 1 := by omega
      cases short with
      | false =>
        have E : Hid (fileEx ex ls k false = ex) := rfl
        have HH : Hid (Held wr (.slice (some ⟨g5, 0, none⟩) k vcp) (ls.take k)) := by
          have := held_own (B := w.heap.size + 1) (lv := .slice (some ⟨g5, 0, none⟩) k vcp) (ls := ls.take k) (w := wr) (by rw [lst]; exact OWN.out)
          exact this
        have PR := hid' (smear_print (.slice (some ⟨g5, 0, none⟩) k vcp) (ls.take k) up ex wr (wf_of (by omega) (by omega)) (wf_of (by omega) (by omega)) HH.out (by omega) WF.out (HT.out.below HB.out) (HP.out.below HB.out))
        clear WF HH LT eL sx hv5
        go_wp2_with fail
        refine PR.out.mono ?_
        rintro e w5 ⟨rfl, hb5⟩
        have B5 := hid' (HB.out.trans (hb5.mono sz))
        clear hb5 PR
        go_wp2
        go_ret
        rw [E.out]
        exact ⟨rfl, B5.out⟩
      | true =>
        have E : Hid (fileEx ex ls k true = (ls.getD (k - 1) (0, 0)).1 + 2600000) := rfl
        generalize hA : (ls.getD (k - 1) (0, 0)).1 = av at *
        obtain ⟨j, hj⟩ : ∃ j, k = j + 1 := ⟨k - 1, by omega⟩
        have sx' : wr.cell? ⟨g5, j * 2, none⟩ = some (.int .i64 av) := by rw [hj, Nat.add_sub_cancel] at sx; exact sx
        have hkj : ((k : Int) - 1) = (j : Int) := by omega
        clear hj
        have ft := frozen_of_row _ _ 1 _ _ RT.out
        have RT2 : Hid ((wr.setCell ⟨w.heap.size, 1, none⟩ (.int .i64 (av + 2600000))).heap[w.heap.size]? = some (.cells #[.int .i64 up, .int .i64 (av + 2600000), .slice (some ⟨g5, 0, none⟩) k vcp] 29 (0, 0))) := by
          have e1 := heap_setCell_same _ w.heap.size 1 _ 29 (.int .i64 (av + 2600000)) RT.out
          have e2 : #[Value.int .i64 up, .int .i64 ex, .slice (some ⟨g5, 0, none⟩) k vcp].setIfInBounds 1 (.int .i64 (av + 2600000)) = #[.int .i64 up, .int .i64 (av + 2600000), .slice (some ⟨g5, 0, none⟩) k vcp] := rfl
          exact e2 ▸ e1
        have HB2 := hid' (HB.out.setCell (p := ⟨w.heap.size, 1, none⟩) (Nat.le_refl _) (.int .i64 (av + 2600000)))
        have OWN2 : (wr.setCell ⟨w.heap.size, 1, none⟩ (.int .i64 (av + 2600000))).ownsRow (w.heap.size + 1) 49 2 (.slice (some ⟨g5, 0, none⟩) k vcp) (ls.take k).length (flat (ls.take k)) := by rw [lst]; exact own_set (p := ⟨w.heap.size, 1, none⟩) OWN.out RT.out (by decide) _
        have HH := hid' (held_own OWN2)
        have PR := hid' (smear_print (.slice (some ⟨g5, 0, none⟩) k vcp) (ls.take k) up (av + 2600000) _ (wf_of (by omega) (by omega)) (wf_of (by omega) (by omega)) HH.out (by omega) WF.out (HT.out.below HB2.out) (HP.out.below HB2.out))
        have r0 := cell_of_row _ _ 0 _ _ _ RT2.out
        have r1 := cell_of_row _ _ 1 _ _ _ RT2.out
        have r2 := cell_of_row _ _ 2 _ _ _ RT2.out
        simp at r0 r1 r2
        have sz2 := HB2.out.size
        clear WF HH LT eL sx hv5 OWN2
        go_wp2_with fail
        refine PR.out.mono ?_
        rintro e w5 ⟨rfl, hb5⟩
        have B5 := hid' (HB2.out.trans (hb5.mono sz2))
        clear hb5 PR
        go_wp2
        go_ret
        rw [E.out]
        exact ⟨rfl, B5.out⟩
theorem three_at (w : World) (a b c : Array Value) (t : TypeId) : (((w.alloc (.cells a t)).alloc (.cells b t)).alloc (.cells c t)).heap[w.heap.size]? = some (.cells a t (0, 0)) ∧ (((w.alloc (.cells a t)).alloc (.cells b t)).alloc (.cells c t)).heap[w.heap.size + 1]? = some (.cells b t (0, 0)) ∧ (((w.alloc (.cells a t)).alloc (.cells b t)).alloc (.cells c t)).heap[w.heap.size + 1 + 1]? = some (.cells c t (0, 0)) := by
  refine ⟨?_, ?_, ?_⟩
  · rw [Below.heap_alloc _ _ _ (by simp; omega)]
    exact heap_alloc2_old w _ _
  · rw [Below.heap_alloc _ _ _ (by simp)]
    exact heap_alloc2_new w _ _
  · have := heap_alloc_new ((w.alloc (.cells a t)).alloc (.cells b t)) (.cells c t)
    rw [show ((w.alloc (.cells a t)).alloc (.cells b t)).heap.size = w.heap.size + 1 + 1 from by simp] at this
    exact this
set_option maxRecDepth 100000 in
set_option maxHeartbeats 1600000 in
theorem clk_gone (s f z g : Int) (w : World) (s0 : -1000000000000 ≤ s) (s1 : s ≤ 1000000000000) (z0 : -1000000000000 ≤ z) (z1 : z ≤ 1000000000000) (f0 : 0 ≤ f) (f1 : f < 4294967296) (g0 : 0 ≤ g) (g1 : g < 4294967296) :
    Calls Tryz.prog 49 #[.agg #[.int .i64 s, .int .i64 f], .agg #[.int .i64 z, .int .i64 g]] w fun e w' => e = .returned (.agg #[.int .i64 (gone s f z g).1, .int .i64 (gone s f z g).2]) ∧ Below w.heap.size w w' := by
  have HG : Hid (gone s f z g = if f - g < 0 then (s - z - 1, f - g + 4294967296) else (s - z, f - g)) := rfl
  generalize gone s f z g = gg at *
  have B0 := hid' (three_rows w (.cells #[.int .i64 s, .int .i64 f] 33) (.cells #[.int .i64 z, .int .i64 g] 33) (.cells #[.int .i64 0, .int .i64 0] 33))
  have RR := hid' (three_at w #[.int .i64 s, .int .i64 f] #[.int .i64 z, .int .i64 g] #[.int .i64 0, .int .i64 0] 33)
  go_enter Tryz.func49, Tryz.ntmps49
  go_upto_region 1 with fail
  generalize hV : ((w.alloc (.cells #[.int .i64 s, .int .i64 f] 33)).alloc (.cells #[.int .i64 z, .int .i64 g] 33)).alloc (.cells #[.int .i64 0, .int .i64 0] 33) = V at *
  clear hV
  have a0 := cell_of_row _ _ 0 _ _ _ RR.out.1
  have a1 := cell_of_row _ _ 1 _ _ _ RR.out.1
  have b0 := cell_of_row _ _ 0 _ _ _ RR.out.2.1
  have b1 := cell_of_row _ _ 1 _ _ _ RR.out.2.1
  have c0 := cell_of_row _ _ 0 _ _ _ RR.out.2.2
  have c1 := cell_of_row _ _ 1 _ _ _ RR.out.2.2
  have fc0 := frozen_of_row _ _ 0 _ _ RR.out.2.2
  have fc1 := frozen_of_row _ _ 1 _ _ RR.out.2.2
  have lc := lt_of_heap RR.out.2.2
  have sv := B0.out.2
  simp at a0 a1 b0 b1 c0 c1
  by_cases c : f - g < 0
  · have H : Hid (gg = (s - z - 1, f - g + 4294967296)) := by show _ = _; rw [HG.out, if_pos c]
    clear HG
    go_wp2
    try simp only [Exit.inBlock, Exit.then]
    refine bodyPost_ret (results_cell_row rfl _ _ (w.heap.size + 1 + 1) 33 #[.int .i64 (s - z - 1), .int .i64 (f - g + 4294967296)] (0, 0) _ rfl ((Below.heap_alloc _ _ _ (by simp <;> omega)).trans (two_row RR.out.2.2)) Tryz.underlying33 rfl (by kernel_rfl)) rfl ?_
    exact ⟨ret_agg2 (by rw [H.out]) (by rw [H.out]), ((B0.out.1.setCell (p := ⟨w.heap.size + 1 + 1, 0, none⟩) (by simp only; omega) _).setCell (p := ⟨w.heap.size + 1 + 1, 1, none⟩) (by simp only; omega) _).alloc (by simp; omega) _⟩
  · have H : Hid (gg = (s - z, f - g)) := by show _ = _; rw [HG.out, if_neg c]
    clear HG
    go_wp2
    try simp only [Exit.inBlock, Exit.then]
    refine bodyPost_ret (results_cell_row rfl _ _ (w.heap.size + 1 + 1) 33 #[.int .i64 (s - z), .int .i64 (f - g)] (0, 0) _ rfl ((Below.heap_alloc _ _ _ (by simp <;> omega)).trans (two_row RR.out.2.2)) Tryz.underlying33 rfl (by kernel_rfl)) rfl ?_
    exact ⟨ret_agg2 (by rw [H.out]) (by rw [H.out]), ((B0.out.1.setCell (p := ⟨w.heap.size + 1 + 1, 0, none⟩) (by simp only; omega) _).setCell (p := ⟨w.heap.size + 1 + 1, 1, none⟩) (by simp only; omega) _).alloc (by simp; omega) _⟩
set_option maxRecDepth 100000 in
set_option maxHeartbeats 1600000 in
theorem clk_moved (s f p : Int) (w : World) (s0 : -1000000000000 ≤ s) (s1 : s ≤ 1000000000000) (f0 : 0 ≤ f) (f1 : f < 4294967296) (p0 : -4294967296 ≤ p) (p1 : p ≤ 4294967296) :
    Calls Tryz.prog 50 #[.agg #[.int .i64 s, .int .i64 f], .int .i64 p] w fun e w' => e = .returned (.agg #[.int .i64 (moved s f p).1, .int .i64 (moved s f p).2]) ∧ Below w.heap.size w w' := by
  have HG : Hid (moved s f p = if f + p < 0 then (s - 1, f + p + 4294967296) else if 4294967296 ≤ f + p then (s + 1, f + p - 4294967296) else (s, f + p)) := rfl
  generalize moved s f p = gg at *
  have B0 := hid' (((Below.refl w.heap.size w).alloc (Nat.le_refl _) (.cells #[.int .i64 s, .int .i64 f] 33)).alloc (by simp) (.cells #[.int .i64 0, .int .i64 0] 33))
  have R0 := hid' (heap_alloc2_old w (.cells #[.int .i64 s, .int .i64 f] 33) (.cells #[.int .i64 0, .int .i64 0] 33))
  have R1 := hid' (heap_alloc2_new w (.cells #[.int .i64 s, .int .i64 f] 33) (.cells #[.int .i64 0, .int .i64 0] 33))
  go_enter Tryz.func50, Tryz.ntmps50
  go_upto_region 1 with fail
  generalize hV : (w.alloc (.cells #[.int .i64 s, .int .i64 f] 33)).alloc (.cells #[.int .i64 0, .int .i64 0] 33) = V at *
  clear hV
  have a0 := cell_of_row _ _ 0 _ _ _ R0.out
  have a1 := cell_of_row _ _ 1 _ _ _ R0.out
  have c0 := cell_of_row _ _ 0 _ _ _ R1.out
  have c1 := cell_of_row _ _ 1 _ _ _ R1.out
  have fc0 := frozen_of_row _ _ 0 _ _ R1.out
  have fc1 := frozen_of_row _ _ 1 _ _ R1.out
  have lc := lt_of_heap R1.out
  simp at a0 a1 c0 c1
  by_cases c : f + p < 0
  · have H : Hid (gg = (s - 1, f + p + 4294967296)) := by show _ = _; rw [HG.out, if_pos c]
    clear HG
    go_wp2
    try simp only [Exit.inBlock, Exit.then]
    refine bodyPost_ret (results_cell_row rfl _ _ (w.heap.size + 1) 33 #[.int .i64 (s - 1), .int .i64 (f + p + 4294967296)] (0, 0) _ rfl ((Below.heap_alloc _ _ _ (by simp <;> omega)).trans (two_row R1.out)) Tryz.underlying33 rfl (by kernel_rfl)) rfl ?_
    exact ⟨ret_agg2 (by rw [H.out]) (by rw [H.out]), ((B0.out.setCell (p := ⟨w.heap.size + 1, 0, none⟩) (by simp only; omega) _).setCell (p := ⟨w.heap.size + 1, 1, none⟩) (by simp only; omega) _).alloc (by simp; omega) _⟩
  · by_cases d : 4294967296 ≤ f + p
    · have H : Hid (gg = (s + 1, f + p - 4294967296)) := by show _ = _; rw [HG.out, if_neg c, if_pos d]
      clear HG
      go_wp2
      try simp only [Exit.inBlock, Exit.then]
      refine bodyPost_ret (results_cell_row rfl _ _ (w.heap.size + 1) 33 #[.int .i64 (s + 1), .int .i64 (f + p - 4294967296)] (0, 0) _ rfl ((Below.heap_alloc _ _ _ (by simp <;> omega)).trans (two_row R1.out)) Tryz.underlying33 rfl (by kernel_rfl)) rfl ?_
      exact ⟨ret_agg2 (by rw [H.out]) (by rw [H.out]), ((B0.out.setCell (p := ⟨w.heap.size + 1, 0, none⟩) (by simp only; omega) _).setCell (p := ⟨w.heap.size + 1, 1, none⟩) (by simp only; omega) _).alloc (by simp; omega) _⟩
    · have H : Hid (gg = (s, f + p)) := by show _ = _; rw [HG.out, if_neg c, if_neg d]
      clear HG
      go_wp2
      try simp only [Exit.inBlock, Exit.then]
      refine bodyPost_ret (results_cell_row rfl _ _ (w.heap.size + 1) 33 #[.int .i64 s, .int .i64 (f + p)] (0, 0) _ rfl ((Below.heap_alloc _ _ _ (by simp <;> omega)).trans (two_row R1.out)) Tryz.underlying33 rfl (by kernel_rfl)) rfl ?_
      exact ⟨ret_agg2 (by rw [H.out]) (by rw [H.out]), ((B0.out.setCell (p := ⟨w.heap.size + 1, 0, none⟩) (by simp only; omega) _).setCell (p := ⟨w.heap.size + 1, 1, none⟩) (by simp only; omega) _).alloc (by simp; omega) _⟩
end Go.Proofs.YtmmkhodaljpjgabGreatDoor
