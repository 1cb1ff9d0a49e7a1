import Derived.Test.YtmmkhodaljpjgabLabel1
/-! Package label: Offset, Label, Second. -/
namespace Go.Proofs.Ytmmkhodaljpjgab
open Go.RowKit

theorem Held.below {w w' : World} {lv : Value} {ls : List (Int × Int)} (h : Held w lv ls) (hb : Below w.heap.size w w') : Held w' lv ls := by
  rcases h with h | ⟨h3, g, cap, rfl, hcap, hgl, hlies⟩
  · exact .inl h
  · exact .inr ⟨h3, g, cap, rfl, hcap, by have := hb.size; omega, hlies.below hgl hb⟩

set_option maxRecDepth 100000 in
set_option maxHeartbeats 1000000 in
theorem label_offset (lv : Value) (ls : List (Int × Int)) (up ex sec : Int) (w : World) (wu : (Lit.int .i64 up).wf = true) (wx : (Lit.int .i64 ex).wf = true)
    (hv : Held w lv ls) (hn : ls.length ≤ 100000) (hwf : ∀ p ∈ ls, WfP p) :
    Calls Try.prog 12 #[.agg #[.int .i64 up, .int .i64 ex, lv], .int .i64 sec] w fun e w' =>
      e = .returned (.tuple #[.int .i64 (Tab.offset up ex ls sec).1, .int .i64 (Tab.offset up ex ls sec).2]) ∧ Below w.heap.size w w' := by
  have HBel := hid' ((Below.refl w.heap.size w).alloc (Nat.le_refl _) (.cells #[.int .i64 up, .int .i64 ex, lv] 25))
  have HW := hid' (is_table lv ls up ex (w.alloc (.cells #[.int .i64 up, .int .i64 ex, lv] 25)) wu wx (hv.below HBel.out) hn hwf)
  have HROW := hid' (heap_alloc_new w (.cells #[.int .i64 up, .int .i64 ex, lv] 25))
  clear wu wx hwf
  cases hwh : Tab.whole up ex ls with
  | false =>
    rw [hwh] at HW
    have H : Hid (Tab.offset up ex ls sec = (0, 8)) := by show _ = _; unfold Tab.offset; rw [if_pos hwh]
    clear hwh hv
    go_enter Try.func12, Try.ntmps12
    go_wp2_with (go_at_call 15; refine HW.out.mono ?_; rintro e w1 ⟨rfl, hb1⟩; have HB1 := hid' hb1; clear hb1)
    go_ret2
    exact ⟨ret_pair (by rw [H.out]) (by rw [H.out]), HBel.out.trans (HB1.out.mono HBel.out.size)⟩
  | true =>
    rw [hwh] at HW
    obtain ⟨hok, hpos⟩ := Tab.whole_ok hwh
    have hfine := Tab.fine_of_whole hwh
    have HFine := hid' hfine
    clear hok hfine
    have HNW := hid' (show ¬ Tab.whole up ex ls = false by rw [hwh]; simp)
    clear hwh
    rcases hv with ⟨rfl, _⟩ | ⟨_, g, cap, rfl, _, hgl, hlies⟩
    · simp at hpos
    have HLies := hid' hlies
    clear hlies
    have hbd := Tab.lastAt_bd ls sec ls.length
    have HAT : ∀ w1, Lies w1 g ls → Hid (Calls Try.prog 20 #[.slice (some ⟨g, 0, none⟩) ls.length cap, .int .i64 sec] w1 fun e w' => e = .returned (.int .i64 (Tab.lastAt ls sec ls.length)) ∧ w' = w1) := fun w1 h => holder_any g cap ls.length ls sec w1 rfl h HFine.out hn
    have HATH := hid' HAT
    clear HAT
    by_cases h1 : 34000000000 < sec
    · have H : Hid (Tab.offset up ex ls sec = (0, 9)) := by show _ = _; unfold Tab.offset; rw [if_neg HNW.out, if_pos h1]
      generalize Tab.lastAt ls sec ls.length = k at *
      go_enter Try.func12, Try.ntmps12
      go_wp2_with (first
        | (go_at_call 15; refine HW.out.mono ?_; rintro e w1 ⟨rfl, hb1⟩; have HB1 := hid' (HBel.out.trans (hb1.mono HBel.out.size)); have t2 := cell_of_row _ _ 2 _ _ _ ((hb1.block _ (lt_of_heap HROW.out)).trans HROW.out); (simp at t2); clear hb1)
        | (go_at_call 20; refine (HATH.out w1 (HLies.out.below hgl HB1.out)).out.mono ?_; rintro e w2 ⟨rfl, rfl⟩))
      go_ret2
      exact ⟨ret_pair (by rw [H.out]) (by rw [H.out]), HB1.out⟩
    · by_cases h2 : Tab.lastAt ls sec ls.length < 0
      · have H : Hid (Tab.offset up ex ls sec = (0, 9)) := by show _ = _; unfold Tab.offset; rw [if_neg HNW.out, if_neg h1, if_pos h2]
        generalize Tab.lastAt ls sec ls.length = k at *
        go_enter Try.func12, Try.ntmps12
        go_wp2_with (first
          | (go_at_call 15; refine HW.out.mono ?_; rintro e w1 ⟨rfl, hb1⟩; have HB1 := hid' (HBel.out.trans (hb1.mono HBel.out.size)); have t2 := cell_of_row _ _ 2 _ _ _ ((hb1.block _ (lt_of_heap HROW.out)).trans HROW.out); (simp at t2); clear hb1)
          | (go_at_call 20; refine (HATH.out w1 (HLies.out.below hgl HB1.out)).out.mono ?_; rintro e w2 ⟨rfl, rfl⟩))
        go_ret2
        exact ⟨ret_pair (by rw [H.out]) (by rw [H.out]), HB1.out⟩
      · obtain ⟨k, hk⟩ : ∃ k : Nat, Tab.lastAt ls sec ls.length = (k : Int) := ⟨(Tab.lastAt ls sec ls.length).toNat, by omega⟩
        have hkl : k < ls.length := by omega
        have H : Hid (Tab.offset up ex ls sec = (ls[k].2, 0)) := by show _ = _; unfold Tab.offset; rw [if_neg HNW.out, if_neg h1, if_neg h2, hk, Int.toNat_natCast, getD_at k hkl]
        rw [hk] at HATH
        have hcell := (HLies.out k hkl).2
        clear hk hbd h2
        generalize ls[k] = p at *
        obtain ⟨pa, po⟩ := p
        simp only at hcell
        go_enter Try.func12, Try.ntmps12
        go_wp2_with (first
          | (go_at_call 15; refine HW.out.mono ?_; rintro e w1 ⟨rfl, hb1⟩; have HB1 := hid' (HBel.out.trans (hb1.mono HBel.out.size)); have t2 := cell_of_row _ _ 2 _ _ _ ((hb1.block _ (lt_of_heap HROW.out)).trans HROW.out); (simp at t2); have hc1 := (HB1.out.cell (p := ⟨g, k * 2 + 1, none⟩) hgl).trans hcell; clear hb1)
          | (go_at_call 20; refine (HATH.out w1 (HLies.out.below hgl HB1.out)).out.mono ?_; rintro e w2 ⟨rfl, rfl⟩))
        go_ret2
        exact ⟨ret_pair (by rw [H.out]) (by rw [H.out]), HB1.out⟩

set_option maxRecDepth 100000 in
set_option maxHeartbeats 1000000 in
theorem label_label_no (lv : Value) (ls : List (Int × Int)) (up ex sec : Int) (w : World) (wu : (Lit.int .i64 up).wf = true) (wx : (Lit.int .i64 ex).wf = true)
    (hv : Held w lv ls) (hn : ls.length ≤ 100000) (hwf : ∀ p ∈ ls, WfP p) (he : (Tab.offset up ex ls sec).2 ≠ 0) :
    Calls Try.prog 9 #[.agg #[.int .i64 up, .int .i64 ex, lv], .int .i64 sec] w fun e w' =>
      e = .returned (.tuple #[.int .i64 0, .int .i64 0, .int .i64 (Tab.offset up ex ls sec).2]) ∧ Below w.heap.size w w' := by
  have HBel := hid' ((Below.refl w.heap.size w).alloc (Nat.le_refl _) (.cells #[.int .i64 up, .int .i64 ex, lv] 25))
  have HO := hid' (label_offset lv ls up ex sec (w.alloc (.cells #[.int .i64 up, .int .i64 ex, lv] 25)) wu wx (hv.below HBel.out) hn hwf)
  clear wu wx hwf hv hn
  have hne : ((Tab.offset up ex ls sec).2 != 0) = true := bne_iff_ne.2 he
  clear he
  generalize Tab.offset up ex ls sec = r at *
  obtain ⟨ro, re⟩ := r
  simp only at hne HO
  go_enter Try.func9, Try.ntmps9
  go_wp2_with (go_at_call 12; refine HO.out.mono ?_; rintro e w1 ⟨rfl, hb1⟩; have HB1 := hid' (HBel.out.trans (hb1.mono HBel.out.size)); clear hb1)
  go_ret3
  exact ⟨rfl, HB1.out⟩

theorem day_of (sec off : Int) (w : World) (h0 : 0 ≤ sec - off) (h1 : 0 ≤ off) (h2 : off ≤ 1000) (h3 : sec ≤ 1000000000000) :
    Calls Try.prog 13 #[.int .i64 sec, .int .i64 off] w fun e w' => e = .returned (.int .i64 ((sec - off) / 86400)) ∧ w' = w := by
  go_enter Try.func13, Try.ntmps13
  go_wp2
  go_ret
  exact ⟨rfl, rfl⟩

set_option maxRecDepth 100000 in
set_option maxHeartbeats 1000000 in
theorem label_label_yes (lv : Value) (ls : List (Int × Int)) (up ex sec d : Int) (w : World) (wu : (Lit.int .i64 up).wf = true) (wx : (Lit.int .i64 ex).wf = true)
    (hv : Held w lv ls) (hn : ls.length ≤ 100000) (hwf : ∀ p ∈ ls, WfP p) (he : (Tab.offset up ex ls sec).2 = 0) (hD : Tab.Day ls sec d) :
    Calls Try.prog 9 #[.agg #[.int .i64 up, .int .i64 ex, lv], .int .i64 sec] w fun e w' =>
      e = .returned (.tuple #[.int .i64 d, .int .i64 (sec - Tab.begins ls d), .int .i64 0]) ∧ Below w.heap.size w w' := by
  have HBel := hid' ((Below.refl w.heap.size w).alloc (Nat.le_refl _) (.cells #[.int .i64 up, .int .i64 ex, lv] 25))
  have HROW := hid' (heap_alloc_new w (.cells #[.int .i64 up, .int .i64 ex, lv] 25))
  have HO := hid' (label_offset lv ls up ex sec (w.alloc (.cells #[.int .i64 up, .int .i64 ex, lv] 25)) wu wx (hv.below HBel.out) hn hwf)
  obtain ⟨hwh, hs1, hla⟩ := Tab.offset_ok he
  have hG := Tab.good_of_whole hwh
  have hpos := hG.pos
  have hlb := Tab.lastAt_bd ls sec ls.length
  obtain ⟨k, hk⟩ : ∃ k : Nat, Tab.lastAt ls sec ls.length = (k : Int) := ⟨(Tab.lastAt ls sec ls.length).toNat, by omega⟩
  have hd := hG.only (hG.day_of sec k hk) hD
  have hkl : k < ls.length := by omega
  have fk := (hG.fine _ (List.getElem_mem hkl)).2
  rw [← getD_at k hkl] at fk
  have hoff : Tab.offset up ex ls sec = ((ls.getD k (0, 0)).2, 0) := by
    unfold Tab.offset
    rw [if_neg (by rw [hwh]; simp), if_neg (by omega), if_neg (by omega), hk, Int.toNat_natCast]
  rcases hv with ⟨rfl, _⟩ | ⟨_, g, cap, rfl, _, hgl, hlies⟩
  · simp at hpos
  have HLies := hid' hlies
  clear hlies
  rw [hoff] at HO
  simp only at HO
  generalize (ls.getD k (0, 0)).2 = off at *
  have a0 := (hG.fine _ (List.getElem_mem hpos)).1
  rw [← getD_at 0 hpos] at a0
  have hbe := hG.begins_ge d hD.from'
  have d1 := hD.lo
  have d3 := hD.from'
  have d0 : 0 ≤ d := by omega
  have dm : d ≤ 400000 := by omega
  have hso : 0 ≤ sec - off := by
    by_cases c : 0 ≤ sec - off
    · exact c
    · exfalso; have : d < 0 := by omega
      omega
  have hbg : ∀ w1, Lies w1 g ls → Calls Try.prog 14 #[.slice (some ⟨g, 0, none⟩) ls.length cap, .int .i64 d] w1 fun e w' => e = .returned (.int .i64 (Tab.begins ls d)) ∧ w' = w1 := fun w1 h => day_begin g cap ls.length ls d w1 rfl h hG (by omega) (by omega) hD.from'
  have HDO : Hid (∀ w1, Calls Try.prog 13 #[.int .i64 sec, .int .i64 off] w1 fun e w' => e = .returned (.int .i64 d) ∧ w' = w1) := fun w1 => by rw [← hd]; exact day_of sec off w1 hso (by omega) (by omega) (by omega)
  have HBG := hid' hbg
  clear wu wx hwf hwh hG hbg a0 d3 hD hoff hla hlb hk he hkl
  generalize Tab.begins ls d = b at *
  go_enter Try.func9, Try.ntmps9
  go_wp2_with (first
    | (go_at_call 12; refine HO.out.mono ?_; rintro e w1 ⟨rfl, hb1⟩; have HB1 := hid' (HBel.out.trans (hb1.mono HBel.out.size)); have t2 := cell_of_row _ _ 2 _ _ _ ((hb1.block _ (lt_of_heap HROW.out)).trans HROW.out); (simp at t2); clear hb1)
    | (go_at_call 13; refine (HDO.out _).mono ?_; rintro e w4 ⟨rfl, rfl⟩)
    | (go_at_call 14; refine (HBG.out _ (HLies.out.below hgl HB1.out)).mono ?_; rintro e w3 ⟨rfl, rfl⟩))
  go_ret3
  exact ⟨rfl, HB1.out⟩

set_option maxRecDepth 100000 in
set_option maxHeartbeats 1000000 in
theorem label_second (lv : Value) (ls : List (Int × Int)) (up ex d s : Int) (w : World) (wu : (Lit.int .i64 up).wf = true) (wx : (Lit.int .i64 ex).wf = true)
    (hv : Held w lv ls) (hn : ls.length ≤ 100000) (hwf : ∀ p ∈ ls, WfP p) :
    Calls Try.prog 10 #[.agg #[.int .i64 up, .int .i64 ex, lv], .int .i64 d, .int .i64 s] w fun e w' =>
      e = .returned (.tuple #[.int .i64 (Tab.second up ex ls d s).1, .int .i64 (Tab.second up ex ls d s).2]) ∧ Below w.heap.size w w' := by
  have HBel := hid' ((Below.refl w.heap.size w).alloc (Nat.le_refl _) (.cells #[.int .i64 up, .int .i64 ex, lv] 25))
  have HW := hid' (is_table lv ls up ex (w.alloc (.cells #[.int .i64 up, .int .i64 ex, lv] 25)) wu wx (hv.below HBel.out) hn hwf)
  have HROW := hid' (heap_alloc_new w (.cells #[.int .i64 up, .int .i64 ex, lv] 25))
  clear wu wx hwf
  cases hwh : Tab.whole up ex ls with
  | false =>
    rw [hwh] at HW
    have H : Hid (Tab.second up ex ls d s = (0, 8)) := by show _ = _; unfold Tab.second; rw [if_pos hwh]
    clear hwh hv
    go_enter Try.func10, Try.ntmps10
    go_wp2_with (go_at_call 15; refine HW.out.mono ?_; rintro e w1 ⟨rfl, hb1⟩; have HB1 := hid' hb1; clear hb1)
    go_ret2
    exact ⟨ret_pair (by rw [H.out]) (by rw [H.out]), HBel.out.trans (HB1.out.mono HBel.out.size)⟩
  | true =>
    rw [hwh] at HW
    have hG := Tab.good_of_whole hwh
    have hpos := hG.pos
    have hbb := Tab.begins_bd hG.fine hpos d
    have hlb := Tab.length_bd hG.fine hpos d
    have HNW := hid' (show ¬ Tab.whole up ex ls = false by rw [hwh]; simp)
    clear hwh
    rcases hv with ⟨rfl, _⟩ | ⟨_, g, cap, rfl, _, hgl, hlies⟩
    · simp at hpos
    have HLies := hid' hlies
    have HG := hid' hG
    clear hlies hG
    by_cases h1 : d < 0
    · have H : Hid (Tab.second up ex ls d s = (0, 9)) := by show _ = _; unfold Tab.second; rw [if_neg HNW.out, if_pos (.inl h1)]
      clear hbb hlb
      go_enter Try.func10, Try.ntmps10
      go_wp2_with (go_at_call 15; refine HW.out.mono ?_; rintro e w1 ⟨rfl, hb1⟩; have HB1 := hid' (HBel.out.trans (hb1.mono HBel.out.size)); have t2 := cell_of_row _ _ 2 _ _ _ ((hb1.block _ (lt_of_heap HROW.out)).trans HROW.out); (simp at t2); clear hb1)
      go_ret2
      exact ⟨ret_pair (by rw [H.out]) (by rw [H.out]), HB1.out⟩
    by_cases h2 : 401767 ≤ d
    · have H : Hid (Tab.second up ex ls d s = (0, 9)) := by show _ = _; unfold Tab.second; rw [if_neg HNW.out, if_pos (.inr h2)]
      clear hbb hlb
      go_enter Try.func10, Try.ntmps10
      go_wp2_with (go_at_call 15; refine HW.out.mono ?_; rintro e w1 ⟨rfl, hb1⟩; have HB1 := hid' (HBel.out.trans (hb1.mono HBel.out.size)); have t2 := cell_of_row _ _ 2 _ _ _ ((hb1.block _ (lt_of_heap HROW.out)).trans HROW.out); (simp at t2); clear hb1)
      go_ret2
      exact ⟨ret_pair (by rw [H.out]) (by rw [H.out]), HB1.out⟩
    have hD : ¬ (d < 0 ∨ 401767 ≤ d) := by omega
    have hla : ∀ w1, Lies w1 g ls → Calls Try.prog 16 #[.slice (some ⟨g, 0, none⟩) ls.length cap, .int .i64 d] w1 fun e w' => e = .returned (.int .i64 (Tab.lastDay ls (d * 86400) ls.length)) ∧ w' = w1 := fun w1 h => last_at g cap ls.length ls d w1 rfl h hn (by omega) (by omega)
    have HLA := hid' hla
    have hln : ∀ w1, Lies w1 g ls → Calls Try.prog 17 #[.slice (some ⟨g, 0, none⟩) ls.length cap, .int .i64 d] w1 fun e w' => e = .returned (.int .i64 (Tab.length ls d)) ∧ ∃ m, w' = w1.drewN m := fun w1 h => day_length g cap ls.length ls d w1 rfl hpos h HG.out.fine hn (by omega) (by omega)
    have HLN := hid' hln
    clear hla hln
    by_cases h3 : d * 86400 < (ls.getD 0 (0, 0)).1
    · have hbn : Tab.begins ls d = -1 := by unfold Tab.begins; rw [if_pos h3]
      have hQ : Tab.begins ls d < 0 ∨ s < 0 ∨ Tab.length ls d ≤ s ∨ 34000000000 < Tab.begins ls d + s := .inl (by omega)
      have H : Hid (Tab.second up ex ls d s = (0, 9)) := by show _ = _; unfold Tab.second; rw [if_neg HNW.out, if_neg hD, if_pos hQ]
      have hld : Tab.lastDay ls (d * 86400) ls.length = -1 := HG.out.lastDay_no _ h3 _ (Nat.le_refl _)
      rw [hld] at HLA
      clear hQ hbn hbb hlb hld
      go_enter Try.func10, Try.ntmps10
      go_wp2_with (first
        | (go_at_call 15; refine HW.out.mono ?_; rintro e w1 ⟨rfl, hb1⟩; have HB1 := hid' (HBel.out.trans (hb1.mono HBel.out.size)); have t2 := cell_of_row _ _ 2 _ _ _ ((hb1.block _ (lt_of_heap HROW.out)).trans HROW.out); (simp at t2); clear hb1)
        | (go_at_call 16; refine (HLA.out w1 (HLies.out.below hgl HB1.out)).mono ?_; rintro e w2 ⟨rfl, rfl⟩))
      go_ret2
      exact ⟨ret_pair (by rw [H.out]) (by rw [H.out]), HB1.out⟩
    have h3' : (ls.getD 0 (0, 0)).1 ≤ d * 86400 := by omega
    have hld := (HG.out.begins_last d h3').1
    have hb0 : 0 ≤ Tab.begins ls d := by have := HG.out.begins_ge d h3'; omega
    have hbg : ∀ w1, Lies w1 g ls → Calls Try.prog 14 #[.slice (some ⟨g, 0, none⟩) ls.length cap, .int .i64 d] w1 fun e w' => e = .returned (.int .i64 (Tab.begins ls d)) ∧ w' = w1 := fun w1 h => day_begin g cap ls.length ls d w1 rfl h HG.out (by omega) (by omega) h3'
    have HBG := hid' hbg
    clear hbg h3
    generalize Tab.lastDay ls (d * 86400) ls.length = la at *
    by_cases h4 : s < 0
    · have hQ : Tab.begins ls d < 0 ∨ s < 0 ∨ Tab.length ls d ≤ s ∨ 34000000000 < Tab.begins ls d + s := .inr (.inl h4)
      have H : Hid (Tab.second up ex ls d s = (0, 9)) := by show _ = _; unfold Tab.second; rw [if_neg HNW.out, if_neg hD, if_pos hQ]
      clear hQ
      generalize Tab.begins ls d = b at *
      generalize Tab.length ls d = n at *
      go_enter Try.func10, Try.ntmps10
      go_wp2_with (first
        | (go_at_call 15; refine HW.out.mono ?_; rintro e w1 ⟨rfl, hb1⟩; have HB1 := hid' (HBel.out.trans (hb1.mono HBel.out.size)); have t2 := cell_of_row _ _ 2 _ _ _ ((hb1.block _ (lt_of_heap HROW.out)).trans HROW.out); (simp at t2); clear hb1)
        | (go_at_call 16; refine (HLA.out w1 (HLies.out.below hgl HB1.out)).mono ?_; rintro e w2 ⟨rfl, rfl⟩))
      go_ret2
      exact ⟨ret_pair (by rw [H.out]) (by rw [H.out]), HB1.out⟩
    by_cases h5 : Tab.length ls d ≤ s
    · have hQ : Tab.begins ls d < 0 ∨ s < 0 ∨ Tab.length ls d ≤ s ∨ 34000000000 < Tab.begins ls d + s := .inr (.inr (.inl h5))
      have H : Hid (Tab.second up ex ls d s = (0, 9)) := by show _ = _; unfold Tab.second; rw [if_neg HNW.out, if_neg hD, if_pos hQ]
      clear hQ
      generalize Tab.begins ls d = b at *
      generalize Tab.length ls d = n at *
      go_enter Try.func10, Try.ntmps10
      go_wp2_with (first
        | (go_at_call 15; refine HW.out.mono ?_; rintro e w1 ⟨rfl, hb1⟩; have HB1 := hid' (HBel.out.trans (hb1.mono HBel.out.size)); have t2 := cell_of_row _ _ 2 _ _ _ ((hb1.block _ (lt_of_heap HROW.out)).trans HROW.out); (simp at t2); clear hb1)
        | (go_at_call 16; refine (HLA.out w1 (HLies.out.below hgl HB1.out)).mono ?_; rintro e w2 ⟨rfl, rfl⟩)
        | (go_at_call 17; refine (HLN.out _ (HLies.out.below hgl HB1.out)).mono ?_; rintro e w2 ⟨rfl, m2, rfl⟩))
      go_ret2
      exact ⟨ret_pair (by rw [H.out]) (by rw [H.out]), below_drewN HB1.out m2⟩
    by_cases h6 : 34000000000 < Tab.begins ls d + s
    · have hQ : Tab.begins ls d < 0 ∨ s < 0 ∨ Tab.length ls d ≤ s ∨ 34000000000 < Tab.begins ls d + s := .inr (.inr (.inr h6))
      have H : Hid (Tab.second up ex ls d s = (0, 9)) := by show _ = _; unfold Tab.second; rw [if_neg HNW.out, if_neg hD, if_pos hQ]
      clear hQ
      generalize Tab.begins ls d = b at *
      generalize Tab.length ls d = n at *
      go_enter Try.func10, Try.ntmps10
      go_wp2_with (first
        | (go_at_call 15; refine HW.out.mono ?_; rintro e w1 ⟨rfl, hb1⟩; have HB1 := hid' (HBel.out.trans (hb1.mono HBel.out.size)); have t2 := cell_of_row _ _ 2 _ _ _ ((hb1.block _ (lt_of_heap HROW.out)).trans HROW.out); (simp at t2); clear hb1)
        | (go_at_call 16; refine (HLA.out w1 (HLies.out.below hgl HB1.out)).mono ?_; rintro e w2 ⟨rfl, rfl⟩)
        | (go_at_call 17; refine (HLN.out _ (HLies.out.below hgl HB1.out)).mono ?_; rintro e w2 ⟨rfl, m2, rfl⟩)
        | (go_at_call 14; refine (HBG.out _ (HLies.out.below hgl (below_drewN HB1.out m2))).mono ?_; rintro e w3 ⟨rfl, rfl⟩))
      go_ret2
      exact ⟨ret_pair (by rw [H.out]) (by rw [H.out]), below_drewN HB1.out m2⟩
    have hQ : ¬ (Tab.begins ls d < 0 ∨ s < 0 ∨ Tab.length ls d ≤ s ∨ 34000000000 < Tab.begins ls d + s) := by omega
    have H : Hid (Tab.second up ex ls d s = (Tab.begins ls d + s, 0)) := by show _ = _; unfold Tab.second; rw [if_neg HNW.out, if_neg hD, if_neg hQ]
    clear hQ
    generalize Tab.begins ls d = b at *
    generalize Tab.length ls d = n at *
    go_enter Try.func10, Try.ntmps10
    go_wp2_with (first
      | (go_at_call 15; refine HW.out.mono ?_; rintro e w1 ⟨rfl, hb1⟩; have HB1 := hid' (HBel.out.trans (hb1.mono HBel.out.size)); have t2 := cell_of_row _ _ 2 _ _ _ ((hb1.block _ (lt_of_heap HROW.out)).trans HROW.out); (simp at t2); clear hb1)
      | (go_at_call 16; refine (HLA.out w1 (HLies.out.below hgl HB1.out)).mono ?_; rintro e w2 ⟨rfl, rfl⟩)
      | (go_at_call 17; refine (HLN.out _ (HLies.out.below hgl HB1.out)).mono ?_; rintro e w2 ⟨rfl, m2, rfl⟩)
      | (go_at_call 14; refine (HBG.out _ (HLies.out.below hgl (below_drewN HB1.out m2))).mono ?_; rintro e w3 ⟨rfl, rfl⟩))
    go_ret2
    exact ⟨ret_pair (by rw [H.out]) (by rw [H.out]), below_drewN HB1.out m2⟩

/-! The calls of package smear. -/

set_option maxRecDepth 100000 in
theorem smear_second (lv : Value) (ls : List (Int × Int)) (up ex d s : Int) (w : World) (wu : (Lit.int .i64 up).wf = true) (wx : (Lit.int .i64 ex).wf = true)
    (hv : Held w lv ls) (hn : ls.length ≤ 100000) (hwf : ∀ p ∈ ls, WfP p) :
    Calls Try.prog 7 #[.agg #[.int .i64 up, .int .i64 ex, lv], .int .i64 d, .int .i64 s] w fun e w' =>
      e = .returned (.tuple #[.int .i64 (Tab.second up ex ls d s).1, .int .i64 (Tab.second up ex ls d s).2]) ∧ Below w.heap.size w w' := by
  have HBel := hid' ((Below.refl w.heap.size w).alloc (Nat.le_refl _) (.cells #[.int .i64 up, .int .i64 ex, lv] 25))
  have HW := hid' (label_second lv ls up ex d s (w.alloc (.cells #[.int .i64 up, .int .i64 ex, lv] 25)) wu wx (hv.below HBel.out) hn hwf)
  clear wu wx hwf hv
  generalize Tab.second up ex ls d s = r at *
  go_enter Try.func7, Try.ntmps7
  go_wp2_with (go_at_call 10; refine HW.out.mono ?_; rintro e w1 ⟨rfl, hb1⟩; have HB1 := hid' (HBel.out.trans (hb1.mono HBel.out.size)); clear hb1)
  go_ret2
  exact ⟨rfl, HB1.out⟩

set_option maxRecDepth 100000 in
theorem smear_label_no (lv : Value) (ls : List (Int × Int)) (up ex sec : Int) (w : World) (wu : (Lit.int .i64 up).wf = true) (wx : (Lit.int .i64 ex).wf = true)
    (hv : Held w lv ls) (hn : ls.length ≤ 100000) (hwf : ∀ p ∈ ls, WfP p) (he : (Tab.offset up ex ls sec).2 ≠ 0) :
    Calls Try.prog 6 #[.agg #[.int .i64 up, .int .i64 ex, lv], .int .i64 sec] w fun e w' =>
      e = .returned (.tuple #[.int .i64 0, .int .i64 0, .int .i64 (Tab.offset up ex ls sec).2]) ∧ Below w.heap.size w w' := by
  have HBel := hid' ((Below.refl w.heap.size w).alloc (Nat.le_refl _) (.cells #[.int .i64 up, .int .i64 ex, lv] 25))
  have HW := hid' (label_label_no lv ls up ex sec (w.alloc (.cells #[.int .i64 up, .int .i64 ex, lv] 25)) wu wx (hv.below HBel.out) hn hwf he)
  clear wu wx hwf hv he
  generalize (Tab.offset up ex ls sec).2 = r at *
  go_enter Try.func6, Try.ntmps6
  go_wp2_with (go_at_call 9; refine HW.out.mono ?_; rintro e w1 ⟨rfl, hb1⟩; have HB1 := hid' (HBel.out.trans (hb1.mono HBel.out.size)); clear hb1)
  go_ret3
  exact ⟨rfl, HB1.out⟩

set_option maxRecDepth 100000 in
theorem smear_label_yes (lv : Value) (ls : List (Int × Int)) (up ex sec d : Int) (w : World) (wu : (Lit.int .i64 up).wf = true) (wx : (Lit.int .i64 ex).wf = true)
    (hv : Held w lv ls) (hn : ls.length ≤ 100000) (hwf : ∀ p ∈ ls, WfP p) (he : (Tab.offset up ex ls sec).2 = 0) (hD : Tab.Day ls sec d) :
    Calls Try.prog 6 #[.agg #[.int .i64 up, .int .i64 ex, lv], .int .i64 sec] w fun e w' =>
      e = .returned (.tuple #[.int .i64 d, .int .i64 (sec - Tab.begins ls d), .int .i64 0]) ∧ Below w.heap.size w w' := by
  have HBel := hid' ((Below.refl w.heap.size w).alloc (Nat.le_refl _) (.cells #[.int .i64 up, .int .i64 ex, lv] 25))
  have HW := hid' (label_label_yes lv ls up ex sec d (w.alloc (.cells #[.int .i64 up, .int .i64 ex, lv] 25)) wu wx (hv.below HBel.out) hn hwf he hD)
  clear wu wx hwf hv he hD
  generalize sec - Tab.begins ls d = r at *
  go_enter Try.func6, Try.ntmps6
  go_wp2_with (go_at_call 9; refine HW.out.mono ?_; rintro e w1 ⟨rfl, hb1⟩; have HB1 := hid' (HBel.out.trans (hb1.mono HBel.out.size)); clear hb1)
  go_ret3
  exact ⟨rfl, HB1.out⟩

end Go.Proofs.Ytmmkhodaljpjgab
