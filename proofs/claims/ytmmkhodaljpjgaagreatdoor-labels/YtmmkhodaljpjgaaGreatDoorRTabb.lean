import Derived.Test.YtmmkhodaljpjgaaGreatDoorRTab
import Derived.Deep.QuietTactic
import Derived.BigQuiet
namespace Go.Proofs.YtmmkhodaljpjgaaGreatDoor
open Go.RowKit

set_option maxRecDepth 100000 in
set_option maxHeartbeats 1000000 in
theorem ref_offset (B : Nat) (lv : Value) (ls : List (Int × Int)) (up ex sec : Int) (w : World) (wu : (Lit.int .i64 up).wf = true) (wx : (Lit.int .i64 ex).wf = true)
    (hv : w.ownsRow B 46 2 lv ls.length (flat ls)) (hn : ls.length ≤ 100000) (hwf : ∀ p ∈ ls, WfP p) :
    Calls Tryz.prog 48 #[.agg #[.int .i64 up, .int .i64 ex, lv], .int .i64 sec] w fun e w' =>
      e = .returned (.tuple #[.int .i64 (Tab.offset up ex ls sec).1, .int .i64 (Tab.offset up ex ls sec).2]) ∧ Below w.heap.size w w' := by
  have HBel := hid' ((Below.refl w.heap.size w).alloc (Nat.le_refl _) (.cells #[.int .i64 up, .int .i64 ex, lv] 33))
  have HW := hid' (whole_any B lv ls up ex (w.alloc (.cells #[.int .i64 up, .int .i64 ex, lv] 33)) wu wx (hv.alloc _) hn hwf)
  have HROW := hid' (heap_alloc_new w (.cells #[.int .i64 up, .int .i64 ex, lv] 33))
  clear wu wx hwf
  cases hwh : Tab.whole up ex ls with
  | false =>
    rw [hwh] at HW
    have H : Hid (Tab.offset up ex ls sec = (0, 8)) := by show _ = _; unfold Tab.offset; rw [if_pos hwh]
    clear hwh hv
    go_enter Tryz.func48, Tryz.ntmps48
    go_wp2_with (go_at_call 79; refine HW.out.mono ?_; rintro e w1 ⟨rfl, hb1⟩; have HB1 := hid' hb1; clear hb1)
    go_ret2
    exact ⟨ret_pair (by rw [H.out]) (by rw [H.out]), HBel.out.trans (HB1.out.mono HBel.out.size)⟩
  | true =>
    rw [hwh] at HW
    obtain ⟨hok, hpos⟩ := Tab.whole_ok hwh
    have hfine := Tab.fine_of_whole hwh
    have HFine := hid' hfine
    clear hok hfine
    have HNW := hid' (show ¬ Tab.whole up ex ls = false by rw [hwh]; simp)
    clear hwh
    obtain ⟨g, cap, rfl⟩ := own_some hv hpos
    have hgl := (hv.lt _ rfl).2
    have HLies := hid' (lies_of_own hv)
    clear hv
    by_cases h1 : 34000000000 < sec
    · have H : Hid (Tab.offset up ex ls sec = (0, 9)) := by show _ = _; unfold Tab.offset; rw [if_neg HNW.out, if_pos h1]
      go_enter Tryz.func48, Tryz.ntmps48
      go_wp2_with (go_at_call 79; refine HW.out.mono ?_; rintro e w1 ⟨rfl, hb1⟩; have HB1 := hid' hb1; clear hb1)
      go_ret2
      exact ⟨ret_pair (by rw [H.out]) (by rw [H.out]), HBel.out.trans (HB1.out.mono HBel.out.size)⟩
    · have hbd := Tab.lastAt_bd ls sec ls.length
      by_cases h2 : Tab.lastAt ls sec ls.length < 0
      · have H : Hid (Tab.offset up ex ls sec = (0, 9)) := by show _ = _; unfold Tab.offset; rw [if_neg HNW.out, if_neg h1, if_pos h2]
        have HAT : ∀ w1, Lies w1 g ls → Hid (Calls Tryz.prog 83 #[.slice (some ⟨g, 0, none⟩) ls.length cap, .int .i64 sec] w1 fun e w' => e = .returned (.int .i64 (Tab.lastAt ls sec ls.length)) ∧ w' = w1) := fun w1 h => ref_at g cap ls.length ls sec w1 rfl h HFine.out hn
        have HATH := hid' HAT
        clear HAT
        generalize Tab.lastAt ls sec ls.length = k at *
        go_enter Tryz.func48, Tryz.ntmps48
        go_wp2_with (first
          | (go_at_call 79; refine HW.out.mono ?_; rintro e w1 ⟨rfl, hb1⟩; have HB1 := hid' (HBel.out.trans (hb1.mono HBel.out.size)); have t2 := cell_of_row _ _ 2 _ _ _ ((hb1.block _ (lt_of_heap HROW.out)).trans HROW.out); (simp at t2); clear hb1)
          | (go_at_call 83; refine (HATH.out w1 (HLies.out.below hgl HB1.out)).out.mono ?_; rintro e w2 ⟨rfl, rfl⟩))
        go_ret2
        exact ⟨ret_pair (by rw [H.out]) (by rw [H.out]), HB1.out⟩
      · obtain ⟨k, hk⟩ : ∃ k : Nat, Tab.lastAt ls sec ls.length = (k : Int) := ⟨(Tab.lastAt ls sec ls.length).toNat, by omega⟩
        have hkl : k < ls.length := by omega
        have H : Hid (Tab.offset up ex ls sec = (ls[k].2, 0)) := by show _ = _; unfold Tab.offset; rw [if_neg HNW.out, if_neg h1, if_neg h2, hk, Int.toNat_natCast, getD_at k hkl]
        have HAT : ∀ w1, Lies w1 g ls → Hid (Calls Tryz.prog 83 #[.slice (some ⟨g, 0, none⟩) ls.length cap, .int .i64 sec] w1 fun e w' => e = .returned (.int .i64 (k : Int)) ∧ w' = w1) := fun w1 h => by rw [← hk]; exact ref_at g cap ls.length ls sec w1 rfl h HFine.out hn
        have HATH := hid' HAT
        have hcell := (HLies.out k hkl).2
        clear HAT hk hbd h2
        generalize ls[k] = p at *
        obtain ⟨pa, po⟩ := p
        simp only at hcell
        go_enter Tryz.func48, Tryz.ntmps48
        go_wp2_with (first
          | (go_at_call 79; refine HW.out.mono ?_; rintro e w1 ⟨rfl, hb1⟩; have HB1 := hid' (HBel.out.trans (hb1.mono HBel.out.size)); have t2 := cell_of_row _ _ 2 _ _ _ ((hb1.block _ (lt_of_heap HROW.out)).trans HROW.out); (simp at t2); have hc1 := (HB1.out.cell (p := ⟨g, k * 2 + 1, none⟩) hgl).trans hcell; clear hb1)
          | (go_at_call 83; refine (HATH.out w1 (HLies.out.below hgl HB1.out)).out.mono ?_; rintro e w2 ⟨rfl, rfl⟩))
        go_ret2
        exact ⟨ret_pair (by rw [H.out]) (by rw [H.out]), HB1.out⟩

end Go.Proofs.YtmmkhodaljpjgaaGreatDoor

namespace Go.Proofs.YtmmkhodaljpjgaaGreatDoor
open Go.RowKit

set_option maxRecDepth 100000 in
theorem ref_begins (g cap n : Nat) (ls : List (Int × Int)) (d : Int) (w : World) (hn : ls.length = n) (hp : 0 < n) (hl : Lies w g ls) (hf : Fine ls) (hb : n ≤ 100000) (d0 : -10 ≤ d) (d1 : d ≤ 500000) :
    Calls Tryz.prog 86 #[.slice (some ⟨g, 0, none⟩) n cap, .int .i64 d] w fun e w' => e = .returned (.int .i64 (Tab.begins ls d)) ∧ w' = w := by
  have c0 := hl 0 (by omega)
  have f0 := hf _ (List.getElem_mem (show 0 < ls.length by omega))
  have g0 := getD_at (ls := ls) 0 (by omega)
  generalize hp0 : ls[0]'(by omega) = p at *
  obtain ⟨pa, po⟩ := p
  obtain ⟨c1, c2⟩ := c0
  simp only [Nat.zero_mul, Nat.zero_add] at c1 c2
  simp only at f0
  have HL := hid' hl
  have HF := hid' hf
  have HN := hid' hn
  have HG0 := hid' g0
  clear hl hf hn hp0 g0
  by_cases hlt0 : d * 86400 < pa
  · have H : Hid (Tab.begins ls d = -1) := by show _ = _; unfold Tab.begins; rw [HG0.out, if_pos hlt0]
    go_enter Tryz.func86, Tryz.ntmps86
    go_wp2
    go_ret
    exact ⟨ret_int H.out.symm, rfl⟩
  · have H : Hid (Tab.begins ls d = d * 86400 + Tab.offAt ls (d * 86400) (n - 1)) := by show _ = _; unfold Tab.begins; rw [HG0.out, if_neg hlt0, HN.out]
    have H0 : Hid (Tab.offAt ls (d * 86400) 0 = po) := by show _ = _; unfold Tab.offAt; rw [HG0.out]
    go_enter Tryz.func86, Tryz.ntmps86
    go_wp2
    go_loop [5, 6] (fun o i => ∃ k : Nat, k + 1 ≤ n ∧ i = .int .i64 ((k : Int) + 1) ∧ o = .int .i64 (Tab.offAt ls (d * 86400) k)) (fun _ i => n - (intOf i).toNat)
    case atStart => exact ⟨0, by omega, rfl, by rw [H0.out]⟩
    case round =>
      obtain ⟨k, hk, rfl, rfl⟩ := hrel
      have hbd := Tab.offAt_bd HF.out (d * 86400) k (by rw [HN.out]; omega)
      by_cases hlt : k + 1 < n
      · have hkl : k + 1 < ls.length := by rw [HN.out]; exact hlt
        obtain ⟨e1, e2⟩ := HL.out (k + 1) hkl
        have hgd := getD_at (ls := ls) (k + 1) hkl
        have hS : Hid (Tab.offAt ls (d * 86400) (k + 1) = if ls[k + 1].1 ≤ d * 86400 then ls[k + 1].2 else Tab.offAt ls (d * 86400) k) := by
          show _ = _; rw [Tab.offAt, hgd]
        have hfq := HF.out _ (List.getElem_mem hkl)
        clear hgd
        generalize ls[k + 1] = q at *
        clear hkl
        obtain ⟨qa, qo⟩ := q
        simp only at e1 e2 hfq
        by_cases hle : qa ≤ d * 86400
        · have H2 : Hid (Tab.offAt ls (d * 86400) (k + 1) = qo) := by show _ = _; rw [hS.out]; simp only; rw [if_pos hle]
          generalize Tab.offAt ls (d * 86400) k = v at *
          go_wp2
          exact ⟨⟨k + 1, by omega, by go_num, by rw [H2.out]⟩, by simp [intOf]; omega⟩
        · have H2 : Hid (Tab.offAt ls (d * 86400) (k + 1) = Tab.offAt ls (d * 86400) k) := by show _ = _; rw [hS.out]; simp only; rw [if_neg hle]
          generalize hv : Tab.offAt ls (d * 86400) k = v at *
          go_wp2
          exact ⟨⟨k + 1, by omega, by go_num, by rw [H2.out]⟩, by simp [intOf]; omega⟩
      · have HK : Hid (Tab.offAt ls (d * 86400) k = Tab.offAt ls (d * 86400) (n - 1)) := by show _ = _; rw [show k = n - 1 from by omega]
        go_wp2
        go_ret
        exact ⟨ret_int (by rw [H.out, HK.out]), rfl⟩

end Go.Proofs.YtmmkhodaljpjgaaGreatDoor

namespace Go.Proofs.YtmmkhodaljpjgaaGreatDoor
open Go.RowKit

set_option maxRecDepth 100000 in
theorem ref_length (g cap n : Nat) (ls : List (Int × Int)) (d : Int) (w : World) (hn : ls.length = n) (hp : 0 < n) (hl : Lies w g ls) (hf : Fine ls) (hb : n ≤ 100000) (d0 : -10 ≤ d) (d1 : d ≤ 500000) :
    Calls Tryz.prog 88 #[.slice (some ⟨g, 0, none⟩) n cap, .int .i64 d] w fun e w' => e = .returned (.int .i64 (Tab.length ls d)) ∧ ∃ m, w' = w.drewN m := by
  have HL := hid' hl
  have HF := hid' hf
  have HN := hid' hn
  have H : Hid (Tab.length ls d = Tab.lenFrom ls ((d + 1) * 86400) 1 (n - 1)) := by show _ = _; unfold Tab.length; rw [hn]
  clear hl hf hn
  go_enter Tryz.func88, Tryz.ntmps88
  go_wp2
  go_loop [5] (fun i => ∃ k : Nat, k + 1 ≤ n ∧ i = .int .i64 ((k : Int) + 1) ∧ Tab.length ls d = Tab.lenFrom ls ((d + 1) * 86400) (k + 1) (n - (k + 1))) (fun i => n - (intOf i).toNat)
  case atStart => exact ⟨0, by omega, rfl, H.out⟩
  case round =>
    obtain ⟨k, hk, rfl, hrl⟩ := hrel
    have HRL := hid' hrl
    clear hrl H
    by_cases hlt : k + 1 < n
    · have hkl : k + 1 < ls.length := by rw [HN.out]; exact hlt
      obtain ⟨e1, e2⟩ := HL.out (k + 1) hkl
      obtain ⟨_, b2⟩ := HL.out k (by omega)
      have hfq := HF.out _ (List.getElem_mem hkl)
      have hfp := HF.out _ (List.getElem_mem (show k < ls.length by omega))
      have hS : Hid (Tab.length ls d = if ls[k + 1].1 = (d + 1) * 86400 then 86400 + ls[k + 1].2 - (ls[k]'(by omega)).2 else Tab.lenFrom ls ((d + 1) * 86400) (k + 1 + 1) (n - (k + 1 + 1))) := by
        show _ = _
        rw [HRL.out, show n - (k + 1) = n - (k + 1 + 1) + 1 from by omega, Tab.lenFrom, getD_at (k + 1) hkl, show k + 1 - 1 = k from rfl, getD_at k (by omega)]
      generalize ls[k + 1] = q at *
      generalize ls[k]'(by omega) = p at *
      clear hkl
      obtain ⟨qa, qo⟩ := q
      obtain ⟨pa, po⟩ := p
      simp only at e1 e2 hfq b2 hfp
      by_cases hle : qa = (d + 1) * 86400
      · have H2 : Hid (Tab.length ls d = 86400 + qo - po) := by show _ = _; rw [hS.out]; simp only; rw [if_pos hle]
        have hbq : (qa == (d + 1) * 86400) = true := by rw [beq_iff_eq]; exact hle
        clear hle hS HRL
        have r0 : IntKind.i64.wrap ((k : Int) + 1 - 1) = (k : Int) := by rw [IntKind.wrap_i64]; omega
        have r1 : IntKind.i64.wrap (86400 + qo) = 86400 + qo := by rw [IntKind.wrap_i64]; omega
        have r2 : IntKind.i64.wrap (86400 + qo - po) = 86400 + qo - po := by rw [IntKind.wrap_i64]; omega
        have z0 : (0 : Int) ≤ (k : Int) := by omega
        have z1 : (k : Int) < (n : Int) := by omega
        have z2 : (0 : Int) ≤ (k : Int) + 1 := by omega
        have z3 : (k : Int) + 1 < (n : Int) := by omega
        have z4 : ((k : Int) + 1).toNat = k + 1 := by omega
        go_wp2_with fail
        go_quiet (fail)
        go_wp2
        go_ret
        exact ⟨ret_int H2.out.symm, nq, rfl⟩
      · have H2 : Hid (Tab.length ls d = Tab.lenFrom ls ((d + 1) * 86400) (k + 1 + 1) (n - (k + 1 + 1))) := by show _ = _; rw [hS.out]; simp only; rw [if_neg hle]
        have hbq : (qa == (d + 1) * 86400) = false := by rw [beq_eq_false_iff_ne]; exact hle
        clear hle hS HRL
        go_wp2
        exact ⟨⟨k + 1, by omega, by go_num, H2.out⟩, by simp [intOf]; omega⟩
    · have H2 : Hid (Tab.length ls d = 86400) := by show _ = _; rw [HRL.out, show n - (k + 1) = 0 from by omega]; rfl
      go_wp2
      go_ret
      exact ⟨ret_int H2.out.symm, 0, rfl⟩

end Go.Proofs.YtmmkhodaljpjgaaGreatDoor

namespace Go.Proofs.YtmmkhodaljpjgaaGreatDoor
open Go.RowKit

set_option maxRecDepth 100000 in
set_option maxHeartbeats 1000000 in
theorem ref_second (B : Nat) (lv : Value) (ls : List (Int × Int)) (up ex d s : Int) (w : World) (wu : (Lit.int .i64 up).wf = true) (wx : (Lit.int .i64 ex).wf = true)
    (hv : w.ownsRow B 46 2 lv ls.length (flat ls)) (hn : ls.length ≤ 100000) (hwf : ∀ p ∈ ls, WfP p) :
    Calls Tryz.prog 52 #[.agg #[.int .i64 up, .int .i64 ex, lv], .int .i64 d, .int .i64 s] w fun e w' =>
      e = .returned (.tuple #[.int .i64 (Tab.second up ex ls d s).1, .int .i64 (Tab.second up ex ls d s).2]) ∧ Below w.heap.size w w' := by
  have HBel := hid' ((Below.refl w.heap.size w).alloc (Nat.le_refl _) (.cells #[.int .i64 up, .int .i64 ex, lv] 33))
  have HW := hid' (whole_any B lv ls up ex (w.alloc (.cells #[.int .i64 up, .int .i64 ex, lv] 33)) wu wx (hv.alloc _) hn hwf)
  have HROW := hid' (heap_alloc_new w (.cells #[.int .i64 up, .int .i64 ex, lv] 33))
  clear wu wx hwf
  cases hwh : Tab.whole up ex ls with
  | false =>
    rw [hwh] at HW
    have H : Hid (Tab.second up ex ls d s = (0, 8)) := by show _ = _; unfold Tab.second; rw [if_pos hwh]
    clear hwh hv
    go_enter Tryz.func52, Tryz.ntmps52
    go_wp2_with (go_at_call 79; refine HW.out.mono ?_; rintro e w1 ⟨rfl, hb1⟩; have HB1 := hid' hb1; clear hb1)
    go_ret2
    exact ⟨ret_pair (by rw [H.out]) (by rw [H.out]), HBel.out.trans (HB1.out.mono HBel.out.size)⟩
  | true =>
    rw [hwh] at HW
    obtain ⟨hok, hpos⟩ := Tab.whole_ok hwh
    have hfine := Tab.fine_of_whole hwh
    have HFine := hid' hfine
    have hbb := Tab.begins_bd hfine hpos d
    have hlb := Tab.length_bd hfine hpos d
    clear hok hfine
    have HNW := hid' (show ¬ Tab.whole up ex ls = false by rw [hwh]; simp)
    clear hwh
    obtain ⟨g, cap, rfl⟩ := own_some hv hpos
    have hgl := (hv.lt _ rfl).2
    have HLies := hid' (lies_of_own hv)
    clear hv
    by_cases h1 : d < 0
    · have H : Hid (Tab.second up ex ls d s = (0, 9)) := by show _ = _; unfold Tab.second; rw [if_neg HNW.out, if_pos (.inl h1)]
      clear hbb hlb
      go_enter Tryz.func52, Tryz.ntmps52
      go_wp2_with (go_at_call 79; refine HW.out.mono ?_; rintro e w1 ⟨rfl, hb1⟩; have HB1 := hid' (HBel.out.trans (hb1.mono HBel.out.size)); have t2 := cell_of_row _ _ 2 _ _ _ ((hb1.block _ (lt_of_heap HROW.out)).trans HROW.out); (simp at t2); clear hb1)
      go_ret2
      exact ⟨ret_pair (by rw [H.out]) (by rw [H.out]), HB1.out⟩
    by_cases h2 : 401767 ≤ d
    · have H : Hid (Tab.second up ex ls d s = (0, 9)) := by show _ = _; unfold Tab.second; rw [if_neg HNW.out, if_pos (.inr h2)]
      clear hbb hlb
      go_enter Tryz.func52, Tryz.ntmps52
      go_wp2_with (go_at_call 79; refine HW.out.mono ?_; rintro e w1 ⟨rfl, hb1⟩; have HB1 := hid' (HBel.out.trans (hb1.mono HBel.out.size)); have t2 := cell_of_row _ _ 2 _ _ _ ((hb1.block _ (lt_of_heap HROW.out)).trans HROW.out); (simp at t2); clear hb1)
      go_ret2
      exact ⟨ret_pair (by rw [H.out]) (by rw [H.out]), HB1.out⟩
    have hD : ¬ (d < 0 ∨ 401767 ≤ d) := by omega
    have hbg : ∀ w1, Lies w1 g ls → Calls Tryz.prog 86 #[.slice (some ⟨g, 0, none⟩) ls.length cap, .int .i64 d] w1 fun e w' => e = .returned (.int .i64 (Tab.begins ls d)) ∧ w' = w1 := fun w1 h => ref_begins g cap ls.length ls d w1 rfl hpos h HFine.out hn (by omega) (by omega)
    have HBG := hid' hbg
    have hln : ∀ w1, Lies w1 g ls → Calls Tryz.prog 88 #[.slice (some ⟨g, 0, none⟩) ls.length cap, .int .i64 d] w1 fun e w' => e = .returned (.int .i64 (Tab.length ls d)) ∧ ∃ m, w' = w1.drewN m := fun w1 h => ref_length g cap ls.length ls d w1 rfl hpos h HFine.out hn (by omega) (by omega)
    have HLN := hid' hln
    clear hbg hln
    by_cases h3 : Tab.begins ls d < 0
    · have hQ : Tab.begins ls d < 0 ∨ s < 0 ∨ Tab.length ls d ≤ s ∨ 34000000000 < Tab.begins ls d + s := .inl h3
      have H : Hid (Tab.second up ex ls d s = (0, 9)) := by show _ = _; unfold Tab.second; rw [if_neg HNW.out, if_neg hD, if_pos hQ]
      clear hQ
      generalize Tab.begins ls d = b at *
      generalize Tab.length ls d = n at *
      go_enter Tryz.func52, Tryz.ntmps52
      go_wp2_with (first
        | (go_at_call 79; refine HW.out.mono ?_; rintro e w1 ⟨rfl, hb1⟩; have HB1 := hid' (HBel.out.trans (hb1.mono HBel.out.size)); have t2 := cell_of_row _ _ 2 _ _ _ ((hb1.block _ (lt_of_heap HROW.out)).trans HROW.out); (simp at t2); clear hb1)
        | (go_at_call 86; refine (HBG.out w1 (HLies.out.below hgl HB1.out)).mono ?_; rintro e w2 ⟨rfl, rfl⟩))
      go_ret2
      exact ⟨ret_pair (by rw [H.out]) (by rw [H.out]), HB1.out⟩
    by_cases h4 : s < 0
    · have hQ : Tab.begins ls d < 0 ∨ s < 0 ∨ Tab.length ls d ≤ s ∨ 34000000000 < Tab.begins ls d + s := .inr (.inl h4)
      have H : Hid (Tab.second up ex ls d s = (0, 9)) := by show _ = _; unfold Tab.second; rw [if_neg HNW.out, if_neg hD, if_pos hQ]
      clear hQ
      generalize Tab.begins ls d = b at *
      generalize Tab.length ls d = n at *
      go_enter Tryz.func52, Tryz.ntmps52
      go_wp2_with (first
        | (go_at_call 79; refine HW.out.mono ?_; rintro e w1 ⟨rfl, hb1⟩; have HB1 := hid' (HBel.out.trans (hb1.mono HBel.out.size)); have t2 := cell_of_row _ _ 2 _ _ _ ((hb1.block _ (lt_of_heap HROW.out)).trans HROW.out); (simp at t2); clear hb1)
        | (go_at_call 86; refine (HBG.out w1 (HLies.out.below hgl HB1.out)).mono ?_; rintro e w2 ⟨rfl, rfl⟩))
      go_ret2
      exact ⟨ret_pair (by rw [H.out]) (by rw [H.out]), HB1.out⟩
    by_cases h5 : Tab.length ls d ≤ s
    · have hQ : Tab.begins ls d < 0 ∨ s < 0 ∨ Tab.length ls d ≤ s ∨ 34000000000 < Tab.begins ls d + s := .inr (.inr (.inl h5))
      have H : Hid (Tab.second up ex ls d s = (0, 9)) := by show _ = _; unfold Tab.second; rw [if_neg HNW.out, if_neg hD, if_pos hQ]
      clear hQ
      generalize Tab.begins ls d = b at *
      generalize Tab.length ls d = n at *
      go_enter Tryz.func52, Tryz.ntmps52
      go_wp2_with (first
        | (go_at_call 79; refine HW.out.mono ?_; rintro e w1 ⟨rfl, hb1⟩; have HB1 := hid' (HBel.out.trans (hb1.mono HBel.out.size)); have t2 := cell_of_row _ _ 2 _ _ _ ((hb1.block _ (lt_of_heap HROW.out)).trans HROW.out); (simp at t2); clear hb1)
        | (go_at_call 86; refine (HBG.out w1 (HLies.out.below hgl HB1.out)).mono ?_; rintro e w2 ⟨rfl, rfl⟩)
        | (go_at_call 88; refine (HLN.out _ (HLies.out.below hgl HB1.out)).mono ?_; rintro e w2 ⟨rfl, m2, rfl⟩))
      go_ret2
      exact ⟨ret_pair (by rw [H.out]) (by rw [H.out]), below_drewN HB1.out m2⟩
    by_cases h6 : 34000000000 < Tab.begins ls d + s
    · have hQ : Tab.begins ls d < 0 ∨ s < 0 ∨ Tab.length ls d ≤ s ∨ 34000000000 < Tab.begins ls d + s := .inr (.inr (.inr h6))
      have H : Hid (Tab.second up ex ls d s = (0, 9)) := by show _ = _; unfold Tab.second; rw [if_neg HNW.out, if_neg hD, if_pos hQ]
      clear hQ
      generalize Tab.begins ls d = b at *
      generalize Tab.length ls d = n at *
      go_enter Tryz.func52, Tryz.ntmps52
      go_wp2_with (first
        | (go_at_call 79; refine HW.out.mono ?_; rintro e w1 ⟨rfl, hb1⟩; have HB1 := hid' (HBel.out.trans (hb1.mono HBel.out.size)); have t2 := cell_of_row _ _ 2 _ _ _ ((hb1.block _ (lt_of_heap HROW.out)).trans HROW.out); (simp at t2); clear hb1)
        | (go_at_call 86; refine (HBG.out w1 (HLies.out.below hgl HB1.out)).mono ?_; rintro e w2 ⟨rfl, rfl⟩)
        | (go_at_call 88; refine (HLN.out _ (HLies.out.below hgl HB1.out)).mono ?_; rintro e w2 ⟨rfl, m2, rfl⟩))
      go_ret2
      exact ⟨ret_pair (by rw [H.out]) (by rw [H.out]), below_drewN HB1.out m2⟩
    have hQ : ¬ (Tab.begins ls d < 0 ∨ s < 0 ∨ Tab.length ls d ≤ s ∨ 34000000000 < Tab.begins ls d + s) := by omega
    have H : Hid (Tab.second up ex ls d s = (Tab.begins ls d + s, 0)) := by show _ = _; unfold Tab.second; rw [if_neg HNW.out, if_neg hD, if_neg hQ]
    clear hQ
    generalize Tab.begins ls d = b at *
    generalize Tab.length ls d = n at *
    go_enter Tryz.func52, Tryz.ntmps52
    go_wp2_with (first
      | (go_at_call 79; refine HW.out.mono ?_; rintro e w1 ⟨rfl, hb1⟩; have HB1 := hid' (HBel.out.trans (hb1.mono HBel.out.size)); have t2 := cell_of_row _ _ 2 _ _ _ ((hb1.block _ (lt_of_heap HROW.out)).trans HROW.out); (simp at t2); clear hb1)
      | (go_at_call 86; refine (HBG.out w1 (HLies.out.below hgl HB1.out)).mono ?_; rintro e w2 ⟨rfl, rfl⟩)
      | (go_at_call 88; refine (HLN.out _ (HLies.out.below hgl HB1.out)).mono ?_; rintro e w2 ⟨rfl, m2, rfl⟩))
    go_ret2
    exact ⟨ret_pair (by rw [H.out]) (by rw [H.out]), below_drewN HB1.out m2⟩

end Go.Proofs.YtmmkhodaljpjgaaGreatDoor
