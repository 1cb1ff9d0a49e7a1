import Derived.Test.YtmmkhodaljpjgaaGreatDoorRTabb
namespace Go.Proofs.YtmmkhodaljpjgaaGreatDoor
open Go.RowKit

namespace Tab
end Tab

set_option maxRecDepth 100000 in
theorem ref_today (g cap n : Nat) (ls : List (Int × Int)) (sec e : Int) (w : World) (hn : ls.length = n) (hl : Lies w g ls) (hG : Tab.Good ls) (hD : Tab.Day ls sec e) (s1 : sec ≤ 34000000000) :
    Calls Tryz.prog 85 #[.slice (some ⟨g, 0, none⟩) n cap, .int .i64 sec] w fun q w' => q = .returned (.int .i64 e) ∧ ∃ m, w' = w.drewN m := by
  have a0 := (hG.fine _ (List.getElem_mem hG.pos)).1
  rw [← getD_at 0 hG.pos] at a0
  have hbe := hG.begins_ge e hD.from'
  have hlen := Tab.length_bd hG.fine hG.pos e
  have d1 := hD.lo
  have d2 := hD.hi
  have d3 := hD.from'
  have hp : 0 < n := by rw [← hn]; exact hG.pos
  have hb40 : n ≤ 40 := by rw [← hn]; exact hG.len
  have e0 : 0 ≤ e := by omega
  have e1 : e ≤ 400000 := by omega
  have hstart : 86400 < sec → sec / 86400 - 1 ≤ e := fun h => by omega
  have hs0 : 0 ≤ sec := by omega
  have HST := hid' hstart
  have HL : Hid (∀ m, Lies (w.drewN m) g ls) := fun m => hl
  have HG := hid' hG
  have HD := hid' hD
  have HN := hid' hn
  clear hl hG hD hn hstart a0 hbe hlen d1 d2 d3
  go_enter Tryz.func85, Tryz.ntmps85
  by_cases hsec : 86400 < sec
  · have hst := HST.out hsec
    go_wp2_with fail
    go_loopw [5, 6, 7] (fun d _ _ wr => ∃ (x : Int) (m : Nat), 0 ≤ x ∧ x ≤ e ∧ d = .int .i64 x ∧ wr = w.drewN m) (fun d _ _ _ => (e - intOf d).toNat)
    case atStart => exact ⟨_, 0, by omega, by omega, rfl, rfl⟩
    case round =>
      obtain ⟨x, m, x0, x1, rfl, rfl⟩ := hrel
      have HBG := hid' (ref_begins g cap n ls x (w.drewN m) HN.out hp (HL.out m) HG.out.fine (by omega) (by omega) (by omega))
      have HLN := hid' (ref_length g cap n ls x (w.drewN m) HN.out hp (HL.out m) HG.out.fine (by omega) (by omega) (by omega))
      have bb := Tab.begins_bd HG.out.fine HG.out.pos x
      have lb := Tab.length_bd HG.out.fine HG.out.pos x
      by_cases hx : x = e
      · have HX := hid' hx
        have f1 : 0 ≤ Tab.begins ls x := by rw [hx]; have := HG.out.begins_ge e HD.out.from'; omega
        have f2 : sec < Tab.begins ls x + Tab.length ls x := by rw [hx]; exact HD.out.hi
        clear hx
        generalize Tab.begins ls x = b at *
        generalize Tab.length ls x = l at *
        generalize hV : w.drewN m = V at *
        have HV := hid' hV
        clear hV
        go_wp2_with (first
          | (go_at_call 86; refine HBG.out.mono ?_; rintro q w2 ⟨rfl, rfl⟩)
          | (go_at_call 88; refine HLN.out.mono ?_; rintro q w2 ⟨rfl, m2, rfl⟩))
        go_ret
        exact ⟨ret_int HX.out, m + m2, by rw [← HV.out, World.drewN_drewN]⟩
      · have hlt : x < e := by omega
        clear hx
        by_cases hneg : Tab.begins ls x < 0
        · generalize Tab.begins ls x = b at *
          generalize Tab.length ls x = l at *
          generalize hV : w.drewN m = V at *
          have HV := hid' hV
          clear hV
          go_wp2_with (first
            | (go_at_call 86; refine HBG.out.mono ?_; rintro q w2 ⟨rfl, rfl⟩)
            | (go_at_call 88; refine HLN.out.mono ?_; rintro q w2 ⟨rfl, m2, rfl⟩))
          go_roundw
          case rel => exact ⟨x + 1, m + m2, by omega, by omega, by go_num, by rw [← HV.out, World.drewN_drewN]⟩
          case measure => simp [intOf]; omega
        · have hfx : (ls.getD 0 (0, 0)).1 ≤ x * 86400 := by
            by_cases c : x * 86400 < (ls.getD 0 (0, 0)).1
            · exfalso; apply hneg; unfold Tab.begins; rw [if_pos c]; omega
            · omega
          have f2 : Tab.begins ls x + Tab.length ls x ≤ sec := by
            have a := HG.out.next x hfx
            have b := HG.out.le x e hfx hlt
            have c := HD.out.lo
            omega
          clear hfx
          generalize Tab.begins ls x = b at *
          generalize Tab.length ls x = l at *
          generalize hV : w.drewN m = V at *
          have HV := hid' hV
          clear hV
          go_wp2_with (first
            | (go_at_call 86; refine HBG.out.mono ?_; rintro q w2 ⟨rfl, rfl⟩)
            | (go_at_call 88; refine HLN.out.mono ?_; rintro q w2 ⟨rfl, m2, rfl⟩))
          go_roundw
          case rel => exact ⟨x + 1, m + m2, by omega, by omega, by go_num, by rw [← HV.out, World.drewN_drewN]⟩
          case measure => simp [intOf]; omega
  · go_wp2_with fail
    go_loopw [5, 6, 7] (fun d _ _ wr => ∃ (x : Int) (m : Nat), 0 ≤ x ∧ x ≤ e ∧ d = .int .i64 x ∧ wr = w.drewN m) (fun d _ _ _ => (e - intOf d).toNat)
    case atStart => exact ⟨_, 0, by omega, by omega, rfl, rfl⟩
    case round =>
      obtain ⟨x, m, x0, x1, rfl, rfl⟩ := hrel
      have HBG := hid' (ref_begins g cap n ls x (w.drewN m) HN.out hp (HL.out m) HG.out.fine (by omega) (by omega) (by omega))
      have HLN := hid' (ref_length g cap n ls x (w.drewN m) HN.out hp (HL.out m) HG.out.fine (by omega) (by omega) (by omega))
      have bb := Tab.begins_bd HG.out.fine HG.out.pos x
      have lb := Tab.length_bd HG.out.fine HG.out.pos x
      by_cases hx : x = e
      · have HX := hid' hx
        have f1 : 0 ≤ Tab.begins ls x := by rw [hx]; have := HG.out.begins_ge e HD.out.from'; omega
        have f2 : sec < Tab.begins ls x + Tab.length ls x := by rw [hx]; exact HD.out.hi
        clear hx
        generalize Tab.begins ls x = b at *
        generalize Tab.length ls x = l at *
        generalize hV : w.drewN m = V at *
        have HV := hid' hV
        clear hV
        go_wp2_with (first
          | (go_at_call 86; refine HBG.out.mono ?_; rintro q w2 ⟨rfl, rfl⟩)
          | (go_at_call 88; refine HLN.out.mono ?_; rintro q w2 ⟨rfl, m2, rfl⟩))
        go_ret
        exact ⟨ret_int HX.out, m + m2, by rw [← HV.out, World.drewN_drewN]⟩
      · have hlt : x < e := by omega
        clear hx
        by_cases hneg : Tab.begins ls x < 0
        · generalize Tab.begins ls x = b at *
          generalize Tab.length ls x = l at *
          generalize hV : w.drewN m = V at *
          have HV := hid' hV
          clear hV
          go_wp2_with (first
            | (go_at_call 86; refine HBG.out.mono ?_; rintro q w2 ⟨rfl, rfl⟩)
            | (go_at_call 88; refine HLN.out.mono ?_; rintro q w2 ⟨rfl, m2, rfl⟩))
          go_roundw
          case rel => exact ⟨x + 1, m + m2, by omega, by omega, by go_num, by rw [← HV.out, World.drewN_drewN]⟩
          case measure => simp [intOf]; omega
        · have hfx : (ls.getD 0 (0, 0)).1 ≤ x * 86400 := by
            by_cases c : x * 86400 < (ls.getD 0 (0, 0)).1
            · exfalso; apply hneg; unfold Tab.begins; rw [if_pos c]; omega
            · omega
          have f2 : Tab.begins ls x + Tab.length ls x ≤ sec := by
            have a := HG.out.next x hfx
            have b := HG.out.le x e hfx hlt
            have c := HD.out.lo
            omega
          clear hfx
          generalize Tab.begins ls x = b at *
          generalize Tab.length ls x = l at *
          generalize hV : w.drewN m = V at *
          have HV := hid' hV
          clear hV
          go_wp2_with (first
            | (go_at_call 86; refine HBG.out.mono ?_; rintro q w2 ⟨rfl, rfl⟩)
            | (go_at_call 88; refine HLN.out.mono ?_; rintro q w2 ⟨rfl, m2, rfl⟩))
          go_roundw
          case rel => exact ⟨x + 1, m + m2, by omega, by omega, by go_num, by rw [← HV.out, World.drewN_drewN]⟩
          case measure => simp [intOf]; omega

end Go.Proofs.YtmmkhodaljpjgaaGreatDoor

namespace Go.Proofs.YtmmkhodaljpjgaaGreatDoor
open Go.RowKit

set_option maxRecDepth 100000 in
set_option maxHeartbeats 1000000 in
theorem ref_label_no (B : Nat) (lv : Value) (ls : List (Int × Int)) (up ex sec : Int) (w : World) (wu : (Lit.int .i64 up).wf = true) (wx : (Lit.int .i64 ex).wf = true)
    (hv : w.ownsRow B 46 2 lv ls.length (flat ls)) (hn : ls.length ≤ 100000) (hwf : ∀ p ∈ ls, WfP p) (he : (Tab.offset up ex ls sec).2 ≠ 0) :
    Calls Tryz.prog 50 #[.agg #[.int .i64 up, .int .i64 ex, lv], .int .i64 sec] w fun e w' =>
      e = .returned (.tuple #[.int .i64 0, .int .i64 0, .int .i64 (Tab.offset up ex ls sec).2]) ∧ Below w.heap.size w w' := by
  have HBel := hid' ((Below.refl w.heap.size w).alloc (Nat.le_refl _) (.cells #[.int .i64 up, .int .i64 ex, lv] 33))
  have HO := hid' (ref_offset B lv ls up ex sec (w.alloc (.cells #[.int .i64 up, .int .i64 ex, lv] 33)) wu wx (hv.alloc _) hn hwf)
  clear wu wx hwf hv hn
  have hne : ((Tab.offset up ex ls sec).2 == 0) = false := by rw [beq_eq_false_iff_ne]; exact he
  clear he
  generalize Tab.offset up ex ls sec = r at *
  obtain ⟨ro, re⟩ := r
  simp only at hne HO
  go_enter Tryz.func50, Tryz.ntmps50
  go_wp2_with (go_at_call 48; refine HO.out.mono ?_; rintro e w1 ⟨rfl, hb1⟩; have HB1 := hid' (HBel.out.trans (hb1.mono HBel.out.size)); clear hb1)
  go_ret3
  exact ⟨rfl, HB1.out⟩

set_option maxRecDepth 100000 in
set_option maxHeartbeats 1000000 in
theorem ref_label_yes (B : Nat) (lv : Value) (ls : List (Int × Int)) (up ex sec d : Int) (w : World) (wu : (Lit.int .i64 up).wf = true) (wx : (Lit.int .i64 ex).wf = true)
    (hv : w.ownsRow B 46 2 lv ls.length (flat ls)) (hn : ls.length ≤ 100000) (hwf : ∀ p ∈ ls, WfP p) (he : (Tab.offset up ex ls sec).2 = 0) (hD : Tab.Day ls sec d) :
    Calls Tryz.prog 50 #[.agg #[.int .i64 up, .int .i64 ex, lv], .int .i64 sec] w fun e w' =>
      e = .returned (.tuple #[.int .i64 d, .int .i64 (sec - Tab.begins ls d), .int .i64 0]) ∧ Below w.heap.size w w' := by
  have HBel := hid' ((Below.refl w.heap.size w).alloc (Nat.le_refl _) (.cells #[.int .i64 up, .int .i64 ex, lv] 33))
  have HROW := hid' (heap_alloc_new w (.cells #[.int .i64 up, .int .i64 ex, lv] 33))
  have HO := hid' (ref_offset B lv ls up ex sec (w.alloc (.cells #[.int .i64 up, .int .i64 ex, lv] 33)) wu wx (hv.alloc _) hn hwf)
  obtain ⟨hwh, hs1, _⟩ := Tab.offset_ok he
  have hG := Tab.good_of_whole hwh
  obtain ⟨g, cap, rfl⟩ := own_some hv hG.pos
  have hgl := (hv.lt _ rfl).2
  have HLies := hid' (lies_of_own hv)
  have a0 := (hG.fine _ (List.getElem_mem hG.pos)).1
  rw [← getD_at 0 hG.pos] at a0
  have hbe := hG.begins_ge d hD.from'
  have d1 := hD.lo
  have d3 := hD.from'
  have d0 : 0 ≤ d := by omega
  have dm : d ≤ 400000 := by omega
  have htd : ∀ w1, Lies w1 g ls → Calls Tryz.prog 85 #[.slice (some ⟨g, 0, none⟩) ls.length cap, .int .i64 sec] w1 fun q w' => q = .returned (.int .i64 d) ∧ ∃ m, w' = w1.drewN m := fun w1 h => ref_today g cap ls.length ls sec d w1 rfl h hG hD hs1
  have HTD := hid' htd
  have hbg : ∀ w1, Lies w1 g ls → Calls Tryz.prog 86 #[.slice (some ⟨g, 0, none⟩) ls.length cap, .int .i64 d] w1 fun e w' => e = .returned (.int .i64 (Tab.begins ls d)) ∧ w' = w1 := fun w1 h => ref_begins g cap ls.length ls d w1 rfl hG.pos h hG.fine hn (by omega) (by omega)
  have HBG := hid' hbg
  clear wu wx hwf hv hwh hG htd hbg a0 d3 hD
  have hze : ((Tab.offset up ex ls sec).2 == 0) = true := by rw [beq_iff_eq]; exact he
  generalize Tab.begins ls d = b at *
  generalize Tab.offset up ex ls sec = r at *
  obtain ⟨ro, re⟩ := r
  simp only at hze HO he
  subst he
  clear hze
  go_enter Tryz.func50, Tryz.ntmps50
  go_wp2_with (first
    | (go_at_call 48; refine HO.out.mono ?_; rintro e w1 ⟨rfl, hb1⟩; have HB1 := hid' (HBel.out.trans (hb1.mono HBel.out.size)); have t2 := cell_of_row _ _ 2 _ _ _ ((hb1.block _ (lt_of_heap HROW.out)).trans HROW.out); (simp at t2); clear hb1)
    | (go_at_call 85; refine (HTD.out _ (HLies.out.below hgl HB1.out)).mono ?_; rintro e w2 ⟨rfl, m2, rfl⟩)
    | (go_at_call 86; refine (HBG.out _ (HLies.out.below hgl (below_drewN HB1.out m2))).mono ?_; rintro e w3 ⟨rfl, rfl⟩))
  go_ret3
  exact ⟨rfl, below_drewN HB1.out m2⟩

end Go.Proofs.YtmmkhodaljpjgaaGreatDoor
