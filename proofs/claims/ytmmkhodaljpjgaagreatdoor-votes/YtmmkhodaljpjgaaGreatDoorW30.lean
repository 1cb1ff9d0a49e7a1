import Derived.Test.YtmmkhodaljpjgaaGreatDoorW29
import Derived.Test.YtmmkhodaljpjgaaGreatDoorW05
import Derived.Test.YtmmkhodaljpjgaaGreatDoorW03
import Derived.Test.YtmmkhodaljpjgaaGreatDoorW01
namespace Go.Proofs.YtmmkhodaljpjgaaGreatDoor
open Go.RowKit
attribute [local go_sem ↓] Go.wp_at_zero Go.wp_at_succ
set_option maxRecDepth 100000 in
set_option maxHeartbeats 3200000 in
theorem ref_agrees (b B : Nat) (x : Sv) (dv bv cv hv lv : Value) (ls : List (Int × Int)) (w : World) (hr : RSrv b x dv bv cv hv w) (ho : w.ownsRow B 46 2 lv ls.length (flat ls)) (hp : 0 < ls.length) (hn : ls.length ≤ 1000) (hd : x.done.length ≤ 1000) (hf : Fine ls) :
    Calls Tryz.prog 110 #[.pointer (some ⟨b, 0, none⟩), lv] w fun e w' => e = .returned (.bool (x.agrees ls)) ∧ ∃ m, w' = w.drewN m := by
  obtain ⟨g, cap, hlv⟩ := own_some ho hp
  subst hlv
  have HL := hid' (lies_of ho rfl)
  have q5 := cell_of_row _ _ 5 _ _ _ hr.row
  have q3 := cell_of_row _ _ 3 _ _ _ hr.row
  have q8 := cell_of_row _ _ 8 _ _ _ hr.row
  simp at q5 q3 q8
  have HR := hid' hr
  cases hld : x.ld with
  | false =>
    have H : Hid (x.agrees ls = decide (Tab.when ls 0 ≤ x.ns)) := by show _ = _; unfold Sv.agrees; rw [if_pos hld]
    rw [hld] at q5
    have WH : Hid (∀ m : Nat, Calls Tryz.prog 111 #[.slice (some ⟨g, 0, none⟩) ls.length cap, .int .i64 0] (w.drewN m) fun e w' => e = .returned (.int .i64 (Tab.when ls 0)) ∧ w' = w.drewN m) := fun m => ref_when g cap 0 ls.length ls (w.drewN m) rfl hp HL.out hf (by omega)
    generalize Tab.when ls 0 = wn at *
    clear hr hld ho hf
    by_cases c : wn ≤ x.ns
    · have H2 : Hid (x.agrees ls = true) := by show _ = _; rw [H.out]; exact decide_eq_true c
      go_enter Tryz.func110, Tryz.ntmps110
      go_wp2_with fail
      go_quiet (first | (go_at_call 111; exact Calls.quiet_of_same (WH.out _)))
      go_wp2
      go_ret
      exact ⟨ret_bool H2.out.symm, _, rfl⟩
    · go_enter Tryz.func110, Tryz.ntmps110
      go_wp2_with fail
      go_quiet (first | (go_at_call 111; exact Calls.quiet_of_same (WH.out _)))
      go_wp2
      go_ret
      exact ⟨ret_bool H.out.symm, _, rfl⟩
  | true =>
    rw [hld] at q5
    obtain ⟨da, dcp, hdv⟩ := own_slice hr.dd
    subst hdv
    have H : Hid (x.agrees ls = if ls.length < x.done.length then false else if ls.take x.done.length = x.done then decide (ls.length = x.done.length) || decide (x.ns < Tab.when ls x.done.length) else false) := by
      show _ = _; unfold Sv.agrees; rw [if_neg (by rw [hld]; simp)]
    generalize x.agrees ls = res at *
    clear hld hr
    by_cases hlt : ls.length < x.done.length
    · have H2 : Hid (res = false) := by show _ = _; rw [H.out, if_pos hlt]
      have zi : (ls.length : Int) < (x.done.length : Int) := by omega
      clear hlt
      go_enter Tryz.func110, Tryz.ntmps110
      go_wp2
      go_ret
      exact ⟨ret_bool H2.out.symm, 0, rfl⟩
    · have H2 : Hid (res = if ls.take x.done.length = x.done then decide (ls.length = x.done.length) || decide (x.ns < Tab.when ls x.done.length) else false) := by show _ = _; rw [H.out, if_neg hlt]
      have hle : x.done.length ≤ ls.length := by omega
      have zi : ¬ (ls.length : Int) < (x.done.length : Int) := by omega
      clear hlt H
      go_enter Tryz.func110, Tryz.ntmps110
      go_wp2_with fail
      go_loopw [5] (fun i wr => ∃ k m : Nat, k ≤ x.done.length ∧ i = .int .i64 k ∧ ls.take k = x.done.take k ∧ wr = w.drewN m) (fun i _ => x.done.length - (intOf i).toNat)
      case atStart => exact ⟨0, 0, by omega, rfl, rfl, rfl⟩
      case round =>
        obtain ⟨k, m, hk, rfl, htk, hwr⟩ := hrel
        have HTK := hid' htk
        have HWR := hid' hwr
        have p8 : wr.cell? ⟨b, 8, none⟩ = some (.slice da x.done.length dcp) := by rw [hwr]; exact q8
        have p3 : wr.cell? ⟨b, 3, none⟩ = some (.int .i64 x.ns) := by rw [hwr]; exact q3
        clear htk
        by_cases hkl : k < x.done.length
        · obtain ⟨g', cap', hg'⟩ := own_some HR.out.dd (show 0 < x.done.length by omega)
          obtain ⟨rfl, _, rfl⟩ := Value.slice.inj hg'
          have a0 : wr.cell? ⟨g, k * 2, none⟩ = some (.int .i64 (ls.getD k (0, 0)).1) := by rw [hwr, getD_at k (by omega)]; exact (HL.out k (by omega)).1
          have a1 : wr.cell? ⟨g, k * 2 + 1, none⟩ = some (.int .i64 (ls.getD k (0, 0)).2) := by rw [hwr, getD_at k (by omega)]; exact (HL.out k (by omega)).2
          have b0 : wr.cell? ⟨g', k * 2, none⟩ = some (.int .i64 (x.done.getD k (0, 0)).1) := by rw [hwr, getD_at k hkl]; exact (lies_of HR.out.dd rfl k hkl).1
          have b1 : wr.cell? ⟨g', k * 2 + 1, none⟩ = some (.int .i64 (x.done.getD k (0, 0)).2) := by rw [hwr, getD_at k hkl]; exact (lies_of HR.out.dd rfl k hkl).2
          have HS := hid' (take_same (a := ls) k hkl hle HTK.out)
          have HN := hid' (take_not (a := ls) k hkl hle)
          generalize ls.getD k (0, 0) = pl at *
          generalize x.done.getD k (0, 0) = pd at *
          obtain ⟨la, lo⟩ := pl
          obtain ⟨ea, eo⟩ := pd
          simp only at a0 a1 b0 b1
          have z0 : (0 : Int) ≤ (k : Int) := by omega
          have z1 : (k : Int) < (x.done.length : Int) := by omega
          have z2 : (k : Int) < (ls.length : Int) := by omega
          clear hwr hg' q3 q5 q8 p3
          by_cases e1 : la = ea
          · by_cases e2 : lo = eo
            · have HS2 := hid' (HS.out (by rw [e1, e2]))
              subst e1 e2
              have n0' : (la != la) = false := by simp
              have n1' : (lo != lo) = false := by simp
              clear HS HN
              go_wp2_with fail
              go_quiet (fail)
              go_wp2
              go_roundw
              case rel => exact ⟨k + 1, m + nq, by omega, by go_num, HS2.out, by rw [HWR.out, World.drewN_drewN]⟩
              case measure => simp [intOf]; omega
            · have H3 : Hid (res = false) := by show _ = _; rw [H2.out, if_neg (HN.out (fun q => e2 (congrArg Prod.snd q)))]
              subst e1
              have n0' : (la != la) = false := by simp
              have n1' : (lo != eo) = true := bne_iff_ne.2 e2
              clear HS HN e2
              go_wp2_with fail
              go_quiet (fail)
              go_wp2
              go_ret
              exact ⟨ret_bool H3.out.symm, m + nq, by rw [HWR.out, World.drewN_drewN]⟩
          · have H3 : Hid (res = false) := by show _ = _; rw [H2.out, if_neg (HN.out (fun q => e1 (congrArg Prod.fst q)))]
            have n0' : (la != ea) = true := bne_iff_ne.2 e1
            clear HS HN e1
            go_wp2_with fail
            go_quiet (fail)
            go_wp2
            go_ret
            exact ⟨ret_bool H3.out.symm, m + nq, by rw [HWR.out, World.drewN_drewN]⟩
        · have ek : k = x.done.length := by omega
          have heq : ls.take x.done.length = x.done := by
            have := HTK.out; rw [ek, List.take_length] at this; exact this
          have H3 : Hid (res = (decide (ls.length = x.done.length) || decide (x.ns < Tab.when ls x.done.length))) := by show _ = _; rw [H2.out, if_pos heq]
          have znl : ¬ (k : Int) < (x.done.length : Int) := by omega
          clear hwr ek heq q3 q5 q8
          by_cases c1 : ls.length = x.done.length
          · have H4 : Hid (res = true) := by show _ = _; rw [H3.out, decide_eq_true c1]; rfl
            have zz : ((ls.length : Int) == (x.done.length : Int)) = true := by rw [c1]; simp
            clear c1
            go_wp2_with fail
            go_quiet (fail)
            go_wp2
            go_ret
            exact ⟨ret_bool H4.out.symm, m + nq, by rw [HWR.out, World.drewN_drewN]⟩
          · have zz : ((ls.length : Int) == (x.done.length : Int)) = false := by rw [beq_eq_false_iff_ne]; omega
            have WH := hid' (fun mm : Nat => ref_when g cap x.done.length ls.length ls (wr.drewN mm) rfl (by omega) (by rw [HWR.out]; exact HL.out) hf (by omega))
            have H4 : Hid (res = decide (x.ns < Tab.when ls x.done.length)) := by show _ = _; rw [H3.out, decide_eq_false c1]; rfl
            generalize Tab.when ls x.done.length = wn at *
            clear c1
            by_cases c2 : x.ns < wn
            · have H5 : Hid (res = true) := by show _ = _; rw [H4.out]; exact decide_eq_true c2
              go_wp2_with fail
              go_quiet (first | (go_at_call 111; exact Calls.quiet_of_same (WH.out _)))
              go_wp2
              go_ret
              exact ⟨ret_bool H5.out.symm, m + nq, by rw [HWR.out, World.drewN_drewN]⟩
            · go_wp2_with fail
              go_quiet (first | (go_at_call 111; exact Calls.quiet_of_same (WH.out _)))
              go_wp2
              go_ret
              exact ⟨ret_bool H4.out.symm, m + nq, by rw [HWR.out, World.drewN_drewN]⟩
end Go.Proofs.YtmmkhodaljpjgaaGreatDoor
namespace Go.Proofs.YtmmkhodaljpjgaaGreatDoor
open Go.RowKit
namespace Txt
end Txt
set_option maxRecDepth 100000 in
theorem ref_number (s : ByteArray) (w : World) (hs : s.size ≤ 1000000000) :
    Calls Tryz.prog 167 #[.string s] w fun e w' => e = .returned (.int .i64 (Txt.number s)) ∧ w' = w := by
  by_cases h0 : s.size = 0
  · have H : Hid (Txt.number s = -1) := Txt.number_no1 (.inl h0)
    have h0' : ((s.size : Int) == 0) = true := by rw [beq_iff_eq]; omega
    clear h0
    go_enter Tryz.func167, Tryz.ntmps167
    go_wp2
    go_ret
    exact ⟨ret_int H.out.symm, rfl⟩
  · have h0' : ((s.size : Int) == 0) = false := by rw [beq_eq_false_iff_ne]; omega
    by_cases h1 : 11 < s.size
    · have H : Hid (Txt.number s = -1) := Txt.number_no1 (.inr h1)
      go_enter Tryz.func167, Tryz.ntmps167
      go_wp2
      go_ret
      exact ⟨ret_int H.out.symm, rfl⟩
    · go_enter Tryz.func167, Tryz.ntmps167
      go_wp2
      go_loop [3, 4] (fun r i => ∃ k : Nat, k ≤ s.size ∧ i = .int .i64 k ∧ r = .int .i64 (Txt.numTo s k) ∧ Txt.Digits s k) (fun _ i => s.size - (intOf i).toNat)
      case atStart => exact ⟨0, by omega, rfl, rfl, fun i hi => by omega⟩
      case round =>
        obtain ⟨k, hk, rfl, rfl, hdg⟩ := hrel
        by_cases hlt : k < s.size
        · have hbd := Txt.numTo_bd k hdg
          have hpw := Txt.pow10_le k (by omega)
          have hby := Txt.byte_at s k hlt
          have HBY := hid' hby
          have HDG := hid' hdg
          have h8 := s[k].toNat_lt
          generalize hN : Txt.numTo s k = v at *
          have HNV := hid' hN
          clear hdg hby hN
          generalize hP : (10 : Int) ^ k = p10 at *
          clear hP
          by_cases c1 : s[k].toNat < 48
          · have H : Hid (Txt.number s = -1) := Txt.number_no2 fun h => by have := (h k hlt).1; rw [HBY.out] at this; omega
            go_wp2
            go_ret
            exact ⟨ret_int H.out.symm, rfl⟩
          · by_cases c2 : 57 < s[k].toNat
            · have H : Hid (Txt.number s = -1) := Txt.number_no2 fun h => by have := (h k hlt).2; rw [HBY.out] at this; omega
              go_wp2
              go_ret
              exact ⟨ret_int H.out.symm, rfl⟩
            · have HS : Hid (Txt.numTo s (k + 1) = 10 * v + ((s[k].toNat : Int) - 48)) := by show _ = _; simp only [Txt.numTo]; rw [HNV.out, HBY.out]
              have HD2 : Hid (Txt.Digits s (k + 1)) := fun i hi => by
                by_cases e : i = k
                · subst e; rw [HBY.out]; omega
                · exact HDG.out i (by omega)
              go_wp2
              exact ⟨⟨k + 1, by omega, by go_num, by rw [HS.out], HD2.out⟩, by simp [intOf]; omega⟩
        · have ek : k = s.size := by omega
          have H : Hid (Txt.number s = Txt.numTo s k) := by show _ = _; rw [ek]; exact Txt.number_yes (by omega) (by rw [← ek]; exact hdg)
          clear ek hdg
          go_wp2
          go_ret
          exact ⟨ret_int H.out.symm, rfl⟩
end Go.Proofs.YtmmkhodaljpjgaaGreatDoor
namespace Go.Proofs.YtmmkhodaljpjgaaGreatDoor
open Go.RowKit
namespace Txt
end Txt
set_option maxRecDepth 100000 in
set_option maxHeartbeats 1000000 in
theorem ref_word (s : ByteArray) (w : World) (hs : s.size ≤ 1000000000) :
    Calls Tryz.prog 166 #[.string s] w fun e w' => e = .returned (.string (Txt.word s)) ∧ w' = w := by
  by_cases h0 : s.size = 0
  · have H : Hid (Txt.word s = ⟨#[]⟩) := Txt.word_no1 (.inl h0)
    have h0' : ((s.size : Int) == 0) = true := by rw [beq_iff_eq]; omega
    clear h0
    go_enter Tryz.func166, Tryz.ntmps166
    go_wp2
    go_ret
    exact ⟨ret_str H.out.symm, rfl⟩
  · have h0' : ((s.size : Int) == 0) = false := by rw [beq_eq_false_iff_ne]; omega
    by_cases h1 : 8 < s.size
    · have H : Hid (Txt.word s = ⟨#[]⟩) := Txt.word_no1 (.inr h1)
      go_enter Tryz.func166, Tryz.ntmps166
      go_wp2
      go_ret
      exact ⟨ret_str H.out.symm, rfl⟩
    · go_enter Tryz.func166, Tryz.ntmps166
      go_wp2
      go_loop [3, 4, 5] (fun i _ _ => ∃ k : Nat, k ≤ s.size ∧ i = .int .i64 k ∧ Txt.Hexes s k) (fun i _ _ => s.size - (intOf i).toNat)
      case atStart => exact ⟨0, by omega, rfl, fun i hi => by omega⟩
      case round =>
        obtain ⟨k, hk, rfl, hdg⟩ := hrel
        by_cases hlt : k < s.size
        · have hby := Txt.byte_at s k hlt
          have HBY := hid' hby
          have HDG := hid' hdg
          have h8 := s[k].toNat_lt
          clear hdg hby
          by_cases c : Txt.HexB (s[k].toNat : Int)
          · have HD2 : Hid (Txt.Hexes s (k + 1)) := fun i hi => by
              by_cases e : i = k
              · subst e; rw [HBY.out]; exact c
              · exact HDG.out i (by omega)
            rcases c with ⟨c1, c2⟩ | ⟨c1, c2⟩
            · go_wp2
              exact ⟨⟨k + 1, by omega, by go_num, HD2.out⟩, by simp [intOf]; omega⟩
            · go_wp2
              exact ⟨⟨k + 1, by omega, by go_num, HD2.out⟩, by simp [intOf]; omega⟩
          · have H : Hid (Txt.word s = ⟨#[]⟩) := Txt.word_no2 fun h => c (by have := h k hlt; rw [HBY.out] at this; exact this)
            unfold Txt.HexB at c
            by_cases c1 : (s[k].toNat : Int) < 48
            · clear c
              go_wp2
              go_ret
              exact ⟨ret_str H.out.symm, rfl⟩
            · by_cases c2 : (s[k].toNat : Int) < 97
              · have c3 : decide ((s[k].toNat : Int) ≤ 57) = false := by simp; omega
                clear c
                go_wp2
                go_ret
                exact ⟨ret_str H.out.symm, rfl⟩
              · have c3 : decide ((s[k].toNat : Int) ≤ 57) = false := by simp; omega
                have c4 : decide ((s[k].toNat : Int) ≤ 102) = false := by simp; omega
                clear c
                go_wp2
                go_ret
                exact ⟨ret_str H.out.symm, rfl⟩
        · have ek : k = s.size := by omega
          have H : Hid (Txt.word s = Txt.noughts.extract s.size 8 ++ s) := Txt.word_yes (by omega) (by rw [← ek]; exact hdg)
          clear ek hdg
          go_wp2
          go_ret
          exact ⟨ret_str H.out.symm, rfl⟩
end Go.Proofs.YtmmkhodaljpjgaaGreatDoor
namespace Go.Proofs.YtmmkhodaljpjgaaGreatDoor
open Go.RowKit
namespace Txt
end Txt
set_option maxRecDepth 100000 in
set_option maxHeartbeats 1000000 in
theorem ref_words (s : ByteArray) (w : World) (hs : s.size ≤ 1000000) :
    Calls Tryz.prog 123 #[.string s] w fun e w' => ∃ v, e = .returned v ∧ w'.ownsRow w.heap.size 9 1 v (Txt.words s).length ((Txt.words s).map Value.string) ∧ Below w.heap.size w w' := by
  obtain ⟨i0, hi0, hz0, hz1, hz2⟩ := info_parts infoString
  go_enter Tryz.func123, Tryz.ntmps123
  go_wp2
  go_loopw [3, 4, 5] (fun l t i wr => ∃ k : Nat, k ≤ s.size + 1 ∧ i = .int .i64 k ∧ t = .string (Txt.scan s k).2 ∧ wr.ownsRow w.heap.size 9 1 l (Txt.scan s k).1.length ((Txt.scan s k).1.map Value.string) ∧ Below w.heap.size w wr) (fun _ _ i _ => s.size + 1 - (intOf i).toNat)
  case atStart => exact ⟨0, by omega, rfl, rfl, World.ownsRow_nil _ _ _ _, Below.refl _ _⟩
  case round =>
    obtain ⟨k, hk, rfl, rfl, hown, hbw⟩ := hrel
    have hbd := Txt.scan_bd s k
    by_cases hle : k < s.size + 1
    · have hsw := hbw.size
      have OWN := hid' hown
      have HBW := hid' hbw
      clear hown hbw
      by_cases hin : Txt.inWord s k
      · have HSC : Hid (Txt.scan s (k + 1) = ((Txt.scan s k).1, (Txt.scan s k).2 ++ s.extract k (k + 1))) := by show _ = _; rw [Txt.scan, if_pos hin]
        obtain ⟨hlt, n32, n9⟩ := hin
        rw [Txt.byte_at s k hlt] at n32 n9
        have b32 : ((s[k].toNat : Int) != 32) = true := bne_iff_ne.2 n32
        have b9 : ((s[k].toNat : Int) != 9) = true := bne_iff_ne.2 n9
        have hx := Txt.size_ext s k hlt
        clear n32 n9
        generalize Txt.scan s k = st at *
        obtain ⟨out, wd⟩ := st
        simp only at hbd OWN HSC
        go_wp2
        go_roundw
        case rel => exact ⟨k + 1, by omega, by go_num, by rw [HSC.out], by rw [HSC.out]; exact OWN.out, HBW.out⟩
        case measure => simp [intOf]; omega
      · have hB : k = s.size ∨ (∃ h : k < s.size, (s[k].toNat : Int) = 32) ∨ (∃ h : k < s.size, ¬ (s[k].toNat : Int) = 32 ∧ (s[k].toNat : Int) = 9) := by
          by_cases c : k < s.size
          · by_cases e : (s[k].toNat : Int) = 32
            · exact .inr (.inl ⟨c, e⟩)
            · refine .inr (.inr ⟨c, e, ?_⟩)
              by_cases e9 : (s[k].toNat : Int) = 9
              · exact e9
              · exact absurd ⟨c, by rw [Txt.byte_at s k c]; exact e, by rw [Txt.byte_at s k c]; exact e9⟩ hin
          · exact .inl (by omega)
        by_cases hwd : (Txt.scan s k).2 = ⟨#[]⟩
        · have HSC : Hid (Txt.scan s (k + 1) = Txt.scan s k) := by show _ = _; rw [Txt.scan, if_neg hin, if_pos hwd]
          clear hin
          generalize Txt.scan s k = st at *
          obtain ⟨out, wd⟩ := st
          simp only at hbd OWN hwd
          subst hwd
          rcases hB with hE | ⟨hlt, hE⟩ | ⟨hlt, hN, hE⟩
          · have hE1 : ¬ (k : Int) < (s.size : Int) := by omega
            have hE2 : (k : Int) ≤ (s.size : Int) := by omega
            clear hE
            go_wp2
            go_roundw
            case rel => exact ⟨k + 1, by omega, by go_num, by rw [HSC.out], by rw [HSC.out]; exact OWN.out, HBW.out⟩
            case measure => simp [intOf]; omega
          · have q32 : ((s[k].toNat : Int) != 32) = false := by rw [bne_eq_false_iff_eq]; exact hE
            clear hE
            go_wp2
            go_roundw
            case rel => exact ⟨k + 1, by omega, by go_num, by rw [HSC.out], by rw [HSC.out]; exact OWN.out, HBW.out⟩
            case measure => simp [intOf]; omega
          · have q32 : ((s[k].toNat : Int) != 32) = true := bne_iff_ne.2 hN
            have q9 : ((s[k].toNat : Int) != 9) = false := by rw [bne_eq_false_iff_eq]; exact hE
            clear hE hN
            go_wp2
            go_roundw
            case rel => exact ⟨k + 1, by omega, by go_num, by rw [HSC.out], by rw [HSC.out]; exact OWN.out, HBW.out⟩
            case measure => simp [intOf]; omega
        · have HSC : Hid (Txt.scan s (k + 1) = ((Txt.scan s k).1 ++ [(Txt.scan s k).2], ⟨#[]⟩)) := by show _ = _; rw [Txt.scan, if_neg hin, if_neg hwd]
          clear hin
          generalize Txt.scan s k = st at *
          obtain ⟨out, wd⟩ := st
          simp only at hbd OWN hwd HSC
          have hwe : wd.toList.isEmpty = false := Txt.not_empty hwd
          clear hwd
          rcases hB with hE | ⟨hlt, hE⟩ | ⟨hlt, hN, hE⟩
          · have hE1 : ¬ (k : Int) < (s.size : Int) := by omega
            have hE2 : (k : Int) ≤ (s.size : Int) := by omega
            clear hE
            go_wp2_with (first
              | (at_builtin; refine wpList_append_lies _ (by rfl) (.tmp 37) (.tmp 39) 30 (by rfl) w.heap.size 9 i0 (.string ByteArray.empty) 1 16 Tryz.underlying30 hi0 hz0 hz1 hz2 rfl (by decide) u3 out.length (out.map Value.string) (by rfl) (OWN.out.alloc _) ⟨wr.heap.size, 0, none⟩ 1 1 [.string wd] (by rfl) (by rfl) (World.news_of_block (cs := #[.string wd]) (heap_alloc_new wr _)) (by simp [Value.oneCell']) (by decide) (by unfold maxLen; omega) (by omega) (by simp; omega) (wr.heap.size + 1) (by simp) ?_; intro g3 cap3 w3 own3 hg3 _ hlt3; have HB3 := hid' ((HBW.out.alloc hsw _).grown hg3 (by simp; omega) (own_ge OWN.out)); have OWN3 := hid' own3; clear own3 hg3))
            go_roundw
            case rel => exact ⟨k + 1, by omega, by go_num, by rw [HSC.out], by rw [HSC.out]; simpa using OWN3.out, HB3.out⟩
            case measure => simp [intOf]; omega
          · have q32 : ((s[k].toNat : Int) != 32) = false := by rw [bne_eq_false_iff_eq]; exact hE
            clear hE
            go_wp2_with (first
              | (at_builtin; refine wpList_append_lies _ (by rfl) (.tmp 37) (.tmp 39) 30 (by rfl) w.heap.size 9 i0 (.string ByteArray.empty) 1 16 Tryz.underlying30 hi0 hz0 hz1 hz2 rfl (by decide) u3 out.length (out.map Value.string) (by rfl) (OWN.out.alloc _) ⟨wr.heap.size, 0, none⟩ 1 1 [.string wd] (by rfl) (by rfl) (World.news_of_block (cs := #[.string wd]) (heap_alloc_new wr _)) (by simp [Value.oneCell']) (by decide) (by unfold maxLen; omega) (by omega) (by simp; omega) (wr.heap.size + 1) (by simp) ?_; intro g3 cap3 w3 own3 hg3 _ hlt3; have HB3 := hid' ((HBW.out.alloc hsw _).grown hg3 (by simp; omega) (own_ge OWN.out)); have OWN3 := hid' own3; clear own3 hg3))
            go_roundw
            case rel => exact ⟨k + 1, by omega, by go_num, by rw [HSC.out], by rw [HSC.out]; simpa using OWN3.out, HB3.out⟩
            case measure => simp [intOf]; omega
          · have q32 : ((s[k].toNat : Int) != 32) = true := bne_iff_ne.2 hN
            have q9 : ((s[k].toNat : Int) != 9) = false := by rw [bne_eq_false_iff_eq]; exact hE
            clear hE hN
            go_wp2_with (first
              | (at_builtin; refine wpList_append_lies _ (by rfl) (.tmp 37) (.tmp 39) 30 (by rfl) w.heap.size 9 i0 (.string ByteArray.empty) 1 16 Tryz.underlying30 hi0 hz0 hz1 hz2 rfl (by decide) u3 out.length (out.map Value.string) (by rfl) (OWN.out.alloc _) ⟨wr.heap.size, 0, none⟩ 1 1 [.string wd] (by rfl) (by rfl) (World.news_of_block (cs := #[.string wd]) (heap_alloc_new wr _)) (by simp [Value.oneCell']) (by decide) (by unfold maxLen; omega) (by omega) (by simp; omega) (wr.heap.size + 1) (by simp) ?_; intro g3 cap3 w3 own3 hg3 _ hlt3; have HB3 := hid' ((HBW.out.alloc hsw _).grown hg3 (by simp; omega) (own_ge OWN.out)); have OWN3 := hid' own3; clear own3 hg3))
            go_roundw
            case rel => exact ⟨k + 1, by omega, by go_num, by rw [HSC.out], by rw [HSC.out]; simpa using OWN3.out, HB3.out⟩
            case measure => simp [intOf]; omega
    · have ek : k = s.size + 1 := by omega
      have HW : Hid ((Txt.scan s k).1 = Txt.words s) := by show _ = _; rw [ek]; rfl
      have hnk : ¬ (k : Int) ≤ (s.size : Int) := by omega
      rw [HW.out] at hown
      have OWN := hid' hown
      have HBW := hid' hbw
      clear ek hown hbw
      go_wp2
      go_ret
      exact ⟨_, rfl, OWN.out, HBW.out⟩
end Go.Proofs.YtmmkhodaljpjgaaGreatDoor
