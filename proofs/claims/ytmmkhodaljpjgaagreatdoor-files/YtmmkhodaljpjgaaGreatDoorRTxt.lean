import Derived.Test.YtmmkhodaljpjgaaGreatDoorTxtM
import Derived.Test.YtmmkhodaljpjgaaGreatDoorTurn
import Derived.Test.YtmmkhodaljpjgaaGreatDoorLeaf
/-! Words and numbers of a text, and the document's number. -/
namespace Go.Proofs.YtmmkhodaljpjgaaGreatDoor
open Go.RowKit

namespace Txt
end Txt

set_option maxRecDepth 100000 in
theorem ref_number (s : ByteArray) (w : World) (hs : s.size ≤ 1000000000) :
    Calls Tryz.prog 167 #[.string s] w fun e w' => e = .returned (.int .i64 (Txt.number s)) ∧ w' = w := by
  by_cases h0 : s.size = 0
  · have H : Hid (Txt.number s = -1) := Txt.number_no1 (.inl h0)
    have h0' : ((s.size : Int) == 0) = true := by rw [beq_iff_eq]; omega
    clear h0
    go_enter Tryz.func167, Tryz.ntmps167
    go_wp2
    go_ret
    exact ⟨ret_int H.out.symm, rfl⟩
  · have h0' : ((s.size : Int) == 0) = false := by rw [beq_eq_false_iff_ne]; omega
    by_cases h1 : 11 < s.size
    · have H : Hid (Txt.number s = -1) := Txt.number_no1 (.inr h1)
      go_enter Tryz.func167, Tryz.ntmps167
      go_wp2
      go_ret
      exact ⟨ret_int H.out.symm, rfl⟩
    · go_enter Tryz.func167, Tryz.ntmps167
      go_wp2
      go_loop [3, 4] (fun r i => ∃ k : Nat, k ≤ s.size ∧ i = .int .i64 k ∧ r = .int .i64 (Txt.numTo s k) ∧ Txt.Digits s k) (fun _ i => s.size - (intOf i).toNat)
      case atStart => exact ⟨0, by omega, rfl, rfl, fun i hi => by omega⟩
      case round =>
        obtain ⟨k, hk, rfl, rfl, hdg⟩ := hrel
        by_cases hlt : k < s.size
        · have hbd := Txt.numTo_bd k hdg
          have hpw := Txt.pow10_le k (by omega)
          have hby := Txt.byte_at s k hlt
          have HBY := hid' hby
          have HDG := hid' hdg
          have h8 := s[k].toNat_lt
          generalize hN : Txt.numTo s k = v at *
          have HNV := hid' hN
          clear hdg hby hN
          generalize hP : (10 : Int) ^ k = p10 at *
          clear hP
          by_cases c1 : s[k].toNat < 48
          · have H : Hid (Txt.number s = -1) := Txt.number_no2 fun h => by have := (h k hlt).1; rw [HBY.out] at this; omega
            go_wp2
            go_ret
            exact ⟨ret_int H.out.symm, rfl⟩
          · by_cases c2 : 57 < s[k].toNat
            · have H : Hid (Txt.number s = -1) := Txt.number_no2 fun h => by have := (h k hlt).2; rw [HBY.out] at this; omega
              go_wp2
              go_ret
              exact ⟨ret_int H.out.symm, rfl⟩
            · have HS : Hid (Txt.numTo s (k + 1) = 10 * v + ((s[k].toNat : Int) - 48)) := by show _ = _; simp only [Txt.numTo]; rw [HNV.out, HBY.out]
              have HD2 : Hid (Txt.Digits s (k + 1)) := fun i hi => by
                by_cases e : i = k
                · subst e; rw [HBY.out]; omega
                · exact HDG.out i (by omega)
              go_wp2
              exact ⟨⟨k + 1, by omega, by go_num, by rw [HS.out], HD2.out⟩, by simp [intOf]; omega⟩
        · have ek : k = s.size := by omega
          have H : Hid (Txt.number s = Txt.numTo s k) := by show _ = _; rw [ek]; exact Txt.number_yes (by omega) (by rw [← ek]; exact hdg)
          clear ek hdg
          go_wp2
          go_ret
          exact ⟨ret_int H.out.symm, rfl⟩

end Go.Proofs.YtmmkhodaljpjgaaGreatDoor

namespace Go.Proofs.YtmmkhodaljpjgaaGreatDoor
open Go.RowKit

namespace Txt
end Txt

set_option maxRecDepth 100000 in
set_option maxHeartbeats 1000000 in
theorem ref_word (s : ByteArray) (w : World) (hs : s.size ≤ 1000000000) :
    Calls Tryz.prog 166 #[.string s] w fun e w' => e = .returned (.string (Txt.word s)) ∧ w' = w := by
  by_cases h0 : s.size = 0
  · have H : Hid (Txt.word s = ⟨#[]⟩) := Txt.word_no1 (.inl h0)
    have h0' : ((s.size : Int) == 0) = true := by rw [beq_iff_eq]; omega
    clear h0
    go_enter Tryz.func166, Tryz.ntmps166
    go_wp2
    go_ret
    exact ⟨ret_str H.out.symm, rfl⟩
  · have h0' : ((s.size : Int) == 0) = false := by rw [beq_eq_false_iff_ne]; omega
    by_cases h1 : 8 < s.size
    · have H : Hid (Txt.word s = ⟨#[]⟩) := Txt.word_no1 (.inr h1)
      go_enter Tryz.func166, Tryz.ntmps166
      go_wp2
      go_ret
      exact ⟨ret_str H.out.symm, rfl⟩
    · go_enter Tryz.func166, Tryz.ntmps166
      go_wp2
      go_loop [3, 4, 5] (fun i _ _ => ∃ k : Nat, k ≤ s.size ∧ i = .int .i64 k ∧ Txt.Hexes s k) (fun i _ _ => s.size - (intOf i).toNat)
      case atStart => exact ⟨0, by omega, rfl, fun i hi => by omega⟩
      case round =>
        obtain ⟨k, hk, rfl, hdg⟩ := hrel
        by_cases hlt : k < s.size
        · have hby := Txt.byte_at s k hlt
          have HBY := hid' hby
          have HDG := hid' hdg
          have h8 := s[k].toNat_lt
          clear hdg hby
          by_cases c : Txt.HexB (s[k].toNat : Int)
          · have HD2 : Hid (Txt.Hexes s (k + 1)) := fun i hi => by
              by_cases e : i = k
              · subst e; rw [HBY.out]; exact c
              · exact HDG.out i (by omega)
            rcases c with ⟨c1, c2⟩ | ⟨c1, c2⟩
            · go_wp2
              exact ⟨⟨k + 1, by omega, by go_num, HD2.out⟩, by simp [intOf]; omega⟩
            · go_wp2
              exact ⟨⟨k + 1, by omega, by go_num, HD2.out⟩, by simp [intOf]; omega⟩
          · have H : Hid (Txt.word s = ⟨#[]⟩) := Txt.word_no2 fun h => c (by have := h k hlt; rw [HBY.out] at this; exact this)
            unfold Txt.HexB at c
            by_cases c1 : (s[k].toNat : Int) < 48
            · clear c
              go_wp2
              go_ret
              exact ⟨ret_str H.out.symm, rfl⟩
            · by_cases c2 : (s[k].toNat : Int) < 97
              · have c3 : decide ((s[k].toNat : Int) ≤ 57) = false := by simp; omega
                clear c
                go_wp2
                go_ret
                exact ⟨ret_str H.out.symm, rfl⟩
              · have c3 : decide ((s[k].toNat : Int) ≤ 57) = false := by simp; omega
                have c4 : decide ((s[k].toNat : Int) ≤ 102) = false := by simp; omega
                clear c
                go_wp2
                go_ret
                exact ⟨ret_str H.out.symm, rfl⟩
        · have ek : k = s.size := by omega
          have H : Hid (Txt.word s = Txt.noughts.extract s.size 8 ++ s) := Txt.word_yes (by omega) (by rw [← ek]; exact hdg)
          clear ek hdg
          go_wp2
          go_ret
          exact ⟨ret_str H.out.symm, rfl⟩

end Go.Proofs.YtmmkhodaljpjgaaGreatDoor

namespace Go.Proofs.YtmmkhodaljpjgaaGreatDoor
open Go.RowKit

namespace Txt
end Txt

set_option maxRecDepth 100000 in
set_option maxHeartbeats 1000000 in
theorem ref_words (s : ByteArray) (w : World) (hs : s.size ≤ 1000000) :
    Calls Tryz.prog 123 #[.string s] w fun e w' => ∃ v, e = .returned v ∧ w'.ownsRow w.heap.size 9 1 v (Txt.words s).length ((Txt.words s).map Value.string) ∧ Below w.heap.size w w' := by
  obtain ⟨i0, hi0, hz0, hz1, hz2⟩ := info_parts infoString
  go_enter Tryz.func123, Tryz.ntmps123
  go_wp2
  go_loopw [3, 4, 5] (fun l t i wr => ∃ k : Nat, k ≤ s.size + 1 ∧ i = .int .i64 k ∧ t = .string (Txt.scan s k).2 ∧ wr.ownsRow w.heap.size 9 1 l (Txt.scan s k).1.length ((Txt.scan s k).1.map Value.string) ∧ Below w.heap.size w wr) (fun _ _ i _ => s.size + 1 - (intOf i).toNat)
  case atStart => exact ⟨0, by omega, rfl, rfl, World.ownsRow_nil _ _ _ _, Below.refl _ _⟩
  case round =>
    obtain ⟨k, hk, rfl, rfl, hown, hbw⟩ := hrel
    have hbd := Txt.scan_bd s k
    by_cases hle : k < s.size + 1
    · have hsw := hbw.size
      have OWN := hid' hown
      have HBW := hid' hbw
      clear hown hbw
      by_cases hin : Txt.inWord s k
      · have HSC : Hid (Txt.scan s (k + 1) = ((Txt.scan s k).1, (Txt.scan s k).2 ++ s.extract k (k + 1))) := by show _ = _; rw [Txt.scan, if_pos hin]
        obtain ⟨hlt, n32, n9⟩ := hin
        rw [Txt.byte_at s k hlt] at n32 n9
        have b32 : ((s[k].toNat : Int) != 32) = true := bne_iff_ne.2 n32
        have b9 : ((s[k].toNat : Int) != 9) = true := bne_iff_ne.2 n9
        have hx := Txt.size_ext s k hlt
        clear n32 n9
        generalize Txt.scan s k = st at *
        obtain ⟨out, wd⟩ := st
        simp only at hbd OWN HSC
        go_wp2
        go_roundw
        case rel => exact ⟨k + 1, by omega, by go_num, by rw [HSC.out], by rw [HSC.out]; exact OWN.out, HBW.out⟩
        case measure => simp [intOf]; omega
      · have hB : k = s.size ∨ (∃ h : k < s.size, (s[k].toNat : Int) = 32) ∨ (∃ h : k < s.size, ¬ (s[k].toNat : Int) = 32 ∧ (s[k].toNat : Int) = 9) := by
          by_cases c : k < s.size
          · by_cases e : (s[k].toNat : Int) = 32
            · exact .inr (.inl ⟨c, e⟩)
            · refine .inr (.inr ⟨c, e, ?_⟩)
              by_cases e9 : (s[k].toNat : Int) = 9
              · exact e9
              · exact absurd ⟨c, by rw [Txt.byte_at s k c]; exact e, by rw [Txt.byte_at s k c]; exact e9⟩ hin
          · exact .inl (by omega)
        by_cases hwd : (Txt.scan s k).2 = ⟨#[]⟩
        · have HSC : Hid (Txt.scan s (k + 1) = Txt.scan s k) := by show _ = _; rw [Txt.scan, if_neg hin, if_pos hwd]
          clear hin
          generalize Txt.scan s k = st at *
          obtain ⟨out, wd⟩ := st
          simp only at hbd OWN hwd
          subst hwd
          rcases hB with hE | ⟨hlt, hE⟩ | ⟨hlt, hN, hE⟩
          · have hE1 : ¬ (k : Int) < (s.size : Int) := by omega
            have hE2 : (k : Int) ≤ (s.size : Int) := by omega
            clear hE
            go_wp2
            go_roundw
            case rel => exact ⟨k + 1, by omega, by go_num, by rw [HSC.out], by rw [HSC.out]; exact OWN.out, HBW.out⟩
            case measure => simp [intOf]; omega
          · have q32 : ((s[k].toNat : Int) != 32) = false := by rw [bne_eq_false_iff_eq]; exact hE
            clear hE
            go_wp2
            go_roundw
            case rel => exact ⟨k + 1, by omega, by go_num, by rw [HSC.out], by rw [HSC.out]; exact OWN.out, HBW.out⟩
            case measure => simp [intOf]; omega
          · have q32 : ((s[k].toNat : Int) != 32) = true := bne_iff_ne.2 hN
            have q9 : ((s[k].toNat : Int) != 9) = false := by rw [bne_eq_false_iff_eq]; exact hE
            clear hE hN
            go_wp2
            go_roundw
            case rel => exact ⟨k + 1, by omega, by go_num, by rw [HSC.out], by rw [HSC.out]; exact OWN.out, HBW.out⟩
            case measure => simp [intOf]; omega
        · have HSC : Hid (Txt.scan s (k + 1) = ((Txt.scan s k).1 ++ [(Txt.scan s k).2], ⟨#[]⟩)) := by show _ = _; rw [Txt.scan, if_neg hin, if_neg hwd]
          clear hin
          generalize Txt.scan s k = st at *
          obtain ⟨out, wd⟩ := st
          simp only at hbd OWN hwd HSC
          have hwe : wd.toList.isEmpty = false := Txt.not_empty hwd
          clear hwd
          rcases hB with hE | ⟨hlt, hE⟩ | ⟨hlt, hN, hE⟩
          · have hE1 : ¬ (k : Int) < (s.size : Int) := by omega
            have hE2 : (k : Int) ≤ (s.size : Int) := by omega
            clear hE
            go_wp2_with (first
              | (at_builtin; refine wpList_append_lies _ (by rfl) (.tmp 37) (.tmp 39) 30 (by rfl) w.heap.size 9 i0 (.string ByteArray.empty) 1 16 Tryz.underlying30 hi0 hz0 hz1 hz2 rfl (by decide) u3 out.length (out.map Value.string) (by rfl) (OWN.out.alloc _) ⟨wr.heap.size, 0, none⟩ 1 1 [.string wd] (by rfl) (by rfl) (World.news_of_block (cs := #[.string wd]) (heap_alloc_new wr _)) (by simp [Value.oneCell']) (by decide) (by unfold maxLen; omega) (by omega) (by simp; omega) (wr.heap.size + 1) (by simp) ?_; intro g3 cap3 w3 own3 hg3 _ hlt3; have HB3 := hid' ((HBW.out.alloc hsw _).grown hg3 (by simp; omega) (own_ge OWN.out)); have OWN3 := hid' own3; clear own3 hg3))
            go_roundw
            case rel => exact ⟨k + 1, by omega, by go_num, by rw [HSC.out], by rw [HSC.out]; simpa using OWN3.out, HB3.out⟩
            case measure => simp [intOf]; omega
          · have q32 : ((s[k].toNat : Int) != 32) = false := by rw [bne_eq_false_iff_eq]; exact hE
            clear hE
            go_wp2_with (first
              | (at_builtin; refine wpList_append_lies _ (by rfl) (.tmp 37) (.tmp 39) 30 (by rfl) w.heap.size 9 i0 (.string ByteArray.empty) 1 16 Tryz.underlying30 hi0 hz0 hz1 hz2 rfl (by decide) u3 out.length (out.map Value.string) (by rfl) (OWN.out.alloc _) ⟨wr.heap.size, 0, none⟩ 1 1 [.string wd] (by rfl) (by rfl) (World.news_of_block (cs := #[.string wd]) (heap_alloc_new wr _)) (by simp [Value.oneCell']) (by decide) (by unfold maxLen; omega) (by omega) (by simp; omega) (wr.heap.size + 1) (by simp) ?_; intro g3 cap3 w3 own3 hg3 _ hlt3; have HB3 := hid' ((HBW.out.alloc hsw _).grown hg3 (by simp; omega) (own_ge OWN.out)); have OWN3 := hid' own3; clear own3 hg3))
            go_roundw
            case rel => exact ⟨k + 1, by omega, by go_num, by rw [HSC.out], by rw [HSC.out]; simpa using OWN3.out, HB3.out⟩
            case measure => simp [intOf]; omega
          · have q32 : ((s[k].toNat : Int) != 32) = true := bne_iff_ne.2 hN
            have q9 : ((s[k].toNat : Int) != 9) = false := by rw [bne_eq_false_iff_eq]; exact hE
            clear hE hN
            go_wp2_with (first
              | (at_builtin; refine wpList_append_lies _ (by rfl) (.tmp 37) (.tmp 39) 30 (by rfl) w.heap.size 9 i0 (.string ByteArray.empty) 1 16 Tryz.underlying30 hi0 hz0 hz1 hz2 rfl (by decide) u3 out.length (out.map Value.string) (by rfl) (OWN.out.alloc _) ⟨wr.heap.size, 0, none⟩ 1 1 [.string wd] (by rfl) (by rfl) (World.news_of_block (cs := #[.string wd]) (heap_alloc_new wr _)) (by simp [Value.oneCell']) (by decide) (by unfold maxLen; omega) (by omega) (by simp; omega) (wr.heap.size + 1) (by simp) ?_; intro g3 cap3 w3 own3 hg3 _ hlt3; have HB3 := hid' ((HBW.out.alloc hsw _).grown hg3 (by simp; omega) (own_ge OWN.out)); have OWN3 := hid' own3; clear own3 hg3))
            go_roundw
            case rel => exact ⟨k + 1, by omega, by go_num, by rw [HSC.out], by rw [HSC.out]; simpa using OWN3.out, HB3.out⟩
            case measure => simp [intOf]; omega
    · have ek : k = s.size + 1 := by omega
      have HW : Hid ((Txt.scan s k).1 = Txt.words s) := by show _ = _; rw [ek]; rfl
      have hnk : ¬ (k : Int) ≤ (s.size : Int) := by omega
      rw [HW.out] at hown
      have OWN := hid' hown
      have HBW := hid' hbw
      clear ek hown hbw
      go_wp2
      go_ret
      exact ⟨_, rfl, OWN.out, HBW.out⟩

end Go.Proofs.YtmmkhodaljpjgaaGreatDoor

namespace Go.Proofs.YtmmkhodaljpjgaaGreatDoor
open Go.RowKit

namespace Txt
end Txt

set_option maxRecDepth 100000 in
theorem ref_digits (n : Nat) (hn : n ≤ 1000000000000) (w : World) :
    Calls Tryz.prog 81 #[.int .i64 n] w fun e w' => e = .returned (.string ⟨(Txt.dec n).toArray⟩) ∧ Below w.heap.size w w' := by
  induction n using Nat.strongRecOn generalizing w with
  | _ n ih =>
    by_cases h : 9 < n
    · have H : Hid (ByteArray.mk (Txt.dec (n / 10)).toArray ++ ByteArray.mk (Txt.dec (n % 10)).toArray = ByteArray.mk (Txt.dec n).toArray) := by
        show _ = _; rw [Txt.dec_high n h]; congr 1
      obtain ⟨a, ha⟩ : ∃ a : Nat, n / 10 = a := ⟨_, rfl⟩
      obtain ⟨c, hc⟩ : ∃ c : Nat, n % 10 = c := ⟨_, rfl⟩
      have I1 := hid' (fun w => ih a (by omega) (by omega) w)
      have I2 := hid' (fun w => ih c (by omega) (by omega) w)
      have q : (n : Int) / 10 = (a : Int) := by omega
      have r : (n : Int) % 10 = (c : Int) := by omega
      have ba : a ≤ 1000000000000 := by omega
      have bc : c < 10 := by omega
      rw [ha, hc] at H
      have l1 := Txt.dec_len a
      have l2 := Txt.dec_len c
      have s1 : (ByteArray.mk (Txt.dec a).toArray).size ≤ a + 1 := by simpa [ByteArray.size] using l1
      have s2 : (ByteArray.mk (Txt.dec c).toArray).size ≤ c + 1 := by simpa [ByteArray.size] using l2
      clear ih l1 l2 ha hc
      generalize ByteArray.mk (Txt.dec a).toArray = A at *
      generalize ByteArray.mk (Txt.dec c).toArray = C at *
      go_enter Tryz.func81, Tryz.ntmps81
      go_wp2_with fail
      refine (I1.out w).mono ?_
      rintro e w1 ⟨rfl, hb1⟩
      have HB1 := hid' hb1
      clear hb1
      go_wp2_with fail
      refine (I2.out w1).mono ?_
      rintro e w2 ⟨rfl, hb2⟩
      have HB2 := hid' hb2
      clear hb2
      go_wp2
      go_ret
      exact ⟨ret_str H.out, HB1.out.trans (HB2.out.mono HB1.out.size)⟩
    · have H : Hid (Txt.dec n = [UInt8.ofNat (48 + n)]) := Txt.dec_low n h
      have hu : ((UInt8.ofNat (48 + n)).toNat : Int) = 48 + n := by simp; omega
      generalize UInt8.ofNat (48 + n) = c at *
      have hconv := bytes_back (V := w.alloc (.cells #[.int .u8 (48 + n)] 5)) (t := [c]) (cs := #[.int .u8 (48 + n)]) (fr := (0, 0)) (g := w.heap.size) (cap := 1) (n := 1) (heap_alloc_new _ _) ⟨by simp, fun j hj => by
        have : j = 0 := by simpa using hj
        subst this
        simp [hu]⟩ (by simp) 0
      have HC : (convert 44 9 (.slice (some ⟨w.heap.size, 0, none⟩) 1 1)).run Tryz.prog (w.alloc (.cells #[.int .u8 (48 + n)] 5)) = .ok (.string ⟨[c].toArray⟩) (w.alloc (.cells #[.int .u8 (48 + n)] 5)) := hconv
      clear hconv hu ih
      go_enter Tryz.func81, Tryz.ntmps81
      go_wp2
      go_ret
      exact ⟨ret_str (by rw [H.out]), (Below.refl _ _).alloc (Nat.le_refl _) _⟩

end Go.Proofs.YtmmkhodaljpjgaaGreatDoor
