import Derived.Test.YtmmkhodaljpjgaaDoorTxtM
/-! Package file: digits, numbers, words of a digest, gaps. -/
namespace Go.Proofs.YtmmkhodaljpjgaaDoor
open Go.RowKit

namespace Txt
def isDig (c : Int) : Bool := decide (48 ≤ c) && decide (c ≤ 57)
def isNum (s : ByteArray) : Bool := !decide (s.size = 0 ∨ 11 < s.size) && digitsB s s.size
theorem isNum_iff (s : ByteArray) : isNum s = true ↔ ¬ (s.size = 0 ∨ 11 < s.size) ∧ Digits s s.size := by
  unfold isNum
  rw [Bool.and_eq_true, digitsB_iff, Bool.not_eq_true', decide_eq_false_iff_not]
theorem isNum_yes {s : ByteArray} (h : ¬ (s.size = 0 ∨ 11 < s.size)) (hd : Digits s s.size) : isNum s = true := (isNum_iff s).2 ⟨h, hd⟩
theorem isNum_no {s : ByteArray} (h : ¬ (¬ (s.size = 0 ∨ 11 < s.size) ∧ Digits s s.size)) : isNum s = false := by
  cases e : isNum s with
  | false => rfl
  | true => exact absurd ((isNum_iff s).1 e) h
theorem isNum_is {s : ByteArray} (h : isNum s = true) : ¬ (s.size = 0 ∨ 11 < s.size) ∧ Digits s s.size := (isNum_iff s).1 h
theorem isNum_not {s : ByteArray} (h : isNum s = false) : ¬ (¬ (s.size = 0 ∨ 11 < s.size) ∧ Digits s s.size) := fun e => by rw [(isNum_iff s).2 e] at h; cases h
theorem number_of {s : ByteArray} (h : isNum s = true) : number s = numTo s s.size := number_yes (isNum_is h).1 (isNum_is h).2
theorem number_neg {s : ByteArray} (h : isNum s = false) : number s = -1 := by
  by_cases c : s.size = 0 ∨ 11 < s.size
  · exact number_no1 c
  · exact number_no2 fun d => isNum_not h ⟨c, d⟩
theorem numTo_le {s : ByteArray} (h : isNum s = true) : 0 ≤ numTo s s.size ∧ numTo s s.size < 100000000000 := by
  obtain ⟨h0, hd⟩ := isNum_is h
  have a := numTo_bd _ hd
  refine ⟨a.1, Int.lt_of_lt_of_le a.2 ?_⟩
  have : s.size ≤ 11 := by omega
  by_cases e : s.size = 11
  · rw [e]; decide
  · exact Int.le_trans (pow10_le s.size (by omega)) (by decide)
def isHex (s : ByteArray) : Bool := !decide (s.size = 0 ∨ 8 < s.size) && hexesB s s.size
theorem isHex_iff (s : ByteArray) : isHex s = true ↔ ¬ (s.size = 0 ∨ 8 < s.size) ∧ Hexes s s.size := by
  unfold isHex
  rw [Bool.and_eq_true, hexesB_iff, Bool.not_eq_true', decide_eq_false_iff_not]
theorem isHex_yes {s : ByteArray} (h : ¬ (s.size = 0 ∨ 8 < s.size)) (hd : Hexes s s.size) : isHex s = true := (isHex_iff s).2 ⟨h, hd⟩
theorem isHex_no {s : ByteArray} (h : ¬ (¬ (s.size = 0 ∨ 8 < s.size) ∧ Hexes s s.size)) : isHex s = false := by
  cases e : isHex s with
  | false => rfl
  | true => exact absurd ((isHex_iff s).1 e) h
theorem isHex_is {s : ByteArray} (h : isHex s = true) : ¬ (s.size = 0 ∨ 8 < s.size) ∧ Hexes s s.size := (isHex_iff s).1 h
theorem isHex_not {s : ByteArray} (h : isHex s = false) : ¬ (¬ (s.size = 0 ∨ 8 < s.size) ∧ Hexes s s.size) := fun e => by rw [(isHex_iff s).2 e] at h; cases h
theorem word_of {s : ByteArray} (h : isHex s = true) : word s = noughts.extract s.size 8 ++ s := word_yes (isHex_is h).1 (isHex_is h).2
theorem word_none {s : ByteArray} (h : isHex s = false) : word s = ⟨#[]⟩ := by
  by_cases c : s.size = 0 ∨ 8 < s.size
  · exact word_no1 c
  · exact word_no2 fun d => isHex_not h ⟨c, d⟩
theorem noughts_more : ∀ a t : Fin 9, a.val + t.val < 8 → (ByteArray.mk #[48]) ++ noughts.extract a.val (a.val + t.val) = noughts.extract a.val (a.val + t.val + 1) := by decide +kernel
theorem noughts_none : ∀ a : Fin 9, noughts.extract a.val (a.val + 0) = ByteArray.empty := by decide +kernel
theorem noughts_size (a t : Nat) (h : a + t ≤ 8) : (noughts.extract a (a + t)).size = t := by
  rw [ByteArray.size_extract]
  have : noughts.size = 8 := rfl
  omega
end Txt

theorem is_digit (c : Int) (w : World) : Calls Tryd.prog 54 #[.int .u8 c] w fun e w' => e = .returned (.bool (Txt.isDig c)) ∧ w' = w := by
  by_cases h0 : 48 ≤ c
  · by_cases h1 : c ≤ 57
    · have H : Hid (Txt.isDig c = true) := by show _ = _; unfold Txt.isDig; simp [h0, h1]
      go_enter Tryd.func54, Tryd.ntmps54
      go_wp2
      go_ret
      exact ⟨ret_bool H.out.symm, rfl⟩
    · have H : Hid (Txt.isDig c = false) := by show _ = _; unfold Txt.isDig; simp [h0, h1]
      go_enter Tryd.func54, Tryd.ntmps54
      go_wp2
      go_ret
      exact ⟨ret_bool H.out.symm, rfl⟩
  · have H : Hid (Txt.isDig c = false) := by show _ = _; unfold Txt.isDig; simp [h0]
    go_enter Tryd.func54, Tryd.ntmps54
    go_wp2
    go_ret
    exact ⟨ret_bool H.out.symm, rfl⟩

set_option maxRecDepth 100000 in
theorem is_number (s : ByteArray) (w : World) (hs : s.size ≤ 1000000000) :
    Calls Tryd.prog 48 #[.string s] w fun e w' => e = .returned (.bool (Txt.isNum s)) ∧ w' = w := by
  by_cases h0 : s.size < 1
  · have H : Hid (Txt.isNum s = false) := Txt.isNum_no fun h => h.1 (.inl (by omega))
    go_enter Tryd.func48, Tryd.ntmps48
    go_wp2
    go_ret
    exact ⟨ret_bool H.out.symm, rfl⟩
  · by_cases h1 : 11 < s.size
    · have H : Hid (Txt.isNum s = false) := Txt.isNum_no fun h => h.1 (.inr h1)
      go_enter Tryd.func48, Tryd.ntmps48
      go_wp2
      go_ret
      exact ⟨ret_bool H.out.symm, rfl⟩
    · go_enter Tryd.func48, Tryd.ntmps48
      go_wp2
      go_loop [3] (fun i => ∃ k : Nat, k ≤ s.size ∧ i = .int .i64 k ∧ Txt.Digits s k) (fun i => s.size - (intOf i).toNat)
      case atStart => exact ⟨0, by omega, rfl, fun i hi => by omega⟩
      case round =>
        obtain ⟨k, hk, rfl, hdg⟩ := hrel
        by_cases hlt : k < s.size
        · have hby := Txt.byte_at s k hlt
          have HBY := hid' hby
          have HDG := hid' hdg
          have h8 := s[k].toNat_lt
          have HD := hid' (is_digit (s[k].toNat : Int) w)
          clear hdg hby
          by_cases c : 48 ≤ (s[k].toNat : Int) ∧ (s[k].toNat : Int) ≤ 57
          · have hd : Txt.isDig (s[k].toNat : Int) = true := by unfold Txt.isDig; simp [c.1, c.2]
            rw [hd] at HD
            have HD2 : Hid (Txt.Digits s (k + 1)) := fun i hi => by
              by_cases e : i = k
              · subst e; rw [HBY.out]; exact c
              · exact HDG.out i (by omega)
            clear hd c
            go_wp2_with (go_at_call 54; refine HD.out.mono ?_; rintro e w' ⟨rfl, rfl⟩)
            exact ⟨⟨k + 1, by omega, by go_num, HD2.out⟩, by simp [intOf]; omega⟩
          · have hd : Txt.isDig (s[k].toNat : Int) = false := by unfold Txt.isDig; simp; omega
            rw [hd] at HD
            have H : Hid (Txt.isNum s = false) := Txt.isNum_no fun h => by have := h.2 k hlt; rw [HBY.out] at this; exact c this
            clear hd c
            go_wp2_with (go_at_call 54; refine HD.out.mono ?_; rintro e w' ⟨rfl, rfl⟩)
            go_ret
            exact ⟨ret_bool H.out.symm, rfl⟩
        · have ek : k = s.size := by omega
          have H : Hid (Txt.isNum s = true) := Txt.isNum_yes (by omega) (by rw [← ek]; exact hdg)
          clear ek hdg
          go_wp2
          go_ret
          exact ⟨ret_bool H.out.symm, rfl⟩

set_option maxRecDepth 100000 in
theorem value_of (s : ByteArray) (w : World) (hs : Txt.isNum s = true) :
    Calls Tryd.prog 38 #[.string s] w fun e w' => e = .returned (.int .i64 (Txt.numTo s s.size)) ∧ w' = w := by
  obtain ⟨h1, hd⟩ := Txt.isNum_is hs
  have h11 : s.size ≤ 11 := by omega
  have HD := hid' hd
  clear h1 hd hs
  go_enter Tryd.func38, Tryd.ntmps38
  go_wp2
  go_loop [3, 4] (fun r i => ∃ k : Nat, k ≤ s.size ∧ i = .int .i64 k ∧ r = .int .i64 (Txt.numTo s k)) (fun _ i => s.size - (intOf i).toNat)
  case atStart => exact ⟨0, by omega, rfl, rfl⟩
  case round =>
    obtain ⟨k, hk, rfl, rfl⟩ := hrel
    by_cases hlt : k < s.size
    · have hbd := Txt.numTo_bd k (s := s) (fun i hi => HD.out i (by omega))
      have hpw := Txt.pow10_le k (by omega)
      have hdk := HD.out k hlt
      rw [Txt.byte_at s k hlt] at hdk
      have HS : Hid (Txt.numTo s (k + 1) = 10 * Txt.numTo s k + ((s[k].toNat : Int) - 48)) := by show _ = _; simp only [Txt.numTo]; rw [Txt.byte_at s k hlt]
      generalize Txt.numTo s k = v at *
      generalize hP : (10 : Int) ^ k = p10 at *
      clear hP
      go_wp2
      exact ⟨⟨k + 1, by omega, by go_num, by rw [HS.out]; congr 1; omega⟩, by simp [intOf]; omega⟩
    · have ek : k = s.size := by omega
      have H : Hid (Txt.numTo s k = Txt.numTo s s.size) := by show _ = _; rw [ek]
      clear ek
      go_wp2
      go_ret
      exact ⟨ret_int H.out, rfl⟩

set_option maxRecDepth 100000 in
set_option maxHeartbeats 1000000 in
theorem is_hex (s : ByteArray) (w : World) (hs : s.size ≤ 1000000000) :
    Calls Tryd.prog 46 #[.string s] w fun e w' => e = .returned (.bool (Txt.isHex s)) ∧ w' = w := by
  by_cases h0 : s.size < 1
  · have H : Hid (Txt.isHex s = false) := Txt.isHex_no fun h => h.1 (.inl (by omega))
    go_enter Tryd.func46, Tryd.ntmps46
    go_wp2
    go_ret
    exact ⟨ret_bool H.out.symm, rfl⟩
  · by_cases h1 : 8 < s.size
    · have H : Hid (Txt.isHex s = false) := Txt.isHex_no fun h => h.1 (.inr h1)
      go_enter Tryd.func46, Tryd.ntmps46
      go_wp2
      go_ret
      exact ⟨ret_bool H.out.symm, rfl⟩
    · go_enter Tryd.func46, Tryd.ntmps46
      go_wp2
      go_loop [3] (fun i => ∃ k : Nat, k ≤ s.size ∧ i = .int .i64 k ∧ Txt.Hexes s k) (fun i => s.size - (intOf i).toNat)
      case atStart => exact ⟨0, by omega, rfl, fun i hi => by omega⟩
      case round =>
        obtain ⟨k, hk, rfl, hdg⟩ := hrel
        by_cases hlt : k < s.size
        · have hby := Txt.byte_at s k hlt
          have HBY := hid' hby
          have HDG := hid' hdg
          have h8 := s[k].toNat_lt
          have HD := hid' (is_digit (s[k].toNat : Int) w)
          clear hdg hby
          by_cases c : Txt.HexB (s[k].toNat : Int)
          · have HD2 : Hid (Txt.Hexes s (k + 1)) := fun i hi => by
              by_cases e : i = k
              · subst e; rw [HBY.out]; exact c
              · exact HDG.out i (by omega)
            rcases c with ⟨c1, c2⟩ | ⟨c1, c2⟩
            · have hd : Txt.isDig (s[k].toNat : Int) = true := by unfold Txt.isDig; simp [c1, c2]
              rw [hd] at HD
              clear hd
              go_wp2_with (go_at_call 54; refine HD.out.mono ?_; rintro e w' ⟨rfl, rfl⟩)
              exact ⟨⟨k + 1, by omega, by go_num, HD2.out⟩, by simp [intOf]; omega⟩
            · have hd : Txt.isDig (s[k].toNat : Int) = false := by unfold Txt.isDig; simp; omega
              rw [hd] at HD
              clear hd
              go_wp2_with (go_at_call 54; refine HD.out.mono ?_; rintro e w' ⟨rfl, rfl⟩)
              exact ⟨⟨k + 1, by omega, by go_num, HD2.out⟩, by simp [intOf]; omega⟩
          · have H : Hid (Txt.isHex s = false) := Txt.isHex_no fun h => c (by have := h.2 k hlt; rw [HBY.out] at this; exact this)
            unfold Txt.HexB at c
            have hd : Txt.isDig (s[k].toNat : Int) = false := by unfold Txt.isDig; simp; omega
            rw [hd] at HD
            clear hd
            by_cases c2 : (s[k].toNat : Int) < 97
            · clear c
              go_wp2_with (go_at_call 54; refine HD.out.mono ?_; rintro e w' ⟨rfl, rfl⟩)
              go_ret
              exact ⟨ret_bool H.out.symm, rfl⟩
            · have c4 : (102 : Int) < (s[k].toNat : Int) := by omega
              clear c
              go_wp2_with (go_at_call 54; refine HD.out.mono ?_; rintro e w' ⟨rfl, rfl⟩)
              go_ret
              exact ⟨ret_bool H.out.symm, rfl⟩
        · have ek : k = s.size := by omega
          have H : Hid (Txt.isHex s = true) := Txt.isHex_yes (by omega) (by rw [← ek]; exact hdg)
          clear ek hdg
          go_wp2
          go_ret
          exact ⟨ret_bool H.out.symm, rfl⟩

set_option maxRecDepth 100000 in
theorem full_hex (s : ByteArray) (w : World) (hs : s.size ≤ 8) :
    Calls Tryd.prog 47 #[.string s] w fun e w' => e = .returned (.string (Txt.noughts.extract s.size 8 ++ s)) ∧ w' = w := by
  go_enter Tryd.func47, Tryd.ntmps47
  go_wp2
  go_loop [3] (fun i => ∃ t : Nat, s.size + t ≤ 8 ∧ i = .string (Txt.noughts.extract s.size (s.size + t) ++ s)) (fun i => match i with | .string b => 8 - b.size | _ => 0)
  case atStart => exact ⟨0, by omega, by rw [Txt.noughts_none ⟨s.size, by omega⟩, ByteArray.empty_append]⟩
  case round =>
    obtain ⟨t, ht, rfl⟩ := hrel
    have hz : (Txt.noughts.extract s.size (s.size + t) ++ s).size = s.size + t := by
      rw [ByteArray.size_append, Txt.noughts_size _ _ ht]; omega
    by_cases hlt : s.size + t < 8
    · have H : Hid ((ByteArray.mk #[48]) ++ (Txt.noughts.extract s.size (s.size + t) ++ s) = Txt.noughts.extract s.size (s.size + (t + 1)) ++ s) := by
        show _ = _
        rw [← ByteArray.append_assoc, Txt.noughts_more ⟨s.size, by omega⟩ ⟨t, by omega⟩ hlt]
        rfl
      generalize Txt.noughts.extract s.size (s.size + t) ++ s = f at *
      go_wp2
      refine ⟨⟨t + 1, by omega, by rw [← H.out]⟩, ?_⟩
      show 8 - ((ByteArray.mk #[48]) ++ f).size < 8 - f.size
      rw [ByteArray.size_append, hz]
      have : (ByteArray.mk #[48]).size = 1 := rfl
      omega
    · have e8 : s.size + t = 8 := by omega
      have H : Hid (Txt.noughts.extract s.size (s.size + t) ++ s = Txt.noughts.extract s.size 8 ++ s) := by show _ = _; rw [e8]
      generalize Txt.noughts.extract s.size (s.size + t) ++ s = f at *
      go_wp2
      go_ret
      exact ⟨ret_str H.out, rfl⟩

end Go.Proofs.YtmmkhodaljpjgaaDoor
