import Derived.Test.YtmmkhodaljpjgaaGreatDoorTxtM
/-! Package file: digits, numbers, words of a digest, gaps. -/
namespace Go.Proofs.YtmmkhodaljpjgaaGreatDoor
open Go.RowKit

namespace Txt
def isDig (c : Int) : Bool := decide (48 ≤ c) && decide (c ≤ 57)
def isNum (s : ByteArray) : Bool := !decide (s.size = 0 ∨ 11 < s.size) && digitsB s s.size
theorem isNum_iff (s : ByteArray) : isNum s = true ↔ ¬ (s.size = 0 ∨ 11 < s.size) ∧ Digits s s.size := by
  unfold isNum
  rw [Bool.and_eq_true, digitsB_iff, Bool.not_eq_true', decide_eq_false_iff_not]
theorem isNum_yes {s : ByteArray} (h : ¬ (s.size = 0 ∨ 11 < s.size)) (hd : Digits s s.size) : isNum s = true := (isNum_iff s).2 ⟨h, hd⟩
theorem isNum_no {s : ByteArray} (h : ¬ (¬ (s.size = 0 ∨ 11 < s.size) ∧ Digits s s.size)) : isNum s = false := by
  cases e : isNum s with
  | false => rfl
  | true => exact absurd ((isNum_iff s).1 e) h
theorem isNum_is {s : ByteArray} (h : isNum s = true) : ¬ (s.size = 0 ∨ 11 < s.size) ∧ Digits s s.size := (isNum_iff s).1 h
theorem isNum_not {s : ByteArray} (h : isNum s = false) : ¬ (¬ (s.size = 0 ∨ 11 < s.size) ∧ Digits s s.size) := fun e => by rw [(isNum_iff s).2 e] at h; cases h
theorem number_of {s : ByteArray} (h : isNum s = true) : number s = numTo s s.size := number_yes (isNum_is h).1 (isNum_is h).2
theorem number_neg {s : ByteArray} (h : isNum s = false) : number s = -1 := by
  by_cases c : s.size = 0 ∨ 11 < s.size
  · exact number_no1 c
  · exact number_no2 fun d => isNum_not h ⟨c, d⟩
theorem numTo_le {s : ByteArray} (h : isNum s = true) : 0 ≤ numTo s s.size ∧ numTo s s.size < 100000000000 := by
  obtain ⟨h0, hd⟩ := isNum_is h
  have a := numTo_bd _ hd
  refine ⟨a.1, Int.lt_of_lt_of_le a.2 ?_⟩
  have : s.size ≤ 11 := by omega
  by_cases e : s.size = 11
  · rw [e]; decide
  · exact Int.le_trans (pow10_le s.size (by omega)) (by decide)
def isHex (s : ByteArray) : Bool := !decide (s.size = 0 ∨ 8 < s.size) && hexesB s s.size
theorem isHex_iff (s : ByteArray) : isHex s = true ↔ ¬ (s.size = 0 ∨ 8 < s.size) ∧ Hexes s s.size := by
  unfold isHex
  rw [Bool.and_eq_true, hexesB_iff, Bool.not_eq_true', decide_eq_false_iff_not]
theorem isHex_yes {s : ByteArray} (h : ¬ (s.size = 0 ∨ 8 < s.size)) (hd : Hexes s s.size) : isHex s = true := (isHex_iff s).2 ⟨h, hd⟩
theorem isHex_no {s : ByteArray} (h : ¬ (¬ (s.size = 0 ∨ 8 < s.size) ∧ Hexes s s.size)) : isHex s = false := by
  cases e : isHex s with
  | false => rfl
  | true => exact absurd ((isHex_iff s).1 e) h
theorem isHex_is {s : ByteArray} (h : isHex s = true) : ¬ (s.size = 0 ∨ 8 < s.size) ∧ Hexes s s.size := (isHex_iff s).1 h
theorem isHex_not {s : ByteArray} (h : isHex s = false) : ¬ (¬ (s.size = 0 ∨ 8 < s.size) ∧ Hexes s s.size) := fun e => by rw [(isHex_iff s).2 e] at h; cases h
theorem word_of {s : ByteArray} (h : isHex s = true) : word s = noughts.extract s.size 8 ++ s := word_yes (isHex_is h).1 (isHex_is h).2
theorem word_none {s : ByteArray} (h : isHex s = false) : word s = ⟨#[]⟩ := by
  by_cases c : s.size = 0 ∨ 8 < s.size
  · exact word_no1 c
  · exact word_no2 fun d => isHex_not h ⟨c, d⟩
theorem noughts_more : ∀ a t : Fin 9, a.val + t.val < 8 → (ByteArray.mk #[48]) ++ noughts.extract a.val (a.val + t.val) = noughts.extract a.val (a.val + t.val + 1) := by decide +kernel
theorem noughts_none : ∀ a : Fin 9, noughts.extract a.val (a.val + 0) = ByteArray.empty := by decide +kernel
theorem noughts_size (a t : Nat) (h : a + t ≤ 8) : (noughts.extract a (a + t)).size = t := by
  rw [ByteArray.size_extract]
  have : noughts.size = 8 := rfl
  omega
end Txt

theorem is_digit (c : Int) (w : World) : Calls Tryz.prog 201 #[.int .u8 c] w fun e w' => e = .returned (.bool (Txt.isDig c)) ∧ w' = w := by
  by_cases h0 : 48 ≤ c
  · by_cases h1 : c ≤ 57
    · have H : Hid (Txt.isDig c = true) := by show _ = _; unfold Txt.isDig; simp [h0, h1]
      go_enter Tryz.func201, Tryz.ntmps201
      go_wp2
      go_ret
      exact ⟨ret_bool H.out.symm, rfl⟩
    · have H : Hid (Txt.isDig c = false) := by show _ = _; unfold Txt.isDig; simp [h0, h1]
      go_enter Tryz.func201, Tryz.ntmps201
      go_wp2
      go_ret
      exact ⟨ret_bool H.out.symm, rfl⟩
  · have H : Hid (Txt.isDig c = false) := by show _ = _; unfold Txt.isDig; simp [h0]
    go_enter Tryz.func201, Tryz.ntmps201
    go_wp2
    go_ret
    exact ⟨ret_bool H.out.symm, rfl⟩

set_option maxRecDepth 100000 in
theorem is_number (s : ByteArray) (w : World) (hs : s.size ≤ 1000000000) :
    Calls Tryz.prog 190 #[.string s] w fun e w' => e = .returned (.bool (Txt.isNum s)) ∧ w' = w := by
  by_cases h0 : s.size < 1
  · have H : Hid (Txt.isNum s = false) := Txt.isNum_no fun h => h.1 (.inl (by omega))
    go_enter Tryz.func190, Tryz.ntmps190
    go_wp2
    go_ret
    exact ⟨ret_bool H.out.symm, rfl⟩
  · by_cases h1 : 11 < s.size
    · have H : Hid (Txt.isNum s = false) := Txt.isNum_no fun h => h.1 (.inr h1)
      go_enter Tryz.func190, Tryz.ntmps190
      go_wp2
      go_ret
      exact ⟨ret_bool H.out.symm, rfl⟩
    · go_enter Tryz.func190, Tryz.ntmps190
      go_wp2
      go_loop [3] (fun i => ∃ k : Nat, k ≤ s.size ∧ i = .int .i64 k ∧ Txt.Digits s k) (fun i => s.size - (intOf i).toNat)
      case atStart => exact ⟨0, by omega, rfl, fun i hi => by omega⟩
      case round =>
        obtain ⟨k, hk, rfl, hdg⟩ := hrel
        by_cases hlt : k < s.size
        · have hby := Txt.byte_at s k hlt
          have HBY := hid' hby
          have HDG := hid' hdg
          have h8 := s[k].toNat_lt
          have HD := hid' (is_digit (s[k].toNat : Int) w)
          clear hdg hby
          by_cases c : 48 ≤ (s[k].toNat : Int) ∧ (s[k].toNat : Int) ≤ 57
          · have hd : Txt.isDig (s[k].toNat : Int) = true := by unfold Txt.isDig; simp [c.1, c.2]
            rw [hd] at HD
            have HD2 : Hid (Txt.Digits s (k + 1)) := fun i hi => by
              by_cases e : i = k
              · subst e; rw [HBY.out]; exact c
              · exact HDG.out i (by omega)
            clear hd c
            go_wp2_with (go_at_call 201; refine HD.out.mono ?_; rintro e w' ⟨rfl, rfl⟩)
            exact ⟨⟨k + 1, by omega, by go_num, HD2.out⟩, by simp [intOf]; omega⟩
          · have hd : Txt.isDig (s[k].toNat : Int) = false := by unfold Txt.isDig; simp; omega
            rw [hd] at HD
            have H : Hid (Txt.isNum s = false) := Txt.isNum_no fun h => by have := h.2 k hlt; rw [HBY.out] at this; exact c this
            clear hd c
            go_wp2_with (go_at_call 201; refine HD.out.mono ?_; rintro e w' ⟨rfl, rfl⟩)
            go_ret
            exact ⟨ret_bool H.out.symm, rfl⟩
        · have ek : k = s.size := by omega
          have H : Hid (Txt.isNum s = true) := Txt.isNum_yes (by omega) (by rw [← ek]; exact hdg)
          clear ek hdg
          go_wp2
          go_ret
          exact ⟨ret_bool H.out.symm, rfl⟩

set_option maxRecDepth 100000 in
theorem value_of (s : ByteArray) (w : World) (hs : Txt.isNum s = true) :
    Calls Tryz.prog 165 #[.string s] w fun e w' => e = .returned (.int .i64 (Txt.numTo s s.size)) ∧ w' = w := by
  obtain ⟨h1, hd⟩ := Txt.isNum_is hs
  have h11 : s.size ≤ 11 := by omega
  have HD := hid' hd
  clear h1 hd hs
  go_enter Tryz.func165, Tryz.ntmps165
  go_wp2
  go_loop [3, 4] (fun r i => ∃ k : Nat, k ≤ s.size ∧ i = .int .i64 k ∧ r = .int .i64 (Txt.numTo s k)) (fun _ i => s.size - (intOf i).toNat)
  case atStart => exact ⟨0, by omega, rfl, rfl⟩
  case round =>
    obtain ⟨k, hk, rfl, rfl⟩ := hrel
    by_cases hlt : k < s.size
    · have hbd := Txt.numTo_bd k (s := s) (fun i hi => HD.out i (by omega))
      have hpw := Txt.pow10_le k (by omega)
      have hdk := HD.out k hlt
      rw [Txt.byte_at s k hlt] at hdk
      have HS : Hid (Txt.numTo s (k + 1) = 10 * Txt.numTo s k + ((s[k].toNat : Int) - 48)) := by show _ = _; simp only [Txt.numTo]; rw [Txt.byte_at s k hlt]
      generalize Txt.numTo s k = v at *
      generalize hP : (10 : Int) ^ k = p10 at *
      clear hP
      go_wp2
      exact ⟨⟨k + 1, by omega, by go_num, by rw [HS.out]; congr 1; omega⟩, by simp [intOf]; omega⟩
    · have ek : k = s.size := by omega
      have H : Hid (Txt.numTo s k = Txt.numTo s s.size) := by show _ = _; rw [ek]
      clear ek
      go_wp2
      go_ret
      exact ⟨ret_int H.out, rfl⟩

set_option maxRecDepth 100000 in
set_option maxHeartbeats 1000000 in
theorem is_hex (s : ByteArray) (w : World) (hs : s.size ≤ 1000000000) :
    Calls Tryz.prog 188 #[.string s] w fun e w' => e = .returned (.bool (Txt.isHex s)) ∧ w' = w := by
  by_cases h0 : s.size < 1
  · have H : Hid (Txt.isHex s = false) := Txt.isHex_no fun h => h.1 (.inl (by omega))
    go_enter Tryz.func188, Tryz.ntmps188
    go_wp2
    go_ret
    exact ⟨ret_bool H.out.symm, rfl⟩
  · by_cases h1 : 8 < s.size
    · have H : Hid (Txt.isHex s = false) := Txt.isHex_no fun h => h.1 (.inr h1)
      go_enter Tryz.func188, Tryz.ntmps188
      go_wp2
      go_ret
      exact ⟨ret_bool H.out.symm, rfl⟩
    · go_enter Tryz.func188, Tryz.ntmps188
      go_wp2
      go_loop [3] (fun i => ∃ k : Nat, k ≤ s.size ∧ i = .int .i64 k ∧ Txt.Hexes s k) (fun i => s.size - (intOf i).toNat)
      case atStart => exact ⟨0, by omega, rfl, fun i hi => by omega⟩
      case round =>
        obtain ⟨k, hk, rfl, hdg⟩ := hrel
        by_cases hlt : k < s.size
        · have hby := Txt.byte_at s k hlt
          have HBY := hid' hby
          have HDG := hid' hdg
          have h8 := s[k].toNat_lt
          have HD := hid' (is_digit (s[k].toNat : Int) w)
          clear hdg hby
          by_cases c : Txt.HexB (s[k].toNat : Int)
          · have HD2 : Hid (Txt.Hexes s (k + 1)) := fun i hi => by
              by_cases e : i = k
              · subst e; rw [HBY.out]; exact c
              · exact HDG.out i (by omega)
            rcases c with ⟨c1, c2⟩ | ⟨c1, c2⟩
            · have hd : Txt.isDig (s[k].toNat : Int) = true := by unfold Txt.isDig; simp [c1, c2]
              rw [hd] at HD
              clear hd
              go_wp2_with (go_at_call 201; refine HD.out.mono ?_; rintro e w' ⟨rfl, rfl⟩)
              exact ⟨⟨k + 1, by omega, by go_num, HD2.out⟩, by simp [intOf]; omega⟩
            · have hd : Txt.isDig (s[k].toNat : Int) = false := by unfold Txt.isDig; simp; omega
              rw [hd] at HD
              clear hd
              go_wp2_with (go_at_call 201; refine HD.out.mono ?_; rintro e w' ⟨rfl, rfl⟩)
              exact ⟨⟨k + 1, by omega, by go_num, HD2.out⟩, by simp [intOf]; omega⟩
          · have H : Hid (Txt.isHex s = false) := Txt.isHex_no fun h => c (by have := h.2 k hlt; rw [HBY.out] at this; exact this)
            unfold Txt.HexB at c
            have hd : Txt.isDig (s[k].toNat : Int) = false := by unfold Txt.isDig; simp; omega
            rw [hd] at HD
            clear hd
            by_cases c2 : (s[k].toNat : Int) < 97
            · clear c
              go_wp2_with (go_at_call 201; refine HD.out.mono ?_; rintro e w' ⟨rfl, rfl⟩)
              go_ret
              exact ⟨ret_bool H.out.symm, rfl⟩
            · have c4 : (102 : Int) < (s[k].toNat : Int) := by omega
              clear c
              go_wp2_with (go_at_call 201; refine HD.out.mono ?_; rintro e w' ⟨rfl, rfl⟩)
              go_ret
              exact ⟨ret_bool H.out.symm, rfl⟩
        · have ek : k = s.size := by omega
          have H : Hid (Txt.isHex s = true) := Txt.isHex_yes (by omega) (by rw [← ek]; exact hdg)
          clear ek hdg
          go_wp2
          go_ret
          exact ⟨ret_bool H.out.symm, rfl⟩

set_option maxRecDepth 100000 in
theorem full_hex (s : ByteArray) (w : World) (hs : s.size ≤ 8) :
    Calls Tryz.prog 189 #[.string s] w fun e w' => e = .returned (.string (Txt.noughts.extract s.size 8 ++ s)) ∧ w' = w := by
  go_enter Tryz.func189, Tryz.ntmps189
  go_wp2
  go_loop [3] (fun i => ∃ t : Nat, s.size + t ≤ 8 ∧ i = .string (Txt.noughts.extract s.size (s.size + t) ++ s)) (fun i => match i with | .string b => 8 - b.size | _ => 0)
  case atStart => exact ⟨0, by omega, by rw [Txt.noughts_none ⟨s.size, by omega⟩, ByteArray.empty_append]⟩
  case round =>
    obtain ⟨t, ht, rfl⟩ := hrel
    have hz : (Txt.noughts.extract s.size (s.size + t) ++ s).size = s.size + t := by
      rw [ByteArray.size_append, Txt.noughts_size _ _ ht]; omega
    by_cases hlt : s.size + t < 8
    · have H : Hid ((ByteArray.mk #[48]) ++ (Txt.noughts.extract s.size (s.size + t) ++ s) = Txt.noughts.extract s.size (s.size + (t + 1)) ++ s) := by
        show _ = _
        rw [← ByteArray.append_assoc, Txt.noughts_more ⟨s.size, by omega⟩ ⟨t, by omega⟩ hlt]
        rfl
      generalize Txt.noughts.extract s.size (s.size + t) ++ s = f at *
      go_wp2
      refine ⟨⟨t + 1, by omega, by rw [← H.out]⟩, ?_⟩
      show 8 - ((ByteArray.mk #[48]) ++ f).size < 8 - f.size
      rw [ByteArray.size_append, hz]
      have : (ByteArray.mk #[48]).size = 1 := rfl
      omega
    · have e8 : s.size + t = 8 := by omega
      have H : Hid (Txt.noughts.extract s.size (s.size + t) ++ s = Txt.noughts.extract s.size 8 ++ s) := by show _ = _; rw [e8]
      generalize Txt.noughts.extract s.size (s.size + t) ++ s = f at *
      go_wp2
      go_ret
      exact ⟨ret_str H.out, rfl⟩

end Go.Proofs.YtmmkhodaljpjgaaGreatDoor

/-! Package file: begins, lineEnd, wordsOf. -/
namespace Go.Proofs.YtmmkhodaljpjgaaGreatDoor
open Go.RowKit

namespace Txt
def isGap (c : Int) : Bool := c == 32 || c == 9
/-- Does a text begin so? -/
def beg (s p : ByteArray) : Bool := decide (p.size ≤ s.size ∧ s.extract 0 p.size = p)
/-- Where the line from b on ends. -/
def eolF (t : ByteArray) : Nat → Nat → Nat
  | 0, b => b
  | f + 1, b => if b < t.size ∧ byte t b ≠ 10 then eolF t f (b + 1) else b
def eol (t : ByteArray) (b : Nat) : Nat := eolF t (t.size - b) b
theorem eol_go {t : ByteArray} {b : Nat} (h : b < t.size) (hn : byte t b ≠ 10) : eol t b = eol t (b + 1) := by
  unfold eol
  rw [show t.size - b = (t.size - (b + 1)) + 1 from by omega, eolF, if_pos ⟨h, hn⟩]
theorem eol_stop {t : ByteArray} {b : Nat} (h : ¬ (b < t.size ∧ byte t b ≠ 10)) : eol t b = b := by
  unfold eol
  cases hf : t.size - b with
  | zero => rfl
  | succ f => rw [eolF, if_neg h]
theorem eol_bd (t : ByteArray) (b : Nat) (h : b ≤ t.size) : b ≤ eol t b ∧ eol t b ≤ t.size := by
  unfold eol
  generalize hf : t.size - b = f
  induction f generalizing b with
  | zero => simp only [eolF]; omega
  | succ f ih =>
    simp only [eolF]
    split
    · have := ih (b + 1) (by omega) (by omega); omega
    · omega
theorem scan_word {s : ByteArray} {k : Nat} (h : inWord s k) : scan s (k + 1) = ((scan s k).1, (scan s k).2 ++ s.extract k (k + 1)) := by rw [scan, if_pos h]
theorem scan_gap {s : ByteArray} {k : Nat} (h : ¬ inWord s k) (he : (scan s k).2 = ⟨#[]⟩) : scan s (k + 1) = scan s k := by rw [scan, if_neg h, if_pos he]
theorem scan_end {s : ByteArray} {k : Nat} (h : ¬ inWord s k) (he : ¬ (scan s k).2 = ⟨#[]⟩) : scan s (k + 1) = ((scan s k).1 ++ [(scan s k).2], ⟨#[]⟩) := by rw [scan, if_neg h, if_neg he]
theorem extract_more (s : ByteArray) (b j : Nat) (h : b ≤ j) : s.extract b j ++ s.extract j (j + 1) = s.extract b (j + 1) := by
  rw [ByteArray.extract_append_extract]
  congr 1 <;> omega
theorem extract_none (s : ByteArray) (b : Nat) : s.extract b b = ⟨#[]⟩ := by
  have h : (s.extract b b).size = 0 := by rw [ByteArray.size_extract]; omega
  generalize s.extract b b = x at *
  obtain ⟨d⟩ := x
  have : d = #[] := by apply Array.eq_empty_of_size_eq_zero; exact h
  subst this; rfl
theorem extract_some (s : ByteArray) (b j : Nat) (h : b < j) (hj : j ≤ s.size) : ¬ s.extract b j = ⟨#[]⟩ := fun e => by
  have h1 : (s.extract b j).size = 0 := by rw [e]; rfl
  rw [ByteArray.size_extract] at h1
  omega
end Txt

theorem str_eq (a b : ByteArray) : (a.toList == b.toList) = decide (a = b) := by
  rw [ByteArray.toList_eq, ByteArray.toList_eq]
  by_cases h : a = b
  · subst h; simp
  · have h' : ¬ a.data = b.data := fun e => h (ByteArray.ext e)
    simp [h, h']

theorem is_gap (c : Int) (w : World) : Calls Tryz.prog 187 #[.int .u8 c] w fun e w' => e = .returned (.bool (Txt.isGap c)) ∧ w' = w := by
  by_cases h0 : c = 32
  · subst h0
    go_enter Tryz.func187, Tryz.ntmps187
    go_wp2
    go_ret
    exact ⟨rfl, rfl⟩
  · have h0' : (c == 32) = false := by rw [beq_eq_false_iff_ne]; exact h0
    have H : Hid (Txt.isGap c = (c == 9)) := by show _ = _; unfold Txt.isGap; rw [h0']; rfl
    go_enter Tryz.func187, Tryz.ntmps187
    go_wp2
    all_goals
      go_ret
      exact ⟨ret_bool H.out.symm, rfl⟩

set_option maxRecDepth 100000 in
theorem begins_any (s p : ByteArray) (w : World) :
    Calls Tryz.prog 159 #[.string s, .string p] w fun e w' => e = .returned (.bool (Txt.beg s p)) ∧ w' = w := by
  by_cases h : p.size ≤ s.size
  · have H : Hid (Txt.beg s p = decide (s.extract 0 p.size = p)) := by show _ = _; unfold Txt.beg; simp [h]
    go_enter Tryz.func159, Tryz.ntmps159
    go_wp2
    all_goals
      go_ret
      exact ⟨ret_bool (by rw [H.out, str_eq]), rfl⟩
  · have H : Hid (Txt.beg s p = false) := by show _ = _; unfold Txt.beg; simp [h]
    go_enter Tryz.func159, Tryz.ntmps159
    go_wp2
    go_ret
    exact ⟨ret_bool H.out.symm, rfl⟩

set_option maxRecDepth 100000 in
theorem line_end (t : ByteArray) (b : Nat) (w : World) (hb : b ≤ t.size) (hs : t.size ≤ 1000000000) :
    Calls Tryz.prog 120 #[.string t, .int .i64 b] w fun e w' => e = .returned (.int .i64 (Txt.eol t b)) ∧ w' = w := by
  go_enter Tryz.func120, Tryz.ntmps120
  go_wp2
  go_loop [5] (fun i => ∃ k : Nat, k ≤ t.size ∧ i = .int .i64 k ∧ Txt.eol t b = Txt.eol t k) (fun i => t.size - (intOf i).toNat)
  case atStart => exact ⟨b, by omega, rfl, rfl⟩
  case round =>
    obtain ⟨k, hk, rfl, hrl⟩ := hrel
    have HRL := hid' hrl
    clear hrl
    by_cases hlt : k < t.size
    · by_cases hn : (t[k].toNat : Int) = 10
      · have H : Hid (Txt.eol t b = k) := by show _ = _; rw [HRL.out]; exact Txt.eol_stop fun h => h.2 (by rw [Txt.byte_at t k hlt]; exact hn)
        have hn' : ((t[k].toNat : Int) != 10) = false := by rw [bne_eq_false_iff_eq]; exact hn
        clear hn
        go_wp2
        go_ret
        exact ⟨ret_int (by rw [H.out]), rfl⟩
      · have H : Hid (Txt.eol t b = Txt.eol t (k + 1)) := by show _ = _; rw [HRL.out]; exact Txt.eol_go hlt (by rw [Txt.byte_at t k hlt]; exact hn)
        have hn' : ((t[k].toNat : Int) != 10) = true := bne_iff_ne.2 hn
        clear hn
        go_wp2
        exact ⟨⟨k + 1, by omega, by go_num, H.out⟩, by simp [intOf]; omega⟩
    · have H : Hid (Txt.eol t b = k) := by show _ = _; rw [HRL.out]; exact Txt.eol_stop fun h => hlt h.1
      have hnl : ¬ (k : Int) < (t.size : Int) := by omega
      go_wp2
      go_ret
      exact ⟨ret_int (by rw [H.out]), rfl⟩

theorem infoStr : (Tryz.prog.info? 9).map (fun i => (i.zero, i.size, i.bytes)) = some (some (.string ByteArray.empty), 1, 16) := by kernel_rfl

set_option maxRecDepth 100000 in
set_option maxHeartbeats 1000000 in
theorem words_of (s : ByteArray) (w : World) (hs : s.size ≤ 1000000) :
    Calls Tryz.prog 161 #[.string s] w fun e w' => ∃ v, e = .returned v ∧ w'.ownsRow w.heap.size 9 1 v (Txt.words s).length ((Txt.words s).map Value.string) ∧ Below w.heap.size w w' := by
  obtain ⟨i0, hi0, hz0, hz1, hz2⟩ := info_parts infoStr
  go_enter Tryz.func161, Tryz.ntmps161
  go_wp2
  go_loopw [3, 4, 5] (fun l i _ wr => ∃ b : Nat, b ≤ s.size + 1 ∧ i = .int .i64 b ∧ (Txt.scan s b).2 = ⟨#[]⟩ ∧ wr.ownsRow w.heap.size 9 1 l (Txt.scan s b).1.length ((Txt.scan s b).1.map Value.string) ∧ Below w.heap.size w wr) (fun _ i _ _ => s.size + 1 - (intOf i).toNat)
  case atStart => exact ⟨0, by omega, rfl, rfl, World.ownsRow_nil _ _ _ _, Below.refl _ _⟩
  case round =>
    obtain ⟨b, hb, rfl, hemp, hown, hbw⟩ := hrel
    have hsw := hbw.size
    have OWN := hid' hown
    have HBW := hid' hbw
    have HEMP := hid' hemp
    clear hown hbw hemp
    by_cases hlt : b < s.size
    · go_wp2_with fail
      go_loop [5] (fun i => ∃ j : Nat, b ≤ j ∧ j ≤ s.size ∧ i = .int .i64 j ∧ (Txt.scan s j).1 = (Txt.scan s b).1 ∧ (Txt.scan s j).2 = s.extract b j) (fun i => s.size - (intOf i).toNat)
      case atStart => exact ⟨b, by omega, by omega, rfl, rfl, by rw [HEMP.out, Txt.extract_none]⟩
      case round =>
        obtain ⟨j, hbj, hj, rfl, hs1, hs2⟩ := hrel
        have HS1 := hid' hs1
        have HS2 := hid' hs2
        clear hs1 hs2
        by_cases hjl : j < s.size
        · have HG := hid' (is_gap (s[j].toNat : Int) wr)
          by_cases hg : Txt.isGap (s[j].toNat : Int) = true
          · rw [hg] at HG
            have hnw : ¬ Txt.inWord s j := fun h => by
              have h1 := h.2.1
              have h2 := h.2.2
              rw [Txt.byte_at s j hjl] at h1 h2
              unfold Txt.isGap at hg
              simp at hg
              omega
            have HNW := hid' hnw
            clear hnw hg
            have hbd := Txt.scan_bd s b
            by_cases hwd : b < j
            · have HSC : Hid (Txt.scan s (j + 1) = ((Txt.scan s b).1 ++ [s.extract b j], ⟨#[]⟩)) := by show _ = _; rw [Txt.scan_end HNW.out (by rw [HS2.out]; exact Txt.extract_some s b j hwd hj), HS1.out, HS2.out]
              go_wp2_with (first
                | (go_at_call 187; refine HG.out.mono ?_; rintro e w1 ⟨rfl, rfl⟩)
                | (at_builtin; refine wpList_append_lies _ (by rfl) (.tmp 27) (.tmp 32) 30 (by rfl) w.heap.size 9 i0 (.string ByteArray.empty) 1 16 Tryz.underlying30 hi0 hz0 hz1 hz2 rfl (by decide) u3 (Txt.scan s b).1.length ((Txt.scan s b).1.map Value.string) (by rfl) (OWN.out.alloc _) ⟨w1.heap.size, 0, none⟩ 1 1 [.string (s.extract b j)] (by rfl) (by rfl) (World.news_of_block (cs := #[.string (s.extract b j)]) (heap_alloc_new w1 _)) (by simp [Value.oneCell']) (by decide) (by unfold maxLen; omega) (by omega) (by simp; omega) (w1.heap.size + 1) (by simp) ?_; intro g3 cap3 w3 own3 hg3 _ hlt3; have HB3 := hid' ((HBW.out.alloc hsw _).grown hg3 (by simp; omega) (own_ge OWN.out)); have OWN3 := hid' own3; clear own3 hg3))
              go_roundw
              case rel => exact ⟨j + 1, by omega, by go_num, by rw [HSC.out], by rw [HSC.out]; simpa using OWN3.out, HB3.out⟩
              case measure => simp [intOf]; omega
            · have ebj : j = b := by omega
              have HSC : Hid (Txt.scan s (j + 1) = Txt.scan s b) := by show _ = _; rw [ebj] at HNW ⊢; exact Txt.scan_gap HNW.out HEMP.out
              have hnb : ¬ (b : Int) < (j : Int) := by omega
              clear ebj
              go_wp2_with ((go_at_call 187; refine HG.out.mono ?_; rintro e w1 ⟨rfl, rfl⟩))
              go_roundw
              case rel => exact ⟨j + 1, by omega, by go_num, by rw [HSC.out]; exact HEMP.out, by rw [HSC.out]; exact OWN.out, HBW.out⟩
              case measure => simp [intOf]; omega
          · have hg' : Txt.isGap (s[j].toNat : Int) = false := by simpa using hg
            rw [hg'] at HG
            have hiw : Txt.inWord s j := by
              unfold Txt.isGap at hg'
              simp at hg'
              exact ⟨hjl, by rw [Txt.byte_at s j hjl]; exact hg'.1, by rw [Txt.byte_at s j hjl]; exact hg'.2⟩
            have H1 : Hid ((Txt.scan s (j + 1)).1 = (Txt.scan s b).1) := by show _ = _; rw [Txt.scan_word hiw]; exact HS1.out
            have H2 : Hid ((Txt.scan s (j + 1)).2 = s.extract b (j + 1)) := by show _ = _; rw [Txt.scan_word hiw]; simp only; rw [HS2.out, Txt.extract_more s b j hbj]
            clear hg hg' hiw
            go_wp2_with (go_at_call 187; refine HG.out.mono ?_; rintro e w' ⟨rfl, rfl⟩)
            exact ⟨⟨j + 1, by omega, by omega, by go_num, H1.out, H2.out⟩, by simp [intOf]; omega⟩
        · have ej : j = s.size := by omega
          have hnl : ¬ (j : Int) < (s.size : Int) := by omega
          have HNW : Hid (¬ Txt.inWord s j) := fun h => hjl h.1
          have hbd := Txt.scan_bd s b
          clear ej
          by_cases hwd : b < j
          · have HSC : Hid (Txt.scan s (j + 1) = ((Txt.scan s b).1 ++ [s.extract b j], ⟨#[]⟩)) := by show _ = _; rw [Txt.scan_end HNW.out (by rw [HS2.out]; exact Txt.extract_some s b j hwd hj), HS1.out, HS2.out]
            go_wp2_with (first
              | fail
              | (at_builtin; refine wpList_append_lies _ (by rfl) (.tmp 27) (.tmp 32) 30 (by rfl) w.heap.size 9 i0 (.string ByteArray.empty) 1 16 Tryz.underlying30 hi0 hz0 hz1 hz2 rfl (by decide) u3 (Txt.scan s b).1.length ((Txt.scan s b).1.map Value.string) (by rfl) (OWN.out.alloc _) ⟨wr.heap.size, 0, none⟩ 1 1 [.string (s.extract b j)] (by rfl) (by rfl) (World.news_of_block (cs := #[.string (s.extract b j)]) (heap_alloc_new wr _)) (by simp [Value.oneCell']) (by decide) (by unfold maxLen; omega) (by omega) (by simp; omega) (wr.heap.size + 1) (by simp) ?_; intro g3 cap3 w3 own3 hg3 _ hlt3; have HB3 := hid' ((HBW.out.alloc hsw _).grown hg3 (by simp; omega) (own_ge OWN.out)); have OWN3 := hid' own3; clear own3 hg3))
            go_roundw
            case rel => exact ⟨j + 1, by omega, by go_num, by rw [HSC.out], by rw [HSC.out]; simpa using OWN3.out, HB3.out⟩
            case measure => simp [intOf]; omega
          · have ebj : j = b := by omega
            have HSC : Hid (Txt.scan s (j + 1) = Txt.scan s b) := by show _ = _; rw [ebj] at HNW ⊢; exact Txt.scan_gap HNW.out HEMP.out
            have hnb : ¬ (b : Int) < (j : Int) := by omega
            clear ebj
            go_wp2_with (fail)
            go_roundw
            case rel => exact ⟨j + 1, by omega, by go_num, by rw [HSC.out]; exact HEMP.out, by rw [HSC.out]; exact OWN.out, HBW.out⟩
            case measure => simp [intOf]; omega
    · have HW : Hid ((Txt.scan s b).1 = Txt.words s) := by
        show _ = _
        unfold Txt.words
        by_cases e : b = s.size + 1
        · rw [e]
        · have eb : b = s.size := by omega
          rw [← eb, Txt.scan_gap (fun h => hlt h.1) HEMP.out]
      have hnk : ¬ (b : Int) < (s.size : Int) := by omega
      rw [HW.out] at OWN
      go_wp2
      go_ret
      exact ⟨_, rfl, OWN.out, HBW.out⟩

end Go.Proofs.YtmmkhodaljpjgaaGreatDoor
