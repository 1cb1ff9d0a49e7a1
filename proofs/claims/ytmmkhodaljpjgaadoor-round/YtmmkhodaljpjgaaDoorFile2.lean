import Derived.Test.YtmmkhodaljpjgaaDoorFile1
/-! Package file: begins, lineEnd, wordsOf. -/
namespace Go.Proofs.YtmmkhodaljpjgaaDoor
open Go.RowKit

namespace Txt
def isGap (c : Int) : Bool := c == 32 || c == 9
/-- Does a text begin so? -/
def beg (s p : ByteArray) : Bool := decide (p.size ≤ s.size ∧ s.extract 0 p.size = p)
/-- Where the line from b on ends. -/
def eolF (t : ByteArray) : Nat → Nat → Nat
  | 0, b => b
  | f + 1, b => if b < t.size ∧ byte t b ≠ 10 then eolF t f (b + 1) else b
def eol (t : ByteArray) (b : Nat) : Nat := eolF t (t.size - b) b
theorem eol_go {t : ByteArray} {b : Nat} (h : b < t.size) (hn : byte t b ≠ 10) : eol t b = eol t (b + 1) := by
  unfold eol
  rw [show t.size - b = (t.size - (b + 1)) + 1 from by omega, eolF, if_pos ⟨h, hn⟩]
theorem eol_stop {t : ByteArray} {b : Nat} (h : ¬ (b < t.size ∧ byte t b ≠ 10)) : eol t b = b := by
  unfold eol
  cases hf : t.size - b with
  | zero => rfl
  | succ f => rw [eolF, if_neg h]
theorem eol_bd (t : ByteArray) (b : Nat) (h : b ≤ t.size) : b ≤ eol t b ∧ eol t b ≤ t.size := by
  unfold eol
  generalize hf : t.size - b = f
  induction f generalizing b with
  | zero => simp only [eolF]; omega
  | succ f ih =>
    simp only [eolF]
    split
    · have := ih (b + 1) (by omega) (by omega); omega
    · omega
theorem scan_word {s : ByteArray} {k : Nat} (h : inWord s k) : scan s (k + 1) = ((scan s k).1, (scan s k).2 ++ s.extract k (k + 1)) := by rw [scan, if_pos h]
theorem scan_gap {s : ByteArray} {k : Nat} (h : ¬ inWord s k) (he : (scan s k).2 = ⟨#[]⟩) : scan s (k + 1) = scan s k := by rw [scan, if_neg h, if_pos he]
theorem scan_end {s : ByteArray} {k : Nat} (h : ¬ inWord s k) (he : ¬ (scan s k).2 = ⟨#[]⟩) : scan s (k + 1) = ((scan s k).1 ++ [(scan s k).2], ⟨#[]⟩) := by rw [scan, if_neg h, if_neg he]
theorem extract_more (s : ByteArray) (b j : Nat) (h : b ≤ j) : s.extract b j ++ s.extract j (j + 1) = s.extract b (j + 1) := by
  rw [ByteArray.extract_append_extract]
  congr 1 <;> omega
theorem extract_none (s : ByteArray) (b : Nat) : s.extract b b = ⟨#[]⟩ := by
  have h : (s.extract b b).size = 0 := by rw [ByteArray.size_extract]; omega
  generalize s.extract b b = x at *
  obtain ⟨d⟩ := x
  have : d = #[] := by apply Array.eq_empty_of_size_eq_zero; exact h
  subst this; rfl
theorem extract_some (s : ByteArray) (b j : Nat) (h : b < j) (hj : j ≤ s.size) : ¬ s.extract b j = ⟨#[]⟩ := fun e => by
  have h1 : (s.extract b j).size = 0 := by rw [e]; rfl
  rw [ByteArray.size_extract] at h1
  omega
end Txt

theorem str_eq (a b : ByteArray) : (a.toList == b.toList) = decide (a = b) := by
  rw [ByteArray.toList_eq, ByteArray.toList_eq]
  by_cases h : a = b
  · subst h; simp
  · have h' : ¬ a.data = b.data := fun e => h (ByteArray.ext e)
    simp [h, h']

theorem is_gap (c : Int) (w : World) : Calls Tryd.prog 45 #[.int .u8 c] w fun e w' => e = .returned (.bool (Txt.isGap c)) ∧ w' = w := by
  by_cases h0 : c = 32
  · subst h0
    go_enter Tryd.func45, Tryd.ntmps45
    go_wp2
    go_ret
    exact ⟨rfl, rfl⟩
  · have h0' : (c == 32) = false := by rw [beq_eq_false_iff_ne]; exact h0
    have H : Hid (Txt.isGap c = (c == 9)) := by show _ = _; unfold Txt.isGap; rw [h0']; rfl
    go_enter Tryd.func45, Tryd.ntmps45
    go_wp2
    all_goals
      go_ret
      exact ⟨ret_bool H.out.symm, rfl⟩

set_option maxRecDepth 100000 in
theorem begins_any (s p : ByteArray) (w : World) :
    Calls Tryd.prog 32 #[.string s, .string p] w fun e w' => e = .returned (.bool (Txt.beg s p)) ∧ w' = w := by
  by_cases h : p.size ≤ s.size
  · have H : Hid (Txt.beg s p = decide (s.extract 0 p.size = p)) := by show _ = _; unfold Txt.beg; simp [h]
    go_enter Tryd.func32, Tryd.ntmps32
    go_wp2
    all_goals
      go_ret
      exact ⟨ret_bool (by rw [H.out, str_eq]), rfl⟩
  · have H : Hid (Txt.beg s p = false) := by show _ = _; unfold Txt.beg; simp [h]
    go_enter Tryd.func32, Tryd.ntmps32
    go_wp2
    go_ret
    exact ⟨ret_bool H.out.symm, rfl⟩

set_option maxRecDepth 100000 in
theorem line_end (t : ByteArray) (b : Nat) (w : World) (hb : b ≤ t.size) (hs : t.size ≤ 1000000000) :
    Calls Tryd.prog 23 #[.string t, .int .i64 b] w fun e w' => e = .returned (.int .i64 (Txt.eol t b)) ∧ w' = w := by
  go_enter Tryd.func23, Tryd.ntmps23
  go_wp2
  go_loop [5] (fun i => ∃ k : Nat, k ≤ t.size ∧ i = .int .i64 k ∧ Txt.eol t b = Txt.eol t k) (fun i => t.size - (intOf i).toNat)
  case atStart => exact ⟨b, by omega, rfl, rfl⟩
  case round =>
    obtain ⟨k, hk, rfl, hrl⟩ := hrel
    have HRL := hid' hrl
    clear hrl
    by_cases hlt : k < t.size
    · by_cases hn : (t[k].toNat : Int) = 10
      · have H : Hid (Txt.eol t b = k) := by show _ = _; rw [HRL.out]; exact Txt.eol_stop fun h => h.2 (by rw [Txt.byte_at t k hlt]; exact hn)
        have hn' : ((t[k].toNat : Int) != 10) = false := by rw [bne_eq_false_iff_eq]; exact hn
        clear hn
        go_wp2
        go_ret
        exact ⟨ret_int (by rw [H.out]), rfl⟩
      · have H : Hid (Txt.eol t b = Txt.eol t (k + 1)) := by show _ = _; rw [HRL.out]; exact Txt.eol_go hlt (by rw [Txt.byte_at t k hlt]; exact hn)
        have hn' : ((t[k].toNat : Int) != 10) = true := bne_iff_ne.2 hn
        clear hn
        go_wp2
        exact ⟨⟨k + 1, by omega, by go_num, H.out⟩, by simp [intOf]; omega⟩
    · have H : Hid (Txt.eol t b = k) := by show _ = _; rw [HRL.out]; exact Txt.eol_stop fun h => hlt h.1
      have hnl : ¬ (k : Int) < (t.size : Int) := by omega
      go_wp2
      go_ret
      exact ⟨ret_int (by rw [H.out]), rfl⟩

theorem infoStr : (Tryd.prog.info? 9).map (fun i => (i.zero, i.size, i.bytes)) = some (some (.string ByteArray.empty), 1, 16) := by kernel_rfl

set_option maxRecDepth 100000 in
set_option maxHeartbeats 1000000 in
theorem words_of (s : ByteArray) (w : World) (hs : s.size ≤ 1000000) :
    Calls Tryd.prog 34 #[.string s] w fun e w' => ∃ v, e = .returned v ∧ w'.ownsRow w.heap.size 9 1 v (Txt.words s).length ((Txt.words s).map Value.string) ∧ Below w.heap.size w w' := by
  obtain ⟨i0, hi0, hz0, hz1, hz2⟩ := info_parts infoStr
  go_enter Tryd.func34, Tryd.ntmps34
  go_wp2
  go_loopw [3, 4, 5] (fun l i _ wr => ∃ b : Nat, b ≤ s.size + 1 ∧ i = .int .i64 b ∧ (Txt.scan s b).2 = ⟨#[]⟩ ∧ wr.ownsRow w.heap.size 9 1 l (Txt.scan s b).1.length ((Txt.scan s b).1.map Value.string) ∧ Below w.heap.size w wr) (fun _ i _ _ => s.size + 1 - (intOf i).toNat)
  case atStart => exact ⟨0, by omega, rfl, rfl, World.ownsRow_nil _ _ _ _, Below.refl _ _⟩
  case round =>
    obtain ⟨b, hb, rfl, hemp, hown, hbw⟩ := hrel
    have hsw := hbw.size
    have OWN := hid' hown
    have HBW := hid' hbw
    have HEMP := hid' hemp
    clear hown hbw hemp
    by_cases hlt : b < s.size
    · go_wp2_with fail
      go_loop [5] (fun i => ∃ j : Nat, b ≤ j ∧ j ≤ s.size ∧ i = .int .i64 j ∧ (Txt.scan s j).1 = (Txt.scan s b).1 ∧ (Txt.scan s j).2 = s.extract b j) (fun i => s.size - (intOf i).toNat)
      case atStart => exact ⟨b, by omega, by omega, rfl, rfl, by rw [HEMP.out, Txt.extract_none]⟩
      case round =>
        obtain ⟨j, hbj, hj, rfl, hs1, hs2⟩ := hrel
        have HS1 := hid' hs1
        have HS2 := hid' hs2
        clear hs1 hs2
        by_cases hjl : j < s.size
        · have HG := hid' (is_gap (s[j].toNat : Int) wr)
          by_cases hg : Txt.isGap (s[j].toNat : Int) = true
          · rw [hg] at HG
            have hnw : ¬ Txt.inWord s j := fun h => by
              have h1 := h.2.1
              have h2 := h.2.2
              rw [Txt.byte_at s j hjl] at h1 h2
              unfold Txt.isGap at hg
              simp at hg
              omega
            have HNW := hid' hnw
            clear hnw hg
            have hbd := Txt.scan_bd s b
            by_cases hwd : b < j
            · have HSC : Hid (Txt.scan s (j + 1) = ((Txt.scan s b).1 ++ [s.extract b j], ⟨#[]⟩)) := by show _ = _; rw [Txt.scan_end HNW.out (by rw [HS2.out]; exact Txt.extract_some s b j hwd hj), HS1.out, HS2.out]
              go_wp2_with (first
                | (go_at_call 45; refine HG.out.mono ?_; rintro e w1 ⟨rfl, rfl⟩)
                | (at_builtin; refine wpList_append_lies _ (by rfl) (.tmp 27) (.tmp 32) 64 (by rfl) w.heap.size 9 i0 (.string ByteArray.empty) 1 16 Tryd.underlying64 hi0 hz0 hz1 hz2 rfl (by decide) u3 (Txt.scan s b).1.length ((Txt.scan s b).1.map Value.string) (by rfl) (OWN.out.alloc _) ⟨w1.heap.size, 0, none⟩ 1 1 [.string (s.extract b j)] (by rfl) (by rfl) (World.news_of_block (cs := #[.string (s.extract b j)]) (heap_alloc_new w1 _)) (by simp [Value.oneCell']) (by decide) (by unfold maxLen; omega) (by omega) (by simp; omega) (w1.heap.size + 1) (by simp) ?_; intro g3 cap3 w3 own3 hg3 _ hlt3; have HB3 := hid' ((HBW.out.alloc hsw _).grown hg3 (by simp; omega) (own_ge OWN.out)); have OWN3 := hid' own3; clear own3 hg3))
              go_roundw
              case rel => exact ⟨j + 1, by omega, by go_num, by rw [HSC.out], by rw [HSC.out]; simpa using OWN3.out, HB3.out⟩
              case measure => simp [intOf]; omega
            · have ebj : j = b := by omega
              have HSC : Hid (Txt.scan s (j + 1) = Txt.scan s b) := by show _ = _; rw [ebj] at HNW ⊢; exact Txt.scan_gap HNW.out HEMP.out
              have hnb : ¬ (b : Int) < (j : Int) := by omega
              clear ebj
              go_wp2_with ((go_at_call 45; refine HG.out.mono ?_; rintro e w1 ⟨rfl, rfl⟩))
              go_roundw
              case rel => exact ⟨j + 1, by omega, by go_num, by rw [HSC.out]; exact HEMP.out, by rw [HSC.out]; exact OWN.out, HBW.out⟩
              case measure => simp [intOf]; omega
          · have hg' : Txt.isGap (s[j].toNat : Int) = false := by simpa using hg
            rw [hg'] at HG
            have hiw : Txt.inWord s j := by
              unfold Txt.isGap at hg'
              simp at hg'
              exact ⟨hjl, by rw [Txt.byte_at s j hjl]; exact hg'.1, by rw [Txt.byte_at s j hjl]; exact hg'.2⟩
            have H1 : Hid ((Txt.scan s (j + 1)).1 = (Txt.scan s b).1) := by show _ = _; rw [Txt.scan_word hiw]; exact HS1.out
            have H2 : Hid ((Txt.scan s (j + 1)).2 = s.extract b (j + 1)) := by show _ = _; rw [Txt.scan_word hiw]; simp only; rw [HS2.out, Txt.extract_more s b j hbj]
            clear hg hg' hiw
            go_wp2_with (go_at_call 45; refine HG.out.mono ?_; rintro e w' ⟨rfl, rfl⟩)
            exact ⟨⟨j + 1, by omega, by omega, by go_num, H1.out, H2.out⟩, by simp [intOf]; omega⟩
        · have ej : j = s.size := by omega
          have hnl : ¬ (j : Int) < (s.size : Int) := by omega
          have HNW : Hid (¬ Txt.inWord s j) := fun h => hjl h.1
          have hbd := Txt.scan_bd s b
          clear ej
          by_cases hwd : b < j
          · have HSC : Hid (Txt.scan s (j + 1) = ((Txt.scan s b).1 ++ [s.extract b j], ⟨#[]⟩)) := by show _ = _; rw [Txt.scan_end HNW.out (by rw [HS2.out]; exact Txt.extract_some s b j hwd hj), HS1.out, HS2.out]
            go_wp2_with (first
              | fail
              | (at_builtin; refine wpList_append_lies _ (by rfl) (.tmp 27) (.tmp 32) 64 (by rfl) w.heap.size 9 i0 (.string ByteArray.empty) 1 16 Tryd.underlying64 hi0 hz0 hz1 hz2 rfl (by decide) u3 (Txt.scan s b).1.length ((Txt.scan s b).1.map Value.string) (by rfl) (OWN.out.alloc _) ⟨wr.heap.size, 0, none⟩ 1 1 [.string (s.extract b j)] (by rfl) (by rfl) (World.news_of_block (cs := #[.string (s.extract b j)]) (heap_alloc_new wr _)) (by simp [Value.oneCell']) (by decide) (by unfold maxLen; omega) (by omega) (by simp; omega) (wr.heap.size + 1) (by simp) ?_; intro g3 cap3 w3 own3 hg3 _ hlt3; have HB3 := hid' ((HBW.out.alloc hsw _).grown hg3 (by simp; omega) (own_ge OWN.out)); have OWN3 := hid' own3; clear own3 hg3))
            go_roundw
            case rel => exact ⟨j + 1, by omega, by go_num, by rw [HSC.out], by rw [HSC.out]; simpa using OWN3.out, HB3.out⟩
            case measure => simp [intOf]; omega
          · have ebj : j = b := by omega
            have HSC : Hid (Txt.scan s (j + 1) = Txt.scan s b) := by show _ = _; rw [ebj] at HNW ⊢; exact Txt.scan_gap HNW.out HEMP.out
            have hnb : ¬ (b : Int) < (j : Int) := by omega
            clear ebj
            go_wp2_with (fail)
            go_roundw
            case rel => exact ⟨j + 1, by omega, by go_num, by rw [HSC.out]; exact HEMP.out, by rw [HSC.out]; exact OWN.out, HBW.out⟩
            case measure => simp [intOf]; omega
    · have HW : Hid ((Txt.scan s b).1 = Txt.words s) := by
        show _ = _
        unfold Txt.words
        by_cases e : b = s.size + 1
        · rw [e]
        · have eb : b = s.size := by omega
          rw [← eb, Txt.scan_gap (fun h => hlt h.1) HEMP.out]
      have hnk : ¬ (b : Int) < (s.size : Int) := by omega
      rw [HW.out] at OWN
      go_wp2
      go_ret
      exact ⟨_, rfl, OWN.out, HBW.out⟩

end Go.Proofs.YtmmkhodaljpjgaaDoor
