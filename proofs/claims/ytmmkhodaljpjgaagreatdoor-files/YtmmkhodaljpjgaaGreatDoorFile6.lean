import Derived.Test.YtmmkhodaljpjgaaGreatDoorFile5
/-! Package file: a line. -/
namespace Go.Proofs.YtmmkhodaljpjgaaGreatDoor
open Go.RowKit

theorem Txt.scan_sz (s : ByteArray) (k : Nat) : ∀ t ∈ (Txt.scan s k).1, t.size ≤ k := by
  induction k with
  | zero => intro t h; simp [Txt.scan] at h
  | succ k ih =>
    intro t h
    by_cases c : Txt.inWord s k
    · rw [Txt.scan_word c] at h; have := ih t h; omega
    · by_cases e : (Txt.scan s k).2 = ⟨#[]⟩
      · rw [Txt.scan_gap c e] at h; have := ih t h; omega
      · rw [Txt.scan_end c e] at h
        rcases List.mem_append.1 h with h | h
        · have := ih t h; omega
        · simp at h; subst h; have := (Txt.scan_bd s k).2; omega
theorem Txt.words_sz (s : ByteArray) (i : Nat) : ((Txt.words s).getD i Txt.em).size ≤ s.size + 1 := by
  rw [List.getD_eq_getElem?_getD]
  by_cases h : i < (Txt.words s).length
  · rw [List.getElem?_eq_getElem h]; exact Txt.scan_sz s (s.size + 1) _ (List.getElem_mem h)
  · rw [List.getElem?_eq_none (by omega)]; exact Nat.zero_le _
theorem ws_of {w w1 : World} {v : Value} {s : ByteArray} (hs : s.size ≤ 90000) (h : w1.ownsRow w.heap.size 9 1 v (Txt.words s).length ((Txt.words s).map Value.string)) : Ws w1 v (Txt.words s) :=
  ⟨⟨_, h⟩, by have := (Txt.scan_bd s (s.size + 1)).1; unfold Txt.words; omega, fun i => by have := Txt.words_sz s i; omega⟩
theorem rd_down {w w1 : World} {bR : Nat} {st : Txt.St} (h : Rd w bR st) (hb : Below w.heap.size w w1) : Rd w1 bR st := by
  obtain ⟨lv, a, b⟩ := h
  exact ⟨lv, (hb.block _ (lt_of_heap a)).trans a, own_down b hb⟩
theorem rd_lt {w : World} {bR : Nat} {st : Txt.St} (h : Rd w bR st) : bR < w.heap.size := by obtain ⟨lv, a, b⟩ := h; exact lt_of_heap a

theorem take_entry (bR : Nat) (st : Txt.St) (v : Value) (ws : List ByteArray) (w : World) (n : Nat) (hR : Rd w bR st) (hO : Txt.Ok st n) (hn : n ≤ 100000) (hW : Ws w v ws) :
    Calls Tryz.prog 164 #[.pointer (some ⟨bR, 0, none⟩), v] w fun e w' => e = .returned (.int .i64 (Txt.takeE st ws).1) ∧ ((Txt.takeE st ws).1 = 0 → Rd w' bR (Txt.takeE st ws).2) ∧ Below bR w w' := by
  by_cases h : ws.length < 2 ∨ Txt.isNum (ws.getD 0 Txt.em) = false ∨ Txt.isNum (ws.getD 1 Txt.em) = false ∨ (2 < ws.length ∧ Txt.beg (ws.getD 2 Txt.em) ⟨#[35]⟩ = false)
  · exact take_entry_text bR st v ws w hR hW h
  · refine take_entry_go bR st v ws w n hR hO hn hW ?_ ?_ ?_ ?_
    · by_cases c : ws.length < 2
      · exact absurd (.inl c) h
      · omega
    · cases c : Txt.isNum (ws.getD 0 Txt.em) with
      | true => rfl
      | false => exact absurd (.inr (.inl c)) h
    · cases c : Txt.isNum (ws.getD 1 Txt.em) with
      | true => rfl
      | false => exact absurd (.inr (.inr (.inl c))) h
    · exact fun c => h (.inr (.inr (.inr c)))

set_option maxRecDepth 100000 in
set_option maxHeartbeats 1000000 in
theorem take_line (bR : Nat) (st : Txt.St) (s : ByteArray) (w : World) (n : Nat) (hR : Rd w bR st) (hO : Txt.Ok st n) (hn : n ≤ 100000) (hs : s.size ≤ 90000) :
    Calls Tryz.prog 121 #[.pointer (some ⟨bR, 0, none⟩), .string s] w fun e w' => e = .returned (.int .i64 (Txt.line st s).1) ∧ ((Txt.line st s).1 = 0 → Rd w' bR (Txt.line st s).2) ∧ Below bR w w' := by
  have hbR := rd_lt hR
  have HO := hid' hO
  have HR := hid' hR
  have hx : (s.extract 2 s.size).size ≤ 90000 := by rw [ByteArray.size_extract]; omega
  have HB1 := hid' (begins_any s ⟨#[35, 36]⟩ w)
  have HB2 := hid' (begins_any s ⟨#[35, 64]⟩ w)
  have HB3 := hid' (begins_any s ⟨#[35, 104]⟩ w)
  have HB4 := hid' (begins_any s ⟨#[35]⟩ w)
  have HWX := hid' (words_of (s.extract 2 s.size) w (by omega))
  have HWS := hid' (words_of s w (by omega))
  have hge : ∀ p : ByteArray, Txt.beg s p = true → p.size ≤ s.size := fun p h => by unfold Txt.beg at h; exact (of_decide_eq_true h).1
  have HGE := hid' hge
  clear hO hR hge
  cases b1 : Txt.beg s ⟨#[35, 36]⟩ with
  | true =>
    have HL : Hid (Txt.line st s = Txt.takeU st (Txt.words (s.extract 2 s.size))) := by show _ = _; unfold Txt.line; rw [if_pos b1]
    have h2 : 2 ≤ s.size := HGE.out _ b1
    rw [b1] at HB1
    clear b1 HB2 HB3 HB4 HWS
    go_enter Tryz.func121, Tryz.ntmps121
    go_wp2_with fail
    refine HB1.out.mono ?_
    rintro e w1 ⟨rfl, rfl⟩
    go_wp2_with fail
    refine HWX.out.mono ?_
    rintro e w2 ⟨v, rfl, hown, hbel⟩
    go_wp2_with fail
    refine (take_update bR st v _ w2 n (rd_down HR.out hbel) HO.out hn (ws_of hx hown)).mono ?_
    rintro e w3 ⟨rfl, hrd, hbel3⟩
    have A := hid' hrd
    have B := hid' ((hbel.mono (by omega)).trans hbel3)
    clear hrd hbel3 hown hbel
    go_wp2
    go_ret
    rw [HL.out]
    exact ⟨rfl, A.out, B.out⟩
  | false =>
    rw [b1] at HB1
    cases b2 : Txt.beg s ⟨#[35, 64]⟩ with
    | true =>
      have HL : Hid (Txt.line st s = Txt.takeX st (Txt.words (s.extract 2 s.size))) := by show _ = _; unfold Txt.line; rw [if_neg (by rw [b1]; decide), if_pos b2]
      have h2 : 2 ≤ s.size := HGE.out _ b2
      rw [b2] at HB2
      clear b1 b2 HB3 HB4 HWS
      go_enter Tryz.func121, Tryz.ntmps121
      go_wp2_with fail
      refine HB1.out.mono ?_
      rintro e w1 ⟨rfl, rfl⟩
      go_wp2_with fail
      refine HB2.out.mono ?_
      rintro e w1 ⟨rfl, rfl⟩
      go_wp2_with fail
      refine HWX.out.mono ?_
      rintro e w2 ⟨v, rfl, hown, hbel⟩
      go_wp2_with fail
      refine (take_expiry bR st v _ w2 n (rd_down HR.out hbel) HO.out hn (ws_of hx hown)).mono ?_
      rintro e w3 ⟨rfl, hrd, hbel3⟩
      have A := hid' hrd
      have B := hid' ((hbel.mono (by omega)).trans hbel3)
      clear hrd hbel3 hown hbel
      go_wp2
      go_ret
      rw [HL.out]
      exact ⟨rfl, A.out, B.out⟩
    | false =>
      rw [b2] at HB2
      cases b3 : Txt.beg s ⟨#[35, 104]⟩ with
      | true =>
        have HL : Hid (Txt.line st s = Txt.takeH st (Txt.words (s.extract 2 s.size))) := by show _ = _; unfold Txt.line; rw [if_neg (by rw [b1]; decide), if_neg (by rw [b2]; decide), if_pos b3]
        have h2 : 2 ≤ s.size := HGE.out _ b3
        rw [b3] at HB3
        clear b1 b2 b3 HB4 HWS
        go_enter Tryz.func121, Tryz.ntmps121
        go_wp2_with fail
        refine HB1.out.mono ?_
        rintro e w1 ⟨rfl, rfl⟩
        go_wp2_with fail
        refine HB2.out.mono ?_
        rintro e w1 ⟨rfl, rfl⟩
        go_wp2_with fail
        refine HB3.out.mono ?_
        rintro e w1 ⟨rfl, rfl⟩
        go_wp2_with fail
        refine HWX.out.mono ?_
        rintro e w2 ⟨v, rfl, hown, hbel⟩
        go_wp2_with fail
        refine (take_hash bR st v _ w2 n (rd_down HR.out hbel) HO.out (ws_of hx hown)).mono ?_
        rintro e w3 ⟨rfl, hrd, hbel3⟩
        have A := hid' hrd
        have B := hid' ((hbel.mono (by omega)).trans hbel3)
        clear hrd hbel3 hown hbel
        go_wp2
        go_ret
        rw [HL.out]
        exact ⟨rfl, A.out, B.out⟩
      | false =>
        rw [b3] at HB3
        cases b4 : Txt.beg s ⟨#[35]⟩ with
        | true =>
          have HL : Hid (Txt.line st s = (0, st)) := by show _ = _; unfold Txt.line; rw [if_neg (by rw [b1]; decide), if_neg (by rw [b2]; decide), if_neg (by rw [b3]; decide), if_pos b4]
          rw [b4] at HB4
          clear b1 b2 b3 b4 HWS HWX
          go_enter Tryz.func121, Tryz.ntmps121
          go_wp2_with fail
          refine HB1.out.mono ?_
          rintro e w1 ⟨rfl, rfl⟩
          go_wp2_with fail
          refine HB2.out.mono ?_
          rintro e w1 ⟨rfl, rfl⟩
          go_wp2_with fail
          refine HB3.out.mono ?_
          rintro e w1 ⟨rfl, rfl⟩
          go_wp2_with fail
          refine HB4.out.mono ?_
          rintro e w1 ⟨rfl, rfl⟩
          go_wp2
          go_ret
          rw [HL.out]
          exact ⟨rfl, fun _ => HR.out, Below.refl _ _⟩
        | false =>
          have HL : Hid (Txt.line st s = Txt.takeE st (Txt.words s)) := by show _ = _; unfold Txt.line; rw [if_neg (by rw [b1]; decide), if_neg (by rw [b2]; decide), if_neg (by rw [b3]; decide), if_neg (by rw [b4]; decide)]
          rw [b4] at HB4
          clear b1 b2 b3 b4 HWX
          go_enter Tryz.func121, Tryz.ntmps121
          go_wp2_with fail
          refine HB1.out.mono ?_
          rintro e w1 ⟨rfl, rfl⟩
          go_wp2_with fail
          refine HB2.out.mono ?_
          rintro e w1 ⟨rfl, rfl⟩
          go_wp2_with fail
          refine HB3.out.mono ?_
          rintro e w1 ⟨rfl, rfl⟩
          go_wp2_with fail
          refine HB4.out.mono ?_
          rintro e w1 ⟨rfl, rfl⟩
          go_wp2_with fail
          refine HWS.out.mono ?_
          rintro e w2 ⟨v, rfl, hown, hbel⟩
          go_wp2_with fail
          refine (take_entry bR st v _ w2 n (rd_down HR.out hbel) HO.out hn (ws_of hs hown)).mono ?_
          rintro e w3 ⟨rfl, hrd, hbel3⟩
          have A := hid' hrd
          have B := hid' ((hbel.mono (by omega)).trans hbel3)
          clear hrd hbel3 hown hbel
          go_wp2
          go_ret
          rw [HL.out]
          exact ⟨rfl, A.out, B.out⟩

end Go.Proofs.YtmmkhodaljpjgaaGreatDoor
