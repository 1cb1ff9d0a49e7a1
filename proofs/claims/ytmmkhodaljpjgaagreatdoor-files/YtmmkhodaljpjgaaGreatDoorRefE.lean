import Derived.Test.YtmmkhodaljpjgaaGreatDoorRef4
/-! The document's file: a line. -/
namespace Go.Proofs.YtmmkhodaljpjgaaGreatDoor
open Go.RowKit

theorem rf_down {w w1 : World} {bF : Nat} {st : Txt.St} (h : Rf w bF st) (hb : Below w.heap.size w w1) : Rf w1 bF st := by
  obtain ⟨lv, wv, full, a, b, c, d⟩ := h
  exact ⟨lv, wv, full, (hb.block _ (lt_of_heap a)).trans a, own_down b hb, own_down c hb, d⟩
theorem rf_lt {w : World} {bF : Nat} {st : Txt.St} (h : Rf w bF st) : bF < w.heap.size := by obtain ⟨lv, wv, full, a, b, c, d⟩ := h; exact lt_of_heap a

theorem ref_entry (bF : Nat) (st : Txt.St) (v : Value) (ws : List ByteArray) (w : World) (n : Nat) (hR : Rf w bF st) (hO : Txt.Ok st n) (hn : n ≤ 100000) (hW : Ws w v ws) (h0 : ¬ ws.length = 0) (hpos : ∀ i, i < ws.length → 0 < (ws.getD i Txt.em).size) :
    Calls Tryz.prog 125 #[.pointer (some ⟨bF, 0, none⟩), v] w fun e w' => e = .returned (.int .i64 (Txt.takeE st ws).1) ∧ ((Txt.takeE st ws).1 = 0 → Rf w' bF (Txt.takeE st ws).2) ∧ Below bF w w' := by
  by_cases h : ws.length < 2 ∨ Txt.isNum (ws.getD 0 Txt.em) = false ∨ Txt.isNum (ws.getD 1 Txt.em) = false ∨ (2 < ws.length ∧ Txt.beg (ws.getD 2 Txt.em) ⟨#[35]⟩ = false)
  · exact ref_entry_text bF st v ws w hW h0 hpos h
  · refine ref_entry_go bF st v ws w n hR hO hn hW hpos ?_ ?_ ?_ ?_
    · by_cases c : ws.length < 2
      · exact absurd (.inl c) h
      · omega
    · cases c : Txt.isNum (ws.getD 0 Txt.em) with
      | true => rfl
      | false => exact absurd (.inr (.inl c)) h
    · cases c : Txt.isNum (ws.getD 1 Txt.em) with
      | true => rfl
      | false => exact absurd (.inr (.inr (.inl c))) h
    · exact fun c => h (.inr (.inr (.inr c)))

theorem words_some {s : ByteArray} (h : ¬ (Txt.words s).length = 0) : 0 < s.size := by
  by_cases c : s.size = 0
  · exfalso; apply h
    unfold Txt.words
    rw [c, Txt.scan_gap (fun h => by have := h.1; omega) rfl]
    rfl
  · omega

/-- Which kind of line the document's text takes it for. -/
def isSpec (s : ByteArray) : Bool := Txt.beg s ⟨#[35, 36]⟩ || (Txt.beg s ⟨#[35, 64]⟩ || Txt.beg s ⟨#[35, 104]⟩)

set_option maxRecDepth 100000 in
set_option maxHeartbeats 3200000 in
theorem ref_line_plain (bF : Nat) (st : Txt.St) (s : ByteArray) (w : World) (n : Nat) (hR : Rf w bF st) (hO : Txt.Ok st n) (hn : n ≤ 100000) (hs : s.size ≤ 90000) (hsp : isSpec s = false) :
    Calls Tryz.prog 78 #[.pointer (some ⟨bF, 0, none⟩), .string s] w fun e w' => e = .returned (.int .i64 (Txt.line st s).1) ∧ ((Txt.line st s).1 = 0 → Rf w' bF (Txt.line st s).2) ∧ Below bF w w' := by
  have hbF := rf_lt hR
  have HO := hid' hO
  have HR := hid' hR
  have HWS := hid' (ref_words s w (by omega))
  have hb : Txt.beg s ⟨#[35, 36]⟩ = false ∧ Txt.beg s ⟨#[35, 64]⟩ = false ∧ Txt.beg s ⟨#[35, 104]⟩ = false := by
    unfold isSpec at hsp; simp only [Bool.or_eq_false_iff] at hsp; exact ⟨hsp.1, hsp.2.1, hsp.2.2⟩
  obtain ⟨b1, b2, b3⟩ := hb
  have HL : Hid (Txt.line st s = if Txt.beg s ⟨#[35]⟩ = true then (0, st) else Txt.takeE st (Txt.words s)) := by
    show _ = _; unfold Txt.line; rw [if_neg (by rw [b1]; decide), if_neg (by rw [b2]; decide), if_neg (by rw [b3]; decide)]
  have hthree : ∀ (h2 : 2 ≤ s.size), ((s[0]'(by omega)).toNat : Int) = 35 → ¬ ((s[1]'(by omega)).toNat : Int) = 36 ∧ ¬ ((s[1]'(by omega)).toNat : Int) = 64 ∧ ¬ ((s[1]'(by omega)).toNat : Int) = 104 := fun h2 h35 => by
    have e0 := Txt.byte_at s 0 (by omega)
    have e1 := Txt.byte_at s 1 (by omega)
    refine ⟨fun q => ?_, fun q => ?_, fun q => ?_⟩
    · have := (Txt.beg_two s 35 36).2 ⟨h2, by rw [e0]; exact h35, by rw [e1]; exact q⟩; rw [b1] at this; cases this
    · have := (Txt.beg_two s 35 64).2 ⟨h2, by rw [e0]; exact h35, by rw [e1]; exact q⟩; rw [b2] at this; cases this
    · have := (Txt.beg_two s 35 104).2 ⟨h2, by rw [e0]; exact h35, by rw [e1]; exact q⟩; rw [b3] at this; cases this
  have HTH := hid' hthree
  have HB1 : Hid (Txt.beg s ⟨#[35]⟩ = true ↔ 1 ≤ s.size ∧ Txt.byte s 0 = 35) := Txt.beg_one s
  clear hO hR hsp b1 b2 b3 hthree
  go_enter Tryz.func78, Tryz.ntmps78
  go_upto_region 1 with fail
  go_cut [29] from 7 (fun s29 wc => s29 = .bool false ∧ wc = w)
  case first =>
    by_cases h2 : 2 ≤ s.size
    · by_cases h35 : ((s[0]'(by omega)).toNat : Int) = 35
      · obtain ⟨t1, t2, t3⟩ := HTH.out h2 h35
        have q0 : (((s[0]'(by omega)).toNat : Int) == 35) = true := by rw [beq_iff_eq]; exact h35
        have q1 : (((s[1]'(by omega)).toNat : Int) == 36) = false := by rw [beq_eq_false_iff_ne]; exact t1
        have q2 : (((s[1]'(by omega)).toNat : Int) == 64) = false := by rw [beq_eq_false_iff_ne]; exact t2
        have q3 : (((s[1]'(by omega)).toNat : Int) == 104) = false := by rw [beq_eq_false_iff_ne]; exact t3
        clear t1 t2 t3 h35 HTH
        go_wp2_with fail
        go_meet
        case rel => exact ⟨rfl, rfl⟩
      · have q0 : (((s[0]'(by omega)).toNat : Int) == 35) = false := by rw [beq_eq_false_iff_ne]; exact h35
        clear h35 HTH
        go_wp2_with fail
        go_meet
        case rel => exact ⟨rfl, rfl⟩
    · have hd : decide ((2 : Int) ≤ (s.size : Int)) = false := by simp; omega
      go_wp2_with fail
      go_meet
      case rel => exact ⟨by simp; try omega, rfl⟩
  case rest =>
    obtain ⟨rfl, rfl⟩ := hcut
    rename World => W0
    clear HTH
    go_wp2_with fail
    refine HWS.out.mono ?_
    rintro e w2 ⟨v, rfl, hown, hbel⟩
    have hWs := ws_of hs hown
    obtain ⟨ao, cap, rfl⟩ := hWs.form
    have hlw := hWs.len
    have HW2 := hid' hWs
    have R2 := hid' (rf_down HR.out hbel)
    have B2 := hid' (show Below bF W0 w2 from hbel.mono (by omega))
    clear hWs hown hbel HWS
    by_cases h0 : (Txt.words s).length = 0
    · have hE : (Txt.takeE st (Txt.words s)) = (0, st) := by
        unfold Txt.takeE Txt.entryErr; rw [if_pos h0, if_pos h0]
      have HE : Hid (Txt.line st s = (0, st)) := by show _ = _; rw [HL.out, hE]; split <;> rfl
      rw [h0]
      clear hE h0 HW2
      go_wp2
      go_ret
      rw [HE.out]
      exact ⟨rfl, fun _ => R2.out, B2.out⟩
    · have hsz := words_some h0
      have hl0 : (((Txt.words s).length : Int) == 0) = false := by rw [beq_eq_false_iff_ne]; omega
      by_cases h35 : ((s[0]'hsz).toNat : Int) = 35
      · have hbg : Txt.beg s ⟨#[35]⟩ = true := HB1.out.2 ⟨by omega, by rw [Txt.byte_at s 0 hsz]; exact h35⟩
        have HE : Hid (Txt.line st s = (0, st)) := by show _ = _; rw [HL.out, if_pos hbg]
        have q0 : (((s[0]'hsz).toNat : Int) == 35) = true := by rw [beq_iff_eq]; exact h35
        clear h0 HW2 hbg h35
        generalize (Txt.words s).length = lw at *
        go_wp2
        go_ret
        rw [HE.out]
        exact ⟨rfl, fun _ => R2.out, B2.out⟩
      · have hbg : ¬ Txt.beg s ⟨#[35]⟩ = true := fun h => by
          have := (HB1.out.1 h).2; rw [Txt.byte_at s 0 hsz] at this; exact h35 this
        have HE : Hid (Txt.line st s = Txt.takeE st (Txt.words s)) := by show _ = _; rw [HL.out, if_neg hbg]
        have q0 : (((s[0]'hsz).toNat : Int) == 35) = false := by rw [beq_eq_false_iff_ne]; exact h35
        have HEN := hid' (ref_entry bF st _ (Txt.words s) w2 n R2.out HO.out hn HW2.out h0 (Txt.words_pos s))
        clear h0 HW2 hbg h35
        generalize hlw' : (Txt.words s).length = lw at *
        clear hlw'
        go_wp2_with fail
        refine HEN.out.mono ?_
        rintro e w3 ⟨rfl, hrd, hbel3⟩
        have A := hid' hrd
        have B := hid' (B2.out.trans hbel3)
        clear hrd hbel3
        go_wp2
        go_ret
        rw [HE.out]
        exact ⟨rfl, A.out, B.out⟩

end Go.Proofs.YtmmkhodaljpjgaaGreatDoor

namespace Go.Proofs.YtmmkhodaljpjgaaGreatDoor
open Go.RowKit

set_option maxRecDepth 100000 in
set_option maxHeartbeats 3200000 in
theorem ref_line_u (bF : Nat) (st : Txt.St) (s : ByteArray) (w : World) (n : Nat) (hR : Rf w bF st) (hO : Txt.Ok st n) (hn : n ≤ 100000) (hs : s.size ≤ 90000) (hb : Txt.beg s ⟨#[35, 36]⟩ = true) (hL : Txt.line st s = Txt.takeU st (Txt.words (s.extract 2 s.size))) :
    Calls Tryz.prog 78 #[.pointer (some ⟨bF, 0, none⟩), .string s] w fun e w' => e = .returned (.int .i64 (Txt.line st s).1) ∧ ((Txt.line st s).1 = 0 → Rf w' bF (Txt.line st s).2) ∧ Below bF w w' := by
  have hbF := rf_lt hR
  have HO := hid' hO
  have HR := hid' hR
  have HL := hid' hL
  obtain ⟨h2, e0, e1⟩ := (Txt.beg_two s 35 36).1 hb
  have g0 := Txt.byte_at s 0 (by omega)
  have g1 := Txt.byte_at s 1 (by omega)
  have k0 : ((s[0]'(by omega)).toNat : Int) = 35 := by rw [← g0, e0]; rfl
  have k1 : ((s[1]'(by omega)).toNat : Int) = 36 := by rw [← g1, e1]; rfl
  have q0 : (((s[0]'(by omega)).toNat : Int) == 35) = true := by rw [beq_iff_eq]; exact k0
  have q1 : (((s[1]'(by omega)).toNat : Int) == 36) = true := by rw [beq_iff_eq]; exact k1
  have hx : (s.extract 2 s.size).size ≤ 90000 := by rw [ByteArray.size_extract]; omega
  have HWX := hid' (ref_words (s.extract 2 s.size) w (by omega))
  have hK : Value.int .u8 36 = Value.int .u8 ((s[1]'(by omega)).toNat : Int) := by rw [k1]
  have HK := hid' hK
  clear hO hR hL hb e0 e1 g0 g1 k0 k1 hK
  go_enter Tryz.func78, Tryz.ntmps78
  go_wp2_with fail
  refine HWX.out.mono ?_
  rintro e w2 ⟨v, rfl, hown, hbel⟩
  have hWs := ws_of hx hown
  have R2 := rf_down HR.out hbel
  have hsp := ref_special_u bF st v _ w2 n R2 HO.out hn hWs
  rw [HK.out] at hsp
  have HSP := hid' hsp
  have B2 := hid' (show Below bF w w2 from hbel.mono (by omega))
  clear hWs hown hbel HWX R2 hsp
  go_wp2_with fail
  refine HSP.out.mono ?_
  rintro e w3 ⟨rfl, hrd, hbel3⟩
  have A := hid' hrd
  have B := hid' (B2.out.trans hbel3)
  clear hrd hbel3
  go_wp2
  go_ret
  rw [HL.out]
  exact ⟨rfl, A.out, B.out⟩

set_option maxRecDepth 100000 in
set_option maxHeartbeats 3200000 in
theorem ref_line_x (bF : Nat) (st : Txt.St) (s : ByteArray) (w : World) (n : Nat) (hR : Rf w bF st) (hO : Txt.Ok st n) (hn : n ≤ 100000) (hs : s.size ≤ 90000) (hb : Txt.beg s ⟨#[35, 64]⟩ = true) (hL : Txt.line st s = Txt.takeX st (Txt.words (s.extract 2 s.size))) :
    Calls Tryz.prog 78 #[.pointer (some ⟨bF, 0, none⟩), .string s] w fun e w' => e = .returned (.int .i64 (Txt.line st s).1) ∧ ((Txt.line st s).1 = 0 → Rf w' bF (Txt.line st s).2) ∧ Below bF w w' := by
  have hbF := rf_lt hR
  have HO := hid' hO
  have HR := hid' hR
  have HL := hid' hL
  obtain ⟨h2, e0, e1⟩ := (Txt.beg_two s 35 64).1 hb
  have g0 := Txt.byte_at s 0 (by omega)
  have g1 := Txt.byte_at s 1 (by omega)
  have k0 : ((s[0]'(by omega)).toNat : Int) = 35 := by rw [← g0, e0]; rfl
  have k1 : ((s[1]'(by omega)).toNat : Int) = 64 := by rw [← g1, e1]; rfl
  have q0 : (((s[0]'(by omega)).toNat : Int) == 35) = true := by rw [beq_iff_eq]; exact k0
  have q1 : (((s[1]'(by omega)).toNat : Int) == 36) = false := by rw [beq_eq_false_iff_ne]; omega
  have q2 : (((s[1]'(by omega)).toNat : Int) == 64) = true := by rw [beq_iff_eq]; exact k1
  have hx : (s.extract 2 s.size).size ≤ 90000 := by rw [ByteArray.size_extract]; omega
  have HWX := hid' (ref_words (s.extract 2 s.size) w (by omega))
  have hK : Value.int .u8 64 = Value.int .u8 ((s[1]'(by omega)).toNat : Int) := by rw [k1]
  have HK := hid' hK
  clear hO hR hL hb e0 e1 g0 g1 k0 k1 hK
  go_enter Tryz.func78, Tryz.ntmps78
  go_wp2_with fail
  refine HWX.out.mono ?_
  rintro e w2 ⟨v, rfl, hown, hbel⟩
  have hWs := ws_of hx hown
  have R2 := rf_down HR.out hbel
  have hsp := ref_special_x bF st v _ w2 n R2 HO.out hn hWs
  rw [HK.out] at hsp
  have HSP := hid' hsp
  have B2 := hid' (show Below bF w w2 from hbel.mono (by omega))
  clear hWs hown hbel HWX R2 hsp
  go_wp2_with fail
  refine HSP.out.mono ?_
  rintro e w3 ⟨rfl, hrd, hbel3⟩
  have A := hid' hrd
  have B := hid' (B2.out.trans hbel3)
  clear hrd hbel3
  go_wp2
  go_ret
  rw [HL.out]
  exact ⟨rfl, A.out, B.out⟩

set_option maxRecDepth 100000 in
set_option maxHeartbeats 3200000 in
theorem ref_line_h (bF : Nat) (st : Txt.St) (s : ByteArray) (w : World) (hR : Rf w bF st) (hs : s.size ≤ 90000) (hb : Txt.beg s ⟨#[35, 104]⟩ = true) (hL : Txt.line st s = Txt.takeH st (Txt.words (s.extract 2 s.size))) :
    Calls Tryz.prog 78 #[.pointer (some ⟨bF, 0, none⟩), .string s] w fun e w' => e = .returned (.int .i64 (Txt.line st s).1) ∧ ((Txt.line st s).1 = 0 → Rf w' bF (Txt.line st s).2) ∧ Below bF w w' := by
  have hbF := rf_lt hR
  have HR := hid' hR
  have HL := hid' hL
  obtain ⟨h2, e0, e1⟩ := (Txt.beg_two s 35 104).1 hb
  have g0 := Txt.byte_at s 0 (by omega)
  have g1 := Txt.byte_at s 1 (by omega)
  have k0 : ((s[0]'(by omega)).toNat : Int) = 35 := by rw [← g0, e0]; rfl
  have k1 : ((s[1]'(by omega)).toNat : Int) = 104 := by rw [← g1, e1]; rfl
  have q0 : (((s[0]'(by omega)).toNat : Int) == 35) = true := by rw [beq_iff_eq]; exact k0
  have q1 : (((s[1]'(by omega)).toNat : Int) == 36) = false := by rw [beq_eq_false_iff_ne]; omega
  have q2 : (((s[1]'(by omega)).toNat : Int) == 64) = false := by rw [beq_eq_false_iff_ne]; omega
  have q3 : (((s[1]'(by omega)).toNat : Int) == 104) = true := by rw [beq_iff_eq]; exact k1
  have hx : (s.extract 2 s.size).size ≤ 90000 := by rw [ByteArray.size_extract]; omega
  have HWX := hid' (ref_words (s.extract 2 s.size) w (by omega))
  have hK : Value.int .u8 104 = Value.int .u8 ((s[1]'(by omega)).toNat : Int) := by rw [k1]
  have HK := hid' hK
  clear hR hL hb e0 e1 g0 g1 k0 k1 hK
  go_enter Tryz.func78, Tryz.ntmps78
  go_wp2_with fail
  refine HWX.out.mono ?_
  rintro e w2 ⟨v, rfl, hown, hbel⟩
  have hWs := ws_of hx hown
  have R2 := rf_down HR.out hbel
  have hsp := ref_special_h bF st v _ w2 R2 hWs
  rw [HK.out] at hsp
  have HSP := hid' hsp
  have B2 := hid' (show Below bF w w2 from hbel.mono (by omega))
  clear hWs hown hbel HWX R2 hsp
  go_wp2_with fail
  refine HSP.out.mono ?_
  rintro e w3 ⟨rfl, hrd, hbel3⟩
  have A := hid' hrd
  have B := hid' (B2.out.trans hbel3)
  clear hrd hbel3
  go_wp2
  go_ret
  rw [HL.out]
  exact ⟨rfl, A.out, B.out⟩

theorem ref_line (bF : Nat) (st : Txt.St) (s : ByteArray) (w : World) (n : Nat) (hR : Rf w bF st) (hO : Txt.Ok st n) (hn : n ≤ 100000) (hs : s.size ≤ 90000) :
    Calls Tryz.prog 78 #[.pointer (some ⟨bF, 0, none⟩), .string s] w fun e w' => e = .returned (.int .i64 (Txt.line st s).1) ∧ ((Txt.line st s).1 = 0 → Rf w' bF (Txt.line st s).2) ∧ Below bF w w' := by
  cases b1 : Txt.beg s ⟨#[35, 36]⟩ with
  | true => exact ref_line_u bF st s w n hR hO hn hs b1 (by unfold Txt.line; rw [if_pos b1])
  | false =>
    cases b2 : Txt.beg s ⟨#[35, 64]⟩ with
    | true => exact ref_line_x bF st s w n hR hO hn hs b2 (by unfold Txt.line; rw [if_neg (by rw [b1]; decide), if_pos b2])
    | false =>
      cases b3 : Txt.beg s ⟨#[35, 104]⟩ with
      | true => exact ref_line_h bF st s w hR hs b3 (by unfold Txt.line; rw [if_neg (by rw [b1]; decide), if_neg (by rw [b2]; decide), if_pos b3])
      | false => exact ref_line_plain bF st s w n hR hO hn hs (by unfold isSpec; rw [b1, b2, b3]; rfl)

end Go.Proofs.YtmmkhodaljpjgaaGreatDoor
