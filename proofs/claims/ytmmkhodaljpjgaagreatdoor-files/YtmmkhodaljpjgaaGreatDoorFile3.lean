import Derived.Test.YtmmkhodaljpjgaaGreatDoorTxtSP
/-! Package file: a line of one number, a line of the digest. -/
namespace Go.Proofs.YtmmkhodaljpjgaaGreatDoor
open Go.RowKit

/-- Words, as they lie in memory. -/
structure Ws (w : World) (v : Value) (ws : List ByteArray) : Prop where
  own : ∃ B, w.ownsRow B 9 1 v ws.length (ws.map Value.string)
  len : ws.length ≤ 100000
  sz : ∀ i, (ws.getD i Txt.em).size ≤ 100000
theorem Ws.form {w : World} {v : Value} {ws : List ByteArray} (h : Ws w v ws) : ∃ ao cap, v = .slice ao ws.length cap := by
  obtain ⟨B, h⟩ := h.own
  rcases h.2 with ⟨rfl, e⟩ | ⟨g, cap, cur, rfl, _⟩
  · exact ⟨_, _, by rw [e]⟩
  · exact ⟨_, _, rfl⟩
theorem Ws.at' {w : World} {v : Value} {ws : List ByteArray} (h : Ws w v ws) (h0 : 0 < ws.length) :
    ∃ g cap, v = .slice (some ⟨g, 0, none⟩) ws.length cap ∧ g < w.heap.size ∧ ∀ i, i < ws.length → w.cell? ⟨g, i, none⟩ = some (.string (ws.getD i Txt.em)) := by
  obtain ⟨B, h⟩ := h.own
  obtain ⟨g, cap, rfl⟩ := own_some h h0
  refine ⟨g, cap, rfl, (h.lt _ rfl).2, fun i hi => ?_⟩
  rw [h.cellAt i (by omega), List.getElem?_map, List.getElem?_eq_getElem hi, List.getD_eq_getElem?_getD, List.getElem?_eq_getElem hi]
  rfl
theorem Ws.below {w w' : World} {v : Value} {ws : List ByteArray} (h : Ws w v ws) (hb : Below w.heap.size w w') : Ws w' v ws := by
  obtain ⟨⟨B, h⟩, a, b⟩ := h
  exact ⟨⟨B, own_down h hb⟩, a, b⟩

/-- What was read, as it lies in memory. -/
def Rd (w : World) (bR : Nat) (st : Txt.St) : Prop := ∃ lv, w.heap[bR]? = some (.cells #[.string st.u, .string st.x, .string st.h, lv, .string st.dg] 179 (0, 0)) ∧ w.ownsRow (bR + 1) 84 2 lv st.ls.length (flat st.ls)

/-- What numberOnce answers. -/
def onceS (ws : List ByteArray) (b : ByteArray) : ByteArray := if Txt.once ws b = 0 then ws.getD 0 Txt.em else Txt.em
def onceV (ws : List ByteArray) (b : ByteArray) : Value := .tuple #[.string (onceS ws b), .int .i64 (Txt.once ws b)]
theorem onceV_no {ws : List ByteArray} {b : ByteArray} {n : Int} (h : Txt.once ws b = n) (hn : n ≠ 0) : onceV ws b = .tuple #[.string Txt.em, .int .i64 n] := by
  unfold onceV onceS; rw [if_neg (by rw [h]; exact hn), h]
theorem onceV_yes {ws : List ByteArray} {b : ByteArray} (h : Txt.once ws b = 0) : onceV ws b = .tuple #[.string (ws.getD 0 Txt.em), .int .i64 0] := by
  unfold onceV onceS; rw [if_pos h, h]
theorem no_err {a b : Int} {P : Prop} (h : a = b) (hb : b ≠ 0) : a = 0 → P := fun e => absurd (h.symm.trans e) hb
theorem em_test {b : ByteArray} (h : ¬ b = Txt.em) : b.toList.isEmpty = false := Txt.not_empty h

set_option maxRecDepth 100000 in
theorem number_once (v : Value) (ws : List ByteArray) (b : ByteArray) (w : World) (hW : Ws w v ws) :
    Calls Tryz.prog 186 #[v, .string b] w fun e w' => e = .returned (onceV ws b) ∧ w' = w := by
  have hlen := hW.len
  by_cases h1 : ws.length = 1
  · obtain ⟨g, cap, rfl, _, hc⟩ := hW.at' (by omega)
    have c0 := hc 0 (by omega)
    have hsz := hW.sz 0
    have HN := hid' (is_number (ws.getD 0 Txt.em) w (by omega))
    rw [h1]
    clear hc hW hlen
    cases hn : Txt.isNum (ws.getD 0 Txt.em) with
    | false =>
      have H : Hid (onceV ws b = _) := onceV_no (n := 3) (by unfold Txt.once; rw [if_neg (by omega), if_pos hn]) (by decide)
      rw [hn] at HN
      clear hn h1
      generalize ws.getD 0 Txt.em = s0 at *
      go_enter Tryz.func186, Tryz.ntmps186
      go_wp2_with (go_at_call 190; refine HN.out.mono ?_; rintro e w' ⟨rfl, rfl⟩)
      go_ret2
      exact ⟨congrArg Ending.returned H.out.symm, rfl⟩
    | true =>
      rw [hn] at HN
      by_cases hb : b = Txt.em
      · have H : Hid (onceV ws b = _) := onceV_yes (by unfold Txt.once; rw [if_neg (by omega), if_neg (by rw [hn]; decide), if_neg (by simpa using hb)])
        subst hb
        clear hn h1
        generalize ws.getD 0 Txt.em = s0 at *
        go_enter Tryz.func186, Tryz.ntmps186
        go_wp2_with (go_at_call 190; refine HN.out.mono ?_; rintro e w' ⟨rfl, rfl⟩)
        go_ret2
        exact ⟨congrArg Ending.returned H.out.symm, rfl⟩
      · have H : Hid (onceV ws b = _) := onceV_no (n := 4) (by unfold Txt.once; rw [if_neg (by omega), if_neg (by rw [hn]; decide), if_pos hb]) (by decide)
        have hbe := em_test hb
        clear hn h1 hb
        generalize ws.getD 0 Txt.em = s0 at *
        go_enter Tryz.func186, Tryz.ntmps186
        go_wp2_with (go_at_call 190; refine HN.out.mono ?_; rintro e w' ⟨rfl, rfl⟩)
        go_ret2
        exact ⟨congrArg Ending.returned H.out.symm, rfl⟩
  · have H : Hid (onceV ws b = _) := onceV_no (n := 3) (by unfold Txt.once; rw [if_pos h1]) (by decide)
    obtain ⟨ao, cap, rfl⟩ := hW.form
    have h1' : ((ws.length : Int) != 1) = true := bne_iff_ne.2 (by omega)
    clear h1 hW
    go_enter Tryz.func186, Tryz.ntmps186
    go_wp2
    go_ret2
    exact ⟨congrArg Ending.returned H.out.symm, rfl⟩

set_option maxRecDepth 100000 in
set_option maxHeartbeats 1000000 in
theorem take_update (bR : Nat) (st : Txt.St) (v : Value) (ws : List ByteArray) (w : World) (n : Nat) (hR : Rd w bR st) (hO : Txt.Ok st n) (hn : n ≤ 100000) (hW : Ws w v ws) :
    Calls Tryz.prog 160 #[.pointer (some ⟨bR, 0, none⟩), v] w fun e w' => e = .returned (.int .i64 (Txt.takeU st ws).1) ∧ ((Txt.takeU st ws).1 = 0 → Rd w' bR (Txt.takeU st ws).2) ∧ Below bR w w' := by
  obtain ⟨lv, hrow, hown⟩ := hR
  have c0 := cell_of_row _ _ 0 _ _ _ hrow
  have c4 := cell_of_row _ _ 4 _ _ _ hrow
  simp at c0 c4
  have f0 := frozen_of_row _ _ 0 _ _ hrow
  have f4 := frozen_of_row _ _ 4 _ _ hrow
  have HN := hid' (number_once v ws st.u w hW)
  have HR := hid' hrow
  have HO := hid' hown
  have hdg := hO.dg
  have hsz : (onceS ws st.u).size ≤ 100000 := by unfold onceS; split; exact hW.sz 0; decide
  have hu : st.u.size ≤ 11 := by rcases hO.u with h | h; rw [h]; decide; exact Txt.size_num h
  have HT : Hid (Txt.once ws st.u = 0 → st.u ++ onceS ws st.u = ws.getD 0 Txt.em) := fun h => by
    unfold onceS; rw [if_pos h, (Txt.once_cases h).2.2]; exact ByteArray.empty_append
  have HD : Hid (Txt.once ws st.u = 0 → st.dg ++ onceS ws st.u = st.dg ++ ws.getD 0 Txt.em) := fun h => by unfold onceS; rw [if_pos h]
  unfold onceV at HN
  have H : Hid ((Txt.takeU st ws).1 = Txt.once ws st.u) := rfl
  have HS : Hid ((Txt.takeU st ws).2 = { st with u := ws.getD 0 Txt.em, dg := st.dg ++ ws.getD 0 Txt.em }) := rfl
  clear hrow hown hO hW
  generalize onceS ws st.u = r at *
  generalize Txt.once ws st.u = er at *
  go_enter Tryz.func160, Tryz.ntmps160
  go_wp2_with (go_at_call 186; refine HN.out.mono ?_; rintro e w' ⟨rfl, rfl⟩)
  go_ret
  refine ⟨ret_int H.out.symm, fun h => ?_, ?_⟩
  · rw [H.out] at h
    rw [HS.out, ← HD.out h, ← HT.out h]
    have e1 := heap_setCell_same _ bR 0 _ _ (.string (st.u ++ r)) HR.out
    have e2 := heap_setCell_same _ bR 4 _ _ (.string (st.dg ++ r)) e1
    refine ⟨lv, by simpa using e2, own_set (p := ⟨bR, 4, none⟩) (own_set (p := ⟨bR, 0, none⟩) HO.out HR.out (by decide) _) e1 (by decide) _⟩
  · exact ((Below.refl bR _).setCell (p := ⟨bR, 0, none⟩) (Nat.le_refl _) _).setCell (p := ⟨bR, 4, none⟩) (Nat.le_refl _) _

set_option maxRecDepth 100000 in
set_option maxHeartbeats 1000000 in
theorem take_expiry (bR : Nat) (st : Txt.St) (v : Value) (ws : List ByteArray) (w : World) (n : Nat) (hR : Rd w bR st) (hO : Txt.Ok st n) (hn : n ≤ 100000) (hW : Ws w v ws) :
    Calls Tryz.prog 162 #[.pointer (some ⟨bR, 0, none⟩), v] w fun e w' => e = .returned (.int .i64 (Txt.takeX st ws).1) ∧ ((Txt.takeX st ws).1 = 0 → Rd w' bR (Txt.takeX st ws).2) ∧ Below bR w w' := by
  obtain ⟨lv, hrow, hown⟩ := hR
  have c0 := cell_of_row _ _ 1 _ _ _ hrow
  have c4 := cell_of_row _ _ 4 _ _ _ hrow
  simp at c0 c4
  have f0 := frozen_of_row _ _ 1 _ _ hrow
  have f4 := frozen_of_row _ _ 4 _ _ hrow
  have HN := hid' (number_once v ws st.x w hW)
  have HR := hid' hrow
  have HO := hid' hown
  have hdg := hO.dg
  have hsz : (onceS ws st.x).size ≤ 100000 := by unfold onceS; split; exact hW.sz 0; decide
  have hu : st.x.size ≤ 11 := by rcases hO.x with h | h; rw [h]; decide; exact Txt.size_num h
  have HT : Hid (Txt.once ws st.x = 0 → st.x ++ onceS ws st.x = ws.getD 0 Txt.em) := fun h => by
    unfold onceS; rw [if_pos h, (Txt.once_cases h).2.2]; exact ByteArray.empty_append
  have HD : Hid (Txt.once ws st.x = 0 → st.dg ++ onceS ws st.x = st.dg ++ ws.getD 0 Txt.em) := fun h => by unfold onceS; rw [if_pos h]
  unfold onceV at HN
  have H : Hid ((Txt.takeX st ws).1 = Txt.once ws st.x) := rfl
  have HS : Hid ((Txt.takeX st ws).2 = { st with x := ws.getD 0 Txt.em, dg := st.dg ++ ws.getD 0 Txt.em }) := rfl
  clear hrow hown hO hW
  generalize onceS ws st.x = r at *
  generalize Txt.once ws st.x = er at *
  go_enter Tryz.func162, Tryz.ntmps162
  go_wp2_with (go_at_call 186; refine HN.out.mono ?_; rintro e w' ⟨rfl, rfl⟩)
  go_ret
  refine ⟨ret_int H.out.symm, fun h => ?_, ?_⟩
  · rw [H.out] at h
    rw [HS.out, ← HD.out h, ← HT.out h]
    have e1 := heap_setCell_same _ bR 1 _ _ (.string (st.x ++ r)) HR.out
    have e2 := heap_setCell_same _ bR 4 _ _ (.string (st.dg ++ r)) e1
    refine ⟨lv, by simpa using e2, own_set (p := ⟨bR, 4, none⟩) (own_set (p := ⟨bR, 1, none⟩) HO.out HR.out (by decide) _) e1 (by decide) _⟩
  · exact ((Below.refl bR _).setCell (p := ⟨bR, 1, none⟩) (Nat.le_refl _) _).setCell (p := ⟨bR, 4, none⟩) (Nat.le_refl _) _

set_option maxRecDepth 100000 in
set_option maxHeartbeats 1000000 in
theorem take_hash (bR : Nat) (st : Txt.St) (v : Value) (ws : List ByteArray) (w : World) (n : Nat) (hR : Rd w bR st) (hO : Txt.Ok st n) (hW : Ws w v ws) :
    Calls Tryz.prog 163 #[.pointer (some ⟨bR, 0, none⟩), v] w fun e w' => e = .returned (.int .i64 (Txt.takeH st ws).1) ∧ ((Txt.takeH st ws).1 = 0 → Rd w' bR (Txt.takeH st ws).2) ∧ Below bR w w' := by
  obtain ⟨lv, hrow, hown⟩ := hR
  have c2 := cell_of_row _ _ 2 _ _ _ hrow
  simp at c2
  have f2 := frozen_of_row _ _ 2 _ _ hrow
  have HR := hid' hrow
  have HO := hid' hown
  have hlen := hW.len
  have HSZ := hid' hW.sz
  have hh := hO.h
  clear hrow hown hO
  have H : Hid ((Txt.takeH st ws).1 = Txt.hashErr ws st.h) := rfl
  have HS : Hid ((Txt.takeH st ws).2 = { st with h := Txt.hexTo ws 5 }) := rfl
  by_cases h5 : ws.length = 5
  · obtain ⟨g, cap, rfl, hgl, hc⟩ := hW.at' (by omega)
    rw [h5] at hc ⊢
    have HC := hid' hc
    clear hc hW hlen
    go_enter Tryz.func163, Tryz.ntmps163
    go_wp2
    go_loop [5, 6] (fun t i => ∃ k : Nat, k ≤ 5 ∧ i = .int .i64 k ∧ t = .string (Txt.hexTo ws k) ∧ Txt.Hexed ws k) (fun _ i => 5 - (intOf i).toNat)
    case atStart => exact ⟨0, by omega, rfl, rfl, fun i hi => by omega⟩
    case round =>
      obtain ⟨k, hk, rfl, rfl, hhex⟩ := hrel
      have HHX := hid' hhex
      have hts := Txt.size_hexTo ws k
      clear hhex
      by_cases hlt : k < 5
      · have ck := HC.out k hlt
        have hsz := HSZ.out k
        have HX := hid' (is_hex (ws.getD k Txt.em) w (by omega))
        cases hx : Txt.isHex (ws.getD k Txt.em) with
        | false =>
          have hE : Txt.hashErr ws st.h = 3 := by
            unfold Txt.hashErr
            rw [if_neg (by omega), if_pos (Txt.hexedB_no (fun h => by have := h k hlt; rw [hx] at this; cases this))]
          rw [hE] at H
          rw [hx] at HX
          clear hx hE
          generalize ws.getD k Txt.em = sk at *
          generalize Txt.hexTo ws k = tk at *
          go_wp2_with (go_at_call 188; refine HX.out.mono ?_; rintro e w' ⟨rfl, rfl⟩)
          go_ret
          exact ⟨ret_int H.out.symm, no_err H.out (by decide), Below.refl _ _⟩
        | true =>
          have h8 : (ws.getD k Txt.em).size ≤ 8 := by have := (Txt.isHex_is hx).1; omega
          have hfw := full_hex (ws.getD k Txt.em) w h8
          rw [← Txt.word_of hx] at hfw
          have HFW := hid' hfw
          have HK : Hid (Txt.hexTo ws (k + 1) = Txt.hexTo ws k ++ Txt.word (ws.getD k Txt.em)) := rfl
          have hws := Txt.size_word (s := ws.getD k Txt.em)
          have HH2 : Hid (Txt.Hexed ws (k + 1)) := fun i hi => by
            by_cases e : i = k
            · subst e; exact hx
            · exact HHX.out i (by omega)
          rw [hx] at HX
          clear hx hfw
          generalize ws.getD k Txt.em = sk at *
          generalize Txt.hexTo ws k = tk at *
          generalize Txt.word sk = wk at *
          go_wp2_with (first
            | (go_at_call 188; refine HX.out.mono ?_; rintro e w' ⟨rfl, rfl⟩)
            | (go_at_call 189; refine HFW.out.mono ?_; rintro e w' ⟨rfl, rfl⟩))
          exact ⟨⟨k + 1, by omega, by go_num, by rw [HK.out], HH2.out⟩, by simp [intOf]; omega⟩
      · have ek : k = 5 := by omega
        have hD : ¬ (Txt.hexedB ws 5 = false) := by
          rw [(Txt.hexedB_iff ws 5).2 (by rw [← ek]; exact HHX.out)]; decide
        by_cases hb : st.h = Txt.em
        · have hE : Txt.hashErr ws st.h = 0 := by unfold Txt.hashErr; rw [if_neg (by omega), if_neg hD, if_neg (by simpa using hb)]
          rw [hE] at H
          have HT : Hid (Txt.hexTo ws k = Txt.hexTo ws 5) := by show _ = _; rw [ek]
          rw [hb] at c2 HR
          clear hE hD ek
          generalize Txt.hexTo ws k = tk at *
          go_wp2
          go_ret
          refine ⟨ret_int H.out.symm, fun h => ?_, (Below.refl bR _).setCell (p := ⟨bR, 2, none⟩) (Nat.le_refl _) _⟩
          rw [HS.out, ← HT.out]
          have e1 := heap_setCell_same _ bR 2 _ _ (.string tk) HR.out
          exact ⟨lv, by simpa using e1, own_set (p := ⟨bR, 2, none⟩) HO.out HR.out (by decide) _⟩
        · have hE : Txt.hashErr ws st.h = 4 := by unfold Txt.hashErr; rw [if_neg (by omega), if_neg hD, if_pos hb]
          rw [hE] at H
          have hbe := em_test hb
          clear hE hD ek hb
          generalize Txt.hexTo ws k = tk at *
          go_wp2
          go_ret
          exact ⟨ret_int H.out.symm, no_err H.out (by decide), Below.refl _ _⟩
  · have hE : Txt.hashErr ws st.h = 3 := by unfold Txt.hashErr; rw [if_pos h5]
    rw [hE] at H
    obtain ⟨ao, cap, rfl⟩ := hW.form
    have h5' : ((ws.length : Int) != 5) = true := bne_iff_ne.2 (by omega)
    clear h5 hW hE
    go_enter Tryz.func163, Tryz.ntmps163
    go_wp2
    go_ret
    exact ⟨ret_int H.out.symm, no_err H.out (by decide), Below.refl _ _⟩

end Go.Proofs.YtmmkhodaljpjgaaGreatDoor
