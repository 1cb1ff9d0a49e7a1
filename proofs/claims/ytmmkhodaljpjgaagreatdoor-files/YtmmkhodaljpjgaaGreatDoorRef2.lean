import Derived.Test.YtmmkhodaljpjgaaGreatDoorRef1
/-! The document's file: a line of the digest. -/
namespace Go.Proofs.YtmmkhodaljpjgaaGreatDoor
open Go.RowKit

/-- The first k words of a digest, each with its noughts. -/
def fulls (ws : List ByteArray) (k : Nat) : List ByteArray := (ws.take k).map Txt.word
theorem fulls_succ (ws : List ByteArray) (k : Nat) (h : k < ws.length) : fulls ws (k + 1) = fulls ws k ++ [Txt.word (ws.getD k Txt.em)] := by
  unfold fulls
  rw [List.take_succ_eq_append_getElem h, List.map_append, List.getD_eq_getElem?_getD, List.getElem?_eq_getElem h]
  rfl
theorem fulls_len (ws : List ByteArray) (k : Nat) (h : k ≤ ws.length) : (fulls ws k).length = k := by unfold fulls; simp; omega
theorem join_fulls (ws : List ByteArray) (n : Nat) (hn : n ≤ ws.length) (k : Nat) (h : k ≤ n) : joinTo (fulls ws n) k = Txt.hexTo ws k := by
  induction k with
  | zero => rfl
  | succ k ih =>
    rw [joinTo, Txt.hexTo, ih (by omega)]
    congr 1
    unfold fulls
    rw [List.getD_eq_getElem?_getD, List.getElem?_map, List.getElem?_take_of_lt (by omega), List.getD_eq_getElem?_getD, List.getElem?_eq_getElem (by omega)]
    rfl
theorem word_em {s : ByteArray} (h : Txt.isHex s = true) : ¬ Txt.word s = Txt.em := fun e => by
  have h8 := (Txt.isHex_is h).1
  rw [Txt.word_of h] at e
  have : (Txt.noughts.extract s.size 8 ++ s).size = 0 := by rw [e]; rfl
  rw [ByteArray.size_append] at this
  omega
theorem hexTo_em (ws : List ByteArray) (h : Txt.isHex (ws.getD 4 Txt.em) = true) : ¬ Txt.hexTo ws 5 = Txt.em := fun e => by
  have h1 : (Txt.hexTo ws 5).size = 0 := by rw [e]; rfl
  rw [Txt.hexTo, ByteArray.size_append] at h1
  apply word_em h
  have h2 : (Txt.word (ws.getD 4 Txt.em)).size = 0 := by omega
  generalize Txt.word (ws.getD 4 Txt.em) = x at *
  obtain ⟨d⟩ := x
  have : d = #[] := by apply Array.eq_empty_of_size_eq_zero; exact h2
  subst this; rfl

theorem own_mono' {w : World} {B B' e size n : Nat} {v : Value} {xs : List Value} (h : w.ownsRow B e size v n xs) (hb : B' ≤ B) : w.ownsRow B' e size v n xs := by
  refine ⟨h.1, ?_⟩
  rcases h.2 with h | ⟨g, cap, cur, rfl, a, r⟩
  · exact .inl h
  · exact .inr ⟨g, cap, cur, rfl, by omega, r⟩

set_option maxRecDepth 100000 in
set_option maxHeartbeats 1600000 in
theorem ref_special_h (bF : Nat) (st : Txt.St) (v : Value) (ws : List ByteArray) (w : World) (hR : Rf w bF st) (hW : Ws w v ws) :
    Calls Tryz.prog 124 #[.pointer (some ⟨bF, 0, none⟩), .int .u8 104, v] w fun e w' => e = .returned (.int .i64 (Txt.takeH st ws).1) ∧ ((Txt.takeH st ws).1 = 0 → Rf w' bF (Txt.takeH st ws).2) ∧ Below bF w w' := by
  obtain ⟨i0, hi0, hz0, hz1, hz2⟩ := info_parts infoStr
  obtain ⟨lv, wv, full, hrow, hown, hwv, hfull⟩ := hR
  have H : Hid ((Txt.takeH st ws).1 = Txt.hashErr ws st.h) := rfl
  have HS : Hid ((Txt.takeH st ws).2 = { st with h := Txt.hexTo ws 5 }) := rfl
  have hlen := hW.len
  have hbF := lt_of_heap hrow
  by_cases h5 : ws.length = 5
  · obtain ⟨Bw, hwo⟩ := hW.own
    obtain ⟨g, cap, rfl, hgl, hc⟩ := hW.at' (by omega)
    have HSZ := hid' hW.sz
    rw [h5] at hc ⊢
    have HC := hid' hc
    have HROW := hid' hrow
    have HOWN := hid' hown
    clear hc hW hrow hown hwv hfull hwo hlen
    go_enter Tryz.func124, Tryz.ntmps124
    go_wp2
    go_loopw [7, 8, 9] (fun l i _ wr => ∃ k : Nat, k ≤ 5 ∧ i = .int .i64 k ∧ Txt.Hexed ws k ∧ wr.ownsRow w.heap.size 9 1 l k ((fulls ws k).map Value.string) ∧ Below w.heap.size w wr) (fun _ i _ _ => 5 - (intOf i).toNat)
    case atStart => exact ⟨0, by omega, rfl, fun i hi => by omega, World.ownsRow_nil _ _ _ _, Below.refl _ _⟩
    case round =>
      obtain ⟨k, hk, rfl, hhex, hol, hbw⟩ := hrel
      have HHX := hid' hhex
      have OL := hid' hol
      have HBW := hid' hbw
      have hsw := hbw.size
      clear hhex hol hbw
      by_cases hlt : k < 5
      · have ck := (HBW.out.cell (p := ⟨g, k, none⟩) hgl).trans (HC.out k hlt)
        have hsz := HSZ.out k
        have HW := hid' (ref_word (ws.getD k Txt.em) wr (by omega))
        cases hx : Txt.isHex (ws.getD k Txt.em) with
        | false =>
          have hE : Txt.hashErr ws st.h = 3 := by
            unfold Txt.hashErr
            rw [if_neg (by omega), if_pos (Txt.hexedB_no (fun h => by have := h k hlt; rw [hx] at this; cases this))]
          rw [hE] at H
          rw [Txt.word_none hx] at HW
          clear hx hE
          generalize ws.getD k Txt.em = sk at *
          go_wp2_with (go_at_call 166; refine HW.out.mono ?_; rintro e w' ⟨rfl, rfl⟩)
          go_ret
          exact ⟨ret_int H.out.symm, no_err H.out (by decide), HBW.out.mono (by omega)⟩
        | true =>
          have hwe := em_test (word_em hx)
          have HF := hid' (fulls_succ ws k (by omega))
          have HH2 : Hid (Txt.Hexed ws (k + 1)) := fun i hi => by
            by_cases e : i = k
            · subst e; exact hx
            · exact HHX.out i (by omega)
          clear hx
          generalize ws.getD k Txt.em = sk at *
          generalize Txt.word sk = wk at *
          go_wp2_with (first
            | (go_at_call 166; refine HW.out.mono ?_; rintro e w1 ⟨rfl, rfl⟩)
            | (at_builtin; refine wpList_append_lies _ (by rfl) (.tmp 27) (.tmp 29) 30 (by rfl) w.heap.size 9 i0 (.string ByteArray.empty) 1 16 Tryz.underlying30 hi0 hz0 hz1 hz2 rfl (by decide) u7 k ((fulls ws k).map Value.string) (by rfl) (OL.out.alloc _) ⟨w1.heap.size, 0, none⟩ 1 1 [.string wk] (by rfl) (by rfl) (World.news_of_block (cs := #[.string wk]) (heap_alloc_new w1 _)) (by simp [Value.oneCell']) (by decide) (by unfold maxLen; omega) (by omega) (by simp; omega) (w1.heap.size + 1) (by simp) ?_; intro g3 cap3 w3 own3 hg3 _ hlt3; have HB3 := hid' ((HBW.out.alloc hsw _).grown hg3 (by simp; omega) (own_ge OL.out)); have OWN3 := hid' own3; clear own3 hg3))
          go_roundw
          case rel => exact ⟨k + 1, by omega, by go_num, HH2.out, by rw [HF.out]; simpa using OWN3.out, HB3.out⟩
          case measure => simp [intOf]; omega
      · have ek : k = 5 := by omega
        have hD : ¬ (Txt.hexedB ws 5 = false) := by
          rw [(Txt.hexedB_iff ws 5).2 (by rw [← ek]; exact HHX.out)]; decide
        have row := (HBW.out.block _ hbF).trans HROW.out
        have q6 := cell_of_row _ _ 6 _ _ _ row
        have q7 := cell_of_row _ _ 7 _ _ _ row
        simp at q6 q7
        have z6 := frozen_of_row _ _ 6 _ _ row
        have z7 := frozen_of_row _ _ 7 _ _ row
        by_cases hb : st.h = Txt.em
        · have hE : Txt.hashErr ws st.h = 0 := by unfold Txt.hashErr; rw [if_neg (by omega), if_neg hD, if_neg (by simpa using hb)]
          rw [hE] at H
          rw [has_no hb] at q6
          have HHE := hid' (hexTo_em ws (HHX.out 4 (by omega)))
          have HJ := hid' (join_fulls ws 5 (by omega) 5 (by omega))
          have HFL := hid' (fulls_len ws 5 (by omega))
          have OW := hid' (own_down HOWN.out HBW.out)
          have ROW := hid' row
          rw [ek] at OL
          clear hE hD row hb ek
          obtain ⟨g5, cap5, hu7⟩ := own_some OL.out (by omega)
          subst hu7
          go_wp2
          go_ret
          refine ⟨ret_int H.out.symm, fun _ => ?_, ((show Below bF w wr from HBW.out.mono (by omega)).setCell (p := ⟨bF, 6, none⟩) (Nat.le_refl _) _).setCell (p := ⟨bF, 7, none⟩) (Nat.le_refl _) _⟩
          rw [HS.out]
          have e1 := heap_setCell_same _ bF 6 _ _ (.bool true) ROW.out
          have e2 := heap_setCell_same _ bF 7 _ _ (.slice (some ⟨g5, 0, none⟩) 5 cap5) e1
          refine ⟨lv, .slice (some ⟨g5, 0, none⟩) 5 cap5, fulls ws 5, ?_, own_set (p := ⟨bF, 7, none⟩) (own_set (p := ⟨bF, 6, none⟩) OW.out ROW.out (by decide) _) e1 (by decide) _, ?_, fun _ => ⟨HFL.out, HJ.out⟩⟩
          · show _ = some (Obj.cells #[.int .i64 (Txt.numTo st.u st.u.size), .int .i64 (Txt.numTo st.x st.x.size), lv, .string st.dg, .bool (has st.u), .bool (has st.x), .bool (has (Txt.hexTo ws 5)), .slice (some ⟨g5, 0, none⟩) 5 cap5] 143 (0, 0))
            rw [has_yes HHE.out]
            refine Eq.trans (by rfl) (Eq.trans e2 ?_)
            simp
          · rw [HFL.out]
            exact own_set (p := ⟨bF, 7, none⟩) (own_set (p := ⟨bF, 6, none⟩) (own_mono' OL.out (by omega)) ROW.out (by decide) _) e1 (by decide) _
        · have hE : Txt.hashErr ws st.h = 4 := by unfold Txt.hashErr; rw [if_neg (by omega), if_neg hD, if_pos hb]
          rw [hE] at H
          rw [has_yes hb] at q6
          clear hE hD ek hb
          go_wp2
          go_ret
          exact ⟨ret_int H.out.symm, no_err H.out (by decide), HBW.out.mono (by omega)⟩
  · have hE : Txt.hashErr ws st.h = 3 := by unfold Txt.hashErr; rw [if_pos h5]
    rw [hE] at H
    obtain ⟨ao, cap, rfl⟩ := hW.form
    have h5' : ((ws.length : Int) != 5) = true := bne_iff_ne.2 (by omega)
    clear h5 hW hE hrow hown hwv hfull
    go_enter Tryz.func124, Tryz.ntmps124
    go_wp2
    go_ret
    exact ⟨ret_int H.out.symm, no_err H.out (by decide), Below.refl _ _⟩

end Go.Proofs.YtmmkhodaljpjgaaGreatDoor
