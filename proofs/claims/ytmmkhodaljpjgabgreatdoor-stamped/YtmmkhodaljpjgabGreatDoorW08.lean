import Derived.Test.YtmmkhodaljpjgabGreatDoorW07
import Derived.Deep.CutRange
import Derived.BigRegion
namespace Go.Proofs.YtmmkhodaljpjgabGreatDoor
open Go.RowKit
theorem infoApi : (Tryz.prog.info? 49).map (fun i => (i.zero, i.size, i.bytes)) = some (some (.agg #[.int .i64 0, .int .i64 0]), 2, 16) := by kernel_rfl
theorem wf_small {x : Int} (h0 : 0 ≤ x) (h1 : x < 100000000000) : (Lit.int .i64 x).wf = true := by
  simp [Lit.wf, IntKind.min, IntKind.max, IntKind.signed, IntKind.bits]
  omega
/-- Behind the append. -/
def Ent (W : World) (bR : Nat) (st : Txt.St) (a o : Int) (Bw : Nat) (v : Value) (ws : List ByteArray) (wx : World) : Prop := ∃ lv', wx.heap[bR]? = some (.cells #[.string st.u, .string st.x, .string st.h, lv', .string st.dg] 114 (0, 0)) ∧
  wx.ownsRow (bR + 1) 49 2 lv' (st.ls ++ [(a, o)]).length (flat (st.ls ++ [(a, o)])) ∧ wx.ownsRow Bw 9 1 v ws.length (ws.map Value.string) ∧ Below bR W wx
set_option maxRecDepth 100000 in
set_option maxHeartbeats 6400000 in
theorem take_entry_go (bR : Nat) (st : Txt.St) (v : Value) (ws : List ByteArray) (w : World) (n : Nat) (hR : Rd w bR st) (hO : Txt.Ok st n) (hn : n ≤ 100000) (hW : Ws w v ws)
    (h2 : 2 ≤ ws.length) (n0 : Txt.isNum (ws.getD 0 Txt.em) = true) (n1 : Txt.isNum (ws.getD 1 Txt.em) = true) (h3 : ¬ (2 < ws.length ∧ Txt.beg (ws.getD 2 Txt.em) ⟨#[35]⟩ = false)) :
    Calls Tryz.prog 93 #[.pointer (some ⟨bR, 0, none⟩), v] w fun e w' => e = .returned (.int .i64 (Txt.takeE st ws).1) ∧ ((Txt.takeE st ws).1 = 0 → Rd w' bR (Txt.takeE st ws).2) ∧ Below bR w w' := by
  obtain ⟨i0, hi0, hz0, hz1, hz2⟩ := info_parts infoApi
  obtain ⟨lv, hrow, hown⟩ := hR
  have hlen := hW.len
  have hdg := hO.dg
  obtain ⟨Bw, hwo⟩ := hW.own
  obtain ⟨g, cap, rfl, hgl, hc⟩ := hW.at' (by omega)
  have HWO := hid' hwo
  clear hwo
  have c0 := hc 0 (by omega)
  have c1 := hc 1 (by omega)
  have z0 := Txt.size_num n0
  have z1 := Txt.size_num n1
  have v0 := Txt.numTo_le n0
  have v1 := Txt.numTo_le n1
  have N0 := hid' (is_number (ws.getD 0 Txt.em) w (by omega))
  have N1 := hid' (is_number (ws.getD 1 Txt.em) w (by omega))
  rw [n0] at N0
  rw [n1] at N1
  have V0 := hid' (fun W => value_of (ws.getD 0 Txt.em) W n0)
  have V1 := hid' (fun W => value_of (ws.getD 1 Txt.em) W n1)
  have HE : Hid ((Txt.takeE st ws).1 = if Tab.follows st.ls (Txt.numTo (ws.getD 0 Txt.em) (ws.getD 0 Txt.em).size) (Txt.numTo (ws.getD 1 Txt.em) (ws.getD 1 Txt.em).size) = false then 5 else 0) := by
    show Txt.entryErr st.ls ws = _
    unfold Txt.entryErr
    rw [if_neg (by omega), if_neg (by omega), if_neg (by rw [n0]; decide), if_neg (by rw [n1]; decide), if_neg h3]
  have HS : Hid ((Txt.takeE st ws).2 = { st with ls := st.ls ++ [Txt.entryOf ws], dg := st.dg ++ (ws.getD 0 Txt.em ++ ws.getD 1 Txt.em) }) := by show (if _ then _ else _) = _; rw [if_neg (by omega)]
  have HEO : Hid (Txt.entryOf ws = (Txt.numTo (ws.getD 0 Txt.em) (ws.getD 0 Txt.em).size, Txt.numTo (ws.getD 1 Txt.em) (ws.getD 1 Txt.em).size)) := rfl
  have hbR := lt_of_heap hrow
  have HLEN : Hid (st.ls.length ≤ 40) := hO.len
  have HFO : Hid (∀ W, W.ownsRow (bR + 1) 49 2 lv st.ls.length (flat st.ls) → Calls Tryz.prog 82 #[lv, .agg #[.int .i64 (Txt.numTo (ws.getD 0 Txt.em) (ws.getD 0 Txt.em).size), .int .i64 (Txt.numTo (ws.getD 1 Txt.em) (ws.getD 1 Txt.em).size)]] W fun e w' => e = .returned (.bool (Tab.follows st.ls (Txt.numTo (ws.getD 0 Txt.em) (ws.getD 0 Txt.em).size) (Txt.numTo (ws.getD 1 Txt.em) (ws.getD 1 Txt.em).size))) ∧ Below W.heap.size W w') :=
    fun W h => can_follow_own (bR + 1) lv st.ls _ _ W (wf_small v0.1 v0.2) (wf_small v1.1 v1.2) h hO.len hO.off
  generalize Txt.numTo (ws.getD 0 Txt.em) (ws.getD 0 Txt.em).size = a at *
  generalize Txt.numTo (ws.getD 1 Txt.em) (ws.getD 1 Txt.em).size = o at *
  have HROW := hid' hrow
  have HOWN := hid' hown
  have h3' : (2 < ws.length ∧ Txt.beg (ws.getD 2 Txt.em) ⟨#[35]⟩ = true) ∨ ws.length = 2 := by
    by_cases e : ws.length = 2
    · exact .inr e
    · refine .inl ⟨by omega, ?_⟩
      cases hb : Txt.beg (ws.getD 2 Txt.em) ⟨#[35]⟩ with
      | true => rfl
      | false => exact absurd ⟨by omega, hb⟩ h3
  clear hrow hown hO hW n0 n1 h3
  have HC := hid' hc
  clear hc
  generalize hs0 : ws.getD 0 Txt.em = s0 at *
  generalize hs1 : ws.getD 1 Txt.em = s1 at *
  have hl0 : ((ws.length : Int) == 0) = false := by rw [beq_eq_false_iff_ne]; omega
  go_enter Tryz.func93, Tryz.ntmps93
  go_wp2_with fail
  refine N0.out.mono ?_
  rintro e w1 ⟨rfl, rfl⟩
  go_wp2_with fail
  refine N1.out.mono ?_
  rintro e w2 ⟨rfl, rfl⟩
  go_upto_region 5 with fail
  go_cut [35] from 6 (fun s35 wc => s35 = .bool false ∧ wc = w2)
  case first =>
    rcases h3' with ⟨h3, hb⟩ | h3
    · have c2 := HC.out 2 h3
      have HB := hid' (begins_any (ws.getD 2 Txt.em) ⟨#[35]⟩ w2)
      rw [hb] at HB
      clear hb
      generalize ws.getD 2 Txt.em = s2 at *
      go_wp2_with (go_at_call 88; refine HB.out.mono ?_; rintro e w3 ⟨rfl, rfl⟩)
      go_meet
      case rel => exact ⟨rfl, rfl⟩
    · go_wp2_with fail
      go_meet
      case rel => exact ⟨rfl, rfl⟩
  case rest =>
    obtain ⟨rfl, rfl⟩ := hcut
    rename World => W0
    go_upto_region 7 with fail
    go_cut [5] from 6 (fun s5 wx => s5 = .pointer (some ⟨W0.heap.size, 0, none⟩) ∧ Below W0.heap.size W0 wx ∧ wx.heap[W0.heap.size]? = some (.cells #[.int .i64 a, .int .i64 o] 49 (0, 0)))
    case first =>
      clear hi0 hz0 hz1 hz2 HC N0 N1 HE HS HEO HFO HLEN HROW HOWN HWO h3'
      go_region_with (first | (go_at_call_of 94 (Value.string s0); refine (V0.out _).mono ?_; rintro e w3 ⟨rfl, rfl⟩) | (go_at_call_of 94 (Value.string s1); refine (V1.out _).mono ?_; rintro e w3 ⟨rfl, rfl⟩))
      all_goals
        go_wp2_with fail
        go_meet
        case rel => exact ⟨rfl, ((Below.refl _ _).alloc (Nat.le_refl _) _).drew, heap_alloc_new _ _⟩
    case rest =>
      obtain ⟨rfl, bel7, row7⟩ := hcut
      rename World => W1
      have d0 := cell_of_row _ _ 0 _ _ _ row7
      have d1 := cell_of_row _ _ 1 _ _ _ row7
      simp at d0 d1
      have ROW1 := hid' ((bel7.block _ hbR).trans HROW.out)
      have OWN1 := hid' (own_down HOWN.out bel7)
      have WO1 := hid' (own_down HWO.out bel7)
      have LROW1 := hid' row7
      have e3 := cell_of_row _ _ 3 _ _ _ ROW1.out
      simp at e3
      have hs7 := bel7.size
      have hl7 := lt_of_heap row7
      have BEL1 := hid' (show Below bR W0 W1 from bel7.mono (by omega))
      clear bel7 row7 c0 c1 N0 N1 V0 V1
      go_upto_region 8 with fail
      go_cut [5, 51] from 6 (fun s5 s51 wx => s5 = .pointer (some ⟨W0.heap.size, 0, none⟩) ∧ s51 = .bool (!Tab.follows st.ls a o) ∧ Below W1.heap.size W1 wx)
      case first =>
        generalize Tab.follows st.ls a o = F at *
        go_region_with (go_at_call 82; refine (HFO.out _ (by exact OWN1.out)).mono ?_; rintro e w3 ⟨rfl, hb3⟩; have HB3 := hid' hb3; clear hb3)
        all_goals
          go_wp2_with fail
          go_meet
          case rel => exact ⟨rfl, rfl, (Below.refl _ W1).drew.trans HB3.out⟩
      case rest =>
        obtain ⟨rfl, rfl, bel8⟩ := hcut
        rename World => W2
        have ROW2 := hid' ((bel8.block _ (lt_of_heap ROW1.out)).trans ROW1.out)
        have OWN2 := hid' (own_down OWN1.out bel8)
        have WO2 := hid' (own_down WO1.out bel8)
        have row8 := (bel8.block _ hl7).trans LROW1.out
        have d02 := cell_of_row _ _ 0 _ _ _ row8
        have d12 := cell_of_row _ _ 1 _ _ _ row8
        simp at d02 d12
        have e32 := cell_of_row _ _ 3 _ _ _ ROW2.out
        simp at e32
        have f32 := frozen_of_row _ _ 3 _ _ ROW2.out
        have hs8 := bel8.size
        have hbR2 := lt_of_heap ROW2.out
        have e33 : (W2.alloc (.cells #[.int .i64 a, .int .i64 o] 49)).cell? ⟨bR, 3, none⟩ = some lv := by
          rw [((Below.refl W2.heap.size W2).alloc (Nat.le_refl _) (.cells #[.int .i64 a, .int .i64 o] 49)).cell (p := ⟨bR, 3, none⟩) hbR2]; exact e32
        have BEL2 := hid' (BEL1.out.trans (bel8.mono (by omega)))
        clear bel8 row8 d0 d1 e3 ROW1 OWN1 WO1 LROW1 BEL1 HFO
        have hk40 := HLEN.out
        cases hF : Tab.follows st.ls a o with
        | false =>
          have H : Hid ((Txt.takeE st ws).1 = 5) := by show _ = _; rw [HE.out, if_pos hF]
          clear hF
          go_wp2
          go_ret
          exact ⟨ret_int H.out.symm, no_err H.out (by decide), BEL2.out⟩
        | true =>
          have H : Hid ((Txt.takeE st ws).1 = 0) := by show _ = _; rw [HE.out, if_neg (by rw [hF]; decide)]
          clear hF
          go_upto_region 10 with fail
          go_cut [5] from 6 (fun _ wx => Ent W0 bR st a o Bw (.slice (some ⟨g, 0, none⟩) ws.length cap) ws wx)
          case first =>
            go_region_law ((refine step_append_lies _ ?_ (.tmp 56) (.tmp 58) 27 ?_ (bR + 1) 49 i0 (.agg #[.int .i64 0, .int .i64 0]) 2 16 Tryz.underlying27 hi0 hz0 hz1 hz2 rfl (by decide) lv st.ls.length (flat st.ls) ?_ ?_ ⟨W2.heap.size, 0, none⟩ 1 1 [.int .i64 a, .int .i64 o] ?_ ?_ ?_ ?_ ?_ ?_ ?_ ?_ (W2.heap.size + 1) ?_ ?_; exact rfl; exact rfl; exact rfl; exact (OWN2.out.alloc _).drew; exact rfl; exact rfl; exact (World.news_of_block (cs := #[.int .i64 a, .int .i64 o]) (t := 49) (fr := (0, 0)) (heap_alloc_new W2 _)); (simp [Value.oneCell']); decide; (unfold maxLen; omega); omega; (simp; omega); (simp); intro gg cap3 w3 hown3 hgrow hat hlt3; have R3 := hid' (grown_heap (w := (W2.alloc (.cells #[.int .i64 a, .int .i64 o] 49)).drew) hgrow ((OWN2.out.alloc _).drew) ((Below.heap_alloc _ _ _ (by omega)).trans ROW2.out) (by decide)); have d3 := cell_of_row _ _ 3 _ _ _ R3.out; have g3 := frozen_of_row _ _ 3 _ _ R3.out; (simp at d3); have OWN3 := hid' hown3; have HG3 := hid' hgrow; clear hown3 hgrow hat))
            all_goals
              go_wp2_with fail
              go_meet
              case rel =>
                refine ⟨.slice (some ⟨gg, 0, none⟩) (st.ls.length + 1) cap3, ?_, ?_, ?_, ?_⟩
                · rw [heap_setCell_same _ _ _ _ _ _ R3.out]; simp
                · rw [flat_append, List.length_append]; exact own_set (p := ⟨bR, 3, none⟩) OWN3.out R3.out (by decide) _
                · exact own_set (p := ⟨bR, 3, none⟩) (own_grown ((WO2.out.alloc _).drew) HG3.out ((OWN2.out.alloc _).drew) (by decide)) R3.out (by decide) _
                · exact (((BEL2.out.alloc (by omega) _).drew.grown HG3.out (by simp; omega) (fun k hk => Nat.le_of_succ_le (own_ge OWN2.out k hk))).setCell (p := ⟨bR, 3, none⟩) (Nat.le_refl _) _)
          case rest =>
            obtain ⟨lv', row9, own9, wo9, bel9⟩ := hcut
            rename World => W3
            have c4 := cell_of_row _ _ 4 _ _ _ row9
            simp at c4
            have f4 := frozen_of_row _ _ 4 _ _ row9
            have k0 : W3.cell? ⟨g, 0, none⟩ = some (.string s0) := by
              rw [wo9.cellAt 0 (by omega), List.getElem?_map, List.getElem?_eq_getElem (by omega), ← hs0, List.getD_eq_getElem?_getD, List.getElem?_eq_getElem (by omega)]; rfl
            have k1 : W3.cell? ⟨g, 1, none⟩ = some (.string s1) := by
              rw [wo9.cellAt 1 (by omega), List.getElem?_map, List.getElem?_eq_getElem (by omega), ← hs1, List.getD_eq_getElem?_getD, List.getElem?_eq_getElem (by omega)]; rfl
            have R9 := hid' row9
            have OWN9 := hid' own9
            have BEL9 := hid' bel9
            clear row9 own9 wo9 bel9 d02 d12 e32 e33 f32 ROW2 OWN2 WO2 BEL2
            go_wp2_with fail
            go_region
            all_goals
              go_wp2
              go_ret
              refine ⟨ret_int H.out.symm, fun _ => ?_, (BEL9.out.setCell (p := ⟨bR, 4, none⟩) (Nat.le_refl _) _).drew⟩
              rw [HS.out, HEO.out]
              refine ⟨lv', ?_, own_set (p := ⟨bR, 4, none⟩) OWN9.out R9.out (by decide) _⟩
              have e4 := heap_setCell_same _ bR 4 _ _ (.string (st.dg ++ (s0 ++ s1))) R9.out
              have e5 : (W3.setCell ⟨bR, 4, none⟩ (.string (st.dg ++ (s0 ++ s1)))).heap[bR]? = some (.cells #[.string st.u, .string st.x, .string st.h, lv', .string (st.dg ++ (s0 ++ s1))] 114 (0, 0)) := by simpa using e4
              exact e5
end Go.Proofs.YtmmkhodaljpjgabGreatDoor
