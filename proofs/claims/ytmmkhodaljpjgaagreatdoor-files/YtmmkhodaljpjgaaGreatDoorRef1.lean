import Derived.Test.YtmmkhodaljpjgaaGreatDoorFile3
import Derived.Test.YtmmkhodaljpjgaaGreatDoorRTxt
import Derived.StillTactics
import Derived.Deep.DrawnRows
import Derived.Deep.RegionLaw
import Derived.Deep.QuietTactic
import Derived.BigQuiet
import Derived.BigRegion
/-! The document's file: a line of one number. -/
namespace Go.Proofs.YtmmkhodaljpjgaaGreatDoor
open Go.RowKit

def has (u : ByteArray) : Bool := decide (u ≠ Txt.em)
/-- The first k of some texts, one behind the other. -/
def joinTo (ws : List ByteArray) : Nat → ByteArray
  | 0 => Txt.em
  | k + 1 => joinTo ws k ++ ws.getD k Txt.em
/-- The document's file, as it lies in memory. -/
def Rf (w : World) (bF : Nat) (st : Txt.St) : Prop := ∃ (lv wv : Value) (full : List ByteArray),
  w.heap[bF]? = some (.cells #[.int .i64 (Txt.numTo st.u st.u.size), .int .i64 (Txt.numTo st.x st.x.size), lv, .string st.dg, .bool (has st.u), .bool (has st.x), .bool (has st.h), wv] 143 (0, 0)) ∧
  w.ownsRow (bF + 1) 46 2 lv st.ls.length (flat st.ls) ∧ w.ownsRow (bF + 1) 9 1 wv full.length (full.map Value.string) ∧ (st.h ≠ Txt.em → full.length = 5 ∧ joinTo full 5 = st.h)

theorem own_away {w : World} {B e size n g cap b : Nat} {xs : List Value} {t : TypeId} {cs : Array Value} {fr : Nat × Nat} (h : w.ownsRow B e size (.slice (some ⟨g, 0, none⟩) n cap) n xs) (hb : w.heap[b]? = some (.cells cs t fr)) (hne : t ≠ e) : ¬ g = b := fun q => by
  rcases h.2 with ⟨h, _⟩ | ⟨g', cap', cur, h, _, hh, _⟩
  · cases h
  · cases h; subst q; rw [hh] at hb; simp at hb; exact hne hb.2.1.symm
theorem has_no {u : ByteArray} (h : u = Txt.em) : has u = false := by unfold has; simp [h]
theorem has_yes {u : ByteArray} (h : ¬ u = Txt.em) : has u = true := by unfold has; simp [h]
theorem num_em {s : ByteArray} (h : Txt.isNum s = true) : ¬ s = Txt.em := fun e => by
  have := (Txt.isNum_is h).1
  rw [e] at this
  exact this (.inl rfl)

set_option maxRecDepth 100000 in
set_option maxHeartbeats 1600000 in
theorem ref_special_u (bF : Nat) (st : Txt.St) (v : Value) (ws : List ByteArray) (w : World) (n : Nat) (hR : Rf w bF st) (hO : Txt.Ok st n) (hn : n ≤ 100000) (hW : Ws w v ws) :
    Calls Tryz.prog 124 #[.pointer (some ⟨bF, 0, none⟩), .int .u8 36, v] w fun e w' => e = .returned (.int .i64 (Txt.takeU st ws).1) ∧ ((Txt.takeU st ws).1 = 0 → Rf w' bF (Txt.takeU st ws).2) ∧ Below bF w w' := by
  obtain ⟨lv, wv, full, hrow, hown, hwv, hfull⟩ := hR
  have H : Hid ((Txt.takeU st ws).1 = Txt.once ws st.u) := rfl
  have HS : Hid ((Txt.takeU st ws).2 = { st with u := ws.getD 0 Txt.em, dg := st.dg ++ ws.getD 0 Txt.em }) := rfl
  have hlen := hW.len
  have hdg := hO.dg
  by_cases h1 : ws.length = 1
  · obtain ⟨Bw, hwo⟩ := hW.own
    obtain ⟨g, cap, rfl, hgl, hc⟩ := hW.at' (by omega)
    have hne := own_away hwo hrow (by decide)
    have hne' : ¬ bF = g := fun q => hne q.symm
    have c0 := hc 0 (by omega)
    have hsz := hW.sz 0
    have HN := hid' (ref_number (ws.getD 0 Txt.em) w (by omega))
    rw [h1]
    clear hc hwo
    cases hx : Txt.isNum (ws.getD 0 Txt.em) with
    | false =>
      have hE : Txt.once ws st.u = 3 := by unfold Txt.once; rw [if_neg (by omega), if_pos hx]
      rw [hE] at H
      rw [Txt.number_neg hx] at HN
      clear hx hE h1 hW hO hrow hown hwv hfull
      generalize ws.getD 0 Txt.em = s0 at *
      go_enter Tryz.func124, Tryz.ntmps124
      go_wp2_with (go_at_call 167; refine HN.out.mono ?_; rintro e w' ⟨rfl, rfl⟩)
      go_ret
      exact ⟨ret_int H.out.symm, no_err H.out (by decide), Below.refl _ _⟩
    | true =>
      rw [Txt.number_of hx] at HN
      have hv := Txt.numTo_le hx
      have h11 := Txt.size_num hx
      have HNE := hid' (num_em hx)
      have q4 := cell_of_row _ _ 4 _ _ _ hrow
      have q3 := cell_of_row _ _ 3 _ _ _ hrow
      have q0 := cell_of_row _ _ 0 _ _ _ hrow
      simp at q4 q3 q0
      have z4 := frozen_of_row _ _ 4 _ _ hrow
      have z3 := frozen_of_row _ _ 3 _ _ hrow
      have z0 := frozen_of_row _ _ 0 _ _ hrow
      by_cases hb : st.u = Txt.em
      · have hE : Txt.once ws st.u = 0 := by unfold Txt.once; rw [if_neg (by omega), if_neg (by rw [hx]; decide), if_neg (by simpa using hb)]
        rw [hE] at H
        rw [has_no hb] at q4
        have HROW := hid' hrow
        have HOWN := hid' hown
        have HWV := hid' hwv
        have HF := hid' hfull
        clear hx hE h1 hW hO hrow hown hwv hfull hb
        generalize ws.getD 0 Txt.em = s0 at *
        generalize hnu : Txt.numTo s0 s0.size = nu at *
        have HNU := hid' hnu
        clear hnu
        go_enter Tryz.func124, Tryz.ntmps124
        go_wp2_with (go_at_call 167; refine HN.out.mono ?_; rintro e w' ⟨rfl, rfl⟩)
        go_region
        all_goals
          go_wp2
          go_ret
          refine ⟨ret_int H.out.symm, fun _ => ?_, ((((Below.refl bF _).setCell (p := ⟨bF, 4, none⟩) (Nat.le_refl _) _).setCell (p := ⟨bF, 0, none⟩) (Nat.le_refl _) _).setCell (p := ⟨bF, 3, none⟩) (Nat.le_refl _) _).drew⟩
          rw [HS.out]
          have e1 := heap_setCell_same _ bF 4 _ _ (.bool true) HROW.out
          have e2 := heap_setCell_same _ bF 0 _ _ (.int .i64 nu) e1
          have e3 := heap_setCell_same _ bF 3 _ _ (.string (st.dg ++ s0)) e2
          refine ⟨lv, wv, full, ?_, own_set (p := ⟨bF, 3, none⟩) (own_set (p := ⟨bF, 0, none⟩) (own_set (p := ⟨bF, 4, none⟩) HOWN.out HROW.out (by decide) _) e1 (by decide) _) e2 (by decide) _, own_set (p := ⟨bF, 3, none⟩) (own_set (p := ⟨bF, 0, none⟩) (own_set (p := ⟨bF, 4, none⟩) HWV.out HROW.out (by decide) _) e1 (by decide) _) e2 (by decide) _, HF.out⟩
          show _ = some (Obj.cells #[.int .i64 (Txt.numTo s0 s0.size), .int .i64 (Txt.numTo st.x st.x.size), lv, .string (st.dg ++ s0), .bool (has s0), .bool (has st.x), .bool (has st.h), wv] 143 (0, 0))
          rw [HNU.out, has_yes HNE.out]
          refine Eq.trans (by rfl) (Eq.trans e3 ?_)
          simp
      · have hE : Txt.once ws st.u = 4 := by unfold Txt.once; rw [if_neg (by omega), if_neg (by rw [hx]; decide), if_pos hb]
        rw [hE] at H
        rw [has_yes hb] at q4
        clear hx hE h1 hW hO hrow hown hwv hfull hb
        generalize ws.getD 0 Txt.em = s0 at *
        generalize Txt.numTo s0 s0.size = nu at *
        go_enter Tryz.func124, Tryz.ntmps124
        go_wp2_with (go_at_call 167; refine HN.out.mono ?_; rintro e w' ⟨rfl, rfl⟩)
        go_ret
        exact ⟨ret_int H.out.symm, no_err H.out (by decide), Below.refl _ _⟩
  · have hE : Txt.once ws st.u = 3 := by unfold Txt.once; rw [if_pos h1]
    rw [hE] at H
    obtain ⟨ao, cap, rfl⟩ := hW.form
    have h1' : ((ws.length : Int) != 1) = true := bne_iff_ne.2 (by omega)
    clear h1 hW hE hO hrow hown hwv hfull
    go_enter Tryz.func124, Tryz.ntmps124
    go_wp2
    go_ret
    exact ⟨ret_int H.out.symm, no_err H.out (by decide), Below.refl _ _⟩

set_option maxRecDepth 100000 in
set_option maxHeartbeats 1600000 in
theorem ref_special_x (bF : Nat) (st : Txt.St) (v : Value) (ws : List ByteArray) (w : World) (n : Nat) (hR : Rf w bF st) (hO : Txt.Ok st n) (hn : n ≤ 100000) (hW : Ws w v ws) :
    Calls Tryz.prog 124 #[.pointer (some ⟨bF, 0, none⟩), .int .u8 64, v] w fun e w' => e = .returned (.int .i64 (Txt.takeX st ws).1) ∧ ((Txt.takeX st ws).1 = 0 → Rf w' bF (Txt.takeX st ws).2) ∧ Below bF w w' := by
  obtain ⟨lv, wv, full, hrow, hown, hwv, hfull⟩ := hR
  have H : Hid ((Txt.takeX st ws).1 = Txt.once ws st.x) := rfl
  have HS : Hid ((Txt.takeX st ws).2 = { st with x := ws.getD 0 Txt.em, dg := st.dg ++ ws.getD 0 Txt.em }) := rfl
  have hlen := hW.len
  have hdg := hO.dg
  by_cases h1 : ws.length = 1
  · obtain ⟨Bw, hwo⟩ := hW.own
    obtain ⟨g, cap, rfl, hgl, hc⟩ := hW.at' (by omega)
    have hne := own_away hwo hrow (by decide)
    have hne' : ¬ bF = g := fun q => hne q.symm
    have c0 := hc 0 (by omega)
    have hsz := hW.sz 0
    have HN := hid' (ref_number (ws.getD 0 Txt.em) w (by omega))
    rw [h1]
    clear hc hwo
    cases hx : Txt.isNum (ws.getD 0 Txt.em) with
    | false =>
      have hE : Txt.once ws st.x = 3 := by unfold Txt.once; rw [if_neg (by omega), if_pos hx]
      rw [hE] at H
      rw [Txt.number_neg hx] at HN
      clear hx hE h1 hW hO hrow hown hwv hfull
      generalize ws.getD 0 Txt.em = s0 at *
      go_enter Tryz.func124, Tryz.ntmps124
      go_wp2_with (go_at_call 167; refine HN.out.mono ?_; rintro e w' ⟨rfl, rfl⟩)
      go_ret
      exact ⟨ret_int H.out.symm, no_err H.out (by decide), Below.refl _ _⟩
    | true =>
      rw [Txt.number_of hx] at HN
      have hv := Txt.numTo_le hx
      have h11 := Txt.size_num hx
      have HNE := hid' (num_em hx)
      have q4 := cell_of_row _ _ 5 _ _ _ hrow
      have q3 := cell_of_row _ _ 3 _ _ _ hrow
      have q0 := cell_of_row _ _ 1 _ _ _ hrow
      simp at q4 q3 q0
      have z4 := frozen_of_row _ _ 5 _ _ hrow
      have z3 := frozen_of_row _ _ 3 _ _ hrow
      have z0 := frozen_of_row _ _ 1 _ _ hrow
      by_cases hb : st.x = Txt.em
      · have hE : Txt.once ws st.x = 0 := by unfold Txt.once; rw [if_neg (by omega), if_neg (by rw [hx]; decide), if_neg (by simpa using hb)]
        rw [hE] at H
        rw [has_no hb] at q4
        have HROW := hid' hrow
        have HOWN := hid' hown
        have HWV := hid' hwv
        have HF := hid' hfull
        clear hx hE h1 hW hO hrow hown hwv hfull hb
        generalize ws.getD 0 Txt.em = s0 at *
        generalize hnu : Txt.numTo s0 s0.size = nu at *
        have HNU := hid' hnu
        clear hnu
        go_enter Tryz.func124, Tryz.ntmps124
        go_wp2_with (go_at_call 167; refine HN.out.mono ?_; rintro e w' ⟨rfl, rfl⟩)
        go_region
        all_goals
          go_wp2
          go_ret
          refine ⟨ret_int H.out.symm, fun _ => ?_, ((((Below.refl bF _).setCell (p := ⟨bF, 5, none⟩) (Nat.le_refl _) _).setCell (p := ⟨bF, 1, none⟩) (Nat.le_refl _) _).setCell (p := ⟨bF, 3, none⟩) (Nat.le_refl _) _).drew⟩
          rw [HS.out]
          have e1 := heap_setCell_same _ bF 5 _ _ (.bool true) HROW.out
          have e2 := heap_setCell_same _ bF 1 _ _ (.int .i64 nu) e1
          have e3 := heap_setCell_same _ bF 3 _ _ (.string (st.dg ++ s0)) e2
          refine ⟨lv, wv, full, ?_, own_set (p := ⟨bF, 3, none⟩) (own_set (p := ⟨bF, 1, none⟩) (own_set (p := ⟨bF, 5, none⟩) HOWN.out HROW.out (by decide) _) e1 (by decide) _) e2 (by decide) _, own_set (p := ⟨bF, 3, none⟩) (own_set (p := ⟨bF, 1, none⟩) (own_set (p := ⟨bF, 5, none⟩) HWV.out HROW.out (by decide) _) e1 (by decide) _) e2 (by decide) _, HF.out⟩
          show _ = some (Obj.cells #[.int .i64 (Txt.numTo st.u st.u.size), .int .i64 (Txt.numTo s0 s0.size), lv, .string (st.dg ++ s0), .bool (has st.u), .bool (has s0), .bool (has st.h), wv] 143 (0, 0))
          rw [HNU.out, has_yes HNE.out]
          refine Eq.trans (by rfl) (Eq.trans e3 ?_)
          simp
      · have hE : Txt.once ws st.x = 4 := by unfold Txt.once; rw [if_neg (by omega), if_neg (by rw [hx]; decide), if_pos hb]
        rw [hE] at H
        rw [has_yes hb] at q4
        clear hx hE h1 hW hO hrow hown hwv hfull hb
        generalize ws.getD 0 Txt.em = s0 at *
        generalize Txt.numTo s0 s0.size = nu at *
        go_enter Tryz.func124, Tryz.ntmps124
        go_wp2_with (go_at_call 167; refine HN.out.mono ?_; rintro e w' ⟨rfl, rfl⟩)
        go_ret
        exact ⟨ret_int H.out.symm, no_err H.out (by decide), Below.refl _ _⟩
  · have hE : Txt.once ws st.x = 3 := by unfold Txt.once; rw [if_pos h1]
    rw [hE] at H
    obtain ⟨ao, cap, rfl⟩ := hW.form
    have h1' : ((ws.length : Int) != 1) = true := bne_iff_ne.2 (by omega)
    clear h1 hW hE hO hrow hown hwv hfull
    go_enter Tryz.func124, Tryz.ntmps124
    go_wp2
    go_ret
    exact ⟨ret_int H.out.symm, no_err H.out (by decide), Below.refl _ _⟩

end Go.Proofs.YtmmkhodaljpjgaaGreatDoor
