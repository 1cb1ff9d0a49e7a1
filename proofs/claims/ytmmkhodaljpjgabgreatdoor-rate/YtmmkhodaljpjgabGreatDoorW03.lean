import Derived.Test.YtmmkhodaljpjgabGreatDoorW02
import Derived.Deep.QuietTactic
import Derived.BigQuiet
import Derived.Deep.Cut
import Derived.Deep.CutBlock
import Derived.Deep.CutRange
namespace Go.Proofs.YtmmkhodaljpjgabGreatDoor
open Go.RowKit
theorem infoApiLeap : (Tryz.prog.info? 49).map (fun i => (i.zero, i.size, i.bytes)) = some (some (.agg #[.int .i64 0, .int .i64 0]), 2, 16) := by kernel_rfl
theorem mid_row0 {V : World} {b : Nat} {a x : Value} {o : Obj} (h0 : V.heap[b]? = some o) : ((V.setCell ⟨b + 1, 0, none⟩ a).setCell ⟨b + 1, 1, none⟩ x).heap[b]? = some o := by
  rw [heap_setCell_other _ _ _ _ (by simp), heap_setCell_other _ _ _ _ (by simp)]; exact h0
theorem mid_row1 {V : World} {b : Nat} {a x p q r : Value} {t : TypeId} (h1 : V.heap[b]? = some (.cells #[p, q, r] t (0, 0))) : ((V.setCell ⟨b, 0, none⟩ a).setCell ⟨b, 1, none⟩ x).heap[b]? = some (.cells #[a, x, r] t (0, 0)) := by
  have e1 := heap_setCell_same _ b 0 _ t a h1
  have e2 := heap_setCell_same _ b 1 _ t x e1
  simpa using e2
theorem mid_own {V : World} {b B n size : Nat} {a x p q r v : Value} {t e : TypeId} {xs : List Value} (h1 : V.heap[b]? = some (.cells #[p, q, r] t (0, 0))) (ho : V.ownsRow B e size v n xs) (hne : t ≠ e) :
    ((V.setCell ⟨b, 0, none⟩ a).setCell ⟨b, 1, none⟩ x).ownsRow B e size v n xs := by
  have e1 := heap_setCell_same _ b 0 _ t a h1
  exact own_set (p := ⟨b, 1, none⟩) (own_set (p := ⟨b, 0, none⟩) ho h1 hne a) e1 hne x
theorem put_row {V : World} {b : Nat} {a x y p q r : Value} {t : TypeId} (h1 : V.heap[b]? = some (.cells #[p, q, r] t (0, 0))) : (((V.setCell ⟨b, 0, none⟩ a).setCell ⟨b, 1, none⟩ x).setCell ⟨b, 2, none⟩ y).heap[b]? = some (.cells #[a, x, y] t (0, 0)) := by
  have e3 := heap_setCell_same _ b 2 _ t y (mid_row1 (a := a) (x := x) h1)
  simpa using e3
theorem put_own {V : World} {b B n size : Nat} {a x y p q r v : Value} {t e : TypeId} {xs : List Value} (h1 : V.heap[b]? = some (.cells #[p, q, r] t (0, 0))) (ho : V.ownsRow B e size v n xs) (hne : t ≠ e) :
    (((V.setCell ⟨b, 0, none⟩ a).setCell ⟨b, 1, none⟩ x).setCell ⟨b, 2, none⟩ y).ownsRow B e size v n xs :=
  own_set (p := ⟨b, 2, none⟩) (mid_own (a := a) (x := x) h1 ho hne) (mid_row1 (a := a) (x := x) h1) hne y
theorem own_mono {w : World} {B B' e size n : Nat} {v : Value} {xs : List Value} (h : w.ownsRow B e size v n xs) (hb : B' ≤ B) : w.ownsRow B' e size v n xs := by
  refine ⟨h.1, ?_⟩
  rcases h.2 with h | ⟨g, cap, cur, rfl, a, r⟩
  · exact .inl h
  · exact .inr ⟨g, cap, cur, rfl, by omega, r⟩
/-- What comes out. -/
def KSaid (w : World) (e : Ending) (w' : World) : Prop := ∃ (up ex : Int) (lv : Value) (ls : List (Int × Int)),
  e = .returned (.agg #[.int .i64 up, .int .i64 ex, lv]) ∧ w'.ownsRow w.heap.size 49 2 lv ls.length (flat ls) ∧ Tab.whole up ex ls = true ∧ ls.length ≤ 12 ∧ (∀ p ∈ ls, (0 ≤ p.1 ∧ p.1 ≤ 5000000000) ∧ 0 ≤ p.2 ∧ p.2 ≤ 200) ∧ 0 ≤ up ∧ up ≤ 5000000000 ∧ 0 ≤ ex ∧ ex ≤ 6000000000 ∧ Below w.heap.size w w' ∧ up = (ls.getD 0 (0, 0)).1
set_option maxRecDepth 100000 in
set_option maxHeartbeats 12800000 in
theorem keep_table (c : Int) (lo : Option Addr) (L lcap : Nat) (w : World) (wc : (Lit.int .i64 c).wf = true) (hI : Ints w lo L) (hL : L ≤ 9223372036854775807) :
    Calls Tryz.prog 16 #[.int .i64 c, .slice lo L lcap] w fun e w' => KSaid w e w' := by
  obtain ⟨i0, hi0, hz0, hz1, hz2⟩ := info_parts infoApiLeap
  have b40 := kpick_bd c 40 (by omega)
  have b7 := kpick_bd c 7 (by omega)
  have bx := kpick_bd c 100000000 (by omega)
  have HK40 := hid' (fun w => keep_pick c 40 w wc (by omega) (by omega))
  have HK7 := hid' (fun w => keep_pick c 7 w wc (by omega) (by omega))
  have HKX := hid' (fun w => keep_pick c 100000000 w wc (by omega) (by omega))
  have HI := hid' hI
  clear wc hI
  generalize kpick c 40 = p40 at *
  generalize kpick c 7 = p7 at *
  generalize kpick c 100000000 = px at *
  go_enter Tryz.func16, Tryz.ntmps16
  go_wp2_with fail
  refine (HK40.out _).mono ?_
  rintro e w' ⟨rfl, rfl⟩
  go_wp2_with fail
  refine (HK7.out _).mono ?_
  rintro e w' ⟨rfl, rfl⟩
  have HBel := hid' (((Below.refl w.heap.size w).alloc (Nat.le_refl _) (.cells #[.int .i64 0, .int .i64 0, .slice none 0 0] 29)).alloc (by simp) (.cells #[.int .i64 0, .int .i64 0, .slice none 0 0] 29))
  have HR0 := hid' (heap_alloc2_old w (.cells #[.int .i64 0, .int .i64 0, .slice none 0 0] 29) (.cells #[.int .i64 0, .int .i64 0, .slice none 0 0] 29))
  have HR1 := hid' (heap_alloc2_new w (.cells #[.int .i64 0, .int .i64 0, .slice none 0 0] 29) (.cells #[.int .i64 0, .int .i64 0, .slice none 0 0] 29))
  go_wp2_with fail
  go_loopw [5, 6, 7, 9, 10, 11, 12] (fun y m o i _ _ _ wr => ∃ (k : Nat) (yy mm oo : Int) (lv : Value) (ls : List (Int × Int)), y = .int .i64 yy ∧ m = .int .i64 mm ∧ o = .int .i64 oo ∧ i = .int .i64 k ∧ Tab.KS L k yy mm oo ls ∧
      wr.ownsRow (w.heap.size + 2) 49 2 lv k (flat ls) ∧ Below w.heap.size w wr ∧ wr.heap[w.heap.size]? = some (.cells #[.int .i64 0, .int .i64 0, .slice none 0 0] 29 (0, 0)) ∧ wr.heap[w.heap.size + 1]? = some (.cells #[.int .i64 0, .int .i64 0, lv] 29 (0, 0)))
    (fun _ _ _ i _ _ _ _ => 12 - (intOf i).toNat)
  case atStart => exact ⟨0, _, _, _, _, [], rfl, rfl, rfl, rfl, Tab.KS.start L _ _ (by omega) (by omega) (by omega) (by omega), World.ownsRow_nil _ _ _ _, HBel.out, HR0.out, HR1.out⟩
  case round =>
    clear HR0 HR1 HBel
    obtain ⟨k, y, m, o, lv, ls, rfl, rfl, rfl, rfl, hks, hown, hbw, hr0, hr1⟩ := hrel
    have t2 := cell_of_row _ _ 2 _ _ _ hr1
    simp at t2
    have fz2 := frozen_of_row _ _ 2 _ _ hr1
    have hsw := lt_of_heap hr1
    have HKS := hid' hks
    have OWN := hid' hown
    have HBW := hid' hbw
    have HR0 := hid' hr0
    have HR1 := hid' hr1
    have k12 := hks.k12
    have kn := hks.kn
    have y1 := hks.y1
    have y2 := hks.y2
    have m1 := hks.m1
    have m2 := hks.m2
    have o1 := hks.o1
    have o2 := hks.o2
    clear hks hown hbw hr0 hr1
    by_cases hgo : k ≤ L ∧ k < 12
    · obtain ⟨hkL, hk12⟩ := hgo
      have hmo := Tab.mo_bd y m (by omega) (by omega) m1 m2
      have HMO : Hid (Tab.mo y m = (Cal.yb y + Cal.cum y m + 1 - 1) * 86400) := by show _ = _; unfold Tab.mo; omega
      have db := Cal.dim_bd y m
      have HDAY := hid' (fun W => smear_day_yes y m 1 W (by omega) (by omega) m1 m2 (by omega) (by omega))
      rw [HMO.out] at hmo
      clear db
      generalize Cal.yb y + Cal.cum y m + 1 - 1 = n0 at *
      by_cases hkl : k < L
      · obtain ⟨b, off, rfl, hbl, hx⟩ := HI.out.some (by omega)
        obtain ⟨x, hx1, hx2⟩ := hx k hkl
        have bv := kpick_bd x 1099511627776 (by omega)
        have HPV := hid' (fun W => keep_pick x 1099511627776 W hx2 (by omega) (by omega))
        clear hx hx2
        generalize kpick x 1099511627776 = v at *
        have hbne : ¬ b = w.heap.size + 1 := by omega
        by_cases hm : 12 < m + 1 + v % 9
        · go_wp2_with (first
            | (go_at_call 27; refine (HDAY.out _).mono ?_; rintro e w1 ⟨rfl, rfl⟩)
            | (go_at_call 15; refine (HPV.out _).mono ?_; rintro e w2 ⟨rfl, rfl⟩)
            | (at_builtin; refine wpList_append_lies _ (by rfl) (.tmp 36) (.tmp 41) 27 (by rfl) (w.heap.size + 2) 49 i0 (.agg #[.int .i64 0, .int .i64 0]) 2 16 Tryz.underlying27 hi0 hz0 hz1 hz2 rfl (by decide) lv k (flat ls) (by rfl) (OWN.out.alloc _) ⟨w1.heap.size, 0, none⟩ 1 1 [.int .i64 (n0 * 86400), .int .i64 o] (by rfl) (by rfl) (World.news_of_block (cs := #[.int .i64 (n0 * 86400), .int .i64 o]) (heap_alloc_new w1 _)) (by simp [Value.oneCell']) (by decide) (by unfold maxLen; omega) (by omega) (by simp; omega) (w1.heap.size + 1) (by simp) ?_; intro g3 cap3 w3 own3 hg3 _ hlt3; have HR13 := hid' (grown_heap hg3 (OWN.out.alloc _) ((Below.heap_alloc _ _ _ (by omega)).trans HR1.out) (by decide)); have HR03 := hid' (grown_heap hg3 (OWN.out.alloc _) ((Below.heap_alloc _ _ _ (by omega)).trans HR0.out) (by decide)); have HB3 := hid' ((HBW.out.alloc (by omega) _).grown hg3 (by simp; omega) (fun k hk => Nat.le_of_succ_le (Nat.le_of_succ_le (own_ge OWN.out k hk)))); have OWN3 := hid' own3; have d2 := cell_of_row _ _ 2 _ _ _ HR13.out; (simp at d2); have f2 := frozen_of_row _ _ 2 _ _ HR13.out; have hx3 := (HB3.out.cell (p := ⟨b, off + k, none⟩) hbl).trans hx1; clear own3 hg3))
          go_roundw
          case rel =>
            refine ⟨k + 1, _, _, _, .slice (some ⟨g3, 0, none⟩) (k + 1) cap3, ls ++ [(Tab.mo y m, o)], rfl, rfl, rfl, by go_num, HKS.out.go hk12 hkL (by omega) (by omega) (by omega) (by omega) (by omega) (by omega), ?_, HB3.out.setCell (by show _ ≤ w.heap.size + 1; omega) _, ?_, ?_⟩
            · rw [flat_append, HMO.out]; exact own_set (p := ⟨w.heap.size + 1, 2, none⟩) OWN3.out HR13.out (by decide) _
            · rw [heap_setCell_other _ _ _ _ (by simp)]; exact HR03.out
            · rw [heap_setCell_same _ _ _ _ _ _ HR13.out]; simp
          case measure => simp [intOf]; omega
        · go_wp2_with (first
            | (go_at_call 27; refine (HDAY.out _).mono ?_; rintro e w1 ⟨rfl, rfl⟩)
            | (go_at_call 15; refine (HPV.out _).mono ?_; rintro e w2 ⟨rfl, rfl⟩)
            | (at_builtin; refine wpList_append_lies _ (by rfl) (.tmp 36) (.tmp 41) 27 (by rfl) (w.heap.size + 2) 49 i0 (.agg #[.int .i64 0, .int .i64 0]) 2 16 Tryz.underlying27 hi0 hz0 hz1 hz2 rfl (by decide) lv k (flat ls) (by rfl) (OWN.out.alloc _) ⟨w1.heap.size, 0, none⟩ 1 1 [.int .i64 (n0 * 86400), .int .i64 o] (by rfl) (by rfl) (World.news_of_block (cs := #[.int .i64 (n0 * 86400), .int .i64 o]) (heap_alloc_new w1 _)) (by simp [Value.oneCell']) (by decide) (by unfold maxLen; omega) (by omega) (by simp; omega) (w1.heap.size + 1) (by simp) ?_; intro g3 cap3 w3 own3 hg3 _ hlt3; have HR13 := hid' (grown_heap hg3 (OWN.out.alloc _) ((Below.heap_alloc _ _ _ (by omega)).trans HR1.out) (by decide)); have HR03 := hid' (grown_heap hg3 (OWN.out.alloc _) ((Below.heap_alloc _ _ _ (by omega)).trans HR0.out) (by decide)); have HB3 := hid' ((HBW.out.alloc (by omega) _).grown hg3 (by simp; omega) (fun k hk => Nat.le_of_succ_le (Nat.le_of_succ_le (own_ge OWN.out k hk)))); have OWN3 := hid' own3; have d2 := cell_of_row _ _ 2 _ _ _ HR13.out; (simp at d2); have f2 := frozen_of_row _ _ 2 _ _ HR13.out; have hx3 := (HB3.out.cell (p := ⟨b, off + k, none⟩) hbl).trans hx1; clear own3 hg3))
          go_roundw
          case rel =>
            refine ⟨k + 1, _, _, _, .slice (some ⟨g3, 0, none⟩) (k + 1) cap3, ls ++ [(Tab.mo y m, o)], rfl, rfl, rfl, by go_num, HKS.out.go hk12 hkL (by omega) (by omega) (by omega) (by omega) (by omega) (by omega), ?_, HB3.out.setCell (by show _ ≤ w.heap.size + 1; omega) _, ?_, ?_⟩
            · rw [flat_append, HMO.out]; exact own_set (p := ⟨w.heap.size + 1, 2, none⟩) OWN3.out HR13.out (by decide) _
            · rw [heap_setCell_other _ _ _ _ (by simp)]; exact HR03.out
            · rw [heap_setCell_same _ _ _ _ _ _ HR13.out]; simp
          case measure => simp [intOf]; omega
      · have hle : (k : Int) ≤ (L : Int) := by omega
        have hnl : ¬ (k : Int) < (L : Int) := by omega
        go_wp2_with (first
          | (go_at_call 27; refine (HDAY.out _).mono ?_; rintro e w1 ⟨rfl, rfl⟩)
          | (at_builtin; refine wpList_append_lies _ (by rfl) (.tmp 36) (.tmp 41) 27 (by rfl) (w.heap.size + 2) 49 i0 (.agg #[.int .i64 0, .int .i64 0]) 2 16 Tryz.underlying27 hi0 hz0 hz1 hz2 rfl (by decide) lv k (flat ls) (by rfl) (OWN.out.alloc _) ⟨w1.heap.size, 0, none⟩ 1 1 [.int .i64 (n0 * 86400), .int .i64 o] (by rfl) (by rfl) (World.news_of_block (cs := #[.int .i64 (n0 * 86400), .int .i64 o]) (heap_alloc_new w1 _)) (by simp [Value.oneCell']) (by decide) (by unfold maxLen; omega) (by omega) (by simp; omega) (w1.heap.size + 1) (by simp) ?_; intro g3 cap3 w3 own3 hg3 _ hlt3; have HR13 := hid' (grown_heap hg3 (OWN.out.alloc _) ((Below.heap_alloc _ _ _ (by omega)).trans HR1.out) (by decide)); have HR03 := hid' (grown_heap hg3 (OWN.out.alloc _) ((Below.heap_alloc _ _ _ (by omega)).trans HR0.out) (by decide)); have HB3 := hid' ((HBW.out.alloc (by omega) _).grown hg3 (by simp; omega) (fun k hk => Nat.le_of_succ_le (Nat.le_of_succ_le (own_ge OWN.out k hk)))); have OWN3 := hid' own3; have d2 := cell_of_row _ _ 2 _ _ _ HR13.out; (simp at d2); have f2 := frozen_of_row _ _ 2 _ _ HR13.out; clear own3 hg3))
        go_roundw
        case rel =>
          refine ⟨k + 1, _, _, _, .slice (some ⟨g3, 0, none⟩) (k + 1) cap3, ls ++ [(Tab.mo y m, o)], rfl, rfl, rfl, by go_num, HKS.out.stay hk12 hkL hkl, ?_, HB3.out.setCell (by show _ ≤ w.heap.size + 1; omega) _, ?_, ?_⟩
          · rw [flat_append, HMO.out]; exact own_set (p := ⟨w.heap.size + 1, 2, none⟩) OWN3.out HR13.out (by decide) _
          · rw [heap_setCell_other _ _ _ _ (by simp)]; exact HR03.out
          · rw [heap_setCell_same _ _ _ _ _ _ HR13.out]; simp
        case measure => simp [intOf]; omega
    · have hk0 : 0 < k := by omega
      obtain ⟨g, cap, rfl⟩ := own_some OWN.out hk0
      have hls := HKS.out.len
      have hge := own_ge OWN.out g rfl
      have hc0 : wr.cell? ⟨g, 0, none⟩ = some (.int .i64 (ls.getD 0 (0, 0)).1) := by
        have := OWN.out.cellAt (0 * 2) (by omega)
        rw [flat_at0 ls 0 (by omega)] at this
        rw [getD_at 0 (by omega)]; exact this
      have hck : wr.cell? ⟨g, (k - 1) * 2, none⟩ = some (.int .i64 (ls.getD (k - 1) (0, 0)).1) := by
        have := OWN.out.cellAt ((k - 1) * 2) (by omega)
        rw [flat_at0 ls (k - 1) (by omega)] at this
        rw [getD_at (k - 1) (by omega)]; exact this
      have hsm0 := HKS.out.small _ (List.getElem_mem (show 0 < ls.length by omega))
      have hsmk := HKS.out.small _ (List.getElem_mem (show k - 1 < ls.length by omega))
      rw [← getD_at 0 (by omega)] at hsm0
      rw [← getD_at (k - 1) (by omega)] at hsmk
      have HWH := hid' (HKS.out.whole hk0 px bx.1 bx.2)
      have HLS := hid' hls
      clear hls
      generalize hA0 : (ls.getD 0 (0, 0)).1 = a0 at *
      have HA0 := hid' hA0.symm
      clear hA0
      generalize (ls.getD (k - 1) (0, 0)).1 = ak at *
      obtain ⟨q, rfl⟩ : ∃ q, k = q + 1 := ⟨k - 1, by omega⟩
      simp only [Nat.add_sub_cancel] at hck
      have hgn : ¬ g = w.heap.size + 1 := by omega
      have u0 := cell_of_row _ _ 0 _ _ _ HR1.out
      have u1 := cell_of_row _ _ 1 _ _ _ HR1.out
      simp at u0 u1
      have fz0 := frozen_of_row _ _ 0 _ _ HR1.out
      have fz1 := frozen_of_row _ _ 1 _ _ HR1.out
      have v0 := cell_of_row _ _ 0 _ _ _ HR0.out
      have v1 := cell_of_row _ _ 1 _ _ _ HR0.out
      have v2 := cell_of_row _ _ 2 _ _ _ HR0.out
      simp at v0 v1 v2
      have gz0 := frozen_of_row _ _ 0 _ _ HR0.out
      have gz1 := frozen_of_row _ _ 1 _ _ HR0.out
      have gz2 := frozen_of_row _ _ 2 _ _ HR0.out
      have r0 : IntKind.i64.wrap ((q : Int) + 1 - 1) = (q : Int) := by rw [IntKind.wrap_i64]; omega
      have r0' : IntKind.i64.wrap (q : Int) = (q : Int) := by rw [IntKind.wrap_i64]; omega
      have r0'' : IntKind.i64.wrap (((q + 1 : Nat) : Int) - 1) = (q : Int) := by rw [IntKind.wrap_i64]; omega
      have r1 : IntKind.i64.wrap (ak + 1) = ak + 1 := by rw [IntKind.wrap_i64]; omega
      have r2 : IntKind.i64.wrap (ak + 1 + px) = ak + 1 + px := by rw [IntKind.wrap_i64]; omega
      have hq12 : q + 1 ≤ 12 := by omega
      clear HI HK40 HK7 hi0 hz0 hz1 hz2 b40 b7 kn y1 y2 m1 m2 o1 o2 hge hk0 k12
      have z0 : (0 : Int) ≤ (q : Int) := by omega
      have z1 : (q : Int) < (q : Int) + 1 := by omega
      have hq1 : q + 1 ≤ 12 := by omega
      have hstop : ¬ ((q : Int) + 1 ≤ (L : Int)) ∨ ((q : Int) + 1 ≤ (L : Int) ∧ ¬ ((q : Int) + 1 < 12)) := by omega
      clear hgo
      rcases hstop with hs1 | ⟨hs1, hs2⟩
      · go_upto_region 19 with fail
        go_cut [4] from 13 (fun s4 wc => s4 = .pointer (some ⟨w.heap.size, 0, none⟩) ∧ wc.heap[w.heap.size]? = some (.cells #[.int .i64 0, .int .i64 0, .slice none 0 0] 29 (0, 0)) ∧ wc.heap[w.heap.size + 1]? = some (.cells #[.int .i64 a0, .int .i64 (ak + 1 + px), .slice (some ⟨g, 0, none⟩) (q + 1) cap] 29 (0, 0)) ∧ wc.ownsRow (w.heap.size + 2) 49 2 (.slice (some ⟨g, 0, none⟩) (q + 1) cap) (q + 1) (flat ls) ∧ Below w.heap.size w wc)
        case first =>
          go_region_with (go_at_call 15; refine (HKX.out _).mono ?_; rintro e w2 ⟨rfl, rfl⟩)
          all_goals
            go_wp2_with fail
            go_meet
            case rel => exact ⟨rfl, mid_row0 HR0.out, mid_row1 HR1.out, mid_own HR1.out OWN.out (by decide), ((HBW.out.setCell (p := ⟨w.heap.size + 1, 0, none⟩) (by show _ ≤ w.heap.size + 1; omega) _).setCell (p := ⟨w.heap.size + 1, 1, none⟩) (by show _ ≤ w.heap.size + 1; omega) _).drew⟩
        case rest =>
          obtain ⟨rfl, r0, r1, ow, be⟩ := hcut
          have k0 := cell_of_row _ _ 0 _ _ _ r1
          have k1 := cell_of_row _ _ 1 _ _ _ r1
          have k2 := cell_of_row _ _ 2 _ _ _ r1
          simp at k0 k1 k2
          have l0 := cell_of_row _ _ 0 _ _ _ r0
          have l1 := cell_of_row _ _ 1 _ _ _ r0
          have l2 := cell_of_row _ _ 2 _ _ _ r0
          simp at l0 l1 l2
          have fr0 := frozen_of_row _ _ 0 _ _ r0
          have fr1 := frozen_of_row _ _ 1 _ _ r0
          have fr2 := frozen_of_row _ _ 2 _ _ r0
          have R0 := hid' r0
          have OW := hid' ow
          have BE := hid' be
          clear r0 r1 ow be HR0 HR1 OWN HBW hc0 hck u0 u1 fz0 fz1 v0 v1 v2 gz0 gz1 gz2 t2 fz2
          go_wp2
          refine bodyPost_ret (v := .agg #[.int .i64 a0, .int .i64 (ak + 1 + px), .slice (some ⟨g, 0, none⟩) (q + 1) cap]) (results_cell_row rfl _ _ w.heap.size 29 #[.int .i64 a0, .int .i64 (ak + 1 + px), .slice (some ⟨g, 0, none⟩) (q + 1) cap] (0, 0) _ rfl (put_row R0.out) Tryz.underlying29 rfl (by kernel_rfl)) rfl ?_
          refine ⟨a0, ak + 1 + px, .slice (some ⟨g, 0, none⟩) (q + 1) cap, ls, rfl, ?_, HWH.out, by rw [HLS.out]; omega, HKS.out.small, by omega, by omega, by omega, by omega, ?_, HA0.out⟩
          · rw [HLS.out]; exact own_mono (put_own R0.out OW.out (by decide)) (by omega)
          · exact ((BE.out.setCell (p := ⟨w.heap.size, 0, none⟩) (Nat.le_refl _) _).setCell (p := ⟨w.heap.size, 1, none⟩) (Nat.le_refl _) _).setCell (p := ⟨w.heap.size, 2, none⟩) (Nat.le_refl _) _
      · go_upto_region 19 with fail
        go_cut [4] from 13 (fun s4 wc => s4 = .pointer (some ⟨w.heap.size, 0, none⟩) ∧ wc.heap[w.heap.size]? = some (.cells #[.int .i64 0, .int .i64 0, .slice none 0 0] 29 (0, 0)) ∧ wc.heap[w.heap.size + 1]? = some (.cells #[.int .i64 a0, .int .i64 (ak + 1 + px), .slice (some ⟨g, 0, none⟩) (q + 1) cap] 29 (0, 0)) ∧ wc.ownsRow (w.heap.size + 2) 49 2 (.slice (some ⟨g, 0, none⟩) (q + 1) cap) (q + 1) (flat ls) ∧ Below w.heap.size w wc)
        case first =>
          go_region_with (go_at_call 15; refine (HKX.out _).mono ?_; rintro e w2 ⟨rfl, rfl⟩)
          all_goals
            go_wp2_with fail
            go_meet
            case rel => exact ⟨rfl, mid_row0 HR0.out, mid_row1 HR1.out, mid_own HR1.out OWN.out (by decide), ((HBW.out.setCell (p := ⟨w.heap.size + 1, 0, none⟩) (by show _ ≤ w.heap.size + 1; omega) _).setCell (p := ⟨w.heap.size + 1, 1, none⟩) (by show _ ≤ w.heap.size + 1; omega) _).drew⟩
        case rest =>
          obtain ⟨rfl, r0, r1, ow, be⟩ := hcut
          have k0 := cell_of_row _ _ 0 _ _ _ r1
          have k1 := cell_of_row _ _ 1 _ _ _ r1
          have k2 := cell_of_row _ _ 2 _ _ _ r1
          simp at k0 k1 k2
          have l0 := cell_of_row _ _ 0 _ _ _ r0
          have l1 := cell_of_row _ _ 1 _ _ _ r0
          have l2 := cell_of_row _ _ 2 _ _ _ r0
          simp at l0 l1 l2
          have fr0 := frozen_of_row _ _ 0 _ _ r0
          have fr1 := frozen_of_row _ _ 1 _ _ r0
          have fr2 := frozen_of_row _ _ 2 _ _ r0
          have R0 := hid' r0
          have OW := hid' ow
          have BE := hid' be
          clear r0 r1 ow be HR0 HR1 OWN HBW hc0 hck u0 u1 fz0 fz1 v0 v1 v2 gz0 gz1 gz2 t2 fz2
          go_wp2
          refine bodyPost_ret (v := .agg #[.int .i64 a0, .int .i64 (ak + 1 + px), .slice (some ⟨g, 0, none⟩) (q + 1) cap]) (results_cell_row rfl _ _ w.heap.size 29 #[.int .i64 a0, .int .i64 (ak + 1 + px), .slice (some ⟨g, 0, none⟩) (q + 1) cap] (0, 0) _ rfl (put_row R0.out) Tryz.underlying29 rfl (by kernel_rfl)) rfl ?_
          refine ⟨a0, ak + 1 + px, .slice (some ⟨g, 0, none⟩) (q + 1) cap, ls, rfl, ?_, HWH.out, by rw [HLS.out]; omega, HKS.out.small, by omega, by omega, by omega, by omega, ?_, HA0.out⟩
          · rw [HLS.out]; exact own_mono (put_own R0.out OW.out (by decide)) (by omega)
          · exact ((BE.out.setCell (p := ⟨w.heap.size, 0, none⟩) (Nat.le_refl _) _).setCell (p := ⟨w.heap.size, 1, none⟩) (Nat.le_refl _) _).setCell (p := ⟨w.heap.size, 2, none⟩) (Nat.le_refl _) _
end Go.Proofs.YtmmkhodaljpjgabGreatDoor
