import Derived.Test.YtmmkhodaljpjgabGreatDoorW11
namespace Go.Proofs.YtmmkhodaljpjgabGreatDoor
open Go.RowKit
attribute [local go_sem ↓] Go.wp_at_zero Go.wp_at_succ
/-- The list of what has begun grows. -/
theorem PRow.putD {b : Nat} {s : Sv} {dv cv dv' : Value} {op : Bool} {bs bf : Int} {w w1 : World} {L : List (Int × Int)} (h : PRow b s dv cv op bs bf w) (hg : w.grownBy w1 dv.ownBlock) (ho : w1.ownsRow 0 49 2 dv' L.length (flat L)) :
    PRow b { s with done := L } dv' cv op bs bf (w1.setCell ⟨b, 9, none⟩ dv') := by
  have row := grown_heap (t := 72) hg h.dd h.row (by decide)
  have kc := own_grown h.cc hg h.dd (by decide)
  refine ⟨?_, own_set (p := ⟨b, 9, none⟩) ho row (by decide) _, own_set (p := ⟨b, 9, none⟩) kc row (by decide) _, h.sl⟩
  rw [heap_setCell_same _ _ _ _ _ _ row]; rfl
/-- A window opens. -/
theorem PRow.putO {b : Nat} {s : Sv} {dv cv : Value} {op : Bool} {bs bf x y : Int} {w : World} (h : PRow b s dv cv op bs bf w) : PRow b s dv cv true x y (((w.setCell ⟨b, 44, none⟩ (.bool true)).setCell ⟨b, 45, none⟩ (.int .i64 x)).setCell ⟨b, 46, none⟩ (.int .i64 y)) := by
  have r0 := h.row
  have r1 := heap_setCell_same _ _ 44 _ _ (.bool true) r0
  have r2 := heap_setCell_same _ _ 45 _ _ (.int .i64 x) r1
  have ow : ∀ {B e size n : Nat} {v : Value} {xs : List Value}, w.ownsRow B e size v n xs → 72 ≠ e → (((w.setCell ⟨b, 44, none⟩ (.bool true)).setCell ⟨b, 45, none⟩ (.int .i64 x)).setCell ⟨b, 46, none⟩ (.int .i64 y)).ownsRow B e size v n xs := fun o he =>
    own_set (p := ⟨b, 46, none⟩) (own_set (p := ⟨b, 45, none⟩) (own_set (p := ⟨b, 44, none⟩) o r0 he _) r1 he _) r2 he _
  refine ⟨?_, ow h.dd (by decide), ow h.cc (by decide), h.sl⟩
  rw [heap_setCell_same _ _ _ _ _ _ r2]; rfl
/-- What letBegin leaves. -/
def BegP (b : Nat) (s : Sv) (dv cv : Value) (a o x y : Int) (w w' : World) : Prop := ∃ dv', PRow b { s with done := s.done ++ [(a, o)] } dv' cv true x y w' ∧ Off (pFoot b dv cv) w w' ∧ ∀ k, dv'.ownBlock = some k → dv.ownBlock = some k ∨ w.heap.size ≤ k
set_option maxRecDepth 100000 in
set_option maxHeartbeats 6400000 in
theorem let_begin (b : Nat) (s : Sv) (dv cv : Value) (op : Bool) (bs bf a o x y : Int) (v : Bool) (w : World) (h : PRow b s dv cv op bs bf w) (hl : s.done.length ≤ 900) :
    Calls Tryz.prog 97 #[.pointer (some ⟨b, 0, none⟩), .agg #[.int .i64 a, .int .i64 o, .int .i64 x, .int .i64 y, .bool v]] w fun e w' => e = .returned (.tuple #[]) ∧ BegP b s dv cv a o x y w w' := by
  obtain ⟨i0, hi0, hz0, hz1, hz2⟩ := info_parts infoALeap
  have B0 := hid' ((Below.refl w.heap.size w).alloc (Nat.le_refl _) (.cells #[.int .i64 a, .int .i64 o, .int .i64 x, .int .i64 y, .bool v] 84))
  have R0 := hid' (heap_alloc_new w (.cells #[.int .i64 a, .int .i64 o, .int .i64 x, .int .i64 y, .bool v] 84))
  have P0 := hid' (h.below B0.out)
  have lb0 := lt_of_heap h.row
  obtain ⟨da, dcp, hdv⟩ := own_slice h.dd
  subst hdv
  clear h
  go_enter Tryz.func97, Tryz.ntmps97
  go_upto_region 1 with fail
  have O0 := hid' (Off.of_below (F := pFoot b (.slice da s.done.length dcp) cv) B0.out)
  have hq0 : b ≠ w.heap.size := by omega
  have ls := B0.out.size
  generalize hV : w.alloc (.cells #[.int .i64 a, .int .i64 o, .int .i64 x, .int .i64 y, .bool v] 84) = V at *
  generalize hQ : w.heap.size = Q at *
  clear hV
  have q7 := P0.out.c9
  have f7 := frozen_of_row _ _ 9 _ _ P0.out.row
  have d0 := cell_of_row _ _ 0 _ _ _ R0.out
  have d1 := cell_of_row _ _ 1 _ _ _ R0.out
  have lb := lt_of_heap P0.out.row
  have lq := lt_of_heap R0.out
  simp at d0 d1
  have fz : ∀ o, (V.alloc o).frozen? ⟨b, 9, none⟩ = false := fun o => frozen_of_row _ _ 9 _ _ ((Keep.refl _ V).alloc o _ _ _ P0.out.row)
  go_cut [3] from 4 (fun s3 wx => s3 = .pointer (some ⟨Q, 0, none⟩) ∧ wx.heap[Q]? = some (.cells #[.int .i64 a, .int .i64 o, .int .i64 x, .int .i64 y, .bool v] 84 (0, 0)) ∧ ∃ dv', PRow b { s with done := s.done ++ [(a, o)] } dv' cv op bs bf wx ∧ Off (pFoot b (.slice da s.done.length dcp) cv) w wx ∧ ∀ k, dv'.ownBlock = some k → (Value.slice da s.done.length dcp).ownBlock = some k ∨ Q ≤ k)
  case first =>
    go_region_law ((refine step_append_lies _ ?_ (.tmp 9) (.tmp 15) 27 ?_ 0 49 i0 (.agg #[.int .i64 0, .int .i64 0]) 2 16 Tryz.underlying27 hi0 hz0 hz1 hz2 rfl (by decide) (.slice da s.done.length dcp) s.done.length (flat s.done) ?_ ?_ ⟨V.heap.size, 0, none⟩ 1 1 [.int .i64 a, .int .i64 o] ?_ ?_ ?_ ?_ ?_ ?_ ?_ ?_ (V.heap.size + 1) ?_ ?_; exact rfl; exact rfl; exact rfl; exact (P0.out.dd.alloc _).drew; exact rfl; exact rfl; exact (World.news_of_block (cs := #[.int .i64 a, .int .i64 o]) (t := 49) (fr := (0, 0)) (heap_alloc_new V _)); (simp [Value.oneCell']); decide; (unfold maxLen; omega); omega; omega; (simp); intro gg cap6 w6 own6 hg6 hat6 hlt6; have S6 := hid' (grown_heap (w := (V.alloc (.cells #[.int .i64 a, .int .i64 o] 49)).drew) (t := 72) hg6 (P0.out.dd.alloc _).drew ((Keep.refl _ V).alloc _ _ _ _ P0.out.row) (by decide)); have C6 := hid' (grown_heap (w := (V.alloc (.cells #[.int .i64 a, .int .i64 o] 49)).drew) (t := 84) hg6 (P0.out.dd.alloc _).drew ((Keep.refl _ V).alloc _ _ _ _ R0.out) (by decide)); have c67 : w6.cell? ⟨b, 9, none⟩ = some (.slice da s.done.length dcp) := cell_of_row _ _ 9 _ _ _ S6.out; have f67 := frozen_of_row _ _ 9 _ _ S6.out; have OWN6 := hid' own6; have HG6 := hid' hg6; have HAT6 := hid' hat6; clear own6 hg6 hat6))
    all_goals
      go_wp2_with fail
      go_meet
      case rel =>
        have ba6 := ((Below.refl V.heap.size V).alloc (Nat.le_refl _) (.cells #[.int .i64 a, .int .i64 o] 49)).drew
        refine ⟨rfl, ?_, _, (P0.out.below ba6).putD (L := s.done ++ [(a, o)]) (by exact HG6.out) (by rw [flat_append, List.length_append]; exact OWN6.out), ?_, fun k e => ?_⟩
        · rw [heap_setCell_other _ _ _ _ (by simp only; omega)]; exact C6.out
        · refine ((O0.out.then ba6).grown (by exact HG6.out) (fun k e _ => .inr (.inl e))).setCell (fun _ => .inl rfl) _
        · obtain rfl : gg = k := by simpa [Value.ownBlock] using e
          rcases HAT6.out with q | q
          · exact .inl q
          · exact .inr (by omega)
  case rest =>
    obtain ⟨rfl, crow, dv', pr, off, hat⟩ := hcut
    rename World => W2
    have PR := hid' pr
    have OF := hid' off
    have HA := hid' hat
    have e2 := cell_of_row _ _ 2 _ _ _ crow
    have e3 := cell_of_row _ _ 3 _ _ _ crow
    have g10 := pr.c44
    have g11 := pr.c45
    have g12 := pr.c46
    have f10 := frozen_of_row _ _ 44 _ _ pr.row
    have f11 := frozen_of_row _ _ 45 _ _ pr.row
    have f12 := frozen_of_row _ _ 46 _ _ pr.row
    simp at e2 e3
    have hq1 : Q ≠ b := fun q => hq0 q.symm
    clear pr off hat crow q7 f7 d0 d1 fz
    go_wp2
    go_end0
    refine ⟨rfl, dv', PR.out.putO, ((OF.out.setCell (p := ⟨b, 44, none⟩) (fun _ => .inl rfl) _).setCell (p := ⟨b, 45, none⟩) (fun _ => .inl rfl) _).setCell (p := ⟨b, 46, none⟩) (fun _ => .inl rfl) _, fun k e => ?_⟩
    rw [hQ]
    exact HA.out k e
end Go.Proofs.YtmmkhodaljpjgabGreatDoor
