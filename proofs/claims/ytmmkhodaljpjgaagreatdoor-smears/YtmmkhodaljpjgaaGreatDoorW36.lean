import Derived.Test.YtmmkhodaljpjgaaGreatDoorW35
import Derived.Test.YtmmkhodaljpjgaaGreatDoorW11
namespace Go.Proofs.YtmmkhodaljpjgaaGreatDoor
open Go.RowKit
/-- The server and the file while the file is taken. -/
structure LdV (b : Nat) (F : Nat → Prop) (w : World) (tb : Nat) (gu gx : Int) (lv : Value) (gl : List (Int × Int)) (s : Sv) (dv bv cv hv : Value) (wr : World) : Prop where
  r : RSrv b s dv bv cv hv wr
  off : Off F w wr
  foot : ∀ k, rFoot b dv bv cv hv k → F k ∨ w.heap.size ≤ k
  row : wr.heap[tb]? = some (.cells #[.int .i64 gu, .int .i64 gx, lv] 33 (0, 0))
  own : wr.ownsRow w.heap.size 46 2 lv gl.length (flat gl)
  ne : ∀ k, lv.ownBlock = some k → dv.ownBlock ≠ some k
def LdAt (b : Nat) (F : Nat → Prop) (w : World) (tb : Nat) (gu gx : Int) (lv : Value) (gl : List (Int × Int)) (s : Sv) (wr : World) : Prop := ∃ dv bv cv hv, LdV b F w tb gu gx lv gl s dv bv cv hv wr
theorem LdV.below {b : Nat} {F : Nat → Prop} {w : World} {tb : Nat} {gu gx : Int} {lv : Value} {gl : List (Int × Int)} {s : Sv} {dv bv cv hv : Value} {W W' : World} (h : LdV b F w tb gu gx lv gl s dv bv cv hv W) (hb : Below W.heap.size W W') : LdV b F w tb gu gx lv gl s dv bv cv hv W' :=
  ⟨h.r.below hb, h.off.then hb, h.foot, (hb.block _ (lt_of_heap h.row)).trans h.row, own_down h.own hb, h.ne⟩
theorem LdV.post {b : Nat} {F : Nat → Prop} {w : World} {tb : Nat} {gu gx : Int} {lv : Value} {gl : List (Int × Int)} {s : Sv} {dv bv cv hv : Value} {W : World} (h : LdV b F w tb gu gx lv gl s dv bv cv hv W) : RPost b F w s W := ⟨dv, bv, cv, hv, h.r, h.off, h.foot⟩
theorem LdV.lv_lt {b : Nat} {F : Nat → Prop} {w : World} {tb : Nat} {gu gx : Int} {lv : Value} {gl : List (Int × Int)} {s : Sv} {dv bv cv hv : Value} {W : World} (h : LdV b F w tb gu gx lv gl s dv bv cv hv W) (k : Nat) (hk : lv.ownBlock = some k) : k < W.heap.size := by
  obtain ⟨_, _, hh⟩ := own_typ h.own hk; exact lt_of_heap hh
/-- An entry more has begun. -/
theorem LdV.putD {b : Nat} {F : Nat → Prop} {w : World} {tb : Nat} {gu gx : Int} {lv : Value} {gl : List (Int × Int)} {s : Sv} {dv bv cv hv dv' : Value} {W w2 : World} {L : List (Int × Int)} (h : LdV b F w tb gu gx lv gl s dv bv cv hv W)
    (hg : W.grownBy w2 dv.ownBlock) (own : w2.ownsRow 0 46 2 dv' L.length (flat L)) (hat : ∀ k, dv'.ownBlock = some k → dv.ownBlock = some k ∨ W.heap.size ≤ k) : LdAt b F w tb gu gx lv gl { s with done := L } (w2.setCell ⟨b, 8, none⟩ dv') := by
  have sz := h.off.size
  obtain ⟨dv1, bv1, cv1, hv1, r1, o1, f1⟩ := rpost_D h.r h.off h.foot hg own (fun k e => by
    rcases hat k e with q | q
    · exact .inl q
    · exact .inr (by omega))
  have row2 := grown_heap (t := 119) hg h.r.dd h.r.row (by decide)
  have trow2 := grown_heap (t := 33) hg h.r.dd h.row (by decide)
  have hl2 : w2.ownsRow w.heap.size 46 2 lv gl.length (flat gl) := own_same h.own (fun k e => hg.block k (h.lv_lt k e) (fun q => h.ne k e q.symm))
  refine ⟨dv1, bv1, cv1, hv1, r1, o1, f1, ?_, own_set (p := ⟨b, 8, none⟩) hl2 row2 (by decide) _, fun k e q => ?_⟩
  · exact ((Keep.refl 33 w2).setCell (p := ⟨b, 8, none⟩) row2 (by decide) dv') _ _ _ trow2
  · have e1 : dv1 = dv' := by
      have r := r1.row
      rw [heap_setCell_same _ _ _ _ _ _ row2] at r
      simp at r
      exact r.1.symm
    rw [e1] at q
    rcases hat k q with c | c
    · exact h.ne k e c
    · have := h.lv_lt k e; omega
theorem LdV.putB {b : Nat} {F : Nat → Prop} {w : World} {tb : Nat} {gu gx : Int} {lv : Value} {gl : List (Int × Int)} {s : Sv} {dv bv cv hv bv' : Value} {W w2 : World} {L : List (Int × Int)} (h : LdV b F w tb gu gx lv gl s dv bv cv hv W)
    (hg : W.grownBy w2 bv.ownBlock) (own : w2.ownsRow 0 35 2 bv' L.length (flat L)) (hat : ∀ k, bv'.ownBlock = some k → bv.ownBlock = some k ∨ W.heap.size ≤ k) : LdAt b F w tb gu gx lv gl { s with began := L } (w2.setCell ⟨b, 9, none⟩ bv') := by
  have sz := h.off.size
  obtain ⟨dv1, bv1, cv1, hv1, r1, o1, f1⟩ := rpost_B h.r h.off h.foot hg own (fun k e => by
    rcases hat k e with q | q
    · exact .inl q
    · exact .inr (by omega))
  have row2 := grown_heap (t := 119) hg h.r.bb h.r.row (by decide)
  have trow2 := grown_heap (t := 33) hg h.r.bb h.row (by decide)
  have hl2 := own_grown h.own hg h.r.bb (by decide)
  refine ⟨dv1, bv1, cv1, hv1, r1, o1, f1, ?_, own_set (p := ⟨b, 9, none⟩) hl2 row2 (by decide) _, fun k e => ?_⟩
  · exact ((Keep.refl 33 w2).setCell (p := ⟨b, 9, none⟩) row2 (by decide) bv') _ _ _ trow2
  · have e1 : dv1 = dv := by
      have r := r1.row
      rw [heap_setCell_same _ _ _ _ _ _ row2] at r
      simp at r
      exact r.1.symm
    rw [e1]
    exact h.ne k e
theorem LdV.putC {b : Nat} {F : Nat → Prop} {w : World} {tb : Nat} {gu gx : Int} {lv : Value} {gl : List (Int × Int)} {s : Sv} {dv bv cv hv cv' : Value} {W w2 : World} {L : List Cm} (h : LdV b F w tb gu gx lv gl s dv bv cv hv W)
    (hg : W.grownBy w2 cv.ownBlock) (own : w2.ownsRow 0 123 5 cv' L.length (flatC L)) (hat : ∀ k, cv'.ownBlock = some k → cv.ownBlock = some k ∨ W.heap.size ≤ k) : LdAt b F w tb gu gx lv gl { s with com := L } (w2.setCell ⟨b, 10, none⟩ cv') := by
  have sz := h.off.size
  have row2 := grown_heap (t := 119) hg h.r.cc h.r.row (by decide)
  have trow2 := grown_heap (t := 33) hg h.r.cc h.row (by decide)
  have hl2 := own_grown h.own hg h.r.cc (by decide)
  have d2 := own_grown h.r.dd hg h.r.cc (by decide)
  have b2 := own_grown h.r.bb hg h.r.cc (by decide)
  have s2 := own_grown h.r.ss hg h.r.cc (by decide)
  refine ⟨dv, bv, cv', hv, ⟨?_, own_set (p := ⟨b, 10, none⟩) d2 row2 (by decide) _, own_set (p := ⟨b, 10, none⟩) b2 row2 (by decide) _, own_set (p := ⟨b, 10, none⟩) own row2 (by decide) _, own_set (p := ⟨b, 10, none⟩) s2 row2 (by decide) _⟩, (h.off.grown hg (fun k e hk => ?_)).setCell (fun hk => ?_) _, fun k e => ?_, ?_, own_set (p := ⟨b, 10, none⟩) hl2 row2 (by decide) _, h.ne⟩
  · rw [heap_setCell_same _ _ _ _ _ _ row2]; rfl
  · rcases h.foot k (.inr (.inr (.inr (.inl e)))) with q | q
    · exact q
    · omega
  · rcases h.foot b (.inl rfl) with q | q
    · exact q
    · simp only at hk; omega
  · rcases e with e | e | e | e | e
    · exact h.foot k (.inl e)
    · exact h.foot k (.inr (.inl e))
    · exact h.foot k (.inr (.inr (.inl e)))
    · rcases hat k e with q | q
      · exact h.foot k (.inr (.inr (.inr (.inl q))))
      · exact .inr (by omega)
    · exact h.foot k (.inr (.inr (.inr (.inr e))))
  · exact ((Keep.refl 33 w2).setCell (p := ⟨b, 10, none⟩) row2 (by decide) cv') _ _ _ trow2
/-- The stamps of the file. -/
theorem LdV.putT {b : Nat} {F : Nat → Prop} {w : World} {tb : Nat} {gu gx : Int} {lv : Value} {gl : List (Int × Int)} {s : Sv} {dv bv cv hv : Value} {W : World} (h : LdV b F w tb gu gx lv gl s dv bv cv hv W) :
    LdAt b F w tb gu gx lv gl (s.stamp gu gx) ((((W.setCell ⟨b, 5, none⟩ (.bool true)).setCell ⟨b, 6, none⟩ (.int .i64 gu)).setCell ⟨b, 7, none⟩ (.int .i64 gx)).setCell ⟨b, 10, none⟩ (.slice none 0 0)) := by
  have r0 := h.r.row
  have r1 := heap_setCell_same _ _ 5 _ _ (.bool true) r0
  have r2 := heap_setCell_same _ _ 6 _ _ (.int .i64 gu) r1
  have r3 := heap_setCell_same _ _ 7 _ _ (.int .i64 gx) r2
  have ow : ∀ {B e size n : Nat} {v : Value} {xs : List Value}, W.ownsRow B e size v n xs → 119 ≠ e → ((((W.setCell ⟨b, 5, none⟩ (.bool true)).setCell ⟨b, 6, none⟩ (.int .i64 gu)).setCell ⟨b, 7, none⟩ (.int .i64 gx)).setCell ⟨b, 10, none⟩ (.slice none 0 0)).ownsRow B e size v n xs := fun o he =>
    own_set (p := ⟨b, 10, none⟩) (own_set (p := ⟨b, 7, none⟩) (own_set (p := ⟨b, 6, none⟩) (own_set (p := ⟨b, 5, none⟩) o r0 he _) r1 he _) r2 he _) r3 he _
  have bF : b < w.heap.size → F b := fun hk => by
    rcases h.foot b (.inl rfl) with q | q
    · exact q
    · omega
  refine ⟨dv, bv, .slice none 0 0, hv, ⟨?_, ow h.r.dd (by decide), ow h.r.bb (by decide), World.ownsRow_nil _ _ _ _, ow h.r.ss (by decide)⟩, (((h.off.setCell (p := ⟨b, 5, none⟩) bF _).setCell (p := ⟨b, 6, none⟩) bF _).setCell (p := ⟨b, 7, none⟩) bF _).setCell (p := ⟨b, 10, none⟩) bF _, fun k e => ?_, ?_, ow h.own (by decide), h.ne⟩
  · rw [heap_setCell_same _ _ _ _ _ _ r3]; rfl
  · rcases e with e | e | e | e | e
    · exact h.foot k (.inl e)
    · exact h.foot k (.inr (.inl e))
    · exact h.foot k (.inr (.inr (.inl e)))
    · simp [Value.ownBlock] at e
    · exact h.foot k (.inr (.inr (.inr (.inr e))))
  · exact ((((Keep.refl 33 W).setCell (p := ⟨b, 5, none⟩) r0 (by decide) _).setCell (p := ⟨b, 6, none⟩) r1 (by decide) _).setCell (p := ⟨b, 7, none⟩) r2 (by decide) _).setCell (p := ⟨b, 10, none⟩) r3 (by decide) _ _ _ _ h.row
end Go.Proofs.YtmmkhodaljpjgaaGreatDoor
