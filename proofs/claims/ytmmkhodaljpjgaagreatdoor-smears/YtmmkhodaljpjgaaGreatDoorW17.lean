import Derived.Test.YtmmkhodaljpjgaaGreatDoorW16
import Derived.Test.YtmmkhodaljpjgaaGreatDoorW11
namespace Go.Proofs.YtmmkhodaljpjgaaGreatDoor
open Go.RowKit
attribute [local go_sem ↓] Go.wp_at_zero Go.wp_at_succ
/-- The list of what has begun grows. -/
theorem PRow.putD {b : Nat} {s : Sv} {dv cv dv' : Value} {op : Bool} {bs bf : Int} {w w1 : World} {L : List (Int × Int)} (h : PRow b s dv cv op bs bf w) (hg : w.grownBy w1 dv.ownBlock) (ho : w1.ownsRow 0 84 2 dv' L.length (flat L)) :
    PRow b { s with done := L } dv' cv op bs bf (w1.setCell ⟨b, 9, none⟩ dv') := by
  have row := grown_heap (t := 157) hg h.dd h.row (by decide)
  have kc := own_grown h.cc hg h.dd (by decide)
  refine ⟨?_, own_set (p := ⟨b, 9, none⟩) ho row (by decide) _, own_set (p := ⟨b, 9, none⟩) kc row (by decide) _, h.sl⟩
  rw [heap_setCell_same _ _ _ _ _ _ row]; rfl
/-- A window opens. -/
theorem PRow.putO {b : Nat} {s : Sv} {dv cv : Value} {op : Bool} {bs bf x y : Int} {w : World} (h : PRow b s dv cv op bs bf w) : PRow b s dv cv true x y (((w.setCell ⟨b, 44, none⟩ (.bool true)).setCell ⟨b, 45, none⟩ (.int .i64 x)).setCell ⟨b, 46, none⟩ (.int .i64 y)) := by
  have r0 := h.row
  have r1 := heap_setCell_same _ _ 44 _ _ (.bool true) r0
  have r2 := heap_setCell_same _ _ 45 _ _ (.int .i64 x) r1
  have ow : ∀ {B e size n : Nat} {v : Value} {xs : List Value}, w.ownsRow B e size v n xs → 157 ≠ e → (((w.setCell ⟨b, 44, none⟩ (.bool true)).setCell ⟨b, 45, none⟩ (.int .i64 x)).setCell ⟨b, 46, none⟩ (.int .i64 y)).ownsRow B e size v n xs := fun o he =>
    own_set (p := ⟨b, 46, none⟩) (own_set (p := ⟨b, 45, none⟩) (own_set (p := ⟨b, 44, none⟩) o r0 he _) r1 he _) r2 he _
  refine ⟨?_, ow h.dd (by decide), ow h.cc (by decide), h.sl⟩
  rw [heap_setCell_same _ _ _ _ _ _ r2]; rfl
/-- What letBegin leaves. -/
def BegP (b : Nat) (s : Sv) (dv cv : Value) (a o x y : Int) (w w' : World) : Prop := ∃ dv', PRow b { s with done := s.done ++ [(a, o)] } dv' cv true x y w' ∧ Off (pFoot b dv cv) w w' ∧ ∀ k, dv'.ownBlock = some k → dv.ownBlock = some k ∨ w.heap.size ≤ k
set_option maxRecDepth 100000 in
set_option maxHeartbeats 6400000 in
theorem let_begin (b : Nat) (s : Sv) (dv cv : Value) (op : Bool) (bs bf a o x y : Int) (v : Bool) (w : World) (h : PRow b s dv cv op bs bf w) (hl : s.done.length ≤ 900) :
    Calls Tryz.prog 197 #[.pointer (some ⟨b, 0, none⟩), .agg #[.int .i64 a, .int .i64 o, .int .i64 x, .int .i64 y, .bool v]] w fun e w' => e = .returned (.tuple #[]) ∧ BegP b s dv cv a o x y w w' := by
  obtain ⟨i0, hi0, hz0, hz1, hz2⟩ := info_parts infoALeap
  have B0 := hid' ((Below.refl w.heap.size w).alloc (Nat.le_refl _) (.cells #[.int .i64 a, .int .i64 o, .int .i64 x, .int .i64 y, .bool v] 121))
  have R0 := hid' (heap_alloc_new w (.cells #[.int .i64 a, .int .i64 o, .int .i64 x, .int .i64 y, .bool v] 121))
  have P0 := hid' (h.below B0.out)
  have lb0 := lt_of_heap h.row
  obtain ⟨da, dcp, hdv⟩ := own_slice h.dd
  subst hdv
  clear h
  go_enter Tryz.func197, Tryz.ntmps197
  go_upto_region 1 with fail
  have O0 := hid' (Off.of_below (F := pFoot b (.slice da s.done.length dcp) cv) B0.out)
  have hq0 : b ≠ w.heap.size := by omega
  have ls := B0.out.size
  generalize hV : w.alloc (.cells #[.int .i64 a, .int .i64 o, .int .i64 x, .int .i64 y, .bool v] 121) = V at *
  generalize hQ : w.heap.size = Q at *
  clear hV
  have q7 := P0.out.c9
  have f7 := frozen_of_row _ _ 9 _ _ P0.out.row
  have d0 := cell_of_row _ _ 0 _ _ _ R0.out
  have d1 := cell_of_row _ _ 1 _ _ _ R0.out
  have lb := lt_of_heap P0.out.row
  have lq := lt_of_heap R0.out
  simp at d0 d1
  have fz : ∀ o, (V.alloc o).frozen? ⟨b, 9, none⟩ = false := fun o => frozen_of_row _ _ 9 _ _ ((Keep.refl _ V).alloc o _ _ _ P0.out.row)
  go_cut [3] from 4 (fun s3 wx => s3 = .pointer (some ⟨Q, 0, none⟩) ∧ wx.heap[Q]? = some (.cells #[.int .i64 a, .int .i64 o, .int .i64 x, .int .i64 y, .bool v] 121 (0, 0)) ∧ ∃ dv', PRow b { s with done := s.done ++ [(a, o)] } dv' cv op bs bf wx ∧ Off (pFoot b (.slice da s.done.length dcp) cv) w wx ∧ ∀ k, dv'.ownBlock = some k → (Value.slice da s.done.length dcp).ownBlock = some k ∨ Q ≤ k)
  case first =>
    go_region_law ((refine step_append_lies _ ?_ (.tmp 9) (.tmp 15) 76 ?_ 0 84 i0 (.agg #[.int .i64 0, .int .i64 0]) 2 16 Tryz.underlying76 hi0 hz0 hz1 hz2 rfl (by decide) (.slice da s.done.length dcp) s.done.length (flat s.done) ?_ ?_ ⟨V.heap.size, 0, none⟩ 1 1 [.int .i64 a, .int .i64 o] ?_ ?_ ?_ ?_ ?_ ?_ ?_ ?_ (V.heap.size + 1) ?_ ?_; exact rfl; exact rfl; exact rfl; exact (P0.out.dd.alloc _).drew; exact rfl; exact rfl; exact (World.news_of_block (cs := #[.int .i64 a, .int .i64 o]) (t := 84) (fr := (0, 0)) (heap_alloc_new V _)); (simp [Value.oneCell']); decide; (unfold maxLen; omega); omega; omega; (simp); intro gg cap6 w6 own6 hg6 hat6 hlt6; have S6 := hid' (grown_heap (w := (V.alloc (.cells #[.int .i64 a, .int .i64 o] 84)).drew) (t := 157) hg6 (P0.out.dd.alloc _).drew ((Keep.refl _ V).alloc _ _ _ _ P0.out.row) (by decide)); have C6 := hid' (grown_heap (w := (V.alloc (.cells #[.int .i64 a, .int .i64 o] 84)).drew) (t := 121) hg6 (P0.out.dd.alloc _).drew ((Keep.refl _ V).alloc _ _ _ _ R0.out) (by decide)); have c67 : w6.cell? ⟨b, 9, none⟩ = some (.slice da s.done.length dcp) := cell_of_row _ _ 9 _ _ _ S6.out; have f67 := frozen_of_row _ _ 9 _ _ S6.out; have OWN6 := hid' own6; have HG6 := hid' hg6; have HAT6 := hid' hat6; clear own6 hg6 hat6))
    all_goals
      go_wp2_with fail
      go_meet
      case rel =>
        have ba6 := ((Below.refl V.heap.size V).alloc (Nat.le_refl _) (.cells #[.int .i64 a, .int .i64 o] 84)).drew
        refine ⟨rfl, ?_, _, (P0.out.below ba6).putD (L := s.done ++ [(a, o)]) (by exact HG6.out) (by rw [flat_append, List.length_append]; exact OWN6.out), ?_, fun k e => ?_⟩
        · rw [heap_setCell_other _ _ _ _ (by simp only; omega)]; exact C6.out
        · refine ((O0.out.then ba6).grown (by exact HG6.out) (fun k e _ => .inr (.inl e))).setCell (fun _ => .inl rfl) _
        · obtain rfl : gg = k := by simpa [Value.ownBlock] using e
          rcases HAT6.out with q | q
          · exact .inl q
          · exact .inr (by omega)
  case rest =>
    obtain ⟨rfl, crow, dv', pr, off, hat⟩ := hcut
    rename World => W2
    have PR := hid' pr
    have OF := hid' off
    have HA := hid' hat
    have e2 := cell_of_row _ _ 2 _ _ _ crow
    have e3 := cell_of_row _ _ 3 _ _ _ crow
    have g10 := pr.c44
    have g11 := pr.c45
    have g12 := pr.c46
    have f10 := frozen_of_row _ _ 44 _ _ pr.row
    have f11 := frozen_of_row _ _ 45 _ _ pr.row
    have f12 := frozen_of_row _ _ 46 _ _ pr.row
    simp at e2 e3
    have hq1 : Q ≠ b := fun q => hq0 q.symm
    clear pr off hat crow q7 f7 d0 d1 fz
    go_wp2
    go_end0
    refine ⟨rfl, dv', PR.out.putO, ((OF.out.setCell (p := ⟨b, 44, none⟩) (fun _ => .inl rfl) _).setCell (p := ⟨b, 45, none⟩) (fun _ => .inl rfl) _).setCell (p := ⟨b, 46, none⟩) (fun _ => .inl rfl) _, fun k e => ?_⟩
    rw [hQ]
    exact HA.out k e
end Go.Proofs.YtmmkhodaljpjgaaGreatDoor
namespace Go.Proofs.YtmmkhodaljpjgaaGreatDoor
open Go.RowKit
def cmB (c : Cm) : Int × Int := (c.bs, c.bf)
/-- How many of those to come begin. -/
structure Cut (ns nf : Int) (l : List Cm) (m : Nat) : Prop where
  le : m ≤ l.length
  lo : ∀ (i : Nat) (h : i < l.length), i < m → tLater l[i].bs l[i].bf ns nf = false
  hi : ∀ (i : Nat) (h : i < l.length), m ≤ i → tLater l[i].bs l[i].bf ns nf = true
theorem begunL_cut (ns nf : Int) (l : List Cm) (d b : List (Int × Int)) (m : Nat) (h : Cut ns nf l m) : begunL ns nf l d b = (d ++ (l.take m).map cmP, b ++ (l.take m).map cmB, l.drop m) := by
  induction l generalizing d b m with
  | nil =>
    simp [begunL]
  | cons c r ih =>
    cases m with
    | zero =>
      have := h.hi 0 (by simp) (Nat.le_refl _)
      simp only [List.getElem_cons_zero] at this
      simp [begunL, this]
    | succ m =>
      have := h.lo 0 (by simp) (by omega)
      simp only [List.getElem_cons_zero] at this
      have h' : Cut ns nf r m := ⟨by have := h.le; simpa using this, fun i hi hm => by have := h.lo (i + 1) (by simpa using hi) (by omega); simpa using this, fun i hi hm => by have := h.hi (i + 1) (by simpa using hi) (by omega); simpa using this⟩
      simp only [begunL, this, Bool.false_eq_true, if_false]
      rw [ih _ _ m h']
      simp [cmP, cmB]
theorem Sv.begun_cut (x : Sv) (m : Nat) (h : Cut x.ns x.nf x.com m) : x.begun = { x with done := x.done ++ (x.com.take m).map cmP, began := x.began ++ (x.com.take m).map cmB, com := x.com.drop m } := by
  unfold Sv.begun
  rw [begunL_cut _ _ _ _ _ m h]
theorem lead (ns nf : Int) (l : List Cm) : ∃ m, m ≤ l.length ∧ (∀ (i : Nat) (h : i < l.length), i < m → tLater l[i].bs l[i].bf ns nf = false) ∧ ∀ h : m < l.length, tLater l[m].bs l[m].bf ns nf = true := by
  induction l with
  | nil => exact ⟨0, by simp, fun i h => by simp at h, fun h => by simp at h⟩
  | cons c r ih =>
    cases hc : tLater c.bs c.bf ns nf with
    | true => exact ⟨0, by simp, fun i h hm => by omega, fun h => by simpa using hc⟩
    | false =>
      obtain ⟨m, h1, h2, h3⟩ := ih
      refine ⟨m + 1, by simp; omega, fun i hi hm => ?_, fun h => ?_⟩
      · cases i with
        | zero => simpa using hc
        | succ i => simpa using h2 i (by simpa using hi) (by omega)
      · simpa using h3 (by simpa using h)
theorem Sv.Mid.cut {x : Sv} (h : x.Mid) (w0 : 0 ≤ x.win) (w1 : x.win ≤ 604800) : ∃ m, Cut x.ns x.nf x.com m := by
  obtain ⟨m, h1, h2, h3⟩ := lead x.ns x.nf x.com
  refine ⟨m, h1, h2, fun i hi hm => ?_⟩
  by_cases e : i = m
  · subst e; exact h3 hi
  · have l := is_later (h3 (by omega))
    have o := h.order w0 w1 m i x.com[m] x.com[i] (by omega) (List.getElem?_eq_getElem (by omega)) (List.getElem?_eq_getElem hi)
    exact decide_eq_true (by omega)
end Go.Proofs.YtmmkhodaljpjgaaGreatDoor
namespace Go.Proofs.YtmmkhodaljpjgaaGreatDoor
open Go.RowKit
attribute [local go_sem ↓] Go.wp_at_zero Go.wp_at_succ
/-- Another list is to come. -/
theorem PRow.putC {b : Nat} {s : Sv} {dv cv cv' : Value} {op : Bool} {bs bf : Int} {w : World} {L : List Cm} (h : PRow b s dv cv op bs bf w) (ho : w.ownsRow 0 121 5 cv' L.length (flatC L)) :
    PRow b { s with com := L } dv cv' op bs bf (w.setCell ⟨b, 10, none⟩ cv') := by
  refine ⟨?_, own_set (p := ⟨b, 10, none⟩) h.dd h.row (by decide) _, own_set (p := ⟨b, 10, none⟩) ho h.row (by decide) _, h.sl⟩
  rw [heap_setCell_same _ _ _ _ _ _ h.row]; rfl
/-- When the last window began, behind the first k of those to come. -/
def lastB (l : List Cm) (k : Nat) (op : Bool) (bs bf : Int) : Bool × Int × Int := if k = 0 then (op, bs, bf) else (true, (l.getD (k - 1) ⟨0, 0, 0, 0, false⟩).bs, (l.getD (k - 1) ⟨0, 0, 0, 0, false⟩).bf)
/-- The server and what stays, behind the first k of those to come, of which m begin. -/
structure LkV (b : Nat) (s : Sv) (dv cv : Value) (op : Bool) (bs bf : Int) (m k : Nat) (w : World) (lv dv' : Value) (wr : World) : Prop where
  r : PRow b { s with done := s.done ++ (s.com.take (min k m)).map cmP } dv' cv (lastB s.com (min k m) op bs bf).1 (lastB s.com (min k m) op bs bf).2.1 (lastB s.com (min k m) op bs bf).2.2 wr
  off : Off (pFoot b dv cv) w wr
  at' : ∀ j, dv'.ownBlock = some j → dv.ownBlock = some j ∨ w.heap.size ≤ j
  l : wr.ownsRow w.heap.size 121 5 lv (k - m) (flatC ((s.com.drop m).take (k - m)))
theorem LkV.below {b : Nat} {s : Sv} {dv cv : Value} {op : Bool} {bs bf : Int} {m k : Nat} {w : World} {lv dv' : Value} {wr w' : World} (h : LkV b s dv cv op bs bf m k w lv dv' wr) (hb : Below wr.heap.size wr w') : LkV b s dv cv op bs bf m k w lv dv' w' :=
  ⟨h.r.below hb, h.off.then hb, h.at', own_down h.l hb⟩
/-- What stays grows. -/
theorem LkV.stay {b : Nat} {s : Sv} {dv cv : Value} {op : Bool} {bs bf : Int} {m k : Nat} {w : World} {lv dv' lv' : Value} {wr w2 : World} (h : LkV b s dv cv op bs bf m k w lv dv' wr) (hm : m ≤ k) (lb : b < w.heap.size) (cl : ∀ j, cv.ownBlock = some j → j < w.heap.size) (hg : wr.grownBy w2 lv.ownBlock)
    (own : w2.ownsRow w.heap.size 121 5 lv' (k + 1 - m) (flatC ((s.com.drop m).take (k + 1 - m)))) : LkV b s dv cv op bs bf m (k + 1) w lv' dv' w2 := by
  have e : min (k + 1) m = min k m := by omega
  have ge := own_ge h.l
  have sz := h.off.size
  refine ⟨?_, h.off.grown hg (fun j e hj => by have := ge j e; omega), h.at', own⟩
  rw [e]
  refine h.r.keep (fun j q => ?_)
  have lj : j < wr.heap.size := by obtain ⟨_, _, _, hh, _⟩ := h.r.typ q; exact lt_of_heap hh
  refine hg.block j lj (fun c => ?_)
  have g1 := ge j c.symm
  rcases q with q | q | q
  · omega
  · obtain ⟨cs, fr, hh⟩ := own_typ h.l c.symm
    obtain ⟨cs', fr', hh'⟩ := own_typ h.r.dd q
    rw [hh] at hh'
    simp at hh'
  · have := cl j q; omega
/-- One begins. -/
theorem LkV.begin {b : Nat} {s : Sv} {dv cv : Value} {op : Bool} {bs bf : Int} {m k : Nat} {w : World} {lv dv' : Value} {wr w2 : World} (h : LkV b s dv cv op bs bf m k w lv dv' wr) (hk : k < s.com.length) (hm : k < m) (lb : b < w.heap.size) (cl : ∀ j, cv.ownBlock = some j → j < w.heap.size)
    (hp : BegP b { s with done := s.done ++ (s.com.take (min k m)).map cmP } dv' cv s.com[k].a s.com[k].o s.com[k].bs s.com[k].bf wr w2) : ∃ dv2, LkV b s dv cv op bs bf m (k + 1) w lv dv2 w2 := by
  obtain ⟨dv2, pr, of, ha⟩ := hp
  have e1 : min k m = k := by omega
  have e2 : min (k + 1) m = k + 1 := by omega
  have sz := h.off.size
  have ge := own_ge h.l
  refine ⟨dv2, ?_, ?_, fun j e => ?_, ?_⟩
  · have ed : (s.done ++ (s.com.take (min k m)).map cmP) ++ [(s.com[k].a, s.com[k].o)] = s.done ++ (s.com.take (min (k + 1) m)).map cmP := by
      rw [e1, e2, List.take_succ_eq_append_getElem hk, List.map_append, List.append_assoc]; rfl
    have el : lastB s.com (min (k + 1) m) op bs bf = (true, s.com[k].bs, s.com[k].bf) := by
      unfold lastB
      rw [e2, if_neg (by omega), show k + 1 - 1 = k from rfl, List.getD_eq_getElem?_getD, List.getElem?_eq_getElem hk]; rfl
    rw [el, ← ed]
    exact pr
  · refine h.off.trans of (fun j hj e => ?_)
    rcases e with e | e | e
    · exact .inl e
    · rcases h.at' j e with q | q
      · exact .inr (.inl q)
      · omega
    · exact .inr (.inr e)
  · rcases ha j e with q | q
    · exact h.at' j q
    · exact .inr (by omega)
  · have e3 : k + 1 - m = k - m := by omega
    rw [e3]
    refine of.own h.l (fun j e q => ?_)
    have g1 := ge j e
    rcases q with q | q | q
    · omega
    · obtain ⟨cs, fr, hh⟩ := own_typ h.l e
      obtain ⟨cs', fr', hh'⟩ := own_typ h.r.dd q
      rw [hh] at hh'
      simp at hh'
    · have := cl j q; omega
/-- What lookAround leaves. -/
def LkP (b : Nat) (s : Sv) (dv cv : Value) (op : Bool) (bs bf : Int) (m : Nat) (w w' : World) : Prop := ∃ dv' cv', PRow b s.begun dv' cv' (lastB s.com m op bs bf).1 (lastB s.com m op bs bf).2.1 (lastB s.com m op bs bf).2.2 w' ∧ Off (pFoot b dv cv) w w' ∧ ∀ j, pFoot b dv' cv' j → pFoot b dv cv j ∨ w.heap.size ≤ j
set_option maxRecDepth 100000 in
set_option maxHeartbeats 6400000 in
theorem let_due (b : Nat) (s : Sv) (dv cv : Value) (op : Bool) (bs bf : Int) (m : Nat) (w : World) (h : PRow b s dv cv op bs bf w) (hc : Cut s.ns s.nf s.com m) (hl : s.done.length + s.com.length ≤ 800) :
    Calls Tryz.prog 182 #[.pointer (some ⟨b, 0, none⟩)] w fun e w' => e = .returned (.tuple #[]) ∧ LkP b s dv cv op bs bf m w w' := by
  obtain ⟨k0, hk0, hx0, hx1, hx2⟩ := info_parts infoAComing
  have HP := hid' h
  have HC := hid' hc
  have lb := lt_of_heap h.row
  have CL : ∀ j, cv.ownBlock = some j → j < w.heap.size := fun j e => by obtain ⟨_, _, hh⟩ := own_typ h.cc e; exact lt_of_heap hh
  have HCL := hid' CL
  have hm := hc.le
  obtain ⟨ca, ccp, hcv⟩ := own_slice h.cc
  subst hcv
  have L0 : Hid (LkV b s dv (.slice ca s.com.length ccp) op bs bf m 0 w (.slice none 0 0) dv w) := by
    refine ⟨?_, Off.refl _ _, fun j e => .inl e, ?_⟩
    · rw [Nat.zero_min]
      simpa [lastB] using h
    · rw [Nat.zero_sub]; exact World.ownsRow_nil _ _ _ _
  clear h hc CL
  go_enter Tryz.func182, Tryz.ntmps182
  go_wp2
  go_loopw [2, 3, 4] (fun lv i _ wr => ∃ (k : Nat) (dv' : Value), k ≤ s.com.length ∧ i = .int .i64 k ∧ LkV b s dv (.slice ca s.com.length ccp) op bs bf m k w lv dv' wr) (fun _ i _ _ => s.com.length - (intOf i).toNat)
  case atStart => exact ⟨0, _, by omega, rfl, L0.out⟩
  case round =>
    obtain ⟨k, dv', hk, rfl, lk⟩ := hrel
    have LK := hid' lk
    have q8 := lk.r.c10
    have lbr := lt_of_heap lk.r.row
    have sz := lk.off.size
    by_cases hlt : k < s.com.length
    · have hli : (k : Int) < (s.com.length : Int) := by omega
      have hk0i : (0 : Int) ≤ (k : Int) := by omega
      obtain ⟨g, cg, hg⟩ := own_some lk.r.cc (show 0 < s.com.length by omega)
      obtain ⟨rfl, _, rfl⟩ := Value.slice.inj hg
      have lg : g < wr.heap.size := (lk.r.cc.lt _ rfl).2
      have e0 := (lk.r.cc.cellAt (k * 5) (by omega)).trans (flatC_at s.com k hlt 0 (by omega))
      have e1 := (lk.r.cc.cellAt (k * 5 + 1) (by omega)).trans (flatC_at s.com k hlt 1 (by omega))
      have e2 := (lk.r.cc.cellAt (k * 5 + 2) (by omega)).trans (flatC_at s.com k hlt 2 (by omega))
      have e3 := (lk.r.cc.cellAt (k * 5 + 3) (by omega)).trans (flatC_at s.com k hlt 3 (by omega))
      have e4 := (lk.r.cc.cellAt (k * 5 + 4) (by omega)).trans (flatC_at s.com k hlt 4 (by omega))
      have q2 := lk.r.c4
      have q3 := lk.r.c5
      have HLO := hid' (HC.out.lo k hlt)
      have HHI := hid' (HC.out.hi k hlt)
      have HBG := hid' (fun (w2 : World) (lv0 dv0 : Value) (W : World) (hh : LkV b s dv (.slice (some ⟨g, 0, none⟩) s.com.length ccp) op bs bf m k w lv0 dv0 W) (hm : k < m) hp => LkV.begin (w2 := w2) hh hlt hm lb HCL.out hp)
      have htk : m ≤ k → (s.com.drop m).take (k + 1 - m) = (s.com.drop m).take (k - m) ++ [s.com[k]] := fun q => by
        rw [show k + 1 - m = (k - m) + 1 from by omega, List.take_succ_eq_append_getElem (by rw [List.length_drop]; omega), List.getElem_drop]
        congr 2
        congr 1
        omega
      have HTK := hid' htk
      generalize s.com[k] = c at *
      obtain ⟨cA, cO, cS, cF, cV⟩ := c
      simp [Cm.cells] at e0 e1 e2 e3 e4
      simp only at HLO HHI HBG
      have EAR := hid' (fun W => clk_earlier s.ns s.nf cS cF W)
      obtain ⟨lt, hltb⟩ : ∃ lt, tLater cS cF s.ns s.nf = lt := ⟨_, rfl⟩
      rw [hltb] at EAR HLO HHI
      have BA := hid' ((Below.refl wr.heap.size wr).alloc (Nat.le_refl _) (.cells #[.int .i64 cA, .int .i64 cO, .int .i64 cS, .int .i64 cF, .bool cV] 121))
      have RA := hid' (heap_alloc_new wr (.cells #[.int .i64 cA, .int .i64 cO, .int .i64 cS, .int .i64 cF, .bool cV] 121))
      obtain ⟨va, vcp, hv⟩ := own_slice lk.l
      subst hv
      clear lk hg htk hltb
      go_upto_region 5 with fail
      go_cut [2, 3, 4, 30] from 5 to 37 (fun s2 s3 s4 s30 wx => s2 = .slice va (k - m) vcp ∧ s3 = .int .i64 k ∧ s4 = .pointer (some ⟨wr.heap.size, 0, none⟩) ∧ s30 = .bool lt ∧ Below wr.heap.size wr wx ∧ wx.heap[wr.heap.size]? = some (.cells #[.int .i64 cA, .int .i64 cO, .int .i64 cS, .int .i64 cF, .bool cV] 121 (0, 0)))
      case first =>
        go_region_with (go_at_call 196; refine (EAR.out _).mono ?_; rintro e w1 ⟨rfl, hb1⟩; have HB1 := hid' hb1; clear hb1)
        all_goals
          go_wp2_with fail
          go_meet
          case rel => exact ⟨rfl, rfl, rfl, rfl, BA.out.drew.trans (HB1.out.mono (by exact BA.out.size)), (HB1.out.block _ (by simp)).trans RA.out⟩
      case rest =>
        obtain ⟨rfl, rfl, rfl, rfl, bel, crow⟩ := hcut
        rename World => W1
        have L1 := hid' (LK.out.below bel)
        have CR := hid' crow
        have lc := lt_of_heap crow
        have sz1 := bel.size
        have d0 := cell_of_row _ _ 0 _ _ _ crow
        have d1 := cell_of_row _ _ 1 _ _ _ crow
        have d2 := cell_of_row _ _ 2 _ _ _ crow
        have d3 := cell_of_row _ _ 3 _ _ _ crow
        have d4 := cell_of_row _ _ 4 _ _ _ crow
        simp at d0 d1 d2 d3 d4
        clear bel crow q2 q3 q8 e0 e1 e2 e3 e4
        cases lt with
        | true =>
          have hmk : m ≤ k := by
            by_cases q : m ≤ k
            · exact q
            · have := HLO.out (by omega); cases this
          go_wp2_with (at_builtin; refine wpList_append_lies _ (by rfl) (.tmp 31) (.tmp 33) 111 (by rfl) w.heap.size 121 k0 (.agg #[.int .i64 0, .int .i64 0, .int .i64 0, .int .i64 0, .bool false]) 5 40 Tryz.underlying111 hk0 hx0 hx1 hx2 rfl (by decide) (.slice va (k - m) vcp) (k - m) (flatC ((s.com.drop m).take (k - m))) (by rfl) (L1.out.l.alloc _) ⟨W1.heap.size, 0, none⟩ 1 1 [.int .i64 cA, .int .i64 cO, .int .i64 cS, .int .i64 cF, .bool cV] (by rfl) (by rfl) (World.news_of_block (cs := #[.int .i64 cA, .int .i64 cO, .int .i64 cS, .int .i64 cF, .bool cV]) (t := 121) (fr := (0, 0)) (heap_alloc_new W1 _)) (by simp [Value.oneCell']) (by decide) (by unfold maxLen; omega) (by omega) (by simp <;> omega) (W1.heap.size + 1) (by simp) ?_; intro g3 cap3 w3 own3 hg3 hat3 hlt3; have OWN3 := hid' own3; have HG3 := hid' hg3; clear own3 hg3 hat3)
          go_roundw
          case rel =>
            refine ⟨k + 1, dv', by omega, by go_num, ?_⟩
            refine (L1.out.below ((Below.refl W1.heap.size W1).alloc (Nat.le_refl _) _)).stay hmk lb HCL.out HG3.out ?_
            rw [HTK.out hmk, flatC_append, show k + 1 - m = k - m + 1 from by omega]
            exact OWN3.out
          case measure => simp [intOf]; omega
        | false =>
          have hmk : k < m := by
            by_cases q : m ≤ k
            · have := HHI.out q; cases this
            · omega
          have dlen : (s.done ++ (s.com.take (min k m)).map cmP).length ≤ 900 := by simp; omega
          have LB := hid' (let_begin b _ dv' (.slice (some ⟨g, 0, none⟩) s.com.length ccp) _ _ _ cA cO cS cF cV W1 L1.out.r dlen)
          clear dlen
          go_wp2_with fail
          refine LB.out.mono ?_
          rintro e w4 ⟨rfl, bp⟩
          have BP := hid' (HBG.out w4 _ _ W1 L1.out hmk bp)
          clear bp LB
          go_wp2
          go_roundw
          case rel =>
            obtain ⟨dv2, l2⟩ := BP.out
            exact ⟨k + 1, dv2, by omega, by go_num, l2⟩
          case measure => simp [intOf]; omega
    · have hnl : ¬ (k : Int) < (s.com.length : Int) := by omega
      obtain rfl : k = s.com.length := by omega
      obtain ⟨va, vcp, hv⟩ := own_slice lk.l
      subst hv
      have f8 := lk.r.fr 10
      clear lk
      go_wp2
      go_end0
      have e1 : min s.com.length m = m := by omega
      have hr := LK.out.r
      rw [e1] at hr
      have hcc : (s.com.drop m).take (s.com.length - m) = s.com.drop m := List.take_of_length_le (by simp)
      have hll := LK.out.l
      rw [hcc] at hll
      have pc := hr.putC (L := s.com.drop m) (by rw [List.length_drop]; exact own_lo hll (Nat.zero_le _))
      refine ⟨rfl, dv', .slice va (s.com.length - m) vcp, ?_, LK.out.off.setCell (p := ⟨b, 10, none⟩) (fun _ => .inl rfl) _, fun j e => ?_⟩
      · have eb := s.begun_cut m HC.out
        rw [eb]
        exact ⟨pc.row, pc.dd, pc.cc, pc.sl⟩
      · rcases e with e | e | e
        · exact .inl (.inl e)
        · rcases LK.out.at' j e with q | q
          · exact .inl (.inr (.inl q))
          · exact .inr q
        · exact .inr (own_ge hll j e)
end Go.Proofs.YtmmkhodaljpjgaaGreatDoor
namespace Go.Proofs.YtmmkhodaljpjgaaGreatDoor
open Go.RowKit
/-- The clock shows another time. -/
theorem PRow.putN {b : Nat} {s : Sv} {dv cv : Value} {op : Bool} {bs bf : Int} {w : World} (h : PRow b s dv cv op bs bf w) (x y : Int) : PRow b (s.at' x y) dv cv op bs bf ((w.setCell ⟨b, 4, none⟩ (.int .i64 x)).setCell ⟨b, 5, none⟩ (.int .i64 y)) := by
  have r1 := heap_setCell_same _ _ 4 _ _ (.int .i64 x) h.row
  refine ⟨?_, own_set (p := ⟨b, 5, none⟩) (own_set (p := ⟨b, 4, none⟩) h.dd h.row (by decide) _) r1 (by decide) _, own_set (p := ⟨b, 5, none⟩) (own_set (p := ⟨b, 4, none⟩) h.cc h.row (by decide) _) r1 (by decide) _, h.sl⟩
  rw [heap_setCell_same _ _ _ _ _ _ r1]; rfl
theorem Opn.at' {s : Sv} {op : Bool} {bs bf x y : Int} (h : Opn s op bs bf) (hl : tLater s.ns s.nf x y = false) : Opn (s.at' x y) op bs bf := by
  refine ⟨h.1, fun e i hi => ?_⟩
  have q := h.2 e i hi
  have nl := not_later hl
  show (s.began.getD i (0, 0)).1 + s.win < x ∨ ((s.began.getD i (0, 0)).1 + s.win = x ∧ (s.began.getD i (0, 0)).2 ≤ y)
  omega
theorem Opn.begun {s : Sv} {op : Bool} {bs bf : Int} {m : Nat} (h : Opn s op bs bf) (hc : Cut s.ns s.nf s.com m) (hp : 0 < m → 0 < s.began.length) : Opn s.begun (lastB s.com m op bs bf).1 (lastB s.com m op bs bf).2.1 (lastB s.com m op bs bf).2.2 := by
  have eb := s.begun_cut m hc
  have hm := hc.le
  by_cases z : m = 0
  · subst z
    have e2 : s.begun.began = s.began := by rw [eb]; simp
    have e3 : s.begun.ns = s.ns := rfl
    have e4 : s.begun.nf = s.nf := rfl
    have e5 : s.begun.win = s.win := rfl
    have el : lastB s.com 0 op bs bf = (op, bs, bf) := rfl
    rw [el]
    unfold Opn
    rw [e2, e3, e4, e5]
    exact h
  · have el : lastB s.com m op bs bf = (true, (s.com.getD (m - 1) ⟨0, 0, 0, 0, false⟩).bs, (s.com.getD (m - 1) ⟨0, 0, 0, 0, false⟩).bf) := by unfold lastB; rw [if_neg z]
    rw [el]
    refine ⟨fun _ => ?_, fun e => by cases e⟩
    have e2 : s.begun.began = s.began ++ (s.com.take m).map cmB := by rw [eb]
    rw [e2]
    have ln : (s.began ++ (s.com.take m).map cmB).length = s.began.length + m := by simp; omega
    refine ⟨by have := hp (by omega); omega, ?_⟩
    rw [ln, List.getD_eq_getElem?_getD, List.getElem?_append_right (by omega), List.getElem?_map, List.getElem?_take_of_lt (by omega), List.getD_eq_getElem?_getD]
    rw [show s.began.length + m - 1 - s.began.length = m - 1 from by omega, List.getElem?_eq_getElem (show m - 1 < s.com.length by omega)]
    rfl
theorem Opn.com {s : Sv} {op : Bool} {bs bf : Int} (h : Opn s op bs bf) (L : List Cm) : Opn { s with com := L } op bs bf := h
theorem Opn.says {s : Sv} {op : Bool} {bs bf : Int} (h : Opn s op bs bf) (k : Nat) (leap : Int) : Opn (s.says k leap) op bs bf := h
/-- What a step on the program's server leaves. -/
def PPost (b : Nat) (F : Nat → Prop) (w : World) (s : Sv) (w' : World) : Prop := ∃ F', PS b s F' w' ∧ Off F w w' ∧ ∀ k, F' k → F k ∨ w.heap.size ≤ k
end Go.Proofs.YtmmkhodaljpjgaaGreatDoor
namespace Go.Proofs.YtmmkhodaljpjgaaGreatDoor
open Go.RowKit
theorem three_at (w : World) (a b c : Array Value) (t : TypeId) : (((w.alloc (.cells a t)).alloc (.cells b t)).alloc (.cells c t)).heap[w.heap.size]? = some (.cells a t (0, 0)) ∧ (((w.alloc (.cells a t)).alloc (.cells b t)).alloc (.cells c t)).heap[w.heap.size + 1]? = some (.cells b t (0, 0)) ∧ (((w.alloc (.cells a t)).alloc (.cells b t)).alloc (.cells c t)).heap[w.heap.size + 1 + 1]? = some (.cells c t (0, 0)) := by
  refine ⟨?_, ?_, ?_⟩
  · rw [Below.heap_alloc _ _ _ (by simp; omega)]
    exact heap_alloc2_old w _ _
  · rw [Below.heap_alloc _ _ _ (by simp)]
    exact heap_alloc2_new w _ _
  · have := heap_alloc_new ((w.alloc (.cells a t)).alloc (.cells b t)) (.cells c t)
    rw [show ((w.alloc (.cells a t)).alloc (.cells b t)).heap.size = w.heap.size + 1 + 1 from by simp] at this
    exact this
set_option maxRecDepth 100000 in
set_option maxHeartbeats 1600000 in
theorem clk_gone (s f z g : Int) (w : World) (s0 : -1000000000000 ≤ s) (s1 : s ≤ 1000000000000) (z0 : -1000000000000 ≤ z) (z1 : z ≤ 1000000000000) (f0 : 0 ≤ f) (f1 : f < 4294967296) (g0 : 0 ≤ g) (g1 : g < 4294967296) :
    Calls Tryz.prog 176 #[.agg #[.int .i64 s, .int .i64 f], .agg #[.int .i64 z, .int .i64 g]] w fun e w' => e = .returned (.agg #[.int .i64 (gone s f z g).1, .int .i64 (gone s f z g).2]) ∧ Below w.heap.size w w' := by
  have HG : Hid (gone s f z g = if f - g < 0 then (s - z - 1, f - g + 4294967296) else (s - z, f - g)) := rfl
  generalize gone s f z g = gg at *
  have B0 := hid' (three_rows w (.cells #[.int .i64 s, .int .i64 f] 98) (.cells #[.int .i64 z, .int .i64 g] 98) (.cells #[.int .i64 0, .int .i64 0] 98))
  have RR := hid' (three_at w #[.int .i64 s, .int .i64 f] #[.int .i64 z, .int .i64 g] #[.int .i64 0, .int .i64 0] 98)
  go_enter Tryz.func176, Tryz.ntmps176
  go_upto_region 1 with fail
  generalize hV : ((w.alloc (.cells #[.int .i64 s, .int .i64 f] 98)).alloc (.cells #[.int .i64 z, .int .i64 g] 98)).alloc (.cells #[.int .i64 0, .int .i64 0] 98) = V at *
  clear hV
  have a0 := cell_of_row _ _ 0 _ _ _ RR.out.1
  have a1 := cell_of_row _ _ 1 _ _ _ RR.out.1
  have b0 := cell_of_row _ _ 0 _ _ _ RR.out.2.1
  have b1 := cell_of_row _ _ 1 _ _ _ RR.out.2.1
  have c0 := cell_of_row _ _ 0 _ _ _ RR.out.2.2
  have c1 := cell_of_row _ _ 1 _ _ _ RR.out.2.2
  have fc0 := frozen_of_row _ _ 0 _ _ RR.out.2.2
  have fc1 := frozen_of_row _ _ 1 _ _ RR.out.2.2
  have lc := lt_of_heap RR.out.2.2
  have sv := B0.out.2
  simp at a0 a1 b0 b1 c0 c1
  by_cases c : f - g < 0
  · have H : Hid (gg = (s - z - 1, f - g + 4294967296)) := by show _ = _; rw [HG.out, if_pos c]
    clear HG
    go_wp2
    try simp only [Exit.inBlock, Exit.then]
    refine bodyPost_ret (results_cell_row rfl _ _ (w.heap.size + 1 + 1) 98 #[.int .i64 (s - z - 1), .int .i64 (f - g + 4294967296)] (0, 0) _ rfl ((Below.heap_alloc _ _ _ (by simp <;> omega)).trans (two_row RR.out.2.2)) Tryz.underlying98 rfl (by kernel_rfl)) rfl ?_
    exact ⟨ret_agg2 (by rw [H.out]) (by rw [H.out]), ((B0.out.1.setCell (p := ⟨w.heap.size + 1 + 1, 0, none⟩) (by simp only; omega) _).setCell (p := ⟨w.heap.size + 1 + 1, 1, none⟩) (by simp only; omega) _).alloc (by simp; omega) _⟩
  · have H : Hid (gg = (s - z, f - g)) := by show _ = _; rw [HG.out, if_neg c]
    clear HG
    go_wp2
    try simp only [Exit.inBlock, Exit.then]
    refine bodyPost_ret (results_cell_row rfl _ _ (w.heap.size + 1 + 1) 98 #[.int .i64 (s - z), .int .i64 (f - g)] (0, 0) _ rfl ((Below.heap_alloc _ _ _ (by simp <;> omega)).trans (two_row RR.out.2.2)) Tryz.underlying98 rfl (by kernel_rfl)) rfl ?_
    exact ⟨ret_agg2 (by rw [H.out]) (by rw [H.out]), ((B0.out.1.setCell (p := ⟨w.heap.size + 1 + 1, 0, none⟩) (by simp only; omega) _).setCell (p := ⟨w.heap.size + 1 + 1, 1, none⟩) (by simp only; omega) _).alloc (by simp; omega) _⟩
set_option maxRecDepth 100000 in
set_option maxHeartbeats 1600000 in
theorem clk_moved (s f p : Int) (w : World) (s0 : -1000000000000 ≤ s) (s1 : s ≤ 1000000000000) (f0 : 0 ≤ f) (f1 : f < 4294967296) (p0 : -4294967296 ≤ p) (p1 : p ≤ 4294967296) :
    Calls Tryz.prog 177 #[.agg #[.int .i64 s, .int .i64 f], .int .i64 p] w fun e w' => e = .returned (.agg #[.int .i64 (moved s f p).1, .int .i64 (moved s f p).2]) ∧ Below w.heap.size w w' := by
  have HG : Hid (moved s f p = if f + p < 0 then (s - 1, f + p + 4294967296) else if 4294967296 ≤ f + p then (s + 1, f + p - 4294967296) else (s, f + p)) := rfl
  generalize moved s f p = gg at *
  have B0 := hid' (((Below.refl w.heap.size w).alloc (Nat.le_refl _) (.cells #[.int .i64 s, .int .i64 f] 98)).alloc (by simp) (.cells #[.int .i64 0, .int .i64 0] 98))
  have R0 := hid' (heap_alloc2_old w (.cells #[.int .i64 s, .int .i64 f] 98) (.cells #[.int .i64 0, .int .i64 0] 98))
  have R1 := hid' (heap_alloc2_new w (.cells #[.int .i64 s, .int .i64 f] 98) (.cells #[.int .i64 0, .int .i64 0] 98))
  go_enter Tryz.func177, Tryz.ntmps177
  go_upto_region 1 with fail
  generalize hV : (w.alloc (.cells #[.int .i64 s, .int .i64 f] 98)).alloc (.cells #[.int .i64 0, .int .i64 0] 98) = V at *
  clear hV
  have a0 := cell_of_row _ _ 0 _ _ _ R0.out
  have a1 := cell_of_row _ _ 1 _ _ _ R0.out
  have c0 := cell_of_row _ _ 0 _ _ _ R1.out
  have c1 := cell_of_row _ _ 1 _ _ _ R1.out
  have fc0 := frozen_of_row _ _ 0 _ _ R1.out
  have fc1 := frozen_of_row _ _ 1 _ _ R1.out
  have lc := lt_of_heap R1.out
  simp at a0 a1 c0 c1
  by_cases c : f + p < 0
  · have H : Hid (gg = (s - 1, f + p + 4294967296)) := by show _ = _; rw [HG.out, if_pos c]
    clear HG
    go_wp2
    try simp only [Exit.inBlock, Exit.then]
    refine bodyPost_ret (results_cell_row rfl _ _ (w.heap.size + 1) 98 #[.int .i64 (s - 1), .int .i64 (f + p + 4294967296)] (0, 0) _ rfl ((Below.heap_alloc _ _ _ (by simp <;> omega)).trans (two_row R1.out)) Tryz.underlying98 rfl (by kernel_rfl)) rfl ?_
    exact ⟨ret_agg2 (by rw [H.out]) (by rw [H.out]), ((B0.out.setCell (p := ⟨w.heap.size + 1, 0, none⟩) (by simp only; omega) _).setCell (p := ⟨w.heap.size + 1, 1, none⟩) (by simp only; omega) _).alloc (by simp; omega) _⟩
  · by_cases d : 4294967296 ≤ f + p
    · have H : Hid (gg = (s + 1, f + p - 4294967296)) := by show _ = _; rw [HG.out, if_neg c, if_pos d]
      clear HG
      go_wp2
      try simp only [Exit.inBlock, Exit.then]
      refine bodyPost_ret (results_cell_row rfl _ _ (w.heap.size + 1) 98 #[.int .i64 (s + 1), .int .i64 (f + p - 4294967296)] (0, 0) _ rfl ((Below.heap_alloc _ _ _ (by simp <;> omega)).trans (two_row R1.out)) Tryz.underlying98 rfl (by kernel_rfl)) rfl ?_
      exact ⟨ret_agg2 (by rw [H.out]) (by rw [H.out]), ((B0.out.setCell (p := ⟨w.heap.size + 1, 0, none⟩) (by simp only; omega) _).setCell (p := ⟨w.heap.size + 1, 1, none⟩) (by simp only; omega) _).alloc (by simp; omega) _⟩
    · have H : Hid (gg = (s, f + p)) := by show _ = _; rw [HG.out, if_neg c, if_neg d]
      clear HG
      go_wp2
      try simp only [Exit.inBlock, Exit.then]
      refine bodyPost_ret (results_cell_row rfl _ _ (w.heap.size + 1) 98 #[.int .i64 s, .int .i64 (f + p)] (0, 0) _ rfl ((Below.heap_alloc _ _ _ (by simp <;> omega)).trans (two_row R1.out)) Tryz.underlying98 rfl (by kernel_rfl)) rfl ?_
      exact ⟨ret_agg2 (by rw [H.out]) (by rw [H.out]), ((B0.out.setCell (p := ⟨w.heap.size + 1, 0, none⟩) (by simp only; omega) _).setCell (p := ⟨w.heap.size + 1, 1, none⟩) (by simp only; omega) _).alloc (by simp; omega) _⟩
end Go.Proofs.YtmmkhodaljpjgaaGreatDoor
