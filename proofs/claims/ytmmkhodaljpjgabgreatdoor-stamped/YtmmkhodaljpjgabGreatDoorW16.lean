import Derived.Test.YtmmkhodaljpjgabGreatDoorW13
import Derived.Deep.RegionHeld3
import Derived.Deep.Cut
import Derived.Deep.CutBlock
import Derived.Deep.CutRange
namespace Go.Proofs.YtmmkhodaljpjgabGreatDoor
open Go.RowKit
def cmB (c : Cm) : Int × Int := (c.bs, c.bf)
/-- How many of those to come begin. -/
structure Cut (ns nf : Int) (l : List Cm) (m : Nat) : Prop where
  le : m ≤ l.length
  lo : ∀ (i : Nat) (h : i < l.length), i < m → tLater l[i].bs l[i].bf ns nf = false
  hi : ∀ (i : Nat) (h : i < l.length), m ≤ i → tLater l[i].bs l[i].bf ns nf = true
theorem begunL_cut (ns nf : Int) (l : List Cm) (d b : List (Int × Int)) (m : Nat) (h : Cut ns nf l m) : begunL ns nf l d b = (d ++ (l.take m).map cmP, b ++ (l.take m).map cmB, l.drop m) := by
  induction l generalizing d b m with
  | nil =>
    simp [begunL]
  | cons c r ih =>
    cases m with
    | zero =>
      have := h.hi 0 (by simp) (Nat.le_refl _)
      simp only [List.getElem_cons_zero] at this
      simp [begunL, this]
    | succ m =>
      have := h.lo 0 (by simp) (by omega)
      simp only [List.getElem_cons_zero] at this
      have h' : Cut ns nf r m := ⟨by have := h.le; simpa using this, fun i hi hm => by have := h.lo (i + 1) (by simpa using hi) (by omega); simpa using this, fun i hi hm => by have := h.hi (i + 1) (by simpa using hi) (by omega); simpa using this⟩
      simp only [begunL, this, Bool.false_eq_true, if_false]
      rw [ih _ _ m h']
      simp [cmP, cmB]
theorem Sv.begun_cut (x : Sv) (m : Nat) (h : Cut x.ns x.nf x.com m) : x.begun = { x with done := x.done ++ (x.com.take m).map cmP, began := x.began ++ (x.com.take m).map cmB, com := x.com.drop m } := by
  unfold Sv.begun
  rw [begunL_cut _ _ _ _ _ m h]
theorem lead (ns nf : Int) (l : List Cm) : ∃ m, m ≤ l.length ∧ (∀ (i : Nat) (h : i < l.length), i < m → tLater l[i].bs l[i].bf ns nf = false) ∧ ∀ h : m < l.length, tLater l[m].bs l[m].bf ns nf = true := by
  induction l with
  | nil => exact ⟨0, by simp, fun i h => by simp at h, fun h => by simp at h⟩
  | cons c r ih =>
    cases hc : tLater c.bs c.bf ns nf with
    | true => exact ⟨0, by simp, fun i h hm => by omega, fun h => by simpa using hc⟩
    | false =>
      obtain ⟨m, h1, h2, h3⟩ := ih
      refine ⟨m + 1, by simp; omega, fun i hi hm => ?_, fun h => ?_⟩
      · cases i with
        | zero => simpa using hc
        | succ i => simpa using h2 i (by simpa using hi) (by omega)
      · simpa using h3 (by simpa using h)
theorem Sv.Mid.cut {x : Sv} (h : x.Mid) (w0 : 0 ≤ x.win) (w1 : x.win ≤ 604800) : ∃ m, Cut x.ns x.nf x.com m := by
  obtain ⟨m, h1, h2, h3⟩ := lead x.ns x.nf x.com
  refine ⟨m, h1, h2, fun i hi hm => ?_⟩
  by_cases e : i = m
  · subst e; exact h3 hi
  · have l := is_later (h3 (by omega))
    have o := h.order w0 w1 m i x.com[m] x.com[i] (by omega) (List.getElem?_eq_getElem (by omega)) (List.getElem?_eq_getElem hi)
    exact decide_eq_true (by omega)
end Go.Proofs.YtmmkhodaljpjgabGreatDoor
namespace Go.Proofs.YtmmkhodaljpjgabGreatDoor
open Go.RowKit
attribute [local go_sem ↓] Go.wp_at_zero Go.wp_at_succ
/-- Another list is to come. -/
theorem PRow.putC {b : Nat} {s : Sv} {dv cv cv' : Value} {op : Bool} {bs bf : Int} {w : World} {L : List Cm} (h : PRow b s dv cv op bs bf w) (ho : w.ownsRow 0 84 5 cv' L.length (flatC L)) :
    PRow b { s with com := L } dv cv' op bs bf (w.setCell ⟨b, 10, none⟩ cv') := by
  refine ⟨?_, own_set (p := ⟨b, 10, none⟩) h.dd h.row (by decide) _, own_set (p := ⟨b, 10, none⟩) ho h.row (by decide) _, h.sl⟩
  rw [heap_setCell_same _ _ _ _ _ _ h.row]; rfl
/-- When the last window began, behind the first k of those to come. -/
def lastB (l : List Cm) (k : Nat) (op : Bool) (bs bf : Int) : Bool × Int × Int := if k = 0 then (op, bs, bf) else (true, (l.getD (k - 1) ⟨0, 0, 0, 0, false⟩).bs, (l.getD (k - 1) ⟨0, 0, 0, 0, false⟩).bf)
/-- The server and what stays, behind the first k of those to come, of which m begin. -/
structure LkV (b : Nat) (s : Sv) (dv cv : Value) (op : Bool) (bs bf : Int) (m k : Nat) (w : World) (lv dv' : Value) (wr : World) : Prop where
  r : PRow b { s with done := s.done ++ (s.com.take (min k m)).map cmP } dv' cv (lastB s.com (min k m) op bs bf).1 (lastB s.com (min k m) op bs bf).2.1 (lastB s.com (min k m) op bs bf).2.2 wr
  off : Off (pFoot b dv cv) w wr
  at' : ∀ j, dv'.ownBlock = some j → dv.ownBlock = some j ∨ w.heap.size ≤ j
  l : wr.ownsRow w.heap.size 84 5 lv (k - m) (flatC ((s.com.drop m).take (k - m)))
theorem LkV.below {b : Nat} {s : Sv} {dv cv : Value} {op : Bool} {bs bf : Int} {m k : Nat} {w : World} {lv dv' : Value} {wr w' : World} (h : LkV b s dv cv op bs bf m k w lv dv' wr) (hb : Below wr.heap.size wr w') : LkV b s dv cv op bs bf m k w lv dv' w' :=
  ⟨h.r.below hb, h.off.then hb, h.at', own_down h.l hb⟩
/-- What stays grows. -/
theorem LkV.stay {b : Nat} {s : Sv} {dv cv : Value} {op : Bool} {bs bf : Int} {m k : Nat} {w : World} {lv dv' lv' : Value} {wr w2 : World} (h : LkV b s dv cv op bs bf m k w lv dv' wr) (hm : m ≤ k) (lb : b < w.heap.size) (cl : ∀ j, cv.ownBlock = some j → j < w.heap.size) (hg : wr.grownBy w2 lv.ownBlock)
    (own : w2.ownsRow w.heap.size 84 5 lv' (k + 1 - m) (flatC ((s.com.drop m).take (k + 1 - m)))) : LkV b s dv cv op bs bf m (k + 1) w lv' dv' w2 := by
  have e : min (k + 1) m = min k m := by omega
  have ge := own_ge h.l
  have sz := h.off.size
  refine ⟨?_, h.off.grown hg (fun j e hj => by have := ge j e; omega), h.at', own⟩
  rw [e]
  refine h.r.keep (fun j q => ?_)
  have lj : j < wr.heap.size := by obtain ⟨_, _, _, hh, _⟩ := h.r.typ q; exact lt_of_heap hh
  refine hg.block j lj (fun c => ?_)
  have g1 := ge j c.symm
  rcases q with q | q | q
  · omega
  · obtain ⟨cs, fr, hh⟩ := own_typ h.l c.symm
    obtain ⟨cs', fr', hh'⟩ := own_typ h.r.dd q
    rw [hh] at hh'
    simp at hh'
  · have := cl j q; omega
/-- One begins. -/
theorem LkV.begin {b : Nat} {s : Sv} {dv cv : Value} {op : Bool} {bs bf : Int} {m k : Nat} {w : World} {lv dv' : Value} {wr w2 : World} (h : LkV b s dv cv op bs bf m k w lv dv' wr) (hk : k < s.com.length) (hm : k < m) (lb : b < w.heap.size) (cl : ∀ j, cv.ownBlock = some j → j < w.heap.size)
    (hp : BegP b { s with done := s.done ++ (s.com.take (min k m)).map cmP } dv' cv s.com[k].a s.com[k].o s.com[k].bs s.com[k].bf wr w2) : ∃ dv2, LkV b s dv cv op bs bf m (k + 1) w lv dv2 w2 := by
  obtain ⟨dv2, pr, of, ha⟩ := hp
  have e1 : min k m = k := by omega
  have e2 : min (k + 1) m = k + 1 := by omega
  have sz := h.off.size
  have ge := own_ge h.l
  refine ⟨dv2, ?_, ?_, fun j e => ?_, ?_⟩
  · have ed : (s.done ++ (s.com.take (min k m)).map cmP) ++ [(s.com[k].a, s.com[k].o)] = s.done ++ (s.com.take (min (k + 1) m)).map cmP := by
      rw [e1, e2, List.take_succ_eq_append_getElem hk, List.map_append, List.append_assoc]; rfl
    have el : lastB s.com (min (k + 1) m) op bs bf = (true, s.com[k].bs, s.com[k].bf) := by
      unfold lastB
      rw [e2, if_neg (by omega), show k + 1 - 1 = k from rfl, List.getD_eq_getElem?_getD, List.getElem?_eq_getElem hk]; rfl
    rw [el, ← ed]
    exact pr
  · refine h.off.trans of (fun j hj e => ?_)
    rcases e with e | e | e
    · exact .inl e
    · rcases h.at' j e with q | q
      · exact .inr (.inl q)
      · omega
    · exact .inr (.inr e)
  · rcases ha j e with q | q
    · exact h.at' j q
    · exact .inr (by omega)
  · have e3 : k + 1 - m = k - m := by omega
    rw [e3]
    refine of.own h.l (fun j e q => ?_)
    have g1 := ge j e
    rcases q with q | q | q
    · omega
    · obtain ⟨cs, fr, hh⟩ := own_typ h.l e
      obtain ⟨cs', fr', hh'⟩ := own_typ h.r.dd q
      rw [hh] at hh'
      simp at hh'
    · have := cl j q; omega
/-- What lookAround leaves. -/
def LkP (b : Nat) (s : Sv) (dv cv : Value) (op : Bool) (bs bf : Int) (m : Nat) (w w' : World) : Prop := ∃ dv' cv', PRow b s.begun dv' cv' (lastB s.com m op bs bf).1 (lastB s.com m op bs bf).2.1 (lastB s.com m op bs bf).2.2 w' ∧ Off (pFoot b dv cv) w w' ∧ ∀ j, pFoot b dv' cv' j → pFoot b dv cv j ∨ w.heap.size ≤ j
set_option maxRecDepth 100000 in
set_option maxHeartbeats 6400000 in
theorem let_due (b : Nat) (s : Sv) (dv cv : Value) (op : Bool) (bs bf : Int) (m : Nat) (w : World) (h : PRow b s dv cv op bs bf w) (hc : Cut s.ns s.nf s.com m) (hl : s.done.length + s.com.length ≤ 800) :
    Calls Tryz.prog 73 #[.pointer (some ⟨b, 0, none⟩)] w fun e w' => e = .returned (.tuple #[]) ∧ LkP b s dv cv op bs bf m w w' := by
  obtain ⟨k0, hk0, hx0, hx1, hx2⟩ := info_parts infoAComing
  have HP := hid' h
  have HC := hid' hc
  have lb := lt_of_heap h.row
  have CL : ∀ j, cv.ownBlock = some j → j < w.heap.size := fun j e => by obtain ⟨_, _, hh⟩ := own_typ h.cc e; exact lt_of_heap hh
  have HCL := hid' CL
  have hm := hc.le
  obtain ⟨ca, ccp, hcv⟩ := own_slice h.cc
  subst hcv
  have L0 : Hid (LkV b s dv (.slice ca s.com.length ccp) op bs bf m 0 w (.slice none 0 0) dv w) := by
    refine ⟨?_, Off.refl _ _, fun j e => .inl e, ?_⟩
    · rw [Nat.zero_min]
      simpa [lastB] using h
    · rw [Nat.zero_sub]; exact World.ownsRow_nil _ _ _ _
  clear h hc CL
  go_enter Tryz.func73, Tryz.ntmps73
  go_wp2
  go_loopw [2, 3, 4] (fun lv i _ wr => ∃ (k : Nat) (dv' : Value), k ≤ s.com.length ∧ i = .int .i64 k ∧ LkV b s dv (.slice ca s.com.length ccp) op bs bf m k w lv dv' wr) (fun _ i _ _ => s.com.length - (intOf i).toNat)
  case atStart => exact ⟨0, _, by omega, rfl, L0.out⟩
  case round =>
    obtain ⟨k, dv', hk, rfl, lk⟩ := hrel
    have LK := hid' lk
    have q8 := lk.r.c10
    have lbr := lt_of_heap lk.r.row
    have sz := lk.off.size
    by_cases hlt : k < s.com.length
    · have hli : (k : Int) < (s.com.length : Int) := by omega
      have hk0i : (0 : Int) ≤ (k : Int) := by omega
      obtain ⟨g, cg, hg⟩ := own_some lk.r.cc (show 0 < s.com.length by omega)
      obtain ⟨rfl, _, rfl⟩ := Value.slice.inj hg
      have lg : g < wr.heap.size := (lk.r.cc.lt _ rfl).2
      have e0 := (lk.r.cc.cellAt (k * 5) (by omega)).trans (flatC_at s.com k hlt 0 (by omega))
      have e1 := (lk.r.cc.cellAt (k * 5 + 1) (by omega)).trans (flatC_at s.com k hlt 1 (by omega))
      have e2 := (lk.r.cc.cellAt (k * 5 + 2) (by omega)).trans (flatC_at s.com k hlt 2 (by omega))
      have e3 := (lk.r.cc.cellAt (k * 5 + 3) (by omega)).trans (flatC_at s.com k hlt 3 (by omega))
      have e4 := (lk.r.cc.cellAt (k * 5 + 4) (by omega)).trans (flatC_at s.com k hlt 4 (by omega))
      have q2 := lk.r.c4
      have q3 := lk.r.c5
      have HLO := hid' (HC.out.lo k hlt)
      have HHI := hid' (HC.out.hi k hlt)
      have HBG := hid' (fun (w2 : World) (lv0 dv0 : Value) (W : World) (hh : LkV b s dv (.slice (some ⟨g, 0, none⟩) s.com.length ccp) op bs bf m k w lv0 dv0 W) (hm : k < m) hp => LkV.begin (w2 := w2) hh hlt hm lb HCL.out hp)
      have htk : m ≤ k → (s.com.drop m).take (k + 1 - m) = (s.com.drop m).take (k - m) ++ [s.com[k]] := fun q => by
        rw [show k + 1 - m = (k - m) + 1 from by omega, List.take_succ_eq_append_getElem (by rw [List.length_drop]; omega), List.getElem_drop]
        congr 2
        congr 1
        omega
      have HTK := hid' htk
      generalize s.com[k] = c at *
      obtain ⟨cA, cO, cS, cF, cV⟩ := c
      simp [Cm.cells] at e0 e1 e2 e3 e4
      simp only at HLO HHI HBG
      have EAR := hid' (fun W => clk_earlier s.ns s.nf cS cF W)
      obtain ⟨lt, hltb⟩ : ∃ lt, tLater cS cF s.ns s.nf = lt := ⟨_, rfl⟩
      rw [hltb] at EAR HLO HHI
      have BA := hid' ((Below.refl wr.heap.size wr).alloc (Nat.le_refl _) (.cells #[.int .i64 cA, .int .i64 cO, .int .i64 cS, .int .i64 cF, .bool cV] 84))
      have RA := hid' (heap_alloc_new wr (.cells #[.int .i64 cA, .int .i64 cO, .int .i64 cS, .int .i64 cF, .bool cV] 84))
      obtain ⟨va, vcp, hv⟩ := own_slice lk.l
      subst hv
      clear lk hg htk hltb
      go_upto_region 5 with fail
      go_cut [2, 3, 4, 30] from 5 to 37 (fun s2 s3 s4 s30 wx => s2 = .slice va (k - m) vcp ∧ s3 = .int .i64 k ∧ s4 = .pointer (some ⟨wr.heap.size, 0, none⟩) ∧ s30 = .bool lt ∧ Below wr.heap.size wr wx ∧ wx.heap[wr.heap.size]? = some (.cells #[.int .i64 cA, .int .i64 cO, .int .i64 cS, .int .i64 cF, .bool cV] 84 (0, 0)))
      case first =>
        go_region_with (go_at_call 96; refine (EAR.out _).mono ?_; rintro e w1 ⟨rfl, hb1⟩; have HB1 := hid' hb1; clear hb1)
        all_goals
          go_wp2_with fail
          go_meet
          case rel => exact ⟨rfl, rfl, rfl, rfl, BA.out.drew.trans (HB1.out.mono (by exact BA.out.size)), (HB1.out.block _ (by simp)).trans RA.out⟩
      case rest =>
        obtain ⟨rfl, rfl, rfl, rfl, bel, crow⟩ := hcut
        rename World => W1
        have L1 := hid' (LK.out.below bel)
        have CR := hid' crow
        have lc := lt_of_heap crow
        have sz1 := bel.size
        have d0 := cell_of_row _ _ 0 _ _ _ crow
        have d1 := cell_of_row _ _ 1 _ _ _ crow
        have d2 := cell_of_row _ _ 2 _ _ _ crow
        have d3 := cell_of_row _ _ 3 _ _ _ crow
        have d4 := cell_of_row _ _ 4 _ _ _ crow
        simp at d0 d1 d2 d3 d4
        clear bel crow q2 q3 q8 e0 e1 e2 e3 e4
        cases lt with
        | true =>
          have hmk : m ≤ k := by
            by_cases q : m ≤ k
            · exact q
            · have := HLO.out (by omega); cases this
          go_wp2_with (at_builtin; refine wpList_append_lies _ (by rfl) (.tmp 31) (.tmp 33) 34 (by rfl) w.heap.size 84 k0 (.agg #[.int .i64 0, .int .i64 0, .int .i64 0, .int .i64 0, .bool false]) 5 40 Tryz.underlying34 hk0 hx0 hx1 hx2 rfl (by decide) (.slice va (k - m) vcp) (k - m) (flatC ((s.com.drop m).take (k - m))) (by rfl) (L1.out.l.alloc _) ⟨W1.heap.size, 0, none⟩ 1 1 [.int .i64 cA, .int .i64 cO, .int .i64 cS, .int .i64 cF, .bool cV] (by rfl) (by rfl) (World.news_of_block (cs := #[.int .i64 cA, .int .i64 cO, .int .i64 cS, .int .i64 cF, .bool cV]) (t := 84) (fr := (0, 0)) (heap_alloc_new W1 _)) (by simp [Value.oneCell']) (by decide) (by unfold maxLen; omega) (by omega) (by simp <;> omega) (W1.heap.size + 1) (by simp) ?_; intro g3 cap3 w3 own3 hg3 hat3 hlt3; have OWN3 := hid' own3; have HG3 := hid' hg3; clear own3 hg3 hat3)
          go_roundw
          case rel =>
            refine ⟨k + 1, dv', by omega, by go_num, ?_⟩
            refine (L1.out.below ((Below.refl W1.heap.size W1).alloc (Nat.le_refl _) _)).stay hmk lb HCL.out HG3.out ?_
            rw [HTK.out hmk, flatC_append, show k + 1 - m = k - m + 1 from by omega]
            exact OWN3.out
          case measure => simp [intOf]; omega
        | false =>
          have hmk : k < m := by
            by_cases q : m ≤ k
            · have := HHI.out q; cases this
            · omega
          have dlen : (s.done ++ (s.com.take (min k m)).map cmP).length ≤ 900 := by simp; omega
          have LB := hid' (let_begin b _ dv' (.slice (some ⟨g, 0, none⟩) s.com.length ccp) _ _ _ cA cO cS cF cV W1 L1.out.r dlen)
          clear dlen
          go_wp2_with fail
          refine LB.out.mono ?_
          rintro e w4 ⟨rfl, bp⟩
          have BP := hid' (HBG.out w4 _ _ W1 L1.out hmk bp)
          clear bp LB
          go_wp2
          go_roundw
          case rel =>
            obtain ⟨dv2, l2⟩ := BP.out
            exact ⟨k + 1, dv2, by omega, by go_num, l2⟩
          case measure => simp [intOf]; omega
    · have hnl : ¬ (k : Int) < (s.com.length : Int) := by omega
      obtain rfl : k = s.com.length := by omega
      obtain ⟨va, vcp, hv⟩ := own_slice lk.l
      subst hv
      have f8 := lk.r.fr 10
      clear lk
      go_wp2
      go_end0
      have e1 : min s.com.length m = m := by omega
      have hr := LK.out.r
      rw [e1] at hr
      have hcc : (s.com.drop m).take (s.com.length - m) = s.com.drop m := List.take_of_length_le (by simp)
      have hll := LK.out.l
      rw [hcc] at hll
      have pc := hr.putC (L := s.com.drop m) (by rw [List.length_drop]; exact own_lo hll (Nat.zero_le _))
      refine ⟨rfl, dv', .slice va (s.com.length - m) vcp, ?_, LK.out.off.setCell (p := ⟨b, 10, none⟩) (fun _ => .inl rfl) _, fun j e => ?_⟩
      · have eb := s.begun_cut m HC.out
        rw [eb]
        exact ⟨pc.row, pc.dd, pc.cc, pc.sl⟩
      · rcases e with e | e | e
        · exact .inl (.inl e)
        · rcases LK.out.at' j e with q | q
          · exact .inl (.inr (.inl q))
          · exact .inr q
        · exact .inr (own_ge hll j e)
end Go.Proofs.YtmmkhodaljpjgabGreatDoor
namespace Go.Proofs.YtmmkhodaljpjgabGreatDoor
open Go.RowKit
/-- The clock shows another time. -/
theorem PRow.putN {b : Nat} {s : Sv} {dv cv : Value} {op : Bool} {bs bf : Int} {w : World} (h : PRow b s dv cv op bs bf w) (x y : Int) : PRow b (s.at' x y) dv cv op bs bf ((w.setCell ⟨b, 4, none⟩ (.int .i64 x)).setCell ⟨b, 5, none⟩ (.int .i64 y)) := by
  have r1 := heap_setCell_same _ _ 4 _ _ (.int .i64 x) h.row
  refine ⟨?_, own_set (p := ⟨b, 5, none⟩) (own_set (p := ⟨b, 4, none⟩) h.dd h.row (by decide) _) r1 (by decide) _, own_set (p := ⟨b, 5, none⟩) (own_set (p := ⟨b, 4, none⟩) h.cc h.row (by decide) _) r1 (by decide) _, h.sl⟩
  rw [heap_setCell_same _ _ _ _ _ _ r1]; rfl
theorem Opn.at' {s : Sv} {op : Bool} {bs bf x y : Int} (h : Opn s op bs bf) (hl : tLater s.ns s.nf x y = false) : Opn (s.at' x y) op bs bf := by
  refine ⟨h.1, fun e i hi => ?_⟩
  have q := h.2 e i hi
  have nl := not_later hl
  show (s.began.getD i (0, 0)).1 + s.win < x ∨ ((s.began.getD i (0, 0)).1 + s.win = x ∧ (s.began.getD i (0, 0)).2 ≤ y)
  omega
theorem Opn.begun {s : Sv} {op : Bool} {bs bf : Int} {m : Nat} (h : Opn s op bs bf) (hc : Cut s.ns s.nf s.com m) (hp : 0 < m → 0 < s.began.length) : Opn s.begun (lastB s.com m op bs bf).1 (lastB s.com m op bs bf).2.1 (lastB s.com m op bs bf).2.2 := by
  have eb := s.begun_cut m hc
  have hm := hc.le
  by_cases z : m = 0
  · subst z
    have e2 : s.begun.began = s.began := by rw [eb]; simp
    have e3 : s.begun.ns = s.ns := rfl
    have e4 : s.begun.nf = s.nf := rfl
    have e5 : s.begun.win = s.win := rfl
    have el : lastB s.com 0 op bs bf = (op, bs, bf) := rfl
    rw [el]
    unfold Opn
    rw [e2, e3, e4, e5]
    exact h
  · have el : lastB s.com m op bs bf = (true, (s.com.getD (m - 1) ⟨0, 0, 0, 0, false⟩).bs, (s.com.getD (m - 1) ⟨0, 0, 0, 0, false⟩).bf) := by unfold lastB; rw [if_neg z]
    rw [el]
    refine ⟨fun _ => ?_, fun e => by cases e⟩
    have e2 : s.begun.began = s.began ++ (s.com.take m).map cmB := by rw [eb]
    rw [e2]
    have ln : (s.began ++ (s.com.take m).map cmB).length = s.began.length + m := by simp; omega
    refine ⟨by have := hp (by omega); omega, ?_⟩
    rw [ln, List.getD_eq_getElem?_getD, List.getElem?_append_right (by omega), List.getElem?_map, List.getElem?_take_of_lt (by omega), List.getD_eq_getElem?_getD]
    rw [show s.began.length + m - 1 - s.began.length = m - 1 from by omega, List.getElem?_eq_getElem (show m - 1 < s.com.length by omega)]
    rfl
theorem Opn.com {s : Sv} {op : Bool} {bs bf : Int} (h : Opn s op bs bf) (L : List Cm) : Opn { s with com := L } op bs bf := h
theorem Opn.says {s : Sv} {op : Bool} {bs bf : Int} (h : Opn s op bs bf) (k : Nat) (leap : Int) : Opn (s.says k leap) op bs bf := h
/-- What a step on the program's server leaves. -/
def PPost (b : Nat) (F : Nat → Prop) (w : World) (s : Sv) (w' : World) : Prop := ∃ F', PS b s F' w' ∧ Off F w w' ∧ ∀ k, F' k → F k ∨ w.heap.size ≤ k
end Go.Proofs.YtmmkhodaljpjgabGreatDoor
namespace Go.Proofs.YtmmkhodaljpjgabGreatDoor
open Go.RowKit
attribute [local go_sem ↓] Go.wp_at_zero Go.wp_at_succ
set_option maxRecDepth 100000 in
set_option maxHeartbeats 1600000 in
theorem v_fresh (sd : Bool) (lp ws wf s f fr : Int) (w : World) (t0 : 0 ≤ s) (t1 : s ≤ 34000000000) (f0 : 0 ≤ f) (f1 : f < 4294967296) (hk : (⟨sd, lp, ws, wf⟩ : Hd).Ok) :
    Calls Tryz.prog 121 #[.agg #[.bool sd, .int .i64 lp, .int .i64 ws, .int .i64 wf], .agg #[.int .i64 s, .int .i64 f], .int .i64 fr] w fun e w' => e = .returned (.bool (sd && !tLater (gone s f ws wf).1 (gone s f ws wf).2 fr 0)) ∧ Below w.heap.size w w' := by
  obtain ⟨k0, k1, k2, k3⟩ := hk
  simp only at k0 k1 k2 k3
  have GO := hid' (fun W => clk_gone s f ws wf W (by omega) (by omega) (by omega) (by omega) f0 f1 k2 k3)
  generalize gone s f ws wf = gg at *
  obtain ⟨ga, gb⟩ := gg
  simp only at GO
  have EA := hid' (fun W => clk_earlier fr 0 ga gb W)
  generalize tLater ga gb fr 0 = lt at *
  have B0 := hid' (((Below.refl w.heap.size w).alloc (Nat.le_refl _) (.cells #[.bool sd, .int .i64 lp, .int .i64 ws, .int .i64 wf] 65)).alloc (by simp) (.cells #[.int .i64 s, .int .i64 f] 33))
  have R0 := hid' (heap_alloc2_old w (.cells #[.bool sd, .int .i64 lp, .int .i64 ws, .int .i64 wf] 65) (.cells #[.int .i64 s, .int .i64 f] 33))
  have R1 := hid' (heap_alloc2_new w (.cells #[.bool sd, .int .i64 lp, .int .i64 ws, .int .i64 wf] 65) (.cells #[.int .i64 s, .int .i64 f] 33))
  go_enter Tryz.func121, Tryz.ntmps121
  go_upto_region 1 with fail
  generalize hV : (w.alloc (.cells #[.bool sd, .int .i64 lp, .int .i64 ws, .int .i64 wf] 65)).alloc (.cells #[.int .i64 s, .int .i64 f] 33) = V at *
  clear hV
  have a2 := cell_of_row _ _ 2 _ _ _ R0.out
  have a3 := cell_of_row _ _ 3 _ _ _ R0.out
  have b0 := cell_of_row _ _ 0 _ _ _ R1.out
  have b1 := cell_of_row _ _ 1 _ _ _ R1.out
  simp at a2 a3 b0 b1
  go_wp2_with fail
  refine (GO.out _).mono ?_
  rintro e w1 ⟨rfl, hb1⟩
  have a0 := (hb1.cell (p := ⟨w.heap.size, 0, none⟩) (lt_of_heap R0.out)).trans (cell_of_row _ _ 0 _ _ _ R0.out)
  have lq : w.heap.size < w1.heap.size := Nat.lt_of_lt_of_le (lt_of_heap R0.out) hb1.size
  have B1 := hid' (B0.out.trans (hb1.mono B0.out.size))
  simp at a0
  clear hb1 GO a2 a3 b0 b1
  have sz1 := B1.out.size
  cases sd with
  | false =>
    go_wp2
    go_ret
    exact ⟨by simp, B1.out.alloc sz1 _⟩
  | true =>
    go_wp2_with fail
    refine (EA.out _).mono ?_
    rintro e w2 ⟨rfl, hb2⟩
    have B2 := hid' ((B1.out.alloc sz1 (.cells #[.int .i64 ga, .int .i64 gb] 33)).trans (hb2.mono (by simp; omega)))
    clear hb2
    go_wp2
    go_ret
    exact ⟨by simp, B2.out⟩
set_option maxRecDepth 100000 in
set_option maxHeartbeats 6400000 in
theorem v_count (b : Nat) (s : Sv) (dv cv : Value) (op : Bool) (bs bf l : Int) (w : World) (h : PRow b s dv cv op bs bf w) (hN : s.Num) :
    Calls Tryz.prog 112 #[.pointer (some ⟨b, 12, none⟩), .int .i64 l, .agg #[.int .i64 s.ns, .int .i64 s.nf], .int .i64 s.fresh] w fun e w' => e = .returned (.int .i64 (s.cnt l 8)) ∧ Below w.heap.size w w' := by
  obtain ⟨t0, t1, t2, t3⟩ := hN.t'
  have HP := hid' h
  have HN := hid' hN
  have HC := hid' (fun k => s.cnt_bd l k)
  have B0 := hid' ((Below.refl w.heap.size w).alloc (Nat.le_refl _) (.cells #[.int .i64 s.ns, .int .i64 s.nf] 33))
  have R0 := hid' (heap_alloc_new w (.cells #[.int .i64 s.ns, .int .i64 s.nf] 33))
  have P0 := hid' (h.below B0.out)
  have lb := h.lt
  clear h hN
  go_enter Tryz.func112, Tryz.ntmps112
  go_upto_region 1 with fail
  generalize hV : w.alloc (.cells #[.int .i64 s.ns, .int .i64 s.nf] 33) = V at *
  generalize hQ : w.heap.size = Q at *
  clear hV
  have ls := B0.out.size
  go_wp2_with fail
  go_loopw [9, 10] (fun n i wr => ∃ k : Nat, k ≤ 8 ∧ i = .int .i64 k ∧ n = .int .i64 (s.cnt l k) ∧ Below V.heap.size V wr) (fun _ i _ => 8 - (intOf i).toNat)
  case atStart => exact ⟨0, by omega, rfl, rfl, Below.refl _ _⟩
  case round =>
    obtain ⟨k, hk, rfl, rfl, hb⟩ := hrel
    have HB := hid' hb
    by_cases hlt : k < 8
    · have hli : (k : Int) < 8 := by omega
      have hk0 : (0 : Int) ≤ (k : Int) := by omega
      obtain ⟨c0, c1, c2, c3⟩ := (P0.out.below hb).hdAt k hlt
      have hok := HN.out.hd_ok k
      have cb := HC.out k
      have d0 := (hb.cell (p := ⟨Q, 0, none⟩) (lt_of_heap R0.out)).trans (cell_of_row _ _ 0 _ _ _ R0.out)
      have d1 := (hb.cell (p := ⟨Q, 1, none⟩) (lt_of_heap R0.out)).trans (cell_of_row _ _ 1 _ _ _ R0.out)
      simp at d0 d1
      have st : s.cnt l (k + 1) = if (s.hd k).leap = l ∧ s.freshB (s.hd k) = true then s.cnt l k + 1 else s.cnt l k := rfl
      have HST := hid' st
      have FE := hid' (s.fresh_eq (s.hd k) t2 t3 hok.1.2.2.1 hok.1.2.2.2)
      generalize s.hd k = hd at *
      obtain ⟨sd, lp, ws, wf⟩ := hd
      simp only at c0 c1 c2 c3 hok FE
      have FR := hid' (fun W => v_fresh sd lp ws wf s.ns s.nf s.fresh W t0 t1 t2 t3 hok.1)
      generalize hcn : s.cnt l k = cn at *
      have lbr : b < wr.heap.size := Nat.lt_of_lt_of_le (lt_of_heap P0.out.row) hb.size
      have lqr : Q < wr.heap.size := Nat.lt_of_lt_of_le (lt_of_heap R0.out) hb.size
      rw [← FE.out] at FR
      generalize s.freshB ⟨sd, lp, ws, wf⟩ = fb at *
      clear hb st hok FE hcn
      go_upto_region 5 with fail
      by_cases e : lp = l
      · have e1 : (lp == l) = true := beq_iff_eq.2 e
        go_cut [9, 10, 34] from 11 to 36 (fun s9 s10 s34 wx => s9 = .int .i64 cn ∧ s10 = .int .i64 k ∧ s34 = .bool fb ∧ Below wr.heap.size wr wx)
        case first =>
          have E := hid' e
          clear e
          go_region_held3 (fun w' => w'.cell? ⟨b, 12 + k * 4, none⟩ = some (.bool sd) ∧ w'.cell? ⟨b, 12 + k * 4 + 1, none⟩ = some (.int .i64 lp) ∧ w'.cell? ⟨b, 12 + k * 4 + 2, none⟩ = some (.int .i64 ws) ∧ w'.cell? ⟨b, 12 + k * 4 + 3, none⟩ = some (.int .i64 wf) ∧ w'.cell? ⟨Q, 0, none⟩ = some (.int .i64 s.ns) ∧ w'.cell? ⟨Q, 1, none⟩ = some (.int .i64 s.nf)) (first | go_keep | assumption) (first | (go_at_call 121; refine (FR.out _).mono ?_; rintro e w1 ⟨rfl, hb1⟩; have HB1 := hid' hb1; have m0 := hb1.cell (p := ⟨b, 12 + k * 4, none⟩) lbr; have m1 := hb1.cell (p := ⟨b, 12 + k * 4 + 1, none⟩) lbr; have m2 := hb1.cell (p := ⟨b, 12 + k * 4 + 2, none⟩) lbr; have m3 := hb1.cell (p := ⟨b, 12 + k * 4 + 3, none⟩) lbr; have m4 := hb1.cell (p := ⟨Q, 0, none⟩) lqr; have m5 := hb1.cell (p := ⟨Q, 1, none⟩) lqr; clear hb1))
          all_goals
            go_wp2_with fail
            go_meet
            case rel => exact ⟨rfl, rfl, rfl, (Below.refl _ _).drew.trans HB1.out⟩
        case rest =>
          obtain ⟨rfl, rfl, rfl, bel⟩ := hcut
          rename World => W1
          have BL := hid' bel
          clear bel
          cases fb with
          | true =>
            go_wp2
            go_roundw
            case rel => exact ⟨k + 1, by omega, by go_num, by rw [HST.out, if_pos ⟨e, rfl⟩], HB.out.trans (BL.out.mono HB.out.size)⟩
            case measure => simp [intOf]; omega
          | false =>
            go_wp2
            go_roundw
            case rel => exact ⟨k + 1, by omega, by go_num, by rw [HST.out, if_neg (by simp)], HB.out.trans (BL.out.mono HB.out.size)⟩
            case measure => simp [intOf]; omega
      · have e1 : (lp == l) = false := by rw [beq_eq_false_iff_ne]; exact e
        have E := hid' e
        clear e
        go_quiet (fail)
        go_wp2
        go_roundw
        case rel => exact ⟨k + 1, by omega, by go_num, by rw [HST.out, if_neg (fun q => E.out q.1)], below_drewN HB.out _⟩
        case measure => simp [intOf]; omega
    · have hnl : ¬ (k : Int) < 8 := by omega
      obtain rfl : k = 8 := by omega
      clear hb
      go_wp2
      go_ret
      exact ⟨rfl, B0.out.trans (HB.out.mono (by omega))⟩
set_option maxRecDepth 100000 in
set_option maxHeartbeats 1600000 in
theorem v_change (b : Nat) (s : Sv) (dv cv : Value) (op : Bool) (bs bf : Int) (w : World) (h : PRow b s dv cv op bs bf w) (hN : s.Num) :
    Calls Tryz.prog 98 #[.pointer (some ⟨b, 12, none⟩), .agg #[.int .i64 s.ns, .int .i64 s.nf], .int .i64 s.fresh] w fun e w' => e = .returned (.int .i64 s.most) ∧ Below w.heap.size w w' := by
  have HM := hid' hN.most_eq
  have C1 := hid' (fun (W : World) (hb : Below w.heap.size w W) => v_count b s dv cv op bs bf 1 W (h.below hb) hN)
  have C2 := hid' (fun (W : World) (hb : Below w.heap.size w W) => v_count b s dv cv op bs bf 2 W (h.below hb) hN)
  have C0 := hid' (fun (W : World) (hb : Below w.heap.size w W) => v_count b s dv cv op bs bf 0 W (h.below hb) hN)
  have p0 : 0 ≤ s.cnt 0 8 := (s.cnt_bd 0 8).1
  have q0 : s.cnt 0 8 ≤ 8 := (s.cnt_bd 0 8).2
  have p1 : 0 ≤ s.cnt 1 8 := (s.cnt_bd 1 8).1
  have q1 : s.cnt 1 8 ≤ 8 := (s.cnt_bd 1 8).2
  have p2 : 0 ≤ s.cnt 2 8 := (s.cnt_bd 2 8).1
  have q2 : s.cnt 2 8 ≤ 8 := (s.cnt_bd 2 8).2
  generalize s.cnt 0 8 = n0 at *
  generalize s.cnt 1 8 = n1 at *
  generalize s.cnt 2 8 = n2 at *
  generalize s.most = mo at *
  have B0 := hid' ((Below.refl w.heap.size w).alloc (Nat.le_refl _) (.cells #[.int .i64 s.ns, .int .i64 s.nf] 33))
  have R0 := hid' (heap_alloc_new w (.cells #[.int .i64 s.ns, .int .i64 s.nf] 33))
  clear h hN
  go_enter Tryz.func98, Tryz.ntmps98
  go_upto_region 1 with fail
  generalize hV : w.alloc (.cells #[.int .i64 s.ns, .int .i64 s.nf] 33) = V at *
  clear hV
  have d0 := cell_of_row _ _ 0 _ _ _ R0.out
  have d1 := cell_of_row _ _ 1 _ _ _ R0.out
  simp at d0 d1
  have lq := lt_of_heap R0.out
  have sv := B0.out.size
  go_wp2_with fail
  refine (C1.out _ B0.out).mono ?_
  rintro e w1 ⟨rfl, hb1⟩
  have e0 := (hb1.cell (p := ⟨w.heap.size, 0, none⟩) lq).trans d0
  have e1 := (hb1.cell (p := ⟨w.heap.size, 1, none⟩) lq).trans d1
  have B1 := hid' (B0.out.trans (hb1.mono sv))
  have lq1 : w.heap.size < w1.heap.size := Nat.lt_of_lt_of_le lq hb1.size
  clear hb1 d0 d1 C1
  go_wp2_with fail
  refine (C2.out _ B1.out).mono ?_
  rintro e w2 ⟨rfl, hb2⟩
  have g0 := (hb2.cell (p := ⟨w.heap.size, 0, none⟩) lq1).trans e0
  have g1 := (hb2.cell (p := ⟨w.heap.size, 1, none⟩) lq1).trans e1
  have B2 := hid' (B1.out.trans (hb2.mono B1.out.size))
  clear hb2 e0 e1 C2
  go_wp2_with fail
  refine (C0.out _ B2.out).mono ?_
  rintro e w3 ⟨rfl, hb3⟩
  have B3 := hid' (B2.out.trans (hb3.mono B2.out.size))
  clear hb3 g0 g1 C0
  by_cases c1 : 2 * n1 > n1 + n2 + n0
  · have H : Hid (mo = 1) := by show _ = _; rw [HM.out, if_pos c1]
    go_wp2
    go_ret
    exact ⟨congrArg (fun v => Ending.returned (.int .i64 v)) H.out.symm, B3.out⟩
  · by_cases c2 : 2 * n2 > n1 + n2 + n0
    · have H : Hid (mo = -1) := by show _ = _; rw [HM.out, if_neg c1, if_pos c2]
      go_wp2
      go_ret
      exact ⟨congrArg (fun v => Ending.returned (.int .i64 v)) H.out.symm, B3.out⟩
    · have H : Hid (mo = 0) := by show _ = _; rw [HM.out, if_neg c1, if_neg c2]
      go_wp2
      go_ret
      exact ⟨congrArg (fun v => Ending.returned (.int .i64 v)) H.out.symm, B3.out⟩
theorem v_is (l : Int) (w : World) :
    Calls Tryz.prog 53 #[.int .i64 l] w fun e w' => e = .returned (.bool (decide (0 ≤ l) && decide (l ≤ 3))) ∧ w' = w := by
  by_cases c1 : 0 ≤ l
  · have H : Hid (decide (0 ≤ l) = true) := decide_eq_true c1
    go_enter Tryz.func53, Tryz.ntmps53
    go_wp2
    go_ret
    exact ⟨ret_bool (by rw [H.out]; rfl), rfl⟩
  · have H : Hid (decide (0 ≤ l) = false) := decide_eq_false c1
    go_enter Tryz.func53, Tryz.ntmps53
    go_wp2
    go_ret
    exact ⟨ret_bool (by rw [H.out]; rfl), rfl⟩
set_option maxRecDepth 100000 in
set_option maxHeartbeats 1600000 in
theorem v_hear (b : Nat) (s : Sv) (dv cv : Value) (op : Bool) (bs bf leap : Int) (k : Nat) (w : World) (h : PRow b s dv cv op bs bf w) (hk : k < s.said.length) :
    Calls Tryz.prog 54 #[.pointer (some ⟨b, 12, none⟩), .int .i64 k, .int .i64 leap, .agg #[.int .i64 s.ns, .int .i64 s.nf]] w fun e w' => e = .returned (.tuple #[]) ∧ PRow b (s.says k leap) dv cv op bs bf w' ∧ Off (pFoot b dv cv) w w' := by
  have sl := h.sl
  have hl : (k : Int) < 8 := by omega
  have hk0 : (0 : Int) ≤ (k : Int) := by omega
  have B0 := hid' ((Below.refl w.heap.size w).alloc (Nat.le_refl _) (.cells #[.int .i64 s.ns, .int .i64 s.nf] 33))
  have R0 := hid' (heap_alloc_new w (.cells #[.int .i64 s.ns, .int .i64 s.nf] 33))
  have P0 := hid' (h.below B0.out)
  have lb := h.lt
  have HK := hid' hk
  clear h sl hk
  go_enter Tryz.func54, Tryz.ntmps54
  go_upto_region 1 with fail
  generalize hV : w.alloc (.cells #[.int .i64 s.ns, .int .i64 s.nf] 33) = V at *
  generalize hQ : w.heap.size = Q at *
  clear hV
  have d0 := cell_of_row _ _ 0 _ _ _ R0.out
  have d1 := cell_of_row _ _ 1 _ _ _ R0.out
  simp at d0 d1
  obtain ⟨c0, c1, c2, c3⟩ := P0.out.hdAt k (by omega)
  have f0 := P0.out.fr (12 + k * 4)
  have f1 := P0.out.fr (12 + k * 4 + 1)
  have f2 := P0.out.fr (12 + k * 4 + 2)
  have f3 := P0.out.fr (12 + k * 4 + 3)
  have hbQ : b ≠ Q := by omega
  have hQb : Q ≠ b := by omega
  go_wp2_with fail
  go_region_with (fail)
  all_goals
    go_wp2
    go_end0
    refine ⟨rfl, ?_, ?_⟩
    · exact (P0.out.below (Below.refl _ _).drew).putH k leap HK.out
    · exact ((((Off.of_below (F := pFoot b dv cv) (by rw [hQ]; exact B0.out.drew)).setCell (p := ⟨b, 12 + k * 4, none⟩) (fun _ => .inl rfl) _).setCell (p := ⟨b, 12 + k * 4 + 1, none⟩) (fun _ => .inl rfl) _).setCell (p := ⟨b, 12 + k * 4 + 2, none⟩) (fun _ => .inl rfl) _).setCell (p := ⟨b, 12 + k * 4 + 3, none⟩) (fun _ => .inl rfl) _
end Go.Proofs.YtmmkhodaljpjgabGreatDoor
