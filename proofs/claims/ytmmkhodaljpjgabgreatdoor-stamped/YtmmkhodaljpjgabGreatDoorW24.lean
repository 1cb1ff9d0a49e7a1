import Derived.Test.YtmmkhodaljpjgabGreatDoorW23
import Derived.Deep.RegionLaw
import Derived.Deep.RegionHeld3
namespace Go.Proofs.YtmmkhodaljpjgabGreatDoor
open Go.RowKit
attribute [local go_sem ↓] Go.wp_at_zero Go.wp_at_succ
/-- The server and the file while the file is taken. -/
structure TkV (b : Nat) (F : Nat → Prop) (w : World) (T : Nat) (up ex : Int) (g n cap : Nat) (ls : List (Int × Int)) (s : Sv) (op : Bool) (bs bf : Int) (dv cv : Value) (wr : World) : Prop where
  r : PRow b s dv cv op bs bf wr
  off : Off F w wr
  foot : ∀ k, pFoot b dv cv k → F k ∨ w.heap.size ≤ k
  row : wr.heap[T]? = some (.cells #[.int .i64 up, .int .i64 ex, .slice (some ⟨g, 0, none⟩) n cap] 29 (0, 0))
  own : wr.ownsRow 0 49 2 (.slice (some ⟨g, 0, none⟩) n cap) n (flat ls)
  ne : dv.ownBlock ≠ some g
def TkAt (b : Nat) (F : Nat → Prop) (w : World) (T : Nat) (up ex : Int) (g n cap : Nat) (ls : List (Int × Int)) (s : Sv) (op : Bool) (bs bf : Int) (wr : World) : Prop := ∃ dv cv, TkV b F w T up ex g n cap ls s op bs bf dv cv wr
theorem TkV.below {b : Nat} {F : Nat → Prop} {w : World} {T : Nat} {up ex : Int} {g n cap : Nat} {ls : List (Int × Int)} {s : Sv} {op : Bool} {bs bf : Int} {dv cv : Value} {W W' : World} (h : TkV b F w T up ex g n cap ls s op bs bf dv cv W) (hb : Below W.heap.size W W') : TkV b F w T up ex g n cap ls s op bs bf dv cv W' :=
  ⟨h.r.below hb, h.off.then hb, h.foot, (hb.block _ (lt_of_heap h.row)).trans h.row, own_down h.own hb, h.ne⟩
theorem TkV.putC {b : Nat} {F : Nat → Prop} {w : World} {T : Nat} {up ex : Int} {g n cap : Nat} {ls : List (Int × Int)} {s : Sv} {op : Bool} {bs bf : Int} {dv cv cv' : Value} {W w2 : World} {L : List Cm} (h : TkV b F w T up ex g n cap ls s op bs bf dv cv W)
    (hg : W.grownBy w2 cv.ownBlock) (own : w2.ownsRow 0 84 5 cv' L.length (flatC L)) (hat : ∀ k, cv'.ownBlock = some k → cv.ownBlock = some k ∨ W.heap.size ≤ k) : TkAt b F w T up ex g n cap ls { s with com := L } op bs bf (w2.setCell ⟨b, 10, none⟩ cv') := by
  have sz := h.off.size
  have row2 := grown_heap (t := 72) hg h.r.cc h.r.row (by decide)
  have trow2 := grown_heap (t := 29) hg h.r.cc h.row (by decide)
  have hl2 := own_grown h.own hg h.r.cc (by decide)
  have d2 := own_grown h.r.dd hg h.r.cc (by decide)
  refine ⟨dv, cv', ⟨?_, own_set (p := ⟨b, 10, none⟩) d2 row2 (by decide) _, own_set (p := ⟨b, 10, none⟩) own row2 (by decide) _, h.r.sl⟩, (h.off.grown hg (fun k e hk => ?_)).setCell (fun hk => ?_) _, fun k e => ?_, ?_, own_set (p := ⟨b, 10, none⟩) hl2 row2 (by decide) _, h.ne⟩
  · rw [heap_setCell_same _ _ _ _ _ _ row2]; rfl
  · rcases h.foot k (.inr (.inr e)) with q | q
    · exact q
    · omega
  · rcases h.foot b (.inl rfl) with q | q
    · exact q
    · simp only at hk; omega
  · rcases e with e | e | e
    · exact h.foot k (.inl e)
    · exact h.foot k (.inr (.inl e))
    · rcases hat k e with q | q
      · exact h.foot k (.inr (.inr q))
      · exact .inr (by omega)
  · exact ((Keep.refl 29 w2).setCell (p := ⟨b, 10, none⟩) row2 (by decide) cv') _ _ _ trow2
/-- The stamps of the file. -/
theorem TkV.putT {b : Nat} {F : Nat → Prop} {w : World} {T : Nat} {up ex : Int} {g n cap : Nat} {ls : List (Int × Int)} {s : Sv} {op : Bool} {bs bf : Int} {dv cv : Value} {W : World} (h : TkV b F w T up ex g n cap ls s op bs bf dv cv W) :
    TkAt b F w T up ex g n cap ls (s.stamp up ex) op bs bf ((((W.setCell ⟨b, 6, none⟩ (.bool true)).setCell ⟨b, 7, none⟩ (.int .i64 up)).setCell ⟨b, 8, none⟩ (.int .i64 ex)).setCell ⟨b, 10, none⟩ (.slice none 0 0)) := by
  have r0 := h.r.row
  have r1 := heap_setCell_same _ _ 6 _ _ (.bool true) r0
  have r2 := heap_setCell_same _ _ 7 _ _ (.int .i64 up) r1
  have r3 := heap_setCell_same _ _ 8 _ _ (.int .i64 ex) r2
  have ow : ∀ {B e size n : Nat} {v : Value} {xs : List Value}, W.ownsRow B e size v n xs → 72 ≠ e → ((((W.setCell ⟨b, 6, none⟩ (.bool true)).setCell ⟨b, 7, none⟩ (.int .i64 up)).setCell ⟨b, 8, none⟩ (.int .i64 ex)).setCell ⟨b, 10, none⟩ (.slice none 0 0)).ownsRow B e size v n xs := fun o he =>
    own_set (p := ⟨b, 10, none⟩) (own_set (p := ⟨b, 8, none⟩) (own_set (p := ⟨b, 7, none⟩) (own_set (p := ⟨b, 6, none⟩) o r0 he _) r1 he _) r2 he _) r3 he _
  have bF : b < w.heap.size → F b := fun hk => by
    rcases h.foot b (.inl rfl) with q | q
    · exact q
    · omega
  refine ⟨dv, .slice none 0 0, ⟨?_, ow h.r.dd (by decide), World.ownsRow_nil _ _ _ _, h.r.sl⟩, (((h.off.setCell (p := ⟨b, 6, none⟩) bF _).setCell (p := ⟨b, 7, none⟩) bF _).setCell (p := ⟨b, 8, none⟩) bF _).setCell (p := ⟨b, 10, none⟩) bF _, fun k e => ?_, ?_, ow h.own (by decide), h.ne⟩
  · rw [heap_setCell_same _ _ _ _ _ _ r3]; rfl
  · rcases e with e | e | e
    · exact h.foot k (.inl e)
    · exact h.foot k (.inr (.inl e))
    · simp [Value.ownBlock] at e
  · exact ((((Keep.refl 29 W).setCell (p := ⟨b, 6, none⟩) r0 (by decide) _).setCell (p := ⟨b, 7, none⟩) r1 (by decide) _).setCell (p := ⟨b, 8, none⟩) r2 (by decide) _).setCell (p := ⟨b, 10, none⟩) r3 (by decide) _ _ _ _ h.row
/-- What has begun is written: a list of its own. -/
theorem TkV.putD {b : Nat} {F : Nat → Prop} {w : World} {T : Nat} {up ex : Int} {g n cap : Nat} {ls : List (Int × Int)} {s S : Sv} {op : Bool} {bs bf : Int} {dv cv dv' : Value} {W : World} (h : TkV b F w T up ex g n cap ls s op bs bf dv cv W) (hS : S = { s with done := S.done, began := S.began })
    (own : W.ownsRow 0 49 2 dv' S.done.length (flat S.done)) (hat : ∀ k, dv'.ownBlock = some k → w.heap.size ≤ k) (hne : dv'.ownBlock ≠ some g) : TkAt b F w T up ex g n cap ls S op bs bf (W.setCell ⟨b, 9, none⟩ dv') := by
  have row := h.r.row
  have ec : S.com = s.com := by rw [hS]
  have es : S.said = s.said := by rw [hS]
  refine ⟨dv', cv, ⟨?_, own_set (p := ⟨b, 9, none⟩) own row (by decide) _, by rw [ec]; exact own_set (p := ⟨b, 9, none⟩) h.r.cc row (by decide) _, by rw [es]; exact h.r.sl⟩, h.off.setCell (fun hk => ?_) _, fun k e => ?_, ?_, own_set (p := ⟨b, 9, none⟩) h.own row (by decide) _, hne⟩
  · rw [heap_setCell_same _ _ _ _ _ _ row, hS]; rfl
  · rcases h.foot b (.inl rfl) with q | q
    · exact q
    · simp only at hk; omega
  · rcases e with e | e | e
    · exact h.foot k (.inl e)
    · exact .inr (hat k e)
    · exact h.foot k (.inr (.inr e))
  · exact ((Keep.refl 29 W).setCell (p := ⟨b, 9, none⟩) row (by decide) dv') _ _ _ h.row
theorem Sv.begun1_first {x : Sv} (h : x.Inv) {ls : List (Int × Int)} (hf : Tab.Fit ls) (hd : x.ld = false) (la : Nat) (hl : Tab.lastAt ls x.ns ls.length = (la : Int)) : (x.begun1 ls).done = ls.take (la + 1) ∧ (x.begun1 ls).began.length = la + 1 ∧ ∀ i, i < la + 1 → (x.begun1 ls).began.getD i (0, 0) = (Tab.when ls i - x.win, 0) := by
  obtain ⟨n1, n2, _⟩ := h.no hd
  obtain ⟨a, b, c⟩ := Sv.tk_eq (x := x) n1 n2 hf ls.length (Nat.le_refl _)
  have lb := Tab.lastAt_bd ls x.ns ls.length
  have m1 : min ls.length (Tab.lastAt ls x.ns ls.length + 1).toNat = la + 1 := by omega
  rw [m1] at a b c
  have e : x.begun1 ls = { x with done := (x.tk ls ls.length).1, began := (x.tk ls ls.length).2 } := by unfold Sv.begun1; rw [if_pos hd]
  rw [e]
  exact ⟨a, b, c⟩
/-- What take leaves. -/
def TakeP (b : Nat) (s : Sv) (dv cv : Value) (op : Bool) (bs bf : Int) (w w' : World) : Prop := ∃ dv' cv', PRow b s dv' cv' op bs bf w' ∧ Off (pFoot b dv cv) w w' ∧ ∀ k, pFoot b dv' cv' k → pFoot b dv cv k ∨ w.heap.size ≤ k
set_option maxRecDepth 100000 in
set_option maxHeartbeats 12800000 in
theorem take_any (b : Nat) (s : Sv) (dv cv : Value) (op : Bool) (bs bf up ex : Int) (g n cap : Nat) (ls : List (Int × Int)) (w : World) (h : PRow b s dv cv op bs bf w) (ho : w.ownsRow 0 49 2 (.slice (some ⟨g, 0, none⟩) n cap) n (flat ls)) (hne : dv.ownBlock ≠ some g) (hn : ls.length = n) (hI : s.Inv) (hf : Tab.Fit ls) (ha : s.agrees ls = true) :
    Calls Tryz.prog 45 #[.pointer (some ⟨b, 0, none⟩), .agg #[.int .i64 up, .int .i64 ex, .slice (some ⟨g, 0, none⟩) n cap]] w fun e w' => e = .returned (.tuple #[]) ∧ TakeP b (s.taken up ex ls) dv cv op bs bf w w' := by
  have hG := hf.good
  have hlen := hG.len
  have hpos := hG.pos
  have hwin := hI.num.win
  have HFI := hid' hG.fine
  have HWB := hid' (fun i hi => hf.when_bd i hi)
  have HBD := hid' (fun i hi => hf.bd i hi)
  obtain ⟨mm, hm1, hm2, hm3, hm4, hm5, hm6, hm7, hm8⟩ := hI.mid1 hf ha
  obtain ⟨S, hS⟩ : ∃ S, S = s.begun1 ls := ⟨_, rfl⟩
  have HSW : Hid (S.win = s.win) := by show _ = _; rw [hS, hm8]
  have HSE : Hid (s.begun1 ls = S) := hS.symm
  have lae := hf.lastAt_le s.ns hm5
  obtain ⟨la, hla⟩ : ∃ la : Nat, Tab.lastAt ls s.ns ls.length = (la : Int) := ⟨(Tab.lastAt ls s.ns ls.length).toNat, by omega⟩
  have HB1 : Hid (s.ld = true → S = s) := fun e => by rw [hS]; unfold Sv.begun1; rw [if_neg (by rw [e]; simp)]
  have HBF : Hid (s.ld = false → S.done = ls.take (la + 1)) := fun e => by rw [hS]; exact (Sv.begun1_first hI hf e la hla).1
  rw [← hS] at hm3 hm8
  have HS3 := hid' hm3
  have HS8 := hid' hm8
  have lal : la < n := by omega
  obtain ⟨F, hFF⟩ : ∃ F, F = pFoot b dv cv := ⟨_, rfl⟩
  have HFF := hid' hFF
  have hcap : n ≤ cap := by
    rcases ho.2 with ⟨q, _⟩ | ⟨g', cap', cur, q, _, _, c1, _⟩
    · cases q
    · cases q; exact c1
  have HOL := hid' (fun (W : World) (hl : Lies W g ls) => holder_any g cap n ls s.ns W hn hl HFI.out (by omega))
  rw [hn] at hla
  rw [hla] at HOL
  have B0 := hid' ((Below.refl w.heap.size w).alloc (Nat.le_refl _) (.cells #[.int .i64 up, .int .i64 ex, .slice (some ⟨g, 0, none⟩) n cap] 29))
  have T0 : Hid (TkV b F w w.heap.size up ex g n cap ls s op bs bf dv cv (w.alloc (.cells #[.int .i64 up, .int .i64 ex, .slice (some ⟨g, 0, none⟩) n cap] 29))) :=
    ⟨h.below B0.out, Off.of_below B0.out, fun k e => .inl (by rw [hFF]; exact e), heap_alloc_new _ _, own_down ho B0.out, hne⟩
  clear h ho hne hf hG hm3 hm4 hm5 hm6 hm7 hm8 ha hI hS hFF hla lae
  go_enter Tryz.func45, Tryz.ntmps45
  go_upto_region 1 with fail
  generalize hV : w.alloc (.cells #[.int .i64 up, .int .i64 ex, .slice (some ⟨g, 0, none⟩) n cap] 29) = V at *
  generalize hT : w.heap.size = T at *
  clear hV
  have s6' := T0.out.r.c6
  have hneT : T ≠ b := fun q => by
    have h1 := T0.out.row
    rw [q, T0.out.r.row] at h1
    simp at h1
  have hneT2 : b ≠ T := fun q => hneT q.symm
  go_upto_if 13 with fail
  go_cut [3] from 8 (fun s3 wx => s3 = .pointer (some ⟨T, 0, none⟩) ∧ TkAt b F w T up ex g n cap ls S op bs bf wx)
  case first =>
    cases hld : s.ld with
    | true =>
      have TKS : Hid (TkAt b F w T up ex g n cap ls S op bs bf V) := by
        show TkAt b F w T up ex g n cap ls S op bs bf V
        rw [HB1.out hld]; exact ⟨_, _, T0.out⟩
      clear hld
      go_wp2_with fail
      go_meet
      case rel => exact ⟨rfl, TKS.out⟩
    | false =>
      have hsd := HBF.out hld
      have HSD := hid' hsd
      have t2 := cell_of_row _ _ 2 _ _ _ T0.out.row
      simp at t2
      have c4 := T0.out.r.c4
      have c9 := T0.out.r.c9
      have LV := hid' (lies_of T0.out.own hn)
      have w1 : IntKind.i64.wrap ((la : Int) + 1) = ((la + 1 : Nat) : Int) := by rw [IntKind.wrap_i64]; omega
      have w2 : wrap64 ((la : Int) + 1) = ((la + 1 : Nat) : Int) := by unfold wrap64; omega
      have hrun : ∀ W : World, (Instr.slice 27 (.slice (some ⟨g, 0, none⟩) n cap) none (some (.int .i64 ((la + 1 : Nat) : Int))) none).run Tryz.prog W = .ok (.slice (some ⟨g, 0, none⟩) (la + 1) cap) W := fun W => head_run g n cap (la + 1) (by omega) W
      clear hld hsd s6'
      go_upto_region 2 with fail
      go_quiet (first | (go_at_call 52; refine Calls.quiet_of_same (HOL.out _ LV.out)))
      have TQ := hid' (T0.out.below (below_drewN (Below.refl V.heap.size V) nq))
      generalize hWQ : V.drewN nq = WQ at *
      clear hWQ
      have t2 := cell_of_row _ _ 2 _ _ _ TQ.out.row
      simp at t2
      have c9 := TQ.out.r.c9
      have f9 := TQ.out.r.fr 9
      have lbq := TQ.out.r.lt
      have CO := hid' (fun (n' : Nat) (hn' : (ls.take (la + 1)).length = n') => copy_of (some ⟨g, 0, none⟩) n' cap (ls.take (la + 1)) WQ (fun _ => ⟨g, rfl, (TQ.out.own.lt _ rfl).2, fun i hi => by
        have q := lies_of TQ.out.own hn i (by simp at hi; omega)
        rw [List.getElem_take]; exact q⟩) hn' (by simp at hn'; omega))
      go_wp2_with fail
      refine (CO.out (la + 1) (by simp; omega)).mono ?_
      rintro e w5 ⟨v5, rfl, own5, hb5⟩
      obtain ⟨va5, vcp5, hv5⟩ := own_slice own5
      subst hv5
      have T5 := hid' (TQ.out.below hb5)
      have OWN5 := hid' own5
      have x9 := T5.out.r.c9
      have g9 := T5.out.r.fr 9
      have lq := TQ.out.off.size
      have lgq : g < WQ.heap.size := (TQ.out.own.lt _ rfl).2
      clear own5 hb5 CO c9 f9 t2 hrun
      go_wp2_with fail
      go_meet
      case rel =>
        refine ⟨rfl, T5.out.putD HS8.out ?_ (fun k e => ?_) (fun e => ?_)⟩
        · rw [HSD.out]
          have q := own_lo OWN5.out (Nat.zero_le _)
          rw [show (ls.take (la + 1)).length = la + 1 from by simp; omega]
          exact q
        · have := own_ge OWN5.out k e; omega
        · have := own_ge OWN5.out g e; omega
  case rest =>
    rename World => WS
    obtain ⟨rfl, dvS, cvS, tks⟩ := hcut
    have TKS := hid' tks
    clear tks s6' T0 HOL
    have s4 := TKS.out.r.c6
    have s5 := TKS.out.r.c7
    have s6 := TKS.out.r.c8
    have s8 := TKS.out.r.c10
    have f4 := frozen_of_row _ _ 6 _ _ TKS.out.r.row
    have f5 := frozen_of_row _ _ 7 _ _ TKS.out.r.row
    have f6 := frozen_of_row _ _ 8 _ _ TKS.out.r.row
    have f8 := frozen_of_row _ _ 10 _ _ TKS.out.r.row
    have u0 := cell_of_row _ _ 0 _ _ _ TKS.out.row
    have u1 := cell_of_row _ _ 1 _ _ _ TKS.out.row
    simp at u0 u1
    have LT := hid' TKS.out.putT
    go_upto_region 8 with fail
    generalize hWT : ((((WS.setCell ⟨b, 6, none⟩ (.bool true)).setCell ⟨b, 7, none⟩ (.int .i64 up)).setCell ⟨b, 8, none⟩ (.int .i64 ex)).setCell ⟨b, 10, none⟩ (.slice none 0 0)) = WT at *
    clear hWT s4 s5 s6 s8 f4 f5 f6 f8 u0 u1 TKS
    obtain ⟨dv2, cv2, tk2⟩ := LT.out
    have p7 := tk2.r.c9
    have tk2d := tk2.r.dd
    obtain ⟨da2, dcp2, hdv2⟩ := own_slice tk2d
    subst hdv2
    have hsd : (S.stamp up ex).done = S.done := rfl
    rw [hsd] at p7
    obtain ⟨dl, hdl2⟩ : ∃ dl, S.done.length = dl := ⟨_, rfl⟩
    rw [hdl2] at p7
    have hdlm : dl ≤ n := by rw [← hdl2, HS3.out]; simp; omega
    have TK2 : Hid (TkAt b F w T up ex g n cap ls ((S.stamp up ex).comes ls 0) op bs bf WT) := ⟨_, _, tk2⟩
    clear tk2 tk2d LT
    go_wp2_with fail
    go_loopw [5, 6, 7] (fun i _ _ wr => ∃ k j : Nat, j = dl + k ∧ k ≤ n - dl ∧ i = .int .i64 (j : Int) ∧ TkAt b F w T up ex g n cap ls ((S.stamp up ex).comes ls k) op bs bf wr) (fun i _ _ _ => n - (intOf i).toNat)
    case atStart => exact ⟨0, dl, by omega, by omega, rfl, TK2.out⟩
    case round =>
      obtain ⟨k, j, hj, hk, rfl, dv3, cv3, tk3⟩ := hrel
      have HJ := hid' hj
      have hjl : j ≤ n := by omega
      clear hj
      have TK3 := hid' tk3
      have v2 := cell_of_row _ _ 2 _ _ _ tk3.row
      have ltb := lt_of_heap tk3.row
      have lb3 := lt_of_heap tk3.r.row
      simp at v2
      by_cases hlt : j < n
      · have hlti : (j : Int) < (n : Int) := by omega
        have zj0 : (0 : Int) ≤ (j : Int) := by omega
        have WH := hid' (turn_any g cap j n ls wr hn hlt (lies_of tk3.own hn) HFI.out (by omega))
        have wb := HWB.out j (by omega)
        have bd := HBD.out j (by omega)
        have OP := hid' (fun (W : World) (h : PRow b ((S.stamp up ex).comes ls k) dv3 cv3 op bs bf W) => window_begin b _ dv3 cv3 op bs bf (Tab.when ls j) W h (by show 0 ≤ S.win; rw [HSW.out]; omega) (by show S.win ≤ 1000000; rw [HSW.out]; omega) (by omega) (by omega))
        have HCM : Hid ((S.stamp up ex).cms ls dl (k + 1) = (S.stamp up ex).cms ls dl k ++ [⟨(ls.getD j (0, 0)).1, (ls.getD j (0, 0)).2, (((S.stamp up ex).comes ls k).opens (Tab.when ls j)).1, (((S.stamp up ex).comes ls k).opens (Tab.when ls j)).2, false⟩]) := by rw [HJ.out]; exact rfl
        generalize ((S.stamp up ex).comes ls k).opens (Tab.when ls j) = ot at *
        generalize Tab.when ls j = tw at *
        obtain ⟨os, of⟩ := ot
        simp only at OP HCM
        clear tk3 wb bd
        go_wp2_with fail
        refine WH.out.mono ?_
        rintro e w4 ⟨rfl, rfl⟩
        clear WH
        go_wp2_with fail
        refine (OP.out _ TK3.out.r).mono ?_
        rintro e w5 ⟨rfl, hb5⟩
        clear OP v2
        go_upto_region 12 with fail
        have ba := (Below.refl w5.heap.size w5).alloc (Nat.le_refl _) (.cells #[.int .i64 os, .int .i64 of] 33)
        have TK5 := hid' ((TK3.out.below hb5).below ba)
        have R5 := hid' (heap_alloc_new w5 (.cells #[.int .i64 os, .int .i64 of] 33))
        generalize hV5 : w5.alloc (.cells #[.int .i64 os, .int .i64 of] 33) = V5 at *
        generalize hq5 : w5.heap.size = q5 at *
        clear hV5 hq5 hb5 ba
        have v2 := cell_of_row _ _ 2 _ _ _ TK5.out.row
        have o0 := cell_of_row _ _ 0 _ _ _ R5.out
        have o1 := cell_of_row _ _ 1 _ _ _ R5.out
        have e0' := (lies_of TK5.out.own hn j (by omega)).1
        have e1' := (lies_of TK5.out.own hn j (by omega)).2
        rw [← getD_at j (by omega)] at e0' e1'
        generalize ls.getD j (0, 0) = pe at *
        obtain ⟨pa, po⟩ := pe
        simp at v2 o0 o1
        simp only at e0' e1' HCM
        have lT5 := lt_of_heap TK5.out.row
        have lq5 := lt_of_heap R5.out
        have lg5 : g < V5.heap.size := (TK5.out.own.lt _ rfl).2
        go_cut [5, 7] from 59 to 97 (fun s5 s7 wx => s5 = .int .i64 (j : Int) ∧ ∃ q, s7 = .pointer (some ⟨q, 0, none⟩) ∧ Below V5.heap.size V5 wx ∧ wx.heap[q]? = some (.cells #[.int .i64 pa, .int .i64 po, .int .i64 os, .int .i64 of, .bool false] 84 (0, 0)))
        case first =>
          go_region_held3 (fun w' => w'.cell? ⟨T, 2, none⟩ = some (.slice (some ⟨g, 0, none⟩) n cap) ∧ w'.cell? ⟨g, j * 2, none⟩ = some (.int .i64 pa) ∧ w'.cell? ⟨g, j * 2 + 1, none⟩ = some (.int .i64 po) ∧ w'.cell? ⟨q5, 0, none⟩ = some (.int .i64 os) ∧ w'.cell? ⟨q5, 1, none⟩ = some (.int .i64 of)) (go_keep) (fail)
          all_goals
            go_wp2_with fail
            go_meet
            case rel => exact ⟨rfl, _, rfl, ((Below.refl _ _).drew).alloc (by exact Nat.le_refl _) _, by exact heap_alloc_new _ _⟩
        case rest =>
          obtain ⟨rfl, q, rfl, bel, crow⟩ := hcut
          rename World => W6
          have TK6 := hid' (TK5.out.below bel)
          have CR := hid' crow
          have lc := lt_of_heap crow
          clear bel v2 o0 o1 e0' e1' R5 TK5
          obtain ⟨k0, hk0, hx0, hx1, hx2⟩ := info_parts infoAComing
          have p8 := TK6.out.r.c10
          have f8 := frozen_of_row _ _ 10 _ _ TK6.out.r.row
          have lb6 := lt_of_heap TK6.out.r.row
          have d0 := cell_of_row _ _ 0 _ _ _ crow
          have d1 := cell_of_row _ _ 1 _ _ _ crow
          have d2 := cell_of_row _ _ 2 _ _ _ crow
          have d3 := cell_of_row _ _ 3 _ _ _ crow
          have d4 := cell_of_row _ _ 4 _ _ _ crow
          have hcc := TK6.out.r.cc
          obtain ⟨ca, ccp, hcv⟩ := own_slice hcc
          subst hcv
          have hcl : ((S.stamp up ex).comes ls k).com.length = k := by
            show ((S.stamp up ex).cms ls (S.stamp up ex).done.length k).length = k
            exact Sv.cms_length _ _ _ _
          have hcm : ((S.stamp up ex).comes ls k).com = (S.stamp up ex).cms ls dl k := by
            show (S.stamp up ex).cms ls S.done.length k = _
            rw [hdl2]
          rw [hcl] at hcc p8
          simp at d0 d1 d2 d3 d4
          have HCC := hid' hcc
          have HCL := hid' hcl
          have HCMM := hid' hcm
          have fz : ∀ o, (W6.alloc o).frozen? ⟨b, 10, none⟩ = false := fun o => frozen_of_row _ _ 10 _ _ ((Keep.refl _ W6).alloc o _ _ _ TK6.out.r.row)
          clear hcc crow hcl hcm
          go_upto_region 13 with fail
          go_region_law ((refine step_append_lies _ ?_ (.tmp 91) (.tmp 93) 34 ?_ 0 84 k0 (.agg #[.int .i64 0, .int .i64 0, .int .i64 0, .int .i64 0, .bool false]) 5 40 Tryz.underlying34 hk0 hx0 hx1 hx2 rfl (by decide) (.slice ca k ccp) k (flatC ((S.stamp up ex).comes ls k).com) ?_ ?_ ⟨W6.heap.size, 0, none⟩ 1 1 [.int .i64 pa, .int .i64 po, .int .i64 os, .int .i64 of, .bool false] ?_ ?_ ?_ ?_ ?_ ?_ ?_ ?_ (W6.heap.size + 1) ?_ ?_; exact rfl; exact rfl; exact rfl; exact (HCC.out.alloc _).drew; exact rfl; exact rfl; exact (World.news_of_block (cs := #[.int .i64 pa, .int .i64 po, .int .i64 os, .int .i64 of, .bool false]) (t := 84) (fr := (0, 0)) (heap_alloc_new W6 _)); (simp [Value.oneCell']); decide; (unfold maxLen; omega); omega; omega; (simp); intro gg cap6 w6 own6 hg6 hat6 hlt6; have S6 := hid' (grown_heap (w := (W6.alloc (.cells #[.int .i64 pa, .int .i64 po, .int .i64 os, .int .i64 of, .bool false] 84)).drew) (t := 72) hg6 (HCC.out.alloc _).drew ((Keep.refl _ W6).alloc _ _ _ _ TK6.out.r.row) (by decide)); have c68 : w6.cell? ⟨b, 10, none⟩ = some (.slice ca ((S.stamp up ex).comes ls k).com.length ccp) := cell_of_row _ _ 10 _ _ _ S6.out; have f68 := frozen_of_row _ _ 10 _ _ S6.out; have OWN6 := hid' own6; have HG6 := hid' hg6; have HAT6 := hid' hat6; clear own6 hg6 hat6))
          all_goals
            have ba6 := ((Below.refl W6.heap.size W6).alloc (Nat.le_refl _) (.cells #[.int .i64 pa, .int .i64 po, .int .i64 os, .int .i64 of, .bool false] 84)).drew
            have pc := (TK6.out.below ba6).putC (L := (S.stamp up ex).cms ls dl (k + 1)) (by have q := HG6.out; rw [← HCL.out] at q; exact q) (by rw [HCM.out, flatC_append, List.length_append, Sv.cms_length, ← HCMM.out]; exact OWN6.out) (fun k' e => by
              obtain rfl : gg = k' := by simpa [Value.ownBlock] using e
              have q := HAT6.out
              rw [← HCL.out] at q
              rcases q with h | h
              · exact .inl h
              · exact .inr (Nat.le_of_eq ((alloc_sz _ _).trans h.symm)))
            have e9 : (S.stamp up ex).comes ls (k + 1) = { (S.stamp up ex).comes ls k with com := (S.stamp up ex).cms ls dl (k + 1) } := by
              rw [← hdl2]; rfl
            rw [← e9] at pc
            have PC := hid' pc
            clear pc e9 ba6
            go_wp2
            go_roundw
            case rel => exact ⟨k + 1, j + 1, by have := HJ.out; omega, by have := HJ.out; omega, by go_num, PC.out⟩
            case measure => simp [intOf]; omega
      · have hnlti : ¬ (j : Int) < (n : Int) := by omega
        have hkk : k = n - dl := by have := HJ.out; omega
        have HTK : Hid ((S.stamp up ex).comes ls k = s.taken up ex ls) := by
          show _ = _
          unfold Sv.taken
          rw [HSE.out, hkk, hdl2, hn]
        clear tk3
        go_wp2
        go_end0
        have t3 := TK3.out
        rw [HTK.out] at t3
        exact ⟨rfl, dv3, cv3, t3.r, HFF.out ▸ t3.off, HFF.out ▸ t3.foot⟩
end Go.Proofs.YtmmkhodaljpjgabGreatDoor
namespace Go.Proofs.YtmmkhodaljpjgabGreatDoor
open Go.RowKit
attribute [local go_sem ↓] Go.wp_at_zero Go.wp_at_succ
theorem PRow.putR {b : Nat} {s : Sv} {dv cv : Value} {op : Bool} {bs bf : Int} {w : World} (h : PRow b s dv cv op bs bf w) : PRow b s.refuse dv cv op bs bf (w.setCell ⟨b, 11, none⟩ (.int .i64 (s.ref + 1))) := h.put 11 _ rfl rfl rfl rfl
/-- Of the first file no window is open. -/
theorem Opn.taken {s : Sv} {op : Bool} {bs bf : Int} (h : Opn s op bs bf) (hI : s.Inv) {ls : List (Int × Int)} (up ex : Int) (hf : Tab.Fit ls) (ha : s.agrees ls = true) : Opn (s.taken up ex ls) op bs bf := by
  obtain ⟨mm, hm1, hm2, hm3, hm4, hm5, hm6, hm7, hm8⟩ := hI.mid1 hf ha
  have e0 : (s.taken up ex ls).began = (s.begun1 ls).began := rfl
  have e1 : (s.taken up ex ls).win = s.win := by show (s.begun1 ls).win = s.win; rw [hm8]
  have e2 : (s.taken up ex ls).ns = s.ns := by show (s.begun1 ls).ns = s.ns; rw [hm8]
  have e3 : (s.taken up ex ls).nf = s.nf := by show (s.begun1 ls).nf = s.nf; rw [hm8]
  unfold Opn
  rw [e0, e1, e2, e3]
  cases hld : s.ld with
  | true =>
    have e : s.begun1 ls = s := by unfold Sv.begun1; rw [if_neg (by rw [hld]; simp)]
    rw [e]; exact h
  | false =>
    have lae := hf.lastAt_le s.ns hm5
    obtain ⟨la, hla⟩ : ∃ la : Nat, Tab.lastAt ls s.ns ls.length = (la : Int) := ⟨(Tab.lastAt ls s.ns ls.length).toNat, by omega⟩
    obtain ⟨b1, b2, b3⟩ := Sv.begun1_first hI hf hld la hla
    obtain ⟨n1, n2, _⟩ := hI.no hld
    have hop : op = false := by
      cases op with
      | false => rfl
      | true => have := (h.1 rfl).1; rw [n2] at this; simp at this
    refine ⟨fun e => (by rw [hop] at e; cases e), fun _ i hi => ?_⟩
    rw [b2] at hi
    rw [b3 i hi]
    have q := (hf.lastAt_iff s.ns ls.length i (Nat.le_refl _) (by omega)).2 (by omega)
    have t := hI.num.t'
    simp only
    omega
set_option maxRecDepth 100000 in
set_option maxHeartbeats 6400000 in
theorem srv_load (b : Nat) (s : Sv) (dv cv : Value) (op : Bool) (bs bf : Int) (t : ByteArray) (w : World) (h : PRow b s dv cv op bs bf w) (ho : Opn s op bs bf) (hI : s.Inv) (hR : s.ref ≤ 1000000000000) (ht : t.size ≤ 1000000) (hW : Table w) :
    Calls Tryz.prog 30 #[.pointer (some ⟨b, 0, none⟩), .string t] w fun e w' => e = .returned (.tuple #[.int .i64 (s.load (Txt.parse t)).1, .int .i64 (s.load (Txt.parse t)).2.1]) ∧ PPost b (pFoot b dv cv) w (s.load (Txt.parse t)).2.2 w' := by
  have HP := hid' h
  have HO := hid' ho
  have HI := hid' hI
  have HT := hid' hW
  have r0 := hI.num.r0
  have hlen := hI.lens
  have HLE : Hid (s.loadErr (Txt.parse t) = if (Txt.parse t).err ≠ 0 then (Txt.parse t).err else if s.ld = true ∧ (Txt.parse t).up < s.up then 11 else if s.agrees (Txt.parse t).ls = false then 12 else 0) := rfl
  have HLD : Hid (s.load (Txt.parse t) = if s.loadErr (Txt.parse t) ≠ 0 then (s.loadErr (Txt.parse t), ((Txt.parse t).num : Int), s.refuse) else (0, 0, (s.taken (Txt.parse t).up (Txt.parse t).ex (Txt.parse t).ls).weigh)) := rfl
  have HPW := hid' (fun q => Txt.parse_whole (t := t) q)
  have FP := hid' (file_parse t w ht hW)
  generalize s.load (Txt.parse t) = ld at *
  generalize Txt.parse t = gt at *
  obtain ⟨gu, gx, gl, ge, gn⟩ := gt
  simp only at HLE HLD HPW
  generalize s.loadErr ⟨gu, gx, gl, ge, gn⟩ = le at *
  clear h ho hI hW
  go_enter Tryz.func30, Tryz.ntmps30
  go_wp2_with fail
  refine FP.out.mono ?_
  rintro e w1 ⟨lv, rfl, own1, hb1⟩
  simp only at own1
  obtain ⟨la, lcp, hlv⟩ := own_slice own1
  subst hlv
  have a1 := (Below.refl w1.heap.size w1).alloc (Nat.le_refl _) (.cells #[.int .i64 gu, .int .i64 gx, .slice la gl.length lcp] 29)
  have BA := hid' (hb1.trans (a1.mono hb1.size))
  have TR := hid' (heap_alloc_new w1 (.cells #[.int .i64 gu, .int .i64 gx, .slice la gl.length lcp] 29))
  have OA := hid' (own_down own1 a1)
  clear own1 hb1 a1 FP
  go_upto_region 2 with fail
  generalize hV : w1.alloc (.cells #[.int .i64 gu, .int .i64 gx, .slice la gl.length lcp] 29) = V at *
  generalize hq : w1.heap.size = tb at *
  clear hV hq
  have PV := hid' (HP.out.below BA.out)
  have c11 := PV.out.c11
  have f11 := PV.out.fr 11
  have t0 := cell_of_row _ _ 0 _ _ _ TR.out
  have t1 := cell_of_row _ _ 1 _ _ _ TR.out
  have t2 := cell_of_row _ _ 2 _ _ _ TR.out
  simp at t0 t1 t2
  by_cases he : ge = 0
  · have e0 : (ge == 0) = true := beq_iff_eq.2 he
    have e0' : (ge != 0) = false := by rw [he]; rfl
    obtain ⟨hwh, hnum⟩ := HPW.out he
    have hfit := Tab.fit_of_whole hwh
    have hp := hfit.1
    obtain ⟨g, cg, hg⟩ := own_some OA.out hp
    obtain ⟨rfl, _, rfl⟩ := Value.slice.inj hg
    have lgv : g < V.heap.size := (OA.out.lt _ rfl).2
    have lgw : w.heap.size ≤ g := own_ge OA.out g rfl
    have OB := hid' (p_objection b s dv cv op bs bf g gl.length lcp gu gx gl V PV.out (lies_of OA.out rfl) lgv rfl hfit (by omega))
    have hle : le = (if s.ld = true ∧ gu < s.up then 11 else if s.agrees gl = false then 12 else 0) := by rw [HLE.out, if_neg (by omega)]
    rw [← hle] at OB
    have HAG : Hid (le = 0 → s.agrees gl = true) := fun q => by
      rw [hle] at q
      by_cases z1 : s.ld = true ∧ gu < s.up
      · rw [if_pos z1] at q; cases q
      · rw [if_neg z1] at q
        cases z2 : s.agrees gl with
        | true => rfl
        | false => rw [z2, if_pos rfl] at q; cases q
    have HNUM := hid' hnum
    have HFIT := hid' hfit
    have hbds := Tab.whole_bds hwh
    have HGX : Hid (0 ≤ gx ∧ gx ≤ 34000000000) := ⟨by omega, by omega⟩
    clear hbds
    clear he hwh hnum hfit hp hg hle HLE HPW
    go_wp2_with fail
    refine OB.out.mono ?_
    rintro e w2 ⟨rfl, hb2⟩
    have B2 := hid' (BA.out.trans (hb2.mono BA.out.size))
    have P2 := hid' (PV.out.below hb2)
    have O2 := hid' (own_down OA.out hb2)
    have TR2 := hid' ((hb2.block _ (lt_of_heap TR.out)).trans TR.out)
    have d11 := P2.out.c11
    have g11 := P2.out.fr 11
    have t0 := cell_of_row _ _ 0 _ _ _ TR2.out
    have t1 := cell_of_row _ _ 1 _ _ _ TR2.out
    have t2 := cell_of_row _ _ 2 _ _ _ TR2.out
    simp at t0 t1 t2
    clear hb2 OB c11 f11
    by_cases hle : le = 0
    · have e1 : (le != 0) = false := by rw [hle]; rfl
      have ag := HAG.out hle
      have H : Hid (ld = (0, 0, (s.taken gu gx gl).weigh)) := by show _ = _; rw [HLD.out, if_neg (by omega)]
      have dne : dv.ownBlock ≠ some g := fun q => by
        obtain ⟨_, _, hh⟩ := own_typ HP.out.dd q
        have := lt_of_heap hh; omega
      have TK := hid' (take_any b s dv cv op bs bf gu gx g gl.length lcp gl w2 P2.out (own_lo O2.out (Nat.zero_le _)) dne rfl HI.out HFIT.out ag)
      obtain ⟨tm, tn, tl, tv, te1, te2⟩ := HI.out.takenMid gu gx HFIT.out ag
      have HTM := hid' tm
      have HTN := hid' tn
      have HOP := hid' (HO.out.taken HI.out gu gx HFIT.out ag)
      have hex : 0 ≤ (s.taken gu gx gl).ex ∧ (s.taken gu gx gl).ex ≤ 34000000000 := by rw [te2]; exact HGX.out
      have HEX := hid' hex
      clear tm tn tl tv te1 te2 ag hle d11 g11 dne hex
      go_wp2_with fail
      refine TK.out.mono ?_
      rintro e w3 ⟨rfl, dv3, cv3, pr3, of3, ff3⟩
      have LA := hid' (look_around b (s.taken gu gx gl) dv3 cv3 op bs bf w3 pr3 HOP.out HTN.out (fun _ => HTM.out) (fun _ => HEX.out))
      have OF3 := hid' of3
      have FF3 := hid' ff3
      clear pr3 of3 ff3 TK t0 t1 t2
      go_wp2_with fail
      refine LA.out.mono ?_
      rintro e w4 ⟨rfl, F4, ps, of, ff⟩
      have PSH := hid' ps
      have OF := hid' of
      have FF := hid' ff
      clear ps of ff LA
      go_wp2
      go_ret2
      rw [H.out]
      have s2 := B2.out.size
      have s3 := OF3.out.size
      have o13 : Off (pFoot b dv cv) w w3 := (Off.of_below B2.out).trans OF3.out (fun _ _ q => q)
      refine ⟨rfl, F4, PSH.out, o13.trans OF.out (fun k hk q => ?_), fun j q => ?_⟩
      · rcases FF3.out k q with z | z
        · exact z
        · omega
      · rcases FF.out j q with z | z
        · rcases FF3.out j z with y | y
          · exact .inl y
          · exact .inr (by omega)
        · exact .inr (by omega)
    · have e1 : (le != 0) = true := bne_iff_ne.2 hle
      have H : Hid (ld = (le, (gn : Int), s.refuse)) := by show _ = _; rw [HLD.out, if_pos hle]
      have PR := hid' P2.out.putR
      clear hle t0 t1 t2
      go_wp2
      go_ret2
      rw [H.out]
      exact ⟨rfl, DueP.post ⟨dv, cv, op, bs, bf, PR.out, HO.out, (Off.of_below B2.out).setCell (p := ⟨b, 11, none⟩) (fun _ => .inl rfl) _, fun j q => .inl q⟩⟩
  · have e0 : (ge == 0) = false := by rw [beq_eq_false_iff_ne]; exact he
    have e0' : (ge != 0) = true := bne_iff_ne.2 he
    have hle : le = ge := by rw [HLE.out, if_pos he]
    have H : Hid (ld = (ge, (gn : Int), s.refuse)) := by show _ = _; rw [HLD.out, hle, if_pos he]
    have PR := hid' PV.out.putR
    clear he hle t0 t1 t2 HLE HLD HPW
    go_wp2
    go_ret2
    rw [H.out]
    exact ⟨rfl, DueP.post ⟨dv, cv, op, bs, bf, PR.out, HO.out, (Off.of_below BA.out).setCell (p := ⟨b, 11, none⟩) (fun _ => .inl rfl) _, fun j q => .inl q⟩⟩
set_option maxRecDepth 100000 in
theorem p_load (s : Sv) (t : ByteArray) (hI : s.Inv) (hR : s.ref ≤ 1000000000000) (ht : t.size ≤ 1000000) : PLoads PS t s (s.load (Txt.parse t)).2.2 (s.load (Txt.parse t)).1 (s.load (Txt.parse t)).2.1 Table := by
  intro b F w hp hG
  obtain ⟨dv, cv, op, bs, bf, r, o, f⟩ := hp
  have SA := hid' (srv_load b s dv cv op bs bf t w r o hI hR ht hG)
  have HF := hid' f
  generalize s.load (Txt.parse t) = ld at *
  clear r o f hI hG
  go_enter Tryz.func20, Tryz.ntmps20
  go_wp2_with fail
  refine SA.out.mono ?_
  rintro e w1 ⟨rfl, F', ps, of, ff⟩
  have PSH := hid' ps
  have OF := hid' of
  have FF := hid' ff
  clear ps of ff
  go_wp2
  go_ret2
  refine ⟨rfl, F', PSH.out, OF.out.mono (fun k _ e => (HF.out k).2 e), fun k e => ?_⟩
  rcases FF.out k e with z | z
  · exact .inl ((HF.out k).2 z)
  · exact .inr z
end Go.Proofs.YtmmkhodaljpjgabGreatDoor
