import Derived.Test.YtmmkhodaljpjgaaGreatDoorSteps
namespace Go.Proofs.YtmmkhodaljpjgaaGreatDoor
open Go.RowKit

/-- Steps as cells. -/
def flatOps : List Op → List Value
  | [] => []
  | o :: r => .int .i64 o.kind :: .int .i64 o.x :: .int .i64 o.a :: .int .i64 o.b :: .int .i64 o.c :: .int .i64 o.d :: .string o.s :: flatOps r

theorem flatOps_length (l : List Op) : (flatOps l).length = l.length * 7 := by
  induction l with
  | nil => rfl
  | cons p r ih => simp [flatOps, ih]; omega
theorem flatOps_append (l r : List Op) : flatOps (l ++ r) = flatOps l ++ flatOps r := by
  induction l with
  | nil => rfl
  | cons p q ih => simp [flatOps, ih]

theorem flatOps_at (l : List Op) (k : Nat) (h : k < l.length) (j : Nat) (hj : j < 7) : (flatOps l)[k * 7 + j]? = (Op.cells l[k])[j]? := by
  induction l generalizing k with
  | nil => simp at h
  | cons p r ih =>
    cases k with
    | zero =>
      simp only [flatOps, Nat.zero_mul, Nat.zero_add, List.getElem_cons_zero]
      match j, hj with
      | 0, _ => rfl
      | 1, _ => rfl
      | 2, _ => rfl
      | 3, _ => rfl
      | 4, _ => rfl
      | 5, _ => rfl
      | 6, _ => rfl
    | succ k =>
      have h' : k < r.length := by simpa using h
      have e : (k + 1) * 7 + j = (k * 7 + j) + 7 := by omega
      rw [e]
      simp only [flatOps, List.getElem_cons_succ]
      exact ih k h'

set_option maxRecDepth 100000 in
set_option maxHeartbeats 1000000 in
theorem upTo_any {X : Xs} (hX : ∀ w, X.P 0 (fun _ => False) (.slice none 0 0) w) (v : Value) (ops : List Op) (B0 : Nat) (w : World) (hv : w.ownsRow B0 27 7 v ops.length (flatOps ops)) (hn : ops.length ≤ 16384) (hok : ∀ o ∈ ops, o.Ok)
    (hdo : ∀ o ∈ ops, o.kind < 1 ∨ 6 < o.kind → ∀ n wr, n ≤ 90000 → Below w.heap.size w wr → Does X w.heap.size w.heap.size n o wr) :
    Calls Tryz.prog 14 #[v] w fun e w' => e = .returned (.int .i64 (-1)) ∧ Below w.heap.size w w' := by
  obtain ⟨ao, cap, hvv⟩ : ∃ ao cap, v = .slice ao ops.length cap := by
    rcases hv.2 with ⟨rfl, h0⟩ | ⟨g, cap, cur, rfl, _⟩
    · exact ⟨none, 0, by rw [h0]⟩
    · exact ⟨_, _, rfl⟩
  have HV := hid' hv
  have HOK := hid' hok
  have HDO := hid' hdo
  clear hv hok hdo
  subst hvv
  go_enter Tryz.func14, Tryz.ntmps14
  go_wp2
  have INV0 : Inv X w.heap.size w.heap.size 0 (w.alloc (.cells #[.slice none 0 0, .int .i64 0, .int .i64 0, .slice none 0 0, .int .i64 0, .int .i64 0, .slice none 0 0] 38)) :=
    ⟨Nat.le_refl _, .slice none 0 0, .slice none 0 0, .slice none 0 0, fun _ => False, [], [], 0, 0, 0, 0, heap_alloc_new _ _, World.ownsRow_nil _ _ _ _, World.ownsRow_nil _ _ _ _, by simp, by simp, ⟨fun t h => (by cases h), fun p h => (by cases h), by decide, by decide, by decide, by decide⟩, ⟨hX _, fun _ h => h.elim⟩⟩
  have HI0 := hid' INV0
  clear INV0 hX
  go_loopw [4, 5] (fun i _ wr => ∃ k : Nat, k ≤ ops.length ∧ i = .int .i64 k ∧ Inv X w.heap.size w.heap.size k wr ∧ Below w.heap.size w wr) (fun i _ _ => ops.length - (intOf i).toNat)
  case atStart => exact ⟨0, by omega, rfl, HI0.out, (Below.refl _ _).alloc (Nat.le_refl _) _⟩
  case round =>
    obtain ⟨k, hk, rfl, hinv, hbel⟩ := hrel
    by_cases hlt : k < ops.length
    · obtain ⟨g, cap', hform, _, hgl⟩ := HV.out.form (by omega)
      have hao : ao = some ⟨g, 0, none⟩ := by simpa using (Value.slice.inj hform).1
      subst hao
      have hcap : cap = cap' := (Value.slice.inj hform).2.2
      subst hcap
      have hcell : ∀ j, j < 7 → wr.cell? ⟨g, k * 7 + j, none⟩ = (Op.cells ops[k])[j]? := by
        intro j hj
        rw [hbel.cell (p := ⟨g, k * 7 + j, none⟩) hgl, HV.out.cellAt (k * 7 + j) (by omega)]
        exact flatOps_at ops k hlt j hj
      have HINV := hid' hinv
      have HBEL := hid' hbel
      have hmem := List.getElem_mem hlt
      have hdoes : Does X w.heap.size w.heap.size k ops[k] wr := by
        by_cases hq : 1 ≤ ops[k].kind ∧ ops[k].kind ≤ 6
        · exact does_own (HOK.out _ hmem) (by omega) hq
        · exact HDO.out _ hmem (by omega) k wr (by omega) hbel
      have HST := hid' (hdoes wr hinv hbel.size (Below.refl _ _))
      clear hdoes
      clear hinv hbel hform hmem
      generalize ops[k] = o at *
      obtain ⟨ok, ox, oa, ob, oc, od, os⟩ := o
      have p0 := hcell 0 (by omega)
      have p1 := hcell 1 (by omega)
      have p2 := hcell 2 (by omega)
      have p3 := hcell 3 (by omega)
      have p4 := hcell 4 (by omega)
      have p5 := hcell 5 (by omega)
      have p6 := hcell 6 (by omega)
      simp [Op.cells] at p0 p1 p2 p3 p4 p5 p6
      clear hcell
      simp only at HST
      go_wp2_with fail
      refine HST.out.mono ?_
      rintro e w2 ⟨rfl, hleft⟩
      have HLF := hid' hleft
      clear hleft HST p0 p1 p2 p3 p4 p5 p6
      go_wp2
      go_roundw
      case rel => exact ⟨k + 1, by omega, by go_num, HLF.out.1, HBEL.out.trans HLF.out.2⟩
      case measure => simp [intOf]; omega
    · have HBEL := hid' hbel
      clear hbel hinv
      go_wp2
      go_ret
      exact ⟨rfl, HBEL.out⟩

end Go.Proofs.YtmmkhodaljpjgaaGreatDoor

namespace Go.Proofs.YtmmkhodaljpjgaaGreatDoor
open Go.RowKit

/-- A script that came in. -/
structure Script (w : World) (ao : Option Addr) (ops : List Op) : Prop where
  short : ∀ o ∈ ops, o.s.size ≤ 140737488351232
  some : 0 < ops.length → ∃ b off, ao = .some ⟨b, off, none⟩ ∧ b < w.heap.size ∧ ∀ k (h : k < ops.length) j, j < 7 → w.cell? ⟨b, off + k * 7 + j, none⟩ = (Op.cells ops[k])[j]?

/-- What 'small' answers. -/
def SmallSaid (ops : List Op) (e : Ending) : Prop := ∃ r : Bool, e = .returned (.bool r) ∧ (r = true → ops.length ≤ 16384 ∧ ∀ o ∈ ops, o.s.size ≤ 16384)

set_option maxRecDepth 100000 in
theorem small_any (ao : Option Addr) (cap : Nat) (ops : List Op) (w : World) (hS : Script w ao ops) (hlen : ops.length ≤ 140737488351232) :
    Calls Tryz.prog 13 #[.slice ao ops.length cap] w fun e w' => SmallSaid ops e ∧ w' = w := by
  by_cases hbig : 16384 < ops.length
  · have hbi : (16384 : Int) < (ops.length : Int) := by omega
    go_enter Tryz.func13, Tryz.ntmps13
    go_wp2
    go_ret
    exact ⟨⟨false, rfl, fun h => by cases h⟩, rfl⟩
  · have hbi : ¬ (16384 : Int) < (ops.length : Int) := by omega
    go_enter Tryz.func13, Tryz.ntmps13
    go_wp2
    go_loop [3, 4] (fun n i => ∃ k acc : Nat, k ≤ ops.length ∧ i = .int .i64 k ∧ n = .int .i64 acc ∧ acc ≤ 16384 ∧ ∀ j (h : j < ops.length), j < k → ops[j].s.size ≤ acc) (fun _ i => ops.length - (intOf i).toNat)
    case atStart => exact ⟨0, ops.length, by omega, rfl, rfl, by omega, fun j _ h => absurd h (Nat.not_lt_zero j)⟩
    case round =>
      obtain ⟨k, acc, hk, rfl, rfl, hacc, hall⟩ := hrel
      by_cases hlt : k < ops.length
      · obtain ⟨b, off, rfl, hbl, hcell⟩ := hS.some (by omega)
        have p6 := hcell k hlt 6 (by omega)
        have hsh := hS.short _ (List.getElem_mem hlt)
        have HALL := hid' hall
        have HS := hid' hS
        clear hcell hall hS
        obtain ⟨sk, hsk⟩ : ∃ sk, ops[k].s = sk := ⟨_, rfl⟩
        have HSK := hid' hsk
        simp [Op.cells] at p6
        rw [hsk] at p6 hsh
        clear hsk
        by_cases hover : 16384 < acc + sk.size
        · have hoi : (16384 : Int) < (acc : Int) + (sk.size : Int) := by omega
          go_wp2
          go_ret
          exact ⟨⟨false, rfl, fun h => by cases h⟩, rfl⟩
        · have hoi : ¬ (16384 : Int) < (acc : Int) + (sk.size : Int) := by omega
          go_wp2
          refine ⟨⟨k + 1, acc + sk.size, by omega, by go_num, by go_num, by omega, fun j hj hjk => ?_⟩, by simp [intOf]; omega⟩
          by_cases e : j = k
          · subst e; rw [HSK.out]; omega
          · have := HALL.out j hj (by omega); omega
      · have HALL := hid' hall
        clear hall
        go_wp2
        go_ret
        refine ⟨⟨true, rfl, fun _ => ⟨by omega, fun o ho => ?_⟩⟩, rfl⟩
        obtain ⟨j, hj, rfl⟩ := List.getElem_of_mem ho
        have := HALL.out j hj (by omega)
        omega

end Go.Proofs.YtmmkhodaljpjgaaGreatDoor

namespace Go.Proofs.YtmmkhodaljpjgaaGreatDoor
open Go.RowKit

theorem infoOp : (Tryz.prog.info? 27).map (fun i => (i.zero, i.size, i.bytes)) = some (some (.agg #[.int .i64 0, .int .i64 0, .int .i64 0, .int .i64 0, .int .i64 0, .int .i64 0, .string ByteArray.empty]), 7, 64) := by kernel_rfl

/-- Is a kind below 7, or among the first n of some? -/
def inB (k : Int) (ks : List Int) (n : Nat) : Bool := decide (k < 7) || (ks.take n).contains k

theorem inB_zero (k : Int) (ks : List Int) : inB k ks 0 = decide (k < 7) := by simp [inB]
theorem inB_succ (k : Int) (ks : List Int) (n : Nat) (h : n < ks.length) : inB k ks (n + 1) = (inB k ks n || (k == ks[n])) := by
  unfold inB
  have e : (k == ks[n]) = decide (k = ks[n]) := by rw [Bool.eq_iff_iff]; simp
  rw [List.take_succ_eq_append_getElem h, List.contains_append, Bool.or_assoc, e]
  simp
theorem inB_all (k : Int) (ks : List Int) (h : inB k ks ks.length = true) : k < 7 ∨ k ∈ ks := by
  unfold inB at h
  simpa using h

/-- The numbers of a step are ints. -/
structure Op.Wf (o : Op) : Prop where
  k : (Lit.int .i64 o.kind).wf = true
  x : (Lit.int .i64 o.x).wf = true
  a : (Lit.int .i64 o.a).wf = true
  b : (Lit.int .i64 o.b).wf = true
  c : (Lit.int .i64 o.c).wf = true
  d : (Lit.int .i64 o.d).wf = true

/-- The steps that are played. -/
structure Sel (ops sel : List Op) (ks : List Int) (m : Nat) : Prop where
  len : sel.length ≤ m
  all : ∀ o ∈ sel, o ∈ ops ∧ (o.kind < 7 ∨ o.kind ∈ ks)

theorem flatOps_one (l : List Op) : ∀ u ∈ flatOps l, u.oneCell' = true := by
  induction l with
  | nil => intro u h; cases h
  | cons p r ih =>
    intro u h
    simp [flatOps] at h
    rcases h with rfl | rfl | rfl | rfl | rfl | rfl | rfl | h
    · rfl
    · rfl
    · rfl
    · rfl
    · rfl
    · rfl
    · rfl
    · exact ih u h

set_option maxRecDepth 100000 in
set_option maxHeartbeats 3200000 in
theorem plays_any {X : Nat → Xs} (hX : ∀ B w, (X B).P 0 (fun _ => False) (.slice none 0 0) w) (ao : Option Addr) (cap : Nat) (ops : List Op) (ks : List Int) (kb kcap : Nat) (w : World) (hS : Script w ao ops) (hlen : ops.length ≤ 140737488351232) (hkl : ks.length ≤ 100)
    (hkc : ∀ j (h : j < ks.length), w.cell? ⟨kb, j, none⟩ = some (.int .i64 ks[j])) (hkb : kb < w.heap.size) (hwf : ∀ o ∈ ops, o.Wf) (hks : ∀ k ∈ ks, 6 < k)
    (hdo : ∀ o ∈ ops, o.kind ∈ ks → o.Ok → ∀ B n wr, w.heap.size ≤ B → n ≤ 90000 → Below w.heap.size w wr → Does (X B) B B n o wr) :
    Calls Tryz.prog 12 #[.slice ao ops.length cap, .slice (some ⟨kb, 0, none⟩) ks.length kcap] w fun e w' => e = .returned (.bool true) ∧ Below w.heap.size w w' := by
  obtain ⟨i0, hi0, hz0, hz1, hz2⟩ := info_parts infoOp
  have HX := hid' hX
  have HS := hid' hS
  have HKC := hid' hkc
  have HWF := hid' hwf
  have HKS := hid' hks
  have HDO := hid' hdo
  clear hS hkc hwf hks hdo hX
  go_enter Tryz.func12, Tryz.ntmps12
  go_wp2_with fail
  refine (small_any ao cap ops _ HS.out hlen).mono ?_
  rintro e w' ⟨⟨r, rfl, hr⟩, rfl⟩
  cases r with
  | false =>
    clear hr
    go_wp2
    go_ret
    exact ⟨rfl, Below.refl _ _⟩
  | true =>
    obtain ⟨hn, hsz⟩ := hr rfl
    have HSZ := hid' hsz
    clear hsz hr
    go_wp2_with fail
    go_loopw [6, 7, 8, 9, 10] (fun v i _ _ _ wr => ∃ (m : Nat) (sel : List Op), m ≤ ops.length ∧ i = .int .i64 m ∧ wr.ownsRow w'.heap.size 27 7 v sel.length (flatOps sel) ∧ Sel ops sel ks m ∧ Below w'.heap.size w' wr) (fun _ i _ _ _ _ => ops.length - (intOf i).toNat)
    case atStart => exact ⟨0, [], by omega, rfl, World.ownsRow_nil _ _ _ _, ⟨by simp, fun o h => by cases h⟩, Below.refl _ _⟩
    case round =>
      obtain ⟨m, sel, hm, rfl, hown, hsel, hbel⟩ := hrel
      have HOWN := hid' hown
      have HSEL := hid' hsel
      have HBEL := hid' hbel
      have hwr := hbel.size
      clear hown hsel hbel
      by_cases hlt : m < ops.length
      · obtain ⟨b, off, hao, hbl, hcell⟩ := HS.out.some (by omega)
        subst hao
        have hcl : ∀ j, j < 7 → wr.cell? ⟨b, off + m * 7 + j, none⟩ = (Op.cells ops[m])[j]? := fun j hj => by
          rw [HBEL.out.cell (p := ⟨b, off + m * 7 + j, none⟩) hbl]; exact hcell m hlt j hj
        have hmem := List.getElem_mem hlt
        obtain ⟨o, hoo⟩ : ∃ o, ops[m] = o := ⟨_, rfl⟩
        rw [hoo] at hcl hmem
        have HMEM := hid' hmem
        clear hcell hoo hmem
        have p0 := hcl 0 (by omega)
        have p1 := hcl 1 (by omega)
        have p2 := hcl 2 (by omega)
        have p3 := hcl 3 (by omega)
        have p4 := hcl 4 (by omega)
        have p5 := hcl 5 (by omega)
        have p6 := hcl 6 (by omega)
        simp [Op.cells] at p0 p1 p2 p3 p4 p5 p6
        clear hcl
        go_wp2_with fail
        go_loop [9, 10] (fun q jj => ∃ j : Nat, j ≤ ks.length ∧ jj = .int .i64 j ∧ q = .bool (inB o.kind ks j)) (fun _ jj => ks.length - (intOf jj).toNat)
        case atStart => exact ⟨0, by omega, rfl, by rw [inB_zero]⟩
        case round =>
          obtain ⟨j, hj, rfl, rfl⟩ := hrel
          by_cases hjl : j < ks.length
          · have kcell : wr.cell? ⟨kb, j, none⟩ = some (.int .i64 ks[j]) := by rw [HBEL.out.cell (p := ⟨kb, j, none⟩) hkb]; exact HKC.out j hjl
            have HIN := hid' (inB_succ o.kind ks j hjl)
            generalize ks[j] = kj at *
            by_cases hin : inB o.kind ks j = true
            · go_wp2
              exact ⟨⟨j + 1, by omega, by go_num, by rw [HIN.out, hin]; rfl⟩, by simp [intOf]; omega⟩
            · have hin' : inB o.kind ks j = false := by simpa using hin
              clear hin
              go_wp2
              exact ⟨⟨j + 1, by omega, by go_num, by rw [HIN.out, hin']; rfl⟩, by simp [intOf]; omega⟩
          · have ej : j = ks.length := by omega
            subst ej
            generalize hbq : inB o.kind ks ks.length = bq
            have HBQ := hid' hbq
            clear hbq
            have hsl := HSEL.out.len
            cases bq with
            | true =>
              go_wp2_with (at_builtin; refine wpList_append_lies _ (by rfl) (.tmp 44) (.tmp 49) 22 (by rfl) w'.heap.size 27 i0 (.agg #[.int .i64 0, .int .i64 0, .int .i64 0, .int .i64 0, .int .i64 0, .int .i64 0, .string ByteArray.empty]) 7 64 Tryz.underlying22 hi0 hz0 hz1 hz2 rfl (by decide) _ sel.length (flatOps sel) (by rfl) (HOWN.out.alloc _) ⟨wr.heap.size, 0, none⟩ 1 1 [.int .i64 o.kind, .int .i64 o.x, .int .i64 o.a, .int .i64 o.b, .int .i64 o.c, .int .i64 o.d, .string o.s] (by rfl) (by rfl) (World.news_of_block (cs := #[.int .i64 o.kind, .int .i64 o.x, .int .i64 o.a, .int .i64 o.b, .int .i64 o.c, .int .i64 o.d, .string o.s]) (heap_alloc_new wr _)) (by simp [Value.oneCell']) (by decide) (by unfold maxLen; omega) (by omega) (by simp; omega) (wr.heap.size + 1) (by simp) ?_; intro g3 cap3 w3 own3 hg3 hat3 hlt3; have OWN3 := hid' own3; have HG3 := hid' hg3; clear own3 hg3 hat3)
              go_roundw
              case rel =>
                refine ⟨m + 1, sel ++ [o], by omega, by go_num, ?_, ⟨by simp; omega, fun u hu => ?_⟩, ?_⟩
                · rw [flatOps_append, List.length_append]; exact OWN3.out
                · simp at hu
                  rcases hu with hu | rfl
                  · exact HSEL.out.all u hu
                  · exact ⟨HMEM.out, inB_all _ _ HBQ.out⟩
                · exact (HBEL.out.alloc hwr _).grown HG3.out (by simp; omega) (own_ge HOWN.out)
              case measure => simp [intOf]; omega
            | false =>
              go_wp2
              go_roundw
              case rel => exact ⟨m + 1, sel, by omega, by go_num, HOWN.out, ⟨by omega, HSEL.out.all⟩, HBEL.out⟩
              case measure => simp [intOf]; omega
      · have hsl := HSEL.out.len
        have hok : ∀ o ∈ sel, o.Ok := fun o ho => by
          have hm' := (HSEL.out.all o ho)
          have hw := HWF.out o hm'.1
          exact ⟨hw.k, hw.x, hw.a, hw.b, hw.c, hw.d, HSZ.out o hm'.1⟩
        have hdo : ∀ o ∈ sel, o.kind < 1 ∨ 6 < o.kind → ∀ n wx, n ≤ 90000 → Below wr.heap.size wr wx → Does (X wr.heap.size) wr.heap.size wr.heap.size n o wx := fun o ho hk n wx hn hb => by
          by_cases h1 : o.kind < 1
          · exact does_pure (.inl h1) (by omega) (DoesP.of_below (fun w1 => pure_low _ o w1 h1))
          · have hm' := (HSEL.out.all o ho)
            have hin : o.kind ∈ ks := by
              rcases hm'.2 with h | h
              · omega
              · exact h
            exact HDO.out o hm'.1 hin (hok o ho) wr.heap.size n wx hwr hn (HBEL.out.trans (hb.mono hwr))
        have HUP := hid' (upTo_any (HX.out _) _ sel w'.heap.size wr HOWN.out (by omega) hok hdo)
        clear hok hdo
        go_wp2_with fail
        refine HUP.out.mono ?_
        rintro e w4 ⟨rfl, hb4⟩
        have HB4 := hid' hb4
        clear hb4 HUP
        go_wp2
        go_ret
        exact ⟨rfl, HBEL.out.trans (HB4.out.mono hwr)⟩

end Go.Proofs.YtmmkhodaljpjgaaGreatDoor
