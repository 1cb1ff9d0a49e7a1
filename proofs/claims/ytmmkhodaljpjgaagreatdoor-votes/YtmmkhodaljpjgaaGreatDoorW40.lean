import Derived.Test.YtmmkhodaljpjgaaGreatDoorW39
import Derived.Deep.Cut
import Derived.Deep.CutBlock
import Derived.Deep.CutRange
import Derived.Test.YtmmkhodaljpjgaaGreatDoorW15
namespace Go.Proofs.YtmmkhodaljpjgaaGreatDoor
open Go.RowKit
set_option maxRecDepth 100000 in
set_option maxHeartbeats 6400000 in
theorem ref_plus (B C : Nat) (a b : Nat) (va vb : Value) (w : World) (ha : Num B va (digs a) w) (hb : Num C vb (digs b) w) (la : (digs a).length ≤ 1000) (lb : (digs b).length ≤ 1000) (ls : (digs (a + b)).length ≤ 3000) :
    Calls Tryz.prog 142 #[va, vb] w fun e w' => ∃ v, e = .returned v ∧ Num w.heap.size v (digs (a + b)) w' ∧ Below w.heap.size w w' := by
  obtain ⟨i0, hi0, hz0, hz1, hz2⟩ := info_parts infoInt
  obtain ⟨aa, ac, rfl⟩ := ha.slice
  obtain ⟨ba, bc, rfl⟩ := hb.slice
  have HA := hid' ha
  have HB := hid' hb
  clear ha hb
  obtain ⟨L, hL⟩ : ∃ L, (digs a).length = L := ⟨_, rfl⟩
  obtain ⟨M, hM⟩ : ∃ M, (digs b).length = M := ⟨_, rfl⟩
  have HLA := hid' hL
  have HLB := hid' hM
  have HLS := hid' ls
  rw [hL] at la ⊢
  rw [hM] at lb ⊢
  clear hL hM ls
  go_enter Tryz.func142, Tryz.ntmps142
  go_wp2
  go_loopw [5, 6, 7] (fun v cv iv wr => ∃ (i a' b' c : Nat) (xs : List Int), Num w.heap.size v xs wr ∧ xs.length = i ∧ i ≤ 3000 ∧ c ≤ 1 ∧ iv = .int .i64 i ∧ cv = .int .i64 c ∧ (digs a).drop i = digs a' ∧ (digs b).drop i = digs b' ∧ xs ++ digs (a' + b' + c) = digs (a + b) ∧ Below w.heap.size w wr) (fun _ _ iv _ => (digs (a + b)).length - (intOf iv).toNat)
  case atStart => exact ⟨0, a, b, 0, [], World.ownsRow_nil _ _ _ _, rfl, by omega, by omega, rfl, rfl, rfl, rfl, rfl, Below.refl _ _⟩
  case round =>
    obtain ⟨i, a', b', c, xs, own, hxl, hi, hc, rfl, rfl, hda, hdb, hx, hbl⟩ := hrel
    have OWN := hid' own
    have HBL := hid' hbl
    have HDA := hid' hda
    have HDB := hid' hdb
    have HX := hid' hx
    have HXL := hid' hxl
    have hsz := hbl.size
    obtain ⟨vo, vcp, hv⟩ := own.slice
    rw [hxl] at hv
    subst hv
    have DA := hid' (digs_tail hda)
    have DB := hid' (digs_tail hdb)
    have LEN : Hid (0 < a' + b' + c → i + 1 ≤ (digs (a + b)).length) := fun hp => by
      rw [← hx, List.length_append, hxl, digs_plus hp]; simp
    have XX : Hid (0 < a' + b' + c → xs ++ [(((a' % 10000 + b' % 10000 + c) % 10000 : Nat) : Int)] ++ digs (a' / 10000 + b' / 10000 + (a' % 10000 + b' % 10000 + c) / 10000) = digs (a + b)) := fun hp => by
      rw [← hx, digs_plus hp, List.append_assoc]; rfl
    clear own hxl hx
    generalize hP : wr.heap.size = P at *
    by_cases cA : i < L
    · by_cases cB : i < M
      · skip
        have hiA : decide ((i : Int) < (L : Int)) = true := by simp; omega
        have hiA2 : (i : Int) < (L : Int) := by omega
        obtain ⟨ga, ca, e1, lga, _, _, qa⟩ := HA.out.lies (by have := HLA.out; omega)
        obtain ⟨rfl, _, rfl⟩ := Value.slice.inj e1
        have a0 := (hbl.cell (p := ⟨ga, i, none⟩) lga).trans (qa i (by have := HLA.out; omega))
        have hxa := digs_head' hda (by have := HLA.out; omega)
        rw [hxa.1] at a0
        have pos : 0 < a' + b' + c := by omega
        clear e1 qa
        have hiB : decide ((i : Int) < (M : Int)) = true := by simp; omega
        have hiB2 : (i : Int) < (M : Int) := by omega
        obtain ⟨gb, cb, e2, lgb, _, _, qb⟩ := HB.out.lies (by have := HLB.out; omega)
        obtain ⟨rfl, _, rfl⟩ := Value.slice.inj e2
        have b0 := (hbl.cell (p := ⟨gb, i, none⟩) lgb).trans (qb i (by have := HLB.out; omega))
        have hxb := digs_head' hdb (by have := HLB.out; omega)
        rw [hxb.1] at b0
        clear e2 qb
        have XX2 := hid' (XX.out pos)
        have LEN2 := LEN.out pos
        have HLS2 := HLS.out
        clear XX LEN HLS
        obtain ⟨x, hx⟩ : ∃ x : Nat, a' % 10000 = x := ⟨_, rfl⟩
        rw [hx] at a0 XX2
        have x1 : x < 10000 := by omega
        obtain ⟨y, hy⟩ : ∃ y : Nat, b' % 10000 = y := ⟨_, rfl⟩
        rw [hy] at b0 XX2
        have y1 : y < 10000 := by omega
        obtain ⟨q, hq⟩ : ∃ q : Nat, (x + y + c) / 10000 = q := ⟨_, rfl⟩
        obtain ⟨r, hr⟩ : ∃ r : Nat, (x + y + c) % 10000 = r := ⟨_, rfl⟩
        rw [hq, hr] at XX2
        have q1 : ((c : Int) + (x : Int) + (y : Int)) / 10000 = (q : Int) := by omega
        have r1 : ((c : Int) + (x : Int) + (y : Int)) % 10000 = (r : Int) := by omega
        have q2 : q ≤ 1 := by omega
        have r2 : r < 10000 := by omega
        clear hbl hda hdb hq hr hx hxa hy hxb
        go_wp2_with (at_builtin; refine wpList_append_own _ (by rfl) (.tmp 44) (.tmp 47) 24 (by rfl) w.heap.size 3 i0 (.int .i64 0) 1 8 Tryz.underlying24 hi0 hz0 hz1 hz2 rfl (by decide) (.slice vo i vcp) i (nums xs) (by rfl) (by have o := OWN.out; rw [Num, HXL.out] at o; exact o.alloc _) ⟨P, 0, none⟩ 1 1 [.int .i64 r] (by rfl) (by rfl) (by rw [← hP]; exact World.news_of_block (cs := #[.int .i64 r]) (t := 3) (fr := (0, 0)) (heap_alloc_new wr _)) (by simp [Value.oneCell']) (by unfold maxLen; omega) (by omega) (by simp <;> omega) ?_; intro v3 w3 own3 hg3 hn3; have OWN3 := hid' own3; have HG3 := hid' hg3; clear own3 hg3 hn3)
        go_roundw
        case rel =>
          refine ⟨i + 1, a' / 10000, b' / 10000, q, xs ++ [(r : Int)], ?_, by rw [List.length_append, HXL.out]; rfl, by omega, by omega, by go_num, (by first | rfl | rw [q1]), DA.out, DB.out, XX2.out, ?_⟩
          · show World.ownsRow _ _ _ _ _ _ _
            rw [nums_append, List.length_append, HXL.out]; exact OWN3.out
          · exact (HBL.out.alloc (by omega) _).grown HG3.out (by simp; omega) (own_ge OWN.out)
        case measure => simp [intOf]; omega
      · skip
        have hiA : decide ((i : Int) < (L : Int)) = true := by simp; omega
        have hiA2 : (i : Int) < (L : Int) := by omega
        obtain ⟨ga, ca, e1, lga, _, _, qa⟩ := HA.out.lies (by have := HLA.out; omega)
        obtain ⟨rfl, _, rfl⟩ := Value.slice.inj e1
        have a0 := (hbl.cell (p := ⟨ga, i, none⟩) lga).trans (qa i (by have := HLA.out; omega))
        have hxa := digs_head' hda (by have := HLA.out; omega)
        rw [hxa.1] at a0
        have pos : 0 < a' + b' + c := by omega
        clear e1 qa
        have hiB : decide ((i : Int) < (M : Int)) = false := by simp; omega
        have hiB2 : ¬ (i : Int) < (M : Int) := by omega
        have eb : b' = 0 := digs_end hdb (by have := HLB.out; omega)
        subst eb
        have XX2 := hid' (XX.out pos)
        have LEN2 := LEN.out pos
        have HLS2 := HLS.out
        clear XX LEN HLS
        obtain ⟨x, hx⟩ : ∃ x : Nat, a' % 10000 = x := ⟨_, rfl⟩
        rw [hx] at a0 XX2
        have x1 : x < 10000 := by omega
        obtain ⟨q, hq⟩ : ∃ q : Nat, (x + 0 % 10000 + c) / 10000 = q := ⟨_, rfl⟩
        obtain ⟨r, hr⟩ : ∃ r : Nat, (x + 0 % 10000 + c) % 10000 = r := ⟨_, rfl⟩
        rw [hq, hr] at XX2
        have q1 : ((c : Int) + (x : Int)) / 10000 = (q : Int) := by omega
        have r1 : ((c : Int) + (x : Int)) % 10000 = (r : Int) := by omega
        have q2 : q ≤ 1 := by omega
        have r2 : r < 10000 := by omega
        clear hbl hda hdb hq hr hx hxa
        go_wp2_with (at_builtin; refine wpList_append_own _ (by rfl) (.tmp 44) (.tmp 47) 24 (by rfl) w.heap.size 3 i0 (.int .i64 0) 1 8 Tryz.underlying24 hi0 hz0 hz1 hz2 rfl (by decide) (.slice vo i vcp) i (nums xs) (by rfl) (by have o := OWN.out; rw [Num, HXL.out] at o; exact o.alloc _) ⟨P, 0, none⟩ 1 1 [.int .i64 r] (by rfl) (by rfl) (by rw [← hP]; exact World.news_of_block (cs := #[.int .i64 r]) (t := 3) (fr := (0, 0)) (heap_alloc_new wr _)) (by simp [Value.oneCell']) (by unfold maxLen; omega) (by omega) (by simp <;> omega) ?_; intro v3 w3 own3 hg3 hn3; have OWN3 := hid' own3; have HG3 := hid' hg3; clear own3 hg3 hn3)
        go_roundw
        case rel =>
          refine ⟨i + 1, a' / 10000, 0 / 10000, q, xs ++ [(r : Int)], ?_, by rw [List.length_append, HXL.out]; rfl, by omega, by omega, by go_num, (by first | rfl | rw [q1]), DA.out, DB.out, XX2.out, ?_⟩
          · show World.ownsRow _ _ _ _ _ _ _
            rw [nums_append, List.length_append, HXL.out]; exact OWN3.out
          · exact (HBL.out.alloc (by omega) _).grown HG3.out (by simp; omega) (own_ge OWN.out)
        case measure => simp [intOf]; omega
    · by_cases cB : i < M
      · skip
        have hiA : decide ((i : Int) < (L : Int)) = false := by simp; omega
        have hiA2 : ¬ (i : Int) < (L : Int) := by omega
        have ea : a' = 0 := digs_end hda (by have := HLA.out; omega)
        subst ea
        have hiB : decide ((i : Int) < (M : Int)) = true := by simp; omega
        have hiB2 : (i : Int) < (M : Int) := by omega
        obtain ⟨gb, cb, e2, lgb, _, _, qb⟩ := HB.out.lies (by have := HLB.out; omega)
        obtain ⟨rfl, _, rfl⟩ := Value.slice.inj e2
        have b0 := (hbl.cell (p := ⟨gb, i, none⟩) lgb).trans (qb i (by have := HLB.out; omega))
        have hxb := digs_head' hdb (by have := HLB.out; omega)
        rw [hxb.1] at b0
        have pos : 0 < 0 + b' + c := by omega
        clear e2 qb
        have XX2 := hid' (XX.out pos)
        have LEN2 := LEN.out pos
        have HLS2 := HLS.out
        clear XX LEN HLS
        obtain ⟨y, hy⟩ : ∃ y : Nat, b' % 10000 = y := ⟨_, rfl⟩
        rw [hy] at b0 XX2
        have y1 : y < 10000 := by omega
        obtain ⟨q, hq⟩ : ∃ q : Nat, (0 % 10000 + y + c) / 10000 = q := ⟨_, rfl⟩
        obtain ⟨r, hr⟩ : ∃ r : Nat, (0 % 10000 + y + c) % 10000 = r := ⟨_, rfl⟩
        rw [hq, hr] at XX2
        have q1 : ((c : Int) + (y : Int)) / 10000 = (q : Int) := by omega
        have r1 : ((c : Int) + (y : Int)) % 10000 = (r : Int) := by omega
        have q2 : q ≤ 1 := by omega
        have r2 : r < 10000 := by omega
        clear hbl hda hdb hq hr hy hxb
        go_wp2_with (at_builtin; refine wpList_append_own _ (by rfl) (.tmp 44) (.tmp 47) 24 (by rfl) w.heap.size 3 i0 (.int .i64 0) 1 8 Tryz.underlying24 hi0 hz0 hz1 hz2 rfl (by decide) (.slice vo i vcp) i (nums xs) (by rfl) (by have o := OWN.out; rw [Num, HXL.out] at o; exact o.alloc _) ⟨P, 0, none⟩ 1 1 [.int .i64 r] (by rfl) (by rfl) (by rw [← hP]; exact World.news_of_block (cs := #[.int .i64 r]) (t := 3) (fr := (0, 0)) (heap_alloc_new wr _)) (by simp [Value.oneCell']) (by unfold maxLen; omega) (by omega) (by simp <;> omega) ?_; intro v3 w3 own3 hg3 hn3; have OWN3 := hid' own3; have HG3 := hid' hg3; clear own3 hg3 hn3)
        go_roundw
        case rel =>
          refine ⟨i + 1, 0 / 10000, b' / 10000, q, xs ++ [(r : Int)], ?_, by rw [List.length_append, HXL.out]; rfl, by omega, by omega, by go_num, (by first | rfl | rw [q1]), DA.out, DB.out, XX2.out, ?_⟩
          · show World.ownsRow _ _ _ _ _ _ _
            rw [nums_append, List.length_append, HXL.out]; exact OWN3.out
          · exact (HBL.out.alloc (by omega) _).grown HG3.out (by simp; omega) (own_ge OWN.out)
        case measure => simp [intOf]; omega
      · skip
        have hiA : decide ((i : Int) < (L : Int)) = false := by simp; omega
        have hiA2 : ¬ (i : Int) < (L : Int) := by omega
        have ea : a' = 0 := digs_end hda (by have := HLA.out; omega)
        subst ea
        have hiB : decide ((i : Int) < (M : Int)) = false := by simp; omega
        have hiB2 : ¬ (i : Int) < (M : Int) := by omega
        have eb : b' = 0 := digs_end hdb (by have := HLB.out; omega)
        subst eb
        by_cases c4 : 0 < c
        · have hc4 : decide ((0 : Int) < (c : Int)) = true := by simp; omega
          have hc5 : (0 : Int) < (c : Int) := by omega
          have pos : 0 < 0 + 0 + c := by omega
          have XX2 := hid' (XX.out pos)
          have LEN2 := LEN.out pos
          have HLS2 := HLS.out
          clear XX LEN HLS
          obtain ⟨q, hq⟩ : ∃ q : Nat, (0 % 10000 + 0 % 10000 + c) / 10000 = q := ⟨_, rfl⟩
          obtain ⟨r, hr⟩ : ∃ r : Nat, (0 % 10000 + 0 % 10000 + c) % 10000 = r := ⟨_, rfl⟩
          rw [hq, hr] at XX2
          have q1 : ((c : Int)) / 10000 = (q : Int) := by omega
          have r1 : ((c : Int)) % 10000 = (r : Int) := by omega
          have q2 : q ≤ 1 := by omega
          have r2 : r < 10000 := by omega
          clear hbl hda hdb hq hr
          go_wp2_with (at_builtin; refine wpList_append_own _ (by rfl) (.tmp 44) (.tmp 47) 24 (by rfl) w.heap.size 3 i0 (.int .i64 0) 1 8 Tryz.underlying24 hi0 hz0 hz1 hz2 rfl (by decide) (.slice vo i vcp) i (nums xs) (by rfl) (by have o := OWN.out; rw [Num, HXL.out] at o; exact o.alloc _) ⟨P, 0, none⟩ 1 1 [.int .i64 r] (by rfl) (by rfl) (by rw [← hP]; exact World.news_of_block (cs := #[.int .i64 r]) (t := 3) (fr := (0, 0)) (heap_alloc_new wr _)) (by simp [Value.oneCell']) (by unfold maxLen; omega) (by omega) (by simp <;> omega) ?_; intro v3 w3 own3 hg3 hn3; have OWN3 := hid' own3; have HG3 := hid' hg3; clear own3 hg3 hn3)
          go_roundw
          case rel =>
            refine ⟨i + 1, 0 / 10000, 0 / 10000, q, xs ++ [(r : Int)], ?_, by rw [List.length_append, HXL.out]; rfl, by omega, by omega, by go_num, (by first | rfl | rw [q1]), DA.out, DB.out, XX2.out, ?_⟩
            · show World.ownsRow _ _ _ _ _ _ _
              rw [nums_append, List.length_append, HXL.out]; exact OWN3.out
            · exact (HBL.out.alloc (by omega) _).grown HG3.out (by simp; omega) (own_ge OWN.out)
          case measure => simp [intOf]; omega
        · have hc4 : decide ((0 : Int) < (c : Int)) = false := by simp; omega
          have hc5 : ¬ (0 : Int) < (c : Int) := by omega
          obtain rfl : c = 0 := by omega
          clear hbl hda hdb XX LEN
          go_wp2
          go_ret
          refine ⟨_, rfl, ?_, HBL.out⟩
          have e := HX.out
          rw [show (0 + 0 + 0 : Nat) = 0 from rfl, digs_zero, List.append_nil] at e
          rw [← e]
          have o := OWN.out
          exact o
end Go.Proofs.YtmmkhodaljpjgaaGreatDoor
namespace Go.Proofs.YtmmkhodaljpjgaaGreatDoor
open Go.RowKit
theorem Num.set {B g n cap : Nat} {l : List Int} {w : World} (h : Num B (.slice (some ⟨g, 0, none⟩) n cap) l w) (j : Nat) (x : Int) : Num B (.slice (some ⟨g, 0, none⟩) n cap) (l.set j x) (w.setCell ⟨g, j, none⟩ (.int .i64 x)) := by
  refine ⟨by rw [nums_length]; omega, .inr ?_⟩
  rcases h.2 with ⟨e, _⟩ | ⟨g', cap', cur, e, a, b, c, d, f, q⟩
  · cases e
  · obtain ⟨e1, e2, rfl⟩ := Value.slice.inj e
    obtain rfl : g = g' := by simpa using e1
    refine ⟨g, cap, _, by rw [e2, List.length_set], a, heap_setCell_same _ _ _ _ _ _ b, by rw [List.length_set]; exact c, d, by simp [f], ?_⟩
    rw [List.length_set]
    simp only [Array.toList_setIfInBounds]
    rw [List.take_set, q]
    simp [nums, List.map_set]
theorem Num.reads {B g n cap : Nat} {l : List Int} {w : World} (h : Num B (.slice (some ⟨g, 0, none⟩) n cap) l w) (j : Nat) (hj : j < l.length) : w.cell? ⟨g, j, none⟩ = some (.int .i64 (l.getD j 0)) := by
  obtain ⟨g', cap', hs, _, _, _, hc⟩ := h.lies (by omega)
  obtain ⟨hgg, _, _⟩ := Value.slice.inj hs
  obtain rfl : g = g' := by simpa using hgg
  exact hc j hj
theorem Num.free {B g n cap : Nat} {l : List Int} {w : World} (h : Num B (.slice (some ⟨g, 0, none⟩) n cap) l w) (j : Nat) : w.frozen? ⟨g, j, none⟩ = false := by
  rcases h.2 with ⟨e, _⟩ | ⟨g', cap', cur, e, a, b, c, d, f, q⟩
  · cases e
  · obtain ⟨e1, e2, rfl⟩ := Value.slice.inj e
    obtain rfl : g = g' := by simpa using e1
    exact frozen_of_row _ _ j _ _ b
theorem made_nums (n : Nat) : (madeCells (Value.int .i64 0).cells (n * 1)).toList = nums (List.replicate n 0) := by
  have : (madeCells (Value.int .i64 0).cells (n * 1)).toList = List.replicate (n * 1) (Value.int .i64 0) := by
    refine List.eq_replicate_iff.2 ⟨by simp [madeCells], fun v hv => ?_⟩
    simp [madeCells, Value.cells, Nat.mod_one] at hv
    exact hv.2.symm
  rw [this]; simp [nums]
set_option maxRecDepth 100000 in
set_option maxHeartbeats 6400000 in
theorem ref_times (B C : Nat) (a b : Nat) (va vb : Value) (w : World) (ha : Num B va (digs a) w) (hb : Num C vb (digs b) w) (la : (digs a).length ≤ 1000) (lb : (digs b).length ≤ 1000) :
    Calls Tryz.prog 99 #[va, vb] w fun e w' => ∃ v, e = .returned v ∧ Num w.heap.size v (digs (a * b)) w' ∧ Below w.heap.size w w' := by
  obtain ⟨i0, hi0, hz0, hz1, hz2⟩ := info_parts infoInt
  obtain ⟨aa, ac, rfl⟩ := ha.slice
  obtain ⟨ba, bc, rfl⟩ := hb.slice
  have HA := hid' ha
  have HB := hid' hb
  clear ha hb
  have TS := hid' (tm_start a b)
  have HLE := hid' (fun i k (A c : Int) O (h : TmI a b i k A c O) => h.len)
  have HLO := hid' (fun i O (h : Tm a b i O) => h.len)
  obtain ⟨L, hL⟩ : ∃ L, (digs a).length = L := ⟨_, rfl⟩
  obtain ⟨M, hM⟩ : ∃ M, (digs b).length = M := ⟨_, rfl⟩
  have HLA := hid' hL
  have HLB := hid' hM
  rw [hL] at la ⊢
  rw [hM] at lb ⊢
  rw [hL, hM] at TS
  simp only [hL, hM] at HLE HLO
  clear hL hM
  obtain ⟨N, hN⟩ : ∃ N, L + M + 1 = N := ⟨_, rfl⟩
  have hN1 : (L : Int) + (M : Int) + 1 = (N : Int) := by omega
  have hN2 : N ≤ 2001 := by omega
  rw [hN] at TS HLE HLO
  have HN := hid' hN
  clear hN
  go_enter Tryz.func99, Tryz.ntmps99
  go_wp2_with (first
    | (at_make; refine wpList_make_full _ rfl _ _ 24 rfl w.heap.size 3 i0 (.int .i64 0) 1 Tryz.underlying24 hi0 hz0 hz1 .i64 .i64 _ _ N rfl rfl (by simp) (by simp) (by rw [hz2]; omega) (by unfold maxLen; omega) (Nat.le_refl _) ?_; intro W hown hgr; have HOWN := hid' hown; have HGR := hid' hgr; clear hown hgr))
  have N0 : Hid (Num w.heap.size (.slice (some ⟨w.heap.size, 0, none⟩) N N) (List.replicate N 0) W) := by
    show World.ownsRow _ _ _ _ _ _ _
    rw [List.length_replicate, ← made_nums]; exact HOWN.out
  have B0 := hid' ((Below.refl w.heap.size w).grown HGR.out (Nat.le_refl _) (fun k hk => by cases hk))
  clear HOWN HGR hi0 hz0 hz1 hz2
  generalize hG : w.heap.size = G at *
  go_loopw [6] (fun iv wr => ∃ (i : Nat) (O : List Int), i ≤ L ∧ iv = .int .i64 i ∧ Num G (.slice (some ⟨G, 0, none⟩) N N) O wr ∧ Tm a b i O ∧ Below G w wr) (fun iv _ => L - (intOf iv).toNat)
  case atStart => exact ⟨0, _, by omega, rfl, N0.out, TS.out, B0.out⟩
  case round =>
    clear N0 B0 TS
    obtain ⟨i, O, hi, rfl, own, htm, hbl⟩ := hrel
    have OWN := hid' own
    have HBL := hid' hbl
    have HTM := hid' htm
    by_cases cA : i < L
    · have hiA : (i : Int) < (L : Int) := by omega
      obtain ⟨ga, ca, e1, lga, _, _, qa⟩ := HA.out.lies (by have := HLA.out; omega)
      obtain ⟨rfl, _, rfl⟩ := Value.slice.inj e1
      have QA := hid' (qa i (by have := HLA.out; omega))
      have HE := hid' (htm.enter' (by have := HLA.out; omega))
      generalize (digs a).getD i 0 = A at QA HE
      clear own hbl htm e1 qa
      go_wp2
      go_loopw [7, 8] (fun cv kv wr => ∃ (k : Nat) (c : Int) (O : List Int), k ≤ M + 1 ∧ kv = .int .i64 k ∧ cv = .int .i64 c ∧ Num G (.slice (some ⟨G, 0, none⟩) N N) O wr ∧ TmI a b i k A c O ∧ Below G w wr) (fun _ kv _ => M + 2 - (intOf kv).toNat)
      case atStart => exact ⟨0, 0, O, by omega, rfl, rfl, OWN.out, HE.out, HBL.out⟩
      case round =>
        clear HE HTM OWN HBL
        rename World => wq
        obtain ⟨k, c, O2, hk, rfl, rfl, own2, htmi, hbl2⟩ := hrel
        have OWN2 := hid' own2
        have HBL2 := hid' hbl2
        have HTMI := hid' htmi
        have c0 := htmi.c0
        have c1 := htmi.c1
        have A0 := htmi.a0
        have A1 := htmi.a1
        have HD := hid' htmi.dg
        by_cases cE : k < M ∨ 0 < c
        · obtain ⟨rm1, rm2⟩ := htmi.room (by have := HLA.out; omega) (by have := HLB.out; omega)
          have HST := hid' (htmi.step' rm1)
          have rm3 : k ≤ M := by have := HLB.out; omega
          have hlen := HLE.out _ _ _ _ _ htmi
          have o0 := own2.reads (i + k) rm1
          have f0 := own2.free (i + k)
          have obd := dg_bd HD.out (i + k)
          obtain ⟨j, hj⟩ : ∃ j, i + k = j := ⟨_, rfl⟩
          have hj1 : (i : Int) + (k : Int) = (j : Int) := by omega
          have z0 : (0 : Int) ≤ (j : Int) := by omega
          have z1 : (j : Int) < (N : Int) := by omega
          have z2 : j < N := by omega
          have HJ := hid' hj
          rw [hj] at o0 f0 obd HST
          generalize O2.getD j 0 = o at o0 obd HST
          by_cases cB : k < M
          · have hiB : decide ((k : Int) < (M : Int)) = true := by simp; omega
            have hiB2 : (k : Int) < (M : Int) := by omega
            obtain ⟨gb, cb, e2, lgb, _, _, qb⟩ := HB.out.lies (by have := HLB.out; omega)
            obtain ⟨rfl, _, rfl⟩ := Value.slice.inj e2
            have a0 := (hbl2.cell (p := ⟨ga, i, none⟩) (show ga < G by omega)).trans QA.out
            have b0 := (hbl2.cell (p := ⟨gb, k, none⟩) (show gb < G by omega)).trans (qb k (by have := HLB.out; omega))
            have tb := tmD_bd (b := b) (k := k) A0 A1
            have te := tmD_lt' (b := b) (k := k) (A := A) (by have := HLB.out; omega)
            rw [te] at tb HST
            generalize (digs b).getD k 0 = y at b0 tb HST te
            obtain ⟨t, ht⟩ : ∃ t, A * y = t := ⟨_, rfl⟩
            rw [ht] at tb HST
            obtain ⟨q, hq⟩ : ∃ q, (c + t + o) / 10000 = q := ⟨_, rfl⟩
            obtain ⟨r, hr⟩ : ∃ r, (c + t + o) % 10000 = r := ⟨_, rfl⟩
            rw [hq, hr] at HST
            have q1 : 0 ≤ q ∧ q ≤ 9999 := by omega
            have r1 : 0 ≤ r ∧ r ≤ 9999 := by omega
            clear own2 hbl2 htmi hj te e2 qb hlen rm1 rm2 HLE HLO
            go_upto_region 10 with fail
            go_quiet (fail)
            go_wp2
            go_roundw
            case rel =>
              refine ⟨k + 1, q, _, by omega, by go_num, (by first | rfl | (rw [hq])), ?_, HST.out, ?_⟩
              · exact OWN2.out.set j r
              · first
                  | exact below_drewN (HBL2.out.setCell (p := ⟨G, j, none⟩) (Nat.le_refl _) (.int .i64 r)) nq
                  | exact (below_drewN HBL2.out nq).setCell (p := ⟨G, j, none⟩) (Nat.le_refl _) (.int .i64 r)
            case measure => simp [intOf]; omega
          · have hiB : decide ((k : Int) < (M : Int)) = false := by simp; omega
            have hiB2 : ¬ (k : Int) < (M : Int) := by omega
            have hc4 : decide ((0 : Int) < c) = true := by simp; omega
            have hc5 : (0 : Int) < c := by omega
            rw [tmD_ge (by have := HLB.out; omega), Int.add_zero] at HST
            obtain ⟨q, hq⟩ : ∃ q, (c + o) / 10000 = q := ⟨_, rfl⟩
            obtain ⟨r, hr⟩ : ∃ r, (c + o) % 10000 = r := ⟨_, rfl⟩
            rw [hq, hr] at HST
            have q1 : 0 ≤ q ∧ q ≤ 9999 := by omega
            have r1 : 0 ≤ r ∧ r ≤ 9999 := by omega
            clear own2 hbl2 htmi hj hlen rm1 rm2 HLE HLO
            go_wp2
            go_roundw
            case rel =>
              refine ⟨k + 1, q, _, by omega, by go_num, (by first | rfl | (rw [hq])), ?_, HST.out, ?_⟩
              · exact OWN2.out.set j r
              · exact HBL2.out.setCell (p := ⟨G, j, none⟩) (Nat.le_refl _) (.int .i64 r)
            case measure => simp [intOf]; omega
        · have hiB : decide ((k : Int) < (M : Int)) = false := by simp; omega
          have hiB2 : ¬ (k : Int) < (M : Int) := by omega
          have hc4 : decide ((0 : Int) < c) = false := by simp; omega
          have hc5 : ¬ (0 : Int) < c := by omega
          have HTL := hid' (htmi.leave (by have := HLB.out; omega) hc5)
          clear own2 hbl2 htmi HLE HLO
          go_wp2
          go_roundw
          case rel => exact ⟨i + 1, O2, by omega, by go_num, OWN2.out, HTL.out, HBL2.out⟩
          case measure => simp [intOf]; omega
    · have hiA : ¬ (i : Int) < (L : Int) := by omega
      obtain rfl : i = L := by omega
      have hlen := HLO.out _ _ htm
      have hval := (show Tm a b (digs a).length O by rw [HLA.out]; exact htm).done
      have TR := hid' (ref_trim G G N N O (a * b) wr own hlen htm.dg hval (by omega))
      clear own hbl htm HLE HLO hlen hval
      go_wp2_with fail
      refine TR.out.mono ?_
      rintro e w2 ⟨v, rfl, hnum, rfl⟩
      have HNUM := hid' hnum
      clear hnum TR
      go_wp2
      go_ret
      exact ⟨v, rfl, by rw [hG]; exact HNUM.out, by rw [hG]; exact HBL.out⟩
end Go.Proofs.YtmmkhodaljpjgaaGreatDoor
namespace Go.Proofs.YtmmkhodaljpjgaaGreatDoor
open Go.RowKit
structure Wh (U D n k : Nat) : Prop where
  k33 : k ≤ 33
  lo : n * D ≤ U
  hi : U < (n + 2 ^ k) * D
  nb : n + 2 ^ k ≤ 2 ^ 33
theorem Wh.start {U D : Nat} (h : U < 2 ^ 33 * D) : Wh U D 0 33 := ⟨Nat.le_refl _, by simp, by simpa using h, by simp⟩
theorem Wh.up {U D n k : Nat} (h : Wh U D n (k + 1)) (hl : (n + 2 ^ k) * D ≤ U) : Wh U D (n + 2 ^ k) k := by
  have h1 := h.hi
  have h2 := h.nb
  have h3 := h.k33
  rw [Nat.pow_succ] at h1 h2
  refine ⟨by omega, hl, ?_, by omega⟩
  have e : n + 2 ^ k + 2 ^ k = n + 2 ^ k * 2 := by omega
  rw [e]; exact h1
theorem Wh.stay {U D n k : Nat} (h : Wh U D n (k + 1)) (hl : U < (n + 2 ^ k) * D) : Wh U D n k := by
  have h2 := h.nb
  have h3 := h.k33
  rw [Nat.pow_succ] at h2
  exact ⟨by omega, h.lo, hl, by omega⟩
theorem Wh.done {U D n : Nat} (h : Wh U D n 0) : n = U / D := by
  have h1 := h.hi
  have h2 := h.lo
  have hD : 0 < D := by
    by_cases c : D = 0
    · subst c; simp at h1
    · omega
  have e : (n + 2 ^ 0) * D = (n + 1) * D := by simp
  rw [e] at h1
  have a1 : U / D < n + 1 := (Nat.div_lt_iff_lt_mul hD).2 h1
  have a2 : n ≤ U / D := (Nat.le_div_iff_mul_le hD).2 h2
  omega
set_option maxRecDepth 100000 in
set_option maxHeartbeats 6400000 in
theorem ref_whole (B C : Nat) (U D : Nat) (vu vd : Value) (w : World) (hu : Num B vu (digs U) w) (hd : Num C vd (digs D) w) (hlt : U < 2 ^ 33 * D) (lu : (digs U).length ≤ 1000) (ld : (digs D).length ≤ 100) :
    Calls Tryz.prog 97 #[vu, vd] w fun e w' => e = .returned (.int .i64 ((U / D : Nat) : Int)) ∧ Below w.heap.size w w' := by
  have HU := hid' hu
  have HD := hid' hd
  have HS := hid' (Wh.start hlt)
  have HLU := hid' lu
  have HLD := hid' ld
  clear hu hd hlt lu ld
  go_enter Tryz.func97, Tryz.ntmps97
  go_wp2
  go_loopw [5, 6] (fun nv bv wr => ∃ (n : Nat) (k : Int), -1 ≤ k ∧ nv = .int .i64 n ∧ bv = .int .i64 k ∧ Wh U D n (k + 1).toNat ∧ Below w.heap.size w wr) (fun _ bv _ => (intOf bv + 1).toNat)
  case atStart => exact ⟨0, 32, by decide, rfl, rfl, HS.out, Below.refl _ _⟩
  case round =>
    clear HS
    obtain ⟨n, k, hk, rfl, rfl, hw, hbl⟩ := hrel
    have HBL := hid' hbl
    by_cases c : 0 ≤ k
    · obtain ⟨j, rfl⟩ : ∃ j : Nat, k = j := ⟨k.toNat, by omega⟩
      have ej : ((j : Int) + 1).toNat = j + 1 := by omega
      rw [ej] at hw
      have HW := hid' hw
      have k33 := hw.k33
      have nb := hw.nb
      rw [Nat.pow_succ] at nb
      have HUP := hid' hw.up
      have HST := hid' hw.stay
      obtain ⟨p, hp⟩ : ∃ p : Nat, 2 ^ j = p := ⟨_, rfl⟩
      rw [hp] at nb HUP HST
      have hp1 : wrap64 ((2 : Int) ^ j) = (p : Int) := by
        have e : (2 : Int) ^ j = (p : Int) := by rw [← hp]; simp
        rw [e]
        simp only [wrap64]
        omega
      obtain ⟨m, hm⟩ : ∃ m : Nat, n + p = m := ⟨_, rfl⟩
      have hm1 : (n : Int) + (p : Int) = (m : Int) := by omega
      have hm2 : m ≤ 8589934592 := by omega
      rw [hm] at HUP HST
      have hm3 : (digs m).length ≤ 5 := digs_length (by omega)
      have hmd : (digs (m * D)).length ≤ 1000 := by
        refine Nat.le_trans (digs_length (k := 5 + 100) ?_) (by omega)
        have d1 := digs_lt D
        have d2 : 10000 ^ (digs D).length ≤ 10000 ^ 100 := Nat.pow_le_pow_right (by omega) HLD.out
        rw [Nat.pow_add]
        exact Nat.mul_lt_mul'' (by omega) (by omega)
      have HM3 := hid' hm3
      have HMD := hid' hmd
      clear hw hbl hm3 hmd hp
      go_wp2_with fail
      refine (ref_nat m (by omega) wr).mono ?_
      rintro e w1 ⟨v1, rfl, n1, b1⟩
      have N1 := hid' n1
      have B1 := hid' (HBL.out.trans (b1.mono HBL.out.size))
      clear n1 b1
      go_wp2_with fail
      refine (ref_times _ _ m D v1 vd w1 N1.out (HD.out.below (B1.out.mono (Nat.le_refl _))) (by have := HM3.out; omega) (by have := HLD.out; omega)).mono ?_
      rintro e w2 ⟨v2, rfl, n2, b2⟩
      have N2 := hid' n2
      have B2 := hid' (B1.out.trans (b2.mono B1.out.size))
      clear n2 b2
      go_wp2_with fail
      refine (ref_above _ _ (m * D) U v2 vu w2 N2.out (HU.out.below B2.out) HMD.out HLU.out).mono ?_
      rintro e w3 ⟨rfl, b3⟩
      have B3 := hid' (B2.out.trans (b3.mono B2.out.size))
      clear b3
      by_cases c2 : U < m * D
      · have hdec : decide (U < m * D) = true := by simp [c2]
        go_wp2
        go_roundw
        case rel => exact ⟨n, (j : Int) - 1, by omega, rfl, by go_num, by rw [show ((j : Int) - 1 + 1).toNat = j from by omega]; exact HST.out c2, B3.out⟩
        case measure => simp [intOf]
      · have hdec : decide (U < m * D) = false := by simp [c2]
        go_wp2
        go_roundw
        case rel => exact ⟨m, (j : Int) - 1, by omega, rfl, by go_num, by rw [show ((j : Int) - 1 + 1).toNat = j from by omega]; exact HUP.out (by omega), B3.out⟩
        case measure => simp [intOf]
    · obtain rfl : k = -1 := by omega
      have e := hw.done
      clear hw hbl
      go_wp2
      go_ret
      exact ⟨rfl, HBL.out⟩
end Go.Proofs.YtmmkhodaljpjgaaGreatDoor
namespace Go.Proofs.YtmmkhodaljpjgaaGreatDoor
open Go.RowKit
set_option maxRecDepth 100000 in
theorem ref_curve (i : Int) (w : World) (h0 : 0 ≤ i) (h1 : i ≤ 1024) :
    Calls Tryz.prog 141 #[.int .i64 i] w fun e w' => e = .returned (.int .i64 (gZ i)) ∧ w' = w := by
  have a0 : 0 ≤ 4 * i * i := Int.mul_nonneg (by omega) h0
  have a1 : 4 * i * i ≤ 4 * i * 1024 := Int.mul_le_mul_of_nonneg_left h1 (by omega)
  have HG : Hid (gZ i = 4 * i * i * (3072 - 2 * i)) := rfl
  have gb := gZ_bd h0 h1
  rw [HG.out] at gb
  obtain ⟨a, ha⟩ : ∃ a, 4 * i * i = a := ⟨_, rfl⟩
  rw [ha] at a0 a1 HG gb
  obtain ⟨c, hc⟩ : ∃ c, a * (3072 - 2 * i) = c := ⟨_, rfl⟩
  rw [hc] at HG gb
  rw [HG.out]
  have a2 : a ≤ 4194304 := by omega
  clear HG
  go_enter Tryz.func141, Tryz.ntmps141
  go_wp2
  go_ret
  exact ⟨rfl, rfl⟩
set_option maxRecDepth 100000 in
theorem ref_gap (s f z g : Int) (w : World) (h0 : 0 ≤ z - s) (h1 : z - s ≤ 700000) (f0 : 0 ≤ f) (f1 : f < 4294967296) (g0 : 0 ≤ g) (g1 : g < 4294967296) :
    Calls Tryz.prog 95 #[.agg #[.int .i64 s, .int .i64 f], .agg #[.int .i64 z, .int .i64 g]] w fun e w' => e = .returned (.int .i64 ((z - s) * 4294967296 + g - f)) ∧ Below w.heap.size w w' := by
  have B0 := hid' (((Below.refl w.heap.size w).alloc (Nat.le_refl _) (.cells #[.int .i64 s, .int .i64 f] 35)).alloc (by simp) (.cells #[.int .i64 z, .int .i64 g] 35))
  go_enter Tryz.func95, Tryz.ntmps95
  go_wp2
  go_ret
  exact ⟨rfl, B0.out⟩
end Go.Proofs.YtmmkhodaljpjgaaGreatDoor
namespace Go.Proofs.YtmmkhodaljpjgaaGreatDoor
open Go.RowKit
/-- What pull answers. -/
def PullP (U D : Nat) (w : World) (e : Ending) (w' : World) : Prop := ∃ v1 v2, e = .returned (.tuple #[v1, v2]) ∧ Num w.heap.size v1 (digs U) w' ∧ Num w.heap.size v2 (digs D) w' ∧ Below w.heap.size w w'
theorem Num.up {B C : Nat} {v : Value} {l : List Int} {w : World} (h : Num B v l w) (hc : C ≤ B) : Num C v l w := by
  refine ⟨h.1, ?_⟩
  rcases h.2 with h | ⟨g, cap, cur, e, a, b⟩
  · exact .inl h
  · exact .inr ⟨g, cap, cur, e, by omega, b⟩
set_option maxRecDepth 100000 in
set_option maxHeartbeats 6400000 in
theorem ref_pull (b : Nat) (x : Sv) (dv bv cv hv : Value) (n : Int) (w : World) (hr : RSrv b x dv bv cv hv w) (ok : PullOk x.win n) :
    Calls Tryz.prog 96 #[.pointer (some ⟨b, 0, none⟩), .int .i64 n] w fun e w' => PullP (pullU x.mode x.win n).toNat (pullD x.mode x.win).toNat w e w' := by
  have HR := hid' hr
  have q0 := cell_of_row _ _ 0 _ _ _ hr.row
  have q1 := cell_of_row _ _ 1 _ _ _ hr.row
  simp at q0 q1
  have hxX := ok.x
  have hxI := ok.i
  have hxR := ok.r
  have hxIX := ok.ix
  have ⟨wl0, wl1, n0, n1⟩ := ok
  have HU := hid' (ok.u x.mode)
  have n2 : n < 2597596220620800 := by omega
  have EU : Hid (pullU x.mode x.win n = if x.mode = 1 then n else gZ (pI x.win n) * pX x.win + (gZ (pI x.win n + 1) - gZ (pI x.win n)) * pR x.win n) := rfl
  have ED : Hid (pullD x.mode x.win = if x.mode = 1 then x.win else pX x.win) := rfl
  generalize pullU x.mode x.win n = U at *
  generalize pullD x.mode x.win = D at *
  generalize x.mode = mode at *
  clear hr ok
  by_cases c : mode = 1
  · subst c
    obtain ⟨N, hN⟩ : ∃ N : Nat, n = N := ⟨n.toNat, by omega⟩
    obtain ⟨M, hM⟩ : ∃ M : Nat, x.win = M := ⟨x.win.toNat, by omega⟩
    rw [hM] at q1 wl0 wl1 hxX
    have E1 : Hid (U.toNat = N) := by show _ = _; rw [EU.out, if_pos rfl, hN]; rfl
    have E2 : Hid (D.toNat = M) := by show _ = _; rw [ED.out, if_pos rfl, hM]; rfl
    subst hN
    clear EU ED HU hxI hxR hxIX n1 hM
    go_enter Tryz.func96, Tryz.ntmps96
    go_wp2_with fail
    refine (ref_nat N (by omega) w).mono ?_
    rintro e w1 ⟨v1, rfl, m1, b1⟩
    have M1 := hid' m1
    have B1 := hid' b1
    have p1 := (b1.cell (p := ⟨b, 1, none⟩) (lt_of_heap HR.out.row)).trans q1
    clear q0 q1 m1 b1
    go_wp2_with fail
    refine (ref_nat M (by omega) w1).mono ?_
    rintro e w2 ⟨v2, rfl, m2, b2⟩
    have M2 := hid' m2
    have B2 := hid' b2
    clear m2 b2
    go_wp2
    go_ret2
    refine ⟨v1, v2, rfl, ?_, ?_, B1.out.trans (B2.out.mono B1.out.size)⟩
    · rw [E1.out]; exact M1.out.below B2.out
    · rw [E2.out]; exact M2.out.up B1.out.size
  · have ne : (mode == 1) = false := beq_eq_false_iff_ne.2 c
    rw [if_neg c] at EU ED
    have hXe : x.win * 4294967296 = pX x.win := rfl
    have hIe : 1024 * n / pX x.win = pI x.win n := rfl
    have hRe : 1024 * n - pI x.win n * pX x.win = pR x.win n := rfl
    have gi := gZ_bd (i := pI x.win n) hxI.1 (by omega)
    have gj := gZ_bd (i := pI x.win n + 1) (by omega) (by omega)
    have gl := gZ_le_succ hxI.1 hxI.2
    have CI := hid' (fun W => ref_curve (pI x.win n) W hxI.1 (by omega))
    have CJ := hid' (fun W => ref_curve (pI x.win n + 1) W (by omega) (by omega))
    obtain ⟨iw, hiw⟩ : ∃ iw, pI x.win n * x.win = iw := ⟨_, rfl⟩
    have hiw2 : iw * 4294967296 = pI x.win n * pX x.win := by rw [← hiw, ← hXe]; grind
    obtain ⟨X, hX⟩ : ∃ X : Nat, pX x.win = X := ⟨(pX x.win).toNat, by omega⟩
    obtain ⟨H, hH⟩ : ∃ H : Nat, gZ (pI x.win n) = H := ⟨(gZ (pI x.win n)).toNat, by omega⟩
    obtain ⟨J, hJ⟩ : ∃ J : Nat, gZ (pI x.win n + 1) = J := ⟨(gZ (pI x.win n + 1)).toNat, by omega⟩
    obtain ⟨R, hRR⟩ : ∃ R : Nat, pR x.win n = R := ⟨(pR x.win n).toNat, by omega⟩
    rw [hH] at gi gl CI EU
    rw [hJ] at gj gl CJ EU
    rw [hRR] at hxR hRe EU
    rw [hX] at hxX hXe hIe hRe hxR hiw2 hxIX EU ED
    generalize pI x.win n = i at *
    obtain ⟨iX, hiX⟩ : ∃ iX, i * (X : Int) = iX := ⟨_, rfl⟩
    rw [hiX] at hRe hiw2 hxIX
    have hRe2 : 1024 * n - iw * 4294967296 = (R : Int) := by omega
    obtain ⟨K, hK⟩ : ∃ K : Nat, (J : Int) - (H : Int) = K := ⟨J - H, by omega⟩
    have hw2 := hid' wl0
    have E1 : Hid (U.toNat = H * X + K * R) := by
      show _ = _
      rw [EU.out, hK, ← Int.natCast_mul, ← Int.natCast_mul, ← Int.natCast_add]; rfl
    have E2 : Hid (D.toNat = X) := by show _ = _; rw [ED.out]; rfl
    generalize x.win = W at *
    have k1 : K ≤ 4294967296 := by omega
    have x1 : (X : Int) ≤ 2597596220620800 := hxX.2
    have iw0 : 0 ≤ iw ∧ iw ≤ 1000000000 := by omega
    have z0 : ¬ (X : Int) = 0 := by omega
    have z1 : ((X : Int) == 0) = false := beq_eq_false_iff_ne.2 z0
    have z2 : 0 ≤ 1024 * n := by omega
    clear EU ED HU hiX hRe hiw2 hxIX hX c
    have lX : (digs X).length ≤ 4 := digs_length (by omega)
    have lH : (digs H).length ≤ 3 := digs_length (by omega)
    have lK : (digs K).length ≤ 3 := digs_length (by omega)
    have lR : (digs R).length ≤ 4 := digs_length (by omega)
    have lHX : (digs (H * X)).length ≤ 7 := digs_length (k := 3 + 4) (by
      have h1 : H < 10000 ^ 3 := by omega
      have h2 : X < 10000 ^ 4 := by omega
      rw [Nat.pow_add]; exact Nat.mul_lt_mul'' h1 h2)
    have lKR : (digs (K * R)).length ≤ 7 := digs_length (k := 3 + 4) (by
      have h1 : K < 10000 ^ 3 := by omega
      have h2 : R < 10000 ^ 4 := by omega
      rw [Nat.pow_add]; exact Nat.mul_lt_mul'' h1 h2)
    have lS : (digs (H * X + K * R)).length ≤ 8 := digs_length (by
      have h1 : H * X < 10000 ^ 3 * 10000 ^ 4 := Nat.mul_lt_mul'' (by omega) (by omega)
      have h2 : K * R < 10000 ^ 3 * 10000 ^ 4 := Nat.mul_lt_mul'' (by omega) (by omega)
      omega)
    have LL := hid' (And.intro lX (And.intro lH (And.intro lK (And.intro lR (And.intro lHX (And.intro lKR lS))))))
    clear lX lH lK lR lHX lKR lS
    go_enter Tryz.func96, Tryz.ntmps96
    go_wp2_with fail
    refine (ref_nat X (by omega) w).mono ?_
    rintro e w1 ⟨v1, rfl, m1, b1⟩
    have M1 := hid' m1
    have B1 := hid' b1
    have p1 := (b1.cell (p := ⟨b, 1, none⟩) (lt_of_heap HR.out.row)).trans q1
    clear q0 q1 m1 b1
    go_wp2_with fail
    refine (CI.out _).mono ?_
    rintro e _ ⟨rfl, rfl⟩
    go_wp2_with fail
    refine (CJ.out _).mono ?_
    rintro e _ ⟨rfl, rfl⟩
    go_wp2_with fail
    refine (ref_nat H (by omega) _).mono ?_
    rintro e w2 ⟨v2, rfl, m2, b2⟩
    have M2 := hid' m2
    have B2 := hid' (B1.out.trans (b2.mono B1.out.size))
    have b2' := hid' b2
    clear m2 b2
    go_wp2_with fail
    refine (ref_nat K (by omega) w2).mono ?_
    rintro e w3 ⟨v3, rfl, m3, b3⟩
    have M3 := hid' m3
    have B3 := hid' (B2.out.trans (b3.mono B2.out.size))
    have b3' := hid' b3
    clear m3 b3
    go_wp2_with fail
    refine (ref_nat R (by omega) w3).mono ?_
    rintro e w4 ⟨v4, rfl, m4, b4⟩
    have M4 := hid' m4
    have B4 := hid' (B3.out.trans (b4.mono B3.out.size))
    have b4' := hid' b4
    clear m4 b4
    go_wp2_with fail
    refine (ref_times _ _ H X v2 v1 w4 ((M2.out.below b3'.out).below b4'.out) (((M1.out.below b2'.out).below b3'.out).below b4'.out) (by have := LL.out; omega) (by have := LL.out; omega)).mono ?_
    rintro e w5 ⟨v5, rfl, m5, b5⟩
    have M5 := hid' m5
    have B5 := hid' (B4.out.trans (b5.mono B4.out.size))
    have b5' := hid' b5
    clear m5 b5
    go_wp2_with fail
    refine (ref_times _ _ K R v3 v4 w5 ((M3.out.below b4'.out).below b5'.out) (M4.out.below b5'.out) (by have := LL.out; omega) (by have := LL.out; omega)).mono ?_
    rintro e w6 ⟨v6, rfl, m6, b6⟩
    have M6 := hid' m6
    have B6 := hid' (B5.out.trans (b6.mono B5.out.size))
    have b6' := hid' b6
    clear m6 b6
    go_wp2_with fail
    refine (ref_plus _ _ (H * X) (K * R) v5 v6 w6 (M5.out.below b6'.out) M6.out (by have := LL.out; omega) (by have := LL.out; omega) (by have := LL.out; omega)).mono ?_
    rintro e w7 ⟨v7, rfl, m7, b7⟩
    have M7 := hid' m7
    have B7 := hid' (B6.out.trans (b7.mono B6.out.size))
    have b7' := hid' b7
    clear m7 b7
    go_wp2
    go_ret2
    refine ⟨v7, v1, rfl, ?_, ?_, B7.out⟩
    · rw [E1.out]; exact M7.out.up B6.out.size
    · rw [E2.out]; exact (((((M1.out.below b2'.out).below b3'.out).below b4'.out).below b5'.out).below b6'.out).below b7'.out
end Go.Proofs.YtmmkhodaljpjgaaGreatDoor
