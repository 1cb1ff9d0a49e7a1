import Derived.Test.YtmmkhodaljpjgaaGreatDoorOwner
import Derived.Maps.AppendAt
namespace Go.Proofs.YtmmkhodaljpjgaaGreatDoor
open Go.RowKit

theorem infoLeap : (Tryz.prog.info? 46).map (fun i => (i.zero, i.size, i.bytes)) = some (some (.agg #[.int .i64 0, .int .i64 0]), 2, 16) := by kernel_rfl
theorem infoString : (Tryz.prog.info? 9).map (fun i => (i.zero, i.size, i.bytes)) = some (some (.string ByteArray.empty), 1, 16) := by kernel_rfl

theorem ownW {w : World} {B B' e size n : Nat} {v : Value} {xs : List Value} (h : w.ownsRow B e size v n xs) (hb : B' ≤ B) : w.ownsRow B' e size v n xs := by
  refine ⟨h.1, ?_⟩
  rcases h.2 with h | ⟨g, cap, cur, rfl, a, b⟩
  · exact .inl h
  · exact .inr ⟨g, cap, cur, rfl, Nat.le_trans hb a, b⟩

set_option maxRecDepth 100000 in
set_option maxHeartbeats 1000000 in
theorem owner_entry {X : Xs} (B bW n : Nat) (x a b c d : Int) (s : ByteArray) (w : World) (wa : (Lit.int .i64 a).wf = true) (wb : (Lit.int .i64 b).wf = true) (hn : n ≤ 100000) (hI : Inv X B bW n w) (hB : B ≤ w.heap.size) :
    Calls Tryz.prog 16 #[.pointer (some ⟨bW, 0, none⟩), .agg #[.int .i64 4, .int .i64 x, .int .i64 a, .int .i64 b, .int .i64 c, .int .i64 d, .string s]] w fun e w' =>
      e = .returned (.bool true) ∧ Left X B bW n w w' := by
  have WA := hid' wa
  have WB := hid' wb
  clear wa wb
  obtain ⟨le, tv, lv, xv, F, ts, ls, up, ex, se, fr, hb, ht, hl, h1, h2, h3, h4⟩ := hI
  obtain ⟨i0, hi0, hz0, hz1, hz2⟩ := info_parts infoLeap
  have hlt := hb.lt
  have c3 := hb.cell 3
  simp at c3
  have HB := hid' hb
  have HT := hid' ht
  have HL := hid' hl
  have H4 := hid' h4
  have HB1 := hid' (hb.alloc (.cells #[.int .i64 4, .int .i64 x, .int .i64 a, .int .i64 b, .int .i64 c, .int .i64 d, .string s] 27))
  have HL1 := hid' (hl.alloc (.cells #[.int .i64 4, .int .i64 x, .int .i64 a, .int .i64 b, .int .i64 c, .int .i64 d, .string s] 27))
  have HO1 := hid' (heap_alloc_new w (.cells #[.int .i64 4, .int .i64 x, .int .i64 a, .int .i64 b, .int .i64 c, .int .i64 d, .string s] 27))
  clear hb ht hl h4
  have hWa : (w.alloc (.cells #[.int .i64 4, .int .i64 x, .int .i64 a, .int .i64 b, .int .i64 c, .int .i64 d, .string s] 27)).heap.size = w.heap.size + 1 := by simp
  have HWA := hid' hWa
  clear hWa
  rcases HL.out.2 with ⟨rfl, hz⟩ | ⟨g, cap, cur, rfl, hbg, hcur, hcap, hcm, hcs, htk⟩
  · have hls : ls = [] := List.eq_nil_of_length_eq_zero hz
    subst hls
    clear hz
    go_enter Tryz.func16, Tryz.ntmps16
    go_wp2_with (first
      | (at_builtin; refine wpList_append_own_none (by rfl) (.tmp 69) (.tmp 74) 31 (by rfl) w.heap.size 46 i0 2 Tryz.underlying31 hi0 (.slice none 0 0) 0 [] (by rfl) (World.ownsRow_nil _ _ _ _) (by rfl) ?_)
      | (at_builtin; refine wpList_append_lies _ (by rfl) (.tmp 77) (.tmp 83) 31 (by rfl) w.heap.size 46 i0 (.agg #[.int .i64 0, .int .i64 0]) 2 16 Tryz.underlying31 hi0 hz0 hz1 hz2 rfl (by decide) (.slice none 0 0) 0 [] (by rfl) (World.ownsRow_nil _ _ _ _) ⟨w.heap.size + 1, 0, none⟩ 1 1 [.int .i64 a, .int .i64 b] (by rfl) (by rfl) (World.news_of_block (cs := #[.int .i64 a, .int .i64 b]) (heap_alloc2_new w _ _)) (by simp [Value.oneCell']) (by decide) (by unfold maxLen; omega) (by omega) (by simp <;> omega) (w.heap.size + 1 + 1) (by simp) ?_; intro g3 cap3 w3 own3 hg3 hat3 hlt3; have B3 := hid' ((HB1.out.alloc (.cells #[.int .i64 a, .int .i64 b] 46)).grown hg3 (World.ownsRow_nil _ w.heap.size 46 2) (by decide)); have d3 := B3.out.cell 3; have f3 := B3.out.free 3; simp at d3; have OWN3 := hid' own3; have HG3 := hid' hg3; clear own3 hg3 hat3))
    go_ret
    have b4 := B3.out.at3 (.slice (some ⟨g3, 0, none⟩) (0 + 1) cap3)
    have t3 : w3.ownsRow B 9 1 tv ts.length (ts.map Value.string) := own_grown ((HT.out.alloc (.cells #[.int .i64 4, .int .i64 x, .int .i64 a, .int .i64 b, .int .i64 c, .int .i64 d, .string s] 27)).alloc (.cells #[.int .i64 a, .int .i64 b] 46)) HG3.out (World.ownsRow_nil _ w.heap.size 46 2) (by decide)
    have bel3 : Below w.heap.size w w3 := (((Below.refl w.heap.size w).alloc (Nat.le_refl _) (.cells #[.int .i64 4, .int .i64 x, .int .i64 a, .int .i64 b, .int .i64 c, .int .i64 d, .string s] 27)).alloc (by simp <;> omega) (.cells #[.int .i64 a, .int .i64 b] 46)).grown HG3.out (by simp <;> omega) (fun _ h => by simp [Value.ownBlock] at h)
    have kk := B3.out.keeps (Keeps.below bel3) 3 (.slice (some ⟨g3, 0, none⟩) (0 + 1) cap3)
    exact ⟨rfl, ⟨le, tv, _, xv, F, ts, [(a, b)], _, _, _, _, b4, B3.out.own t3 (by decide) 3 _, B3.out.own (ownW OWN3.out hB) (by decide) 3 _, by omega, by simp, ⟨h3.txt, fun p h => (by simp at h; subst h; exact ⟨WA.out, WB.out⟩), h3.up, h3.ex, h3.se, h3.fr⟩, H4.out.fresh kk (Nat.le_succ _) (own_ge OWN3.out)⟩, kk, (bel3.mono hB).setCell le _⟩
  · clear hbg hcur hcap hcm hcs htk
    go_enter Tryz.func16, Tryz.ntmps16
    go_wp2_with (first
      | (at_builtin; refine wpList_append_own _ (by rfl) (.tmp 69) (.tmp 74) 31 (by rfl) w.heap.size 46 i0 (.agg #[.int .i64 0, .int .i64 0]) 2 16 Tryz.underlying31 hi0 hz0 hz1 hz2 rfl (by decide) (.slice none 0 0) 0 [] (by rfl) (World.ownsRow_nil _ _ _ _) ⟨g, 0, none⟩ ls.length cap (flat ls) (by rfl) (flat_length ls) (own_cells HL1.out) (flat_one ls) (by unfold maxLen; omega) (by omega) (by simp <;> omega) ?_; intro v1 w2 own2 hg2 _; have hs2 : w.heap.size + 1 ≤ w2.heap.size := (by rw [← HWA.out]; exact hg2.size); have o2 := grown_heap (v := .slice none 0 0) (B := w.heap.size) (u := 46) (size := 2) hg2 (World.ownsRow_nil _ _ _ _) HO1.out (by decide); have q2 := cell_of_row _ _ 2 _ _ _ o2; have q3 := cell_of_row _ _ 3 _ _ _ o2; simp at q2 q3; have B2 := hid' (HB1.out.grown hg2 (World.ownsRow_nil _ w.heap.size 46 2) (by decide)); have T2 := hid' (own_grown (HT.out.alloc _) hg2 (World.ownsRow_nil _ w.heap.size 46 2) (by decide)); have L2 := hid' (((Below.refl w.heap.size w).alloc (Nat.le_refl _) _).grown hg2 (by simp <;> omega) (fun _ h => by simp [Value.ownBlock] at h)); simp only [Nat.zero_add, List.nil_append] at own2; have OWN2 := hid' own2; clear own2 hg2 o2)
      | (at_builtin; refine wpList_append_lies _ (by rfl) (.tmp 77) (.tmp 83) 31 (by rfl) w.heap.size 46 i0 (.agg #[.int .i64 0, .int .i64 0]) 2 16 Tryz.underlying31 hi0 hz0 hz1 hz2 rfl (by decide) v1 ls.length (flat ls) (by rfl) (OWN2.out.alloc _) ⟨w2.heap.size, 0, none⟩ 1 1 [.int .i64 a, .int .i64 b] (by rfl) (by rfl) (World.news_of_block (cs := #[.int .i64 a, .int .i64 b]) (heap_alloc_new w2 _)) (by simp [Value.oneCell']) (by decide) (by unfold maxLen; omega) (by omega) (by simp <;> omega) (w2.heap.size + 1) (by simp) ?_; intro g3 cap3 w3 own3 hg3 hat3 hlt3; have B3 := hid' ((B2.out.alloc (.cells #[.int .i64 a, .int .i64 b] 46)).grown hg3 (OWN2.out.alloc _) (by decide)); have d3 := B3.out.cell 3; have f3 := B3.out.free 3; simp at d3; have OWN3 := hid' own3; have HG3 := hid' hg3; clear own3 hg3 hat3))
    go_ret
    have b4 := B3.out.at3 (.slice (some ⟨g3, 0, none⟩) (ls.length + 1) cap3)
    have t3 : w3.ownsRow B 9 1 tv ts.length (ts.map Value.string) := own_grown (T2.out.alloc _) HG3.out (OWN2.out.alloc (.cells #[.int .i64 a, .int .i64 b] 46)) (by decide)
    have l4 : (w3.setCell ⟨bW, 3, none⟩ (.slice (some ⟨g3, 0, none⟩) (ls.length + 1) cap3)).ownsRow B 46 2 (.slice (some ⟨g3, 0, none⟩) (ls.length + 1) cap3) (ls ++ [(a, b)]).length (flat (ls ++ [(a, b)])) := by
      rw [flat_append, List.length_append]; exact B3.out.own (ownW OWN3.out hB) (by decide) 3 _
    have bel3 : Below w.heap.size w w3 := (L2.out.alloc (by omega) _).grown HG3.out (by simp <;> omega) (own_ge (OWN2.out.alloc (.cells #[.int .i64 a, .int .i64 b] 46)))
    have kk := B3.out.keeps (Keeps.below bel3) 3 (.slice (some ⟨g3, 0, none⟩) (ls.length + 1) cap3)
    exact ⟨rfl, ⟨le, tv, _, xv, F, ts, ls ++ [(a, b)], _, _, _, _, b4, B3.out.own t3 (by decide) 3 _, l4, by omega, by simp <;> omega, ⟨h3.txt, fun p h => (by
      rcases List.mem_append.1 h with h | h
      · exact h3.tab p h
      · simp at h; subst h; exact ⟨WA.out, WB.out⟩), h3.up, h3.ex, h3.se, h3.fr⟩, H4.out.fresh kk (Nat.le_succ _) (own_ge OWN3.out)⟩, kk, (bel3.mono hB).setCell le _⟩

end Go.Proofs.YtmmkhodaljpjgaaGreatDoor
