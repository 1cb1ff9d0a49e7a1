import Derived.Test.YtmmkhodaljpjgaaGreatDoorOwner2
import Derived.StillTactics
import Derived.Deep.DrawnRows
import Derived.Deep.RegionLaw
import Derived.Deep.QuietTactic
import Derived.BigQuiet
import Derived.Deep.DeepMust
namespace Go.Proofs.YtmmkhodaljpjgaaGreatDoor
open Go.RowKit
attribute [local go_sem ↓] Go.wp_at_zero Go.wp_at_succ

/-- One text more. V: the world in which it is appended. -/
theorem text_left {X : Xs} {F : Nat → Prop} {B bW n : Nat} {w w1 V : World} {tv lv xv : Value} {ts : List ByteArray} {ls : List (Int × Int)} {up ex se fr : Int} {s : ByteArray} {gg cap : Nat} (hs : s.size ≤ 16384) (le : B ≤ bW)
    (h1 : ts.length ≤ n) (h2 : ls.length ≤ n + 40) (h3 : Nums ts ls up ex se fr) (tV : V.ownsRow B 9 1 tv ts.length (ts.map Value.string)) (lV : V.ownsRow B 46 2 lv ls.length (flat ls)) (h4 : Srv X n F lv xv w) (kV : Keeps w V) (belV : Below B w V) (hV : B ≤ V.heap.size)
    (own1 : w1.ownsRow B 9 1 (.slice (some ⟨gg, 0, none⟩) (ts.length + 1) cap) (ts.length + 1) (ts.map Value.string ++ [.string s])) (hg : V.grownBy w1 tv.ownBlock) (b1 : Blk bW tv up ex lv se fr xv w1) :
    Left X B bW n w (w1.setCell ⟨bW, 0, none⟩ (.slice (some ⟨gg, 0, none⟩) (ts.length + 1) cap)) := by
  have k1 : Keeps w w1 := kV.grown hg tV
  have kk := b1.keeps k1 0 (.slice (some ⟨gg, 0, none⟩) (ts.length + 1) cap)
  have l1 : w1.ownsRow B 46 2 lv ls.length (flat ls) := own_grown lV hg tV (by decide)
  have bel1 : Below B w w1 := belV.grown hg hV (own_ge tV)
  refine ⟨⟨le, _, lv, xv, F, ts ++ [s], ls, _, _, _, _, b1.at0 _, ?_, b1.own l1 (by decide) 0 _, by simp; omega, by omega, ?_, h4.keeps kk (Nat.le_succ _)⟩, kk, bel1.setCell le _⟩
  · rw [List.length_append, List.map_append]; exact b1.own own1 (by decide) 0 _
  · refine ⟨?_, h3.tab, h3.up, h3.ex, h3.se, h3.fr⟩
    intro t htm
    simp at htm
    rcases htm with htm | rfl
    · exact h3.txt t htm
    · exact hs

set_option maxRecDepth 100000 in
set_option maxHeartbeats 3200000 in
theorem owner_text {X : Xs} (B bW n : Nat) (x a b c d : Int) (s : ByteArray) (w : World) (hn : n ≤ 100000) (hs : s.size ≤ 16384) (hI : Inv X B bW n w) (hB : B ≤ w.heap.size) :
    Calls Tryz.prog 16 #[.pointer (some ⟨bW, 0, none⟩), .agg #[.int .i64 1, .int .i64 x, .int .i64 a, .int .i64 b, .int .i64 c, .int .i64 d, .string s]] w fun e w' =>
      e = .returned (.bool true) ∧ Left X B bW n w w' := by
  obtain ⟨le, tv, lv, xv, F, ts, ls, up, ex, se, fr, hb, ht, hl, h1, h2, h3, h4⟩ := hI
  obtain ⟨i0, hi0, hz0, hz1, hz2⟩ := info_parts infoString
  have hlt := hb.lt
  have c0 := hb.cell 0
  have f0 := hb.free 0
  simp at c0
  have ab : tv.ownBlock ≠ some bW := own_ne ht hb (by decide)
  have ao : tv.ownBlock ≠ some w.heap.size := fun q => by have := own_lt ht _ q; omega
  have fz1 : ∀ o, (w.alloc o).frozen? ⟨bW, 0, none⟩ = false := fun o => (hb.alloc o).free 0
  have fz2 : ∀ o p, ((w.alloc o).alloc p).frozen? ⟨bW, 0, none⟩ = false := fun o p => ((hb.alloc o).alloc p).free 0
  have HB := hid' hb
  have HT := hid' ht
  have HL := hid' hl
  have H4 := hid' h4
  have AB := hid' ab
  have AO := hid' ao
  clear hb ht hl ab ao h4
  go_enter Tryz.func16, Tryz.ntmps16
  go_wp2_with fail
  go_region_law ((refine step_append_lies _ ?_ (.tmp 15) (.tmp 18) 30 ?_ B 9 i0 (.string ByteArray.empty) 1 16 Tryz.underlying30 hi0 hz0 hz1 hz2 rfl (by decide) tv ts.length (ts.map Value.string) ?_ ?_ ⟨w.heap.size + 1, 0, none⟩ 1 1 [.string s] ?_ ?_ ?_ ?_ ?_ ?_ ?_ ?_ (w.heap.size + 1 + 1) ?_ ?_; exact rfl; exact rfl; exact rfl; exact ((HT.out.alloc _).alloc _).drew; exact rfl; exact rfl; exact (World.news_of_block (cs := #[.string s]) (t := 9) (fr := (0, 0)) (heap_alloc2_new w _ _)); (simp [Value.oneCell']); decide; (unfold maxLen; omega); omega; (simp; omega); (simp); intro gg cap w1 hown1 hgrow hat hlt1; have B1 := hid' (Blk.grown (w := (((w.alloc (.cells #[.int .i64 1, .int .i64 x, .int .i64 a, .int .i64 b, .int .i64 c, .int .i64 d, .string s] 27)).alloc (.cells #[.string s] 9)).drew)) ((HB.out.alloc _).alloc _) hgrow (((HT.out.alloc _).alloc _).drew) (by decide)); have d1 := B1.out.cell 0; have g1 := B1.out.free 0; (simp at d1); have OWN1 := hid' hown1; have HG1 := hid' hgrow; clear hown1 hgrow hat))
  all_goals
    go_wp2
    go_ret
    exact ⟨rfl, text_left hs le h1 h2 h3 ((HT.out.alloc _).alloc _).drew ((HL.out.alloc _).alloc _).drew H4.out (((Keeps.refl w).alloc _).alloc _) (((Below.refl B w).alloc hB _).alloc (by simp; omega) _).drew (by simp; omega) OWN1.out HG1.out B1.out⟩

/-- Which of n things the raw number c speaks of. -/
def pk (c n : Int) : Int := if c < 0 then -((c + 1).tmod n) else c % n

theorem pk_bd (c n : Int) (h : 1 ≤ n) : 0 ≤ pk c n ∧ pk c n < n := by
  unfold pk
  split
  · rw [← Int.neg_tmod]
    exact ⟨Int.tmod_nonneg _ (by omega), Int.tmod_lt_of_pos _ (by omega)⟩
  · exact ⟨Int.emod_nonneg _ (by omega), Int.emod_lt_of_pos _ (by omega)⟩

theorem pick_val (c : Int) (n : Int) (w : World) (w0 : (Lit.int .i64 c).wf = true) (h1 : 1 ≤ n) (h2 : n ≤ 1000000) :
    Calls Tryz.prog 18 #[.int .i64 c, .int .i64 n] w fun e w' => e = .returned (.int .i64 (pk c n)) ∧ w' = w := by
  have hb := bounds_i64 w0
  clear w0
  by_cases hc : c < 0
  · have H : Hid (pk c n = -((c + 1).tmod n)) := by show _ = _; unfold pk; rw [if_pos hc]
    go_enter Tryz.func18, Tryz.ntmps18
    go_wp2
    go_ret
    exact ⟨ret_int H.out.symm, rfl⟩
  · have H : Hid (pk c n = c % n) := by show _ = _; unfold pk; rw [if_neg hc]
    go_enter Tryz.func18, Tryz.ntmps18
    go_wp2
    go_ret
    exact ⟨ret_int H.out.symm, rfl⟩

set_option maxRecDepth 100000 in
theorem text_any {X : Xs} (B bW n : Nat) (c : Int) (w : World) (w0 : (Lit.int .i64 c).wf = true) (hn : n ≤ 100000) (hI : Inv X B bW n w) :
    Calls Tryz.prog 19 #[.pointer (some ⟨bW, 0, none⟩), .int .i64 c] w fun e w' => ∃ s m, e = .returned (.string s) ∧ s.size ≤ 16384 ∧ w' = w.drewN m := by
  obtain ⟨le, tv, lv, xv, F, ts, ls, up, ex, se, fr, hb, ht, hl, h1, h2, h3, h4⟩ := hI
  have c0 := hb.cell 0
  simp at c0
  by_cases hz : ts.length = 0
  · obtain ⟨ao, cap, htv⟩ : ∃ ao cap, tv = .slice ao 0 cap := by
      rcases ht.2 with ⟨rfl, _⟩ | ⟨g, cap, cur, rfl, _⟩
      · exact ⟨_, _, rfl⟩
      · exact ⟨_, _, by rw [hz]⟩
    rw [htv] at c0
    clear hb ht hl htv hz h4
    go_enter Tryz.func19, Tryz.ntmps19
    go_wp2
    go_ret
    exact ⟨_, 0, rfl, by decide, rfl⟩
  · obtain ⟨g, cap, htv, _, _⟩ := ht.form (by omega)
    rw [htv] at c0 ht
    have hp := pk_bd c ts.length (by omega)
    obtain ⟨q, hq⟩ := Int.eq_ofNat_of_zero_le hp.1
    have hq1 : q < ts.length := by omega
    have hcell : w.cell? ⟨g, q, none⟩ = some (.string ts[q]) := by
      rw [ht.cellAt q (by omega)]; simp [hq1]
    have hsz := h3.txt ts[q] (List.getElem_mem hq1)
    have HP : ∀ wx, Hid (Calls Tryz.prog 18 #[.int .i64 c, .int .i64 ts.length] wx fun e w' => e = .returned (.int .i64 q) ∧ w' = wx) := by
      intro wx
      have := pick_val c ts.length wx w0 (by omega) (by omega)
      rw [hq] at this
      exact this
    generalize ts[q] = tx at *
    have hqi : (q : Int) < (ts.length : Int) := by omega
    have hq0 : (0 : Int) ≤ (q : Int) := by omega
    have hlz : ((ts.length : Int) == 0) = false := by rw [beq_eq_false_iff_ne]; omega
    generalize ts.length = len at *
    clear hb ht hl htv hp hq h3 w0 hq1 h4
    go_enter Tryz.func19, Tryz.ntmps19
    go_wp2_with fail
    go_quiet ((go_at_call 18; exact Calls.quiet_of_same (HP _).out))
    go_wp2
    go_ret
    exact ⟨_, nq, rfl, hsz, rfl⟩

end Go.Proofs.YtmmkhodaljpjgaaGreatDoor
