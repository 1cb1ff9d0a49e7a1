import Derived.Test.YtmmkhodaljpjgaaGreatDoorLaw5
import Derived.Test.YtmmkhodaljpjgaaGreatDoorRefPr
/-! The law's printed. -/
namespace Go.Proofs.YtmmkhodaljpjgaaGreatDoor
open Go.RowKit

/-- All that printed holds. -/
structure PX (w : World) (up ex : Int) (tv : Value) (ls : List (Int × Int)) (b g B : Nat) (wx : World) : Prop where
  t : wx.heap[w.heap.size]? = some (.cells #[.int .i64 up, .int .i64 ex, tv] 33 (0, 0))
  a : wx.heap[b]? = some (.cells #[.int .i64 up, .int .i64 ex, .slice (some ⟨g, 0, none⟩) ls.length (ls.length + 2)] 78 (0, 0))
  h : Handed wx g ls
  own : wx.ownsRow B 46 2 tv ls.length (flat ls)
  bel : Below w.heap.size w wx
theorem PX.below {w wx wy : World} {up ex : Int} {tv : Value} {ls : List (Int × Int)} {b g B : Nat} (h : PX w up ex tv ls b g B wx) (hb : Below wx.heap.size wx wy) : PX w up ex tv ls b g B wy :=
  ⟨(hb.block _ (lt_of_heap h.t)).trans h.t, (hb.block _ (lt_of_heap h.a)).trans h.a, h.h.below hb, own_down h.own hb, h.bel.trans (hb.mono h.bel.size)⟩

set_option maxRecDepth 100000 in
set_option maxHeartbeats 3200000 in
theorem printed_any (B : Nat) (up ex : Int) (tv : Value) (ls : List (Int × Int)) (w : World) (wu : (Lit.int .i64 up).wf = true) (wx : (Lit.int .i64 ex).wf = true)
    (hown : w.ownsRow B 46 2 tv ls.length (flat ls)) (hn : ls.length ≤ 100000) (hwf : ∀ p ∈ ls, WfP p) (hT : Table w) (hP : Pows w) :
    Calls Tryz.prog 25 #[.agg #[.int .i64 up, .int .i64 ex, tv]] w fun e w' => e = .returned (.tuple #[.string (Txt.printed up ex ls).1, .bool true]) ∧ Below w.heap.size w w' := by
  have B0 := hid' ((Below.refl w.heap.size w).alloc (Nat.le_refl _) (.cells #[.int .i64 up, .int .i64 ex, tv] 33))
  have R0 := hid' (heap_alloc_new w (.cells #[.int .i64 up, .int .i64 ex, tv] 33))
  have HHA := hid' (handed_any up ex tv ls _ (held_below (held_ref hown) B0.out) hn)
  have HOW := hid' hown
  have HT := hid' hT
  have HPW := hid' hP
  clear hT hP
  have htv : ∃ ao l cp, tv = .slice ao l cp := by
    rcases hown.2 with ⟨h, _⟩ | ⟨g, cap, cur, h, _⟩
    · exact ⟨_, _, _, h⟩
    · exact ⟨_, _, _, h⟩
  obtain ⟨ao, tl, tcp, rfl⟩ := htv
  have HP := hid' (fun (W : World) (av : Value) (h : Held W av ls) (h2 : Table W) (h3 : Pows W) => smear_print av ls up ex W wu wx h hn hwf h2 h3)
  have HR := hid' (fun (W : World) (h : W.ownsRow B 46 2 (.slice ao tl tcp) ls.length (flat ls)) => ref_print B _ ls up ex W wu wx h hn hwf)
  generalize Txt.printed up ex ls = r at *
  obtain ⟨rs, rn⟩ := r
  simp only at HP HR
  have HST := hid' (fun (g : Nat) (W : World) (hg : w.heap.size + 1 ≤ g) (h : Handed W g ls) (ht : Held W (.slice ao tl tcp) ls) => still_yes (w.heap.size + 1) g up ex (.slice ao tl tcp) ls W hg h ht hn)
  clear hown wu wx hwf
  go_enter Tryz.func25, Tryz.ntmps25
  go_wp2_with fail
  refine HHA.out.mono ?_
  rintro e w1 ⟨g, hg, rfl, hH, hb⟩
  have hg1 : w.heap.size + 1 ≤ g := by simpa using hg
  have rt1 := (hb.block _ (lt_of_heap R0.out)).trans R0.out
  have bel1 := B0.out.trans (hb.mono B0.out.size)
  have a1 := (Below.refl w1.heap.size w1).alloc (Nat.le_refl _) (.cells #[.int .i64 up, .int .i64 ex, .slice (some ⟨g, 0, none⟩) ls.length (ls.length + 2)] 78)
  have L1 : PX w up ex (.slice ao tl tcp) ls w1.heap.size g B (w1.alloc (.cells #[.int .i64 up, .int .i64 ex, .slice (some ⟨g, 0, none⟩) ls.length (ls.length + 2)] 78)) :=
    ⟨(a1.block _ (lt_of_heap rt1)).trans rt1, heap_alloc_new _ _, hH.below a1, own_down HOW.out (bel1.trans (a1.mono bel1.size)), bel1.trans (a1.mono bel1.size)⟩
  have t01 := cell_of_row _ _ 0 _ _ _ rt1
  have t11 := cell_of_row _ _ 1 _ _ _ rt1
  have t21 := cell_of_row _ _ 2 _ _ _ rt1
  simp at t01 t11 t21
  have l1 := lt_of_heap rt1
  clear hg hH hb HHA rt1 bel1 a1
  have L1 := hid' L1
  go_wp2_with fail
  refine (HP.out _ _ L1.out.h.held (HT.out.below L1.out.bel) (HPW.out.below L1.out.bel)).mono ?_
  rintro e w2 ⟨rfl, hb2⟩
  have L2 := L1.out.below hb2
  clear hb2 t01 t11 t21
  have t02 := cell_of_row _ _ 0 _ _ _ L2.t
  have t12 := cell_of_row _ _ 1 _ _ _ L2.t
  have t22 := cell_of_row _ _ 2 _ _ _ L2.t
  have a02 := cell_of_row _ _ 0 _ _ _ L2.a
  have a12 := cell_of_row _ _ 1 _ _ _ L2.a
  have a22 := cell_of_row _ _ 2 _ _ _ L2.a
  simp at t02 t12 t22 a02 a12 a22
  have L2 := hid' L2
  go_wp2_with fail
  refine (HST.out g _ hg1 L2.out.h (held_ref L2.out.own)).mono ?_
  rintro e w3 ⟨rfl, hb3⟩
  have rt3 := (hb3.block _ (Nat.lt_succ_self _)).trans L2.out.t
  have bel3 := L2.out.bel.trans (hb3.mono (Nat.le_succ _))
  have OW3 := hid' (own_down HOW.out bel3)
  have BEL3 := hid' bel3
  clear hb3 bel3 t02 t12 t22 a02 a12 a22
  have t03 := cell_of_row _ _ 0 _ _ _ rt3
  have t13 := cell_of_row _ _ 1 _ _ _ rt3
  have t23 := cell_of_row _ _ 2 _ _ _ rt3
  simp at t03 t13 t23
  clear rt3
  go_wp2_with fail
  refine (HR.out w3 OW3.out).mono ?_
  rintro e w4 ⟨rfl, hb4⟩
  have BEL4 := hid' (BEL3.out.trans (hb4.mono BEL3.out.size))
  clear hb4 t03 t13 t23
  have e2 : (rn == rn) = true := by simp
  go_wp2_with (go_at_call 34; refine (num_any _ _).mono ?_; rintro e w5 ⟨rfl, rfl⟩)
  go_ret2
  exact ⟨rfl, BEL4.out⟩

end Go.Proofs.YtmmkhodaljpjgaaGreatDoor
