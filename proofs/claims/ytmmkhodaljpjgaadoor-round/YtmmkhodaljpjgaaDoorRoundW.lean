import Derived.Test.YtmmkhodaljpjgaaDoorKSame
import Derived.Test.YtmmkhodaljpjgaaDoorPr3
import Derived.Test.YtmmkhodaljpjgaaDoorRnd7
import Derived.Test.YtmmkhodaljpjgaaDoorFile9
/-! smearkeep.Round: the walk. -/
namespace Go.Proofs.YtmmkhodaljpjgaaDoor
open Go.RowKit

theorem wf_of {x : Int} (h0 : -1000000000000 ≤ x) (h1 : x ≤ 1000000000000) : (Lit.int .i64 x).wf = true := by
  simp [Lit.wf, IntKind.min, IntKind.max, IntKind.signed, IntKind.bits]
  omega

theorem fair_of {up ex : Int} {ls : List (Int × Int)} (hwh : Tab.whole up ex ls = true) : Txt.Fair up ex ls := by
  obtain ⟨hu0, hux, hx0⟩ := Tab.whole_bd hwh
  refine ⟨hu0, by omega, by omega, by omega, fun i => ?_, ?_⟩
  · have := (Tab.good_of_whole hwh).fine.getD i
    omega
  · unfold Tab.whole at hwh
    simp only [Bool.and_eq_true, decide_eq_true_eq] at hwh
    exact hwh.2.2.2.2

/-- A table that lies in memory. -/
structure TBlk (w : World) (b : Nat) (up ex : Int) (g n cap : Nat) : Prop where
  row : w.heap[b]? = some (.cells #[.int .i64 up, .int .i64 ex, .slice (some ⟨g, 0, none⟩) n cap] 28 (0, 0))

theorem print_three (u x : Int) (ls : List (Int × Int)) : (Txt.print u x ls).extract 0 3 = ⟨#[35, 36, 32]⟩ ∧ 3 ≤ (Txt.print u x ls).size := by
  obtain ⟨q, hq⟩ : ∃ q, Txt.prTo u x ls ls.length = (⟨#[35, 36, 32]⟩ : ByteArray) ++ q := by
    generalize ls.length = k
    induction k with
    | zero =>
      refine ⟨Txt.db u ++ (⟨#[10, 35, 64, 32]⟩ ++ (Txt.db x ++ ⟨#[10]⟩)), ?_⟩
      rw [Txt.prTo, Txt.head]
      simp only [ByteArray.append_assoc]
    | succ k ih =>
      obtain ⟨q, hq⟩ := ih
      rw [Txt.prTo, hq, ByteArray.append_assoc]; exact ⟨_, rfl⟩
  unfold Txt.print
  rw [hq, ByteArray.append_assoc]
  refine ⟨ByteArray.extract_append_eq_left rfl, ?_⟩
  rw [Txt.size_app]
  have : (ByteArray.mk #[35, 36, 32]).size = 3 := rfl
  omega

theorem print_cut (u x : Int) (ls : List (Int × Int)) : (Txt.print u x ls).extract 0 (Txt.prTo u x ls ls.length).size = Txt.prTo u x ls ls.length := by
  unfold Txt.print
  exact ByteArray.extract_append_eq_left rfl

set_option maxRecDepth 100000 in
set_option maxHeartbeats 6400000 in
theorem round_walk (c : Int) (lo : Option Addr) (L lcap : Nat) (w : World) (wc : (Lit.int .i64 c).wf = true) (hI : Ints w lo L) (hL : L ≤ 9223372036854775807) (hTb : Table w) (hPw : Pows w) :
    Calls Tryd.prog 4 #[.int .i64 c, .slice lo L lcap] w fun e w' => e = .returned (.bool true) ∧ Below w.heap.size w w' := by
  have HT := hid' (keep_table c lo L lcap w wc hI hL)
  have HTB := hid' hTb
  have HPW := hid' hPw
  clear wc hI hTb hPw
  go_enter Tryd.func4, Tryd.ntmps4
  go_wp2_with fail
  refine HT.out.mono ?_
  rintro e w1 ⟨up, ex, lv, ls, rfl, own, hwh, h12, hsm, u0, u1, x0, x1, bel⟩
  have hG := Tab.good_of_whole hwh
  have hpos := hG.pos
  obtain ⟨g, cap, rfl⟩ := own_some own hpos
  have fair := fair_of hwh
  have hpr : Txt.printed up ex ls = (Txt.print up ex ls, 0) := by unfold Txt.printed; rw [if_neg (by rw [hwh]; simp)]
  obtain ⟨p3, z3⟩ := print_three up ex ls
  have zs := Txt.print_size fair (by omega)
  have HR := hid' (Txt.round fair hpos (by omega) hwh)
  have HRA := hid' (Txt.round_about fair hpos (by omega) hwh)
  have HRC := hid' (Txt.round_cut fair (by omega))
  have HCL := hid' (Txt.cut_last (u := up) (x := ex) (ls := ls))
  have HPC := hid' (print_cut up ex ls)
  have HWF := hid' (fun p (hp : p ∈ ls) => (show WfP p from ⟨wf_of (by have := hsm p hp; omega) (by have := hsm p hp; omega), wf_of (by have := hsm p hp; omega) (by have := hsm p hp; omega)⟩))
  have HPRI := hid' (fun (W : World) (lv : Value) (h : Held W lv ls) (h2 : Table W) (h3 : Pows W) => smear_print lv ls up ex W (wf_of (by omega) (by omega)) (wf_of (by omega) (by omega)) h (by omega) HWF.out h2 h3)
  rw [hpr] at HPRI
  simp only at HPRI
  have hcz : (Txt.prTo up ex ls ls.length).size ≤ 1000000 := by
    have a := Txt.prTo_size (u := up) (x := ex) (ls := ls) (by omega) (by omega) (fun i => by have := fair.e i; omega) ls.length
    omega
  have hct : (Txt.prTo up ex ls ls.length).size ≤ (Txt.print up ex ls).size := by unfold Txt.print; rw [Txt.size_app]; omega
  generalize Txt.prTo up ex ls ls.length = cs at *
  generalize Txt.print up ex ls = s at *
  have HOWN := hid' own
  have HBEL := hid' bel
  have zi : ¬ ((s.size : Int) < 3) := by omega
  clear own bel hwh hsm HT hG fair hpr
  have B1 := hid' (HBEL.out.alloc HBEL.out.size (.cells #[.int .i64 up, .int .i64 ex, .slice (some ⟨g, 0, none⟩) ls.length cap] 28))
  have A1 := hid' ((Below.refl w1.heap.size w1).alloc (Nat.le_refl _) (.cells #[.int .i64 up, .int .i64 ex, .slice (some ⟨g, 0, none⟩) ls.length cap] 28))
  have R1 := hid' (heap_alloc_new w1 (.cells #[.int .i64 up, .int .i64 ex, .slice (some ⟨g, 0, none⟩) ls.length cap] 28))
  have H1 := hid' (held_below (held_own HOWN.out) A1.out)
  go_wp2_with fail
  refine (HPRI.out _ _ H1.out (HTB.out.below B1.out) (HPW.out.below B1.out)).mono ?_
  rintro e w2 ⟨rfl, hb2⟩
  have B2 := hid' (B1.out.trans (hb2.mono B1.out.size))
  have R2 := hid' ((hb2.block _ (lt_of_heap R1.out)).trans R1.out)
  have H2 := hid' (held_below H1.out hb2)
  clear hb2
  have hp := smear_parse s w2 (by omega) (HTB.out.below B2.out)
  rw [HR.out] at hp
  have HP2 := hid' hp
  clear hp
  go_wp2_with fail
  refine HP2.out.mono ?_
  rintro e w3 ⟨lv3, rfl, own3, hb3⟩
  simp only at own3
  obtain ⟨g3, cap3, rfl⟩ := own_some own3 hpos
  have h3 := held_own own3
  have b3 := B2.out.trans (hb3.mono B2.out.size)
  have r3 := (hb3.block _ (lt_of_heap R2.out)).trans R2.out
  have hh3 := held_below H2.out hb3
  have a3 := (Below.refl w3.heap.size w3).alloc (Nat.le_refl _) (.cells #[.int .i64 up, .int .i64 ex, .slice (some ⟨g3, 0, none⟩) ls.length cap3] 28)
  have B3 := hid' (b3.trans (a3.mono b3.size))
  have R3 := hid' ((a3.block _ (lt_of_heap r3)).trans r3)
  have Q3 := hid' (heap_alloc_new w3 (.cells #[.int .i64 up, .int .i64 ex, .slice (some ⟨g3, 0, none⟩) ls.length cap3] 28))
  have H3 := hid' (held_below hh3 a3)
  have I3 := hid' (held_below h3 a3)
  clear hb3 own3 h3 b3 r3 hh3 a3
  have hp := smear_parse (⟨#[35, 32]⟩ ++ ⟨#[35, 36, 32]⟩ ++ ⟨#[10, 10, 35, 10]⟩ ++ s ++ Txt.nl) (w3.alloc (.cells #[.int .i64 up, .int .i64 ex, .slice (some ⟨g3, 0, none⟩) ls.length cap3] 28)) (by
    simp only [Txt.size_app]
    have z1 : (ByteArray.mk #[35, 32]).size = 2 := rfl
    have z2 : (ByteArray.mk #[35, 36, 32]).size = 3 := rfl
    have z3 : (ByteArray.mk #[10, 10, 35, 10]).size = 4 := rfl
    have z4 : Txt.nl.size = 1 := rfl
    omega) (HTB.out.below B3.out)
  rw [HRA.out] at hp
  have HP3 := hid' hp
  clear hp HP2
  go_wp2_with fail
  refine HP3.out.mono ?_
  rintro e w4 ⟨lv4, rfl, own4, hb4⟩
  simp only at own4
  obtain ⟨g4, cap4, rfl⟩ := own_some own4 hpos
  have h4 := held_own own4
  have b4 := B3.out.trans (hb4.mono B3.out.size)
  have r4 := (hb4.block _ (lt_of_heap R3.out)).trans R3.out
  have q4 := (hb4.block _ (lt_of_heap Q3.out)).trans Q3.out
  have hh4 := held_below H3.out hb4
  have ii4 := held_below I3.out hb4
  have a4 := (Below.refl w4.heap.size w4).alloc (Nat.le_refl _) (.cells #[.int .i64 up, .int .i64 ex, .slice (some ⟨g4, 0, none⟩) ls.length cap4] 28)
  have B4 := hid' (b4.trans (a4.mono b4.size))
  have r4a := (a4.block _ (lt_of_heap r4)).trans r4
  have q4a := (a4.block _ (lt_of_heap q4)).trans q4
  have S4 := hid' (heap_alloc_new w4 (.cells #[.int .i64 up, .int .i64 ex, .slice (some ⟨g4, 0, none⟩) ls.length cap4] 28))
  have H4 := hid' (held_below hh4 a4)
  have I4 := hid' (held_below ii4 a4)
  have J4 := hid' (held_below h4 a4)
  have t0 := cell_of_row _ _ 0 _ _ _ r4
  have t1 := cell_of_row _ _ 1 _ _ _ r4
  have t2 := cell_of_row _ _ 2 _ _ _ r4
  have v0 := cell_of_row _ _ 0 _ _ _ q4
  have v1 := cell_of_row _ _ 1 _ _ _ q4
  have v2 := cell_of_row _ _ 2 _ _ _ q4
  have lt1 := lt_of_heap r4
  have lt3 := lt_of_heap q4
  simp at t0 t1 t2 v0 v1 v2
  have R4 := hid' r4a
  have Q4 := hid' q4a
  clear hb4 own4 h4 b4 r4 q4 hh4 ii4 a4 HP3 r4a q4a
  go_wp2_with fail
  refine (ksame_yes up ex _ _ ls _ H4.out I4.out (by omega) hpos).mono ?_
  rintro e w5 ⟨rfl, hb5⟩
  have B5 := hid' (B4.out.trans (hb5.mono B4.out.size))
  have r5 := (hb5.block _ (lt_of_heap R4.out)).trans R4.out
  have s5 := (hb5.block _ (lt_of_heap S4.out)).trans S4.out
  have H5 := hid' (held_below H4.out hb5)
  have J5 := hid' (held_below J4.out hb5)
  clear t0 t1 t2 v0 v1 v2 hb5 lt1 lt3
  have t0 := cell_of_row _ _ 0 _ _ _ r5
  have t1 := cell_of_row _ _ 1 _ _ _ r5
  have t2 := cell_of_row _ _ 2 _ _ _ r5
  have v0 := cell_of_row _ _ 0 _ _ _ s5
  have v1 := cell_of_row _ _ 1 _ _ _ s5
  have v2 := cell_of_row _ _ 2 _ _ _ s5
  have lt1 := lt_of_heap r5
  have lt3 := lt_of_heap s5
  simp at t0 t1 t2 v0 v1 v2
  clear r5 s5
  go_wp2_with fail
  refine (ksame_yes up ex _ _ ls _ H5.out J5.out (by omega) hpos).mono ?_
  rintro e w6 ⟨rfl, hb6⟩
  have B6 := hid' (B5.out.trans (hb6.mono B5.out.size))
  clear t0 t1 t2 v0 v1 v2 hb6 lt1 lt3
  have HP6 := hid' (smear_parse cs w6 hcz (HTB.out.below B6.out))
  rw [HRC.out] at HP6
  go_wp2_with fail
  go_loop [16, 17] (fun c i => ∃ k : Nat, k ≤ s.size - 1 ∧ i = .int .i64 k ∧ c = .int .i64 (Txt.cutTo s k)) (fun _ i => s.size - (intOf i).toNat)
  case atStart => exact ⟨0, by omega, rfl, rfl⟩
  case round =>
    obtain ⟨k, hk, rfl, rfl⟩ := hrel
    by_cases hlt : k < s.size - 1
    · have hks : k < s.size := by omega
      by_cases hn : s[k].toNat = 10
      · have H : Hid (Txt.cutTo s (k + 1) = k + 1) := by show _ = _; rw [Txt.cutTo, if_pos (by rw [Txt.byte_at s k hks]; omega)]
        go_wp2
        exact ⟨⟨k + 1, by omega, by go_num, by rw [H.out]; go_num⟩, by simp [intOf]; omega⟩
      · have H : Hid (Txt.cutTo s (k + 1) = Txt.cutTo s k) := by show _ = _; rw [Txt.cutTo, if_neg (by rw [Txt.byte_at s k hks]; omega)]
        generalize Txt.cutTo s k = ck at *
        go_wp2
        exact ⟨⟨k + 1, by omega, by go_num, by rw [H.out]⟩, by simp [intOf]; omega⟩
    · have ek : k = s.size - 1 := by omega
      subst ek
      rw [HCL.out]
      have hcs : s.extract 0 cs.size = cs := HPC.out
      go_wp2_with fail
      refine HP6.out.mono ?_
      rintro e w7 ⟨lv7, rfl, own7, hb7⟩
      have B7 := hid' (B6.out.trans (hb7.mono B6.out.size))
      obtain ⟨ao, cp, rfl⟩ : ∃ ao cap, lv7 = .slice ao 0 cap := by
        rcases own7.2 with ⟨h, _⟩ | ⟨g, cap, cur, h, _⟩
        · exact ⟨_, _, h⟩
        · exact ⟨_, _, h⟩
      clear own7 hb7 HP6
      go_wp2
      go_ret
      exact ⟨rfl, B7.out.alloc B7.out.size _⟩

end Go.Proofs.YtmmkhodaljpjgaaDoor
