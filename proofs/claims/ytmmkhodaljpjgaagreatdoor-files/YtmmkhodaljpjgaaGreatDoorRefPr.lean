import Derived.Test.YtmmkhodaljpjgaaGreatDoorPrs
import Derived.Test.YtmmkhodaljpjgaaGreatDoorRefOf
import Derived.Test.YtmmkhodaljpjgaaGreatDoorRTxt
import Derived.Test.YtmmkhodaljpjgaaGreatDoorRTab
/-! The document's Print. -/
namespace Go.Proofs.YtmmkhodaljpjgaaGreatDoor
open Go.RowKit

theorem ref_digits_int (n : Int) (w : World) (h0 : 0 ≤ n) (hn : n ≤ 1000000000000) :
    Calls Tryz.prog 81 #[.int .i64 n] w fun e w' => e = .returned (.string (Txt.db n)) ∧ Below w.heap.size w w' := by
  obtain ⟨m, rfl⟩ := Int.eq_ofNat_of_zero_le h0
  exact ref_digits m (by omega) w

theorem Txt.hl_is (pt h : ByteArray) : pt ++ ⟨#[35, 104, 32]⟩ ++ h.extract 0 8 ++ ⟨#[32]⟩ ++ h.extract 8 16 ++ ⟨#[32]⟩ ++ h.extract 16 24 ++ ⟨#[32]⟩ ++ h.extract 24 32 ++ ⟨#[32]⟩ ++ h.extract 32 40 ++ ⟨#[10]⟩ = pt ++ Txt.hl h := by
  have e : (ByteArray.mk #[35, 104, 32]) = (ByteArray.mk #[35, 104]) ++ (ByteArray.mk #[32]) := rfl
  have u : Txt.hl h = ((((((⟨#[35, 104]⟩ ++ (⟨#[32]⟩ ++ h.extract 0 8)) ++ (⟨#[32]⟩ ++ h.extract 8 16)) ++ (⟨#[32]⟩ ++ h.extract 16 24)) ++ (⟨#[32]⟩ ++ h.extract 24 32)) ++ (⟨#[32]⟩ ++ h.extract 32 40)) ++ ⟨#[10]⟩) := rfl
  rw [u, e]
  simp only [ByteArray.append_assoc]

set_option maxRecDepth 100000 in
set_option maxHeartbeats 1000000 in
theorem ref_print_no (B : Nat) (lv : Value) (ls : List (Int × Int)) (up ex : Int) (w : World) (wu : (Lit.int .i64 up).wf = true) (wx : (Lit.int .i64 ex).wf = true)
    (hv : w.ownsRow B 46 2 lv ls.length (flat ls)) (hn : ls.length ≤ 100000) (hwf : ∀ p ∈ ls, WfP p) (hwh : Tab.whole up ex ls = false) :
    Calls Tryz.prog 46 #[.agg #[.int .i64 up, .int .i64 ex, lv]] w fun e w' =>
      e = .returned (.tuple #[.string ⟨#[]⟩, .int .i64 8]) ∧ Below w.heap.size w w' := by
  have HBel := hid' ((Below.refl w.heap.size w).alloc (Nat.le_refl _) (.cells #[.int .i64 up, .int .i64 ex, lv] 33))
  have HW := hid' (whole_any B lv ls up ex (w.alloc (.cells #[.int .i64 up, .int .i64 ex, lv] 33)) wu wx (hv.alloc _) hn hwf)
  rw [hwh] at HW
  clear hwh hv wu wx hwf hn
  go_enter Tryz.func46, Tryz.ntmps46
  go_wp2_with (go_at_call 79; refine HW.out.mono ?_; rintro e w1 ⟨rfl, hb1⟩; have HB1 := hid' hb1; clear hb1)
  go_ret2
  exact ⟨rfl, HBel.out.trans (HB1.out.mono HBel.out.size)⟩

set_option maxRecDepth 100000 in
set_option maxHeartbeats 4000000 in
theorem ref_print_yes (B : Nat) (lv : Value) (ls : List (Int × Int)) (up ex : Int) (w : World) (wu : (Lit.int .i64 up).wf = true) (wx : (Lit.int .i64 ex).wf = true)
    (hv : w.ownsRow B 46 2 lv ls.length (flat ls)) (hn : ls.length ≤ 100000) (hwf : ∀ p ∈ ls, WfP p) (hwh : Tab.whole up ex ls = true) :
    Calls Tryz.prog 46 #[.agg #[.int .i64 up, .int .i64 ex, lv]] w fun e w' =>
      e = .returned (.tuple #[.string (Txt.print up ex ls), .int .i64 0]) ∧ Below w.heap.size w w' := by
  have HBel := hid' ((Below.refl w.heap.size w).alloc (Nat.le_refl _) (.cells #[.int .i64 up, .int .i64 ex, lv] 33))
  have HW := hid' (whole_any B lv ls up ex (w.alloc (.cells #[.int .i64 up, .int .i64 ex, lv] 33)) wu wx (hv.alloc _) hn hwf)
  have HROW := hid' (heap_alloc_new w (.cells #[.int .i64 up, .int .i64 ex, lv] 33))
  rw [hwh] at HW
  have hG := Tab.good_of_whole hwh
  have hpos := hG.pos
  have hlen := hG.len
  obtain ⟨hu0, hux, hx0⟩ := Tab.whole_bd hwh
  have HF := hid' hG.fine.getD
  clear hwh hwf hG wu wx hn
  obtain ⟨g, cap, rfl⟩ := own_some hv hpos
  have hgl := (hv.lt _ rfl).2
  have HLies := hid' (lies_of_own hv)
  clear hv
  have hsu := Txt.db_size up (by omega)
  have hsx := Txt.db_size ex (by omega)
  have IU := hid' (fun w' => ref_digits_int up w' hu0 (by omega))
  have IX := hid' (fun w' => ref_digits_int ex w' (by omega) (by omega))
  have HH : Hid (Txt.head up ex = ⟨#[35, 36, 32]⟩ ++ Txt.db up ++ ⟨#[10, 35, 64, 32]⟩ ++ Txt.db ex ++ ⟨#[10]⟩) := rfl
  have HD0 : Hid (Txt.dgTo up ex ls 0 = Txt.db up ++ Txt.db ex) := rfl
  have HZ := hid' (fun k => Txt.prTo_size (u := up) (x := ex) (ls := ls) (by omega) (by omega) (fun i => by have := HF.out i; omega) k)
  have HZD := hid' (fun k => Txt.dgTo_size (u := up) (x := ex) (ls := ls) (by omega) (by omega) (fun i => by have := HF.out i; omega) k)
  generalize Txt.db up = su at *
  generalize Txt.db ex = sx at *
  go_enter Tryz.func46, Tryz.ntmps46
  go_wp2_with fail
  refine HW.out.mono ?_
  rintro e w1 ⟨rfl, hb1⟩
  have HB1 := hid' (HBel.out.trans (hb1.mono HBel.out.size))
  have HR1 := hid' ((hb1.block _ (lt_of_heap HROW.out)).trans HROW.out)
  clear hb1
  have t0 := cell_of_row _ _ 0 _ _ _ HR1.out
  simp at t0
  go_wp2_with fail
  refine (IU.out w1).mono ?_
  clear t0
  rintro e w2 ⟨rfl, hb2⟩
  have HB2 := hid' (HB1.out.trans (hb2.mono HB1.out.size))
  have HR2 := hid' ((hb2.block _ (lt_of_heap HR1.out)).trans HR1.out)
  clear hb2
  have t1 := cell_of_row _ _ 1 _ _ _ HR2.out
  simp at t1
  go_wp2_with fail
  refine (IX.out w2).mono ?_
  clear t1
  rintro e w3 ⟨rfl, hb3⟩
  have HB3 := hid' (HB2.out.trans (hb3.mono HB2.out.size))
  have HR3 := hid' ((hb3.block _ (lt_of_heap HR2.out)).trans HR2.out)
  clear hb3
  go_wp2
  go_loopw [7, 8, 9, 10, 11] (fun t d i _ _ wr => ∃ k : Nat, k ≤ ls.length ∧ i = .int .i64 k ∧ t = .string (Txt.prTo up ex ls k) ∧ d = .string (Txt.dgTo up ex ls k) ∧ Below w.heap.size w wr ∧ wr.heap[w.heap.size]? = some (.cells #[.int .i64 up, .int .i64 ex, .slice (some ⟨g, 0, none⟩) ls.length cap] 33 (0, 0))) (fun _ _ i _ _ _ => ls.length - (intOf i).toNat)
  case atStart => exact ⟨0, by omega, rfl, by rw [Txt.prTo, HH.out], by rw [HD0.out], HB3.out, HR3.out⟩
  case round =>
    obtain ⟨k, hk, rfl, rfl, rfl, hb, hr⟩ := hrel
    have HB := hid' hb
    have HR := hid' hr
    clear hb hr
    have hz := HZ.out k
    have hzd := HZD.out k
    have t2 := cell_of_row _ _ 2 _ _ _ HR.out
    simp at t2
    by_cases hlt : k < ls.length
    · have hcell := HLies.out k hlt
      have hf := HF.out k
      have HN : Hid (Txt.prTo up ex ls (k + 1) = Txt.prTo up ex ls k ++ Txt.db ls[k].1 ++ ⟨#[32]⟩ ++ Txt.db ls[k].2 ++ ⟨#[10]⟩) := by
        show _ = _; rw [Txt.prTo, getD_at k hlt]; unfold Txt.eline; simp only [ByteArray.append_assoc]
      have HND : Hid (Txt.dgTo up ex ls (k + 1) = Txt.dgTo up ex ls k ++ Txt.db ls[k].1 ++ Txt.db ls[k].2) := by
        show _ = _; rw [Txt.dgTo, getD_at k hlt]; simp only [ByteArray.append_assoc]
      rw [getD_at k hlt] at hf
      generalize ls[k] = p at *
      obtain ⟨pa, po⟩ := p
      simp only at hcell hf HN HND
      have hsa := Txt.db_size pa (by omega)
      have hso := Txt.db_size po (by omega)
      have IA := hid' (fun w' => ref_digits_int pa w' hf.1.1 (by omega))
      have IO := hid' (fun w' => ref_digits_int po w' hf.2.1 (by omega))
      generalize Txt.db pa = sa at *
      generalize Txt.db po = so at *
      generalize Txt.prTo up ex ls k = pt at *
      generalize Txt.dgTo up ex ls k = dt at *
      have HC := hid' hcell
      have hc := (HB.out.cell (p := ⟨g, k * 2, none⟩) hgl).trans hcell.1
      clear hcell
      go_wp2_with fail
      refine (IA.out _).mono ?_
      clear hc t2
      rintro e w4 ⟨rfl, hb4⟩
      have HB4 := hid' (HB.out.trans (hb4.mono HB.out.size))
      have HR4 := hid' ((hb4.block _ (lt_of_heap HR.out)).trans HR.out)
      clear hb4
      have t2 := cell_of_row _ _ 2 _ _ _ HR4.out
      simp at t2
      have hc := (HB4.out.cell (p := ⟨g, k * 2 + 1, none⟩) hgl).trans HC.out.2
      go_wp2_with fail
      refine (IO.out _).mono ?_
      clear hc t2
      rintro e w5 ⟨rfl, hb5⟩
      have HB5 := hid' (HB4.out.trans (hb5.mono HB4.out.size))
      have HR5 := hid' ((hb5.block _ (lt_of_heap HR4.out)).trans HR4.out)
      clear hb5
      go_wp2
      go_roundw
      case rel => exact ⟨k + 1, by omega, by go_num, by rw [HN.out], by rw [HND.out], HB5.out, HR5.out⟩
      case measure => simp [intOf]; omega
    · have ek : k = ls.length := by omega
      subst ek
      have HPR : Hid (Txt.print up ex ls = Txt.prTo up ex ls ls.length ++ Txt.hl (Txt.dgst up ex ls)) := rfl
      have HDG : Hid (Txt.dgst up ex ls = ⟨(Sha.digest (Txt.dgTo up ex ls ls.length)).toArray⟩) := rfl
      have hds := Txt.digest_size (Txt.dgTo up ex ls ls.length)
      rw [← HDG.out] at hds
      have OFF := hid' (fun w' => ref_of (Txt.dgTo up ex ls ls.length) w' (by omega))
      rw [← HDG.out] at OFF
      clear HDG
      rw [← Txt.hl_is] at HPR
      generalize Txt.prTo up ex ls ls.length = pt at *
      generalize Txt.dgTo up ex ls ls.length = dt at *
      generalize Txt.dgst up ex ls = dg at *
      go_wp2_with fail
      refine (OFF.out _).mono ?_
      clear t2
      rintro e w4 ⟨rfl, hb4⟩
      have HB4 := hid' (HB.out.trans (hb4.mono HB.out.size))
      clear hb4
      have z1 : (dg.extract 0 8).size ≤ 8 := by rw [ByteArray.size_extract]; omega
      have z2 : (dg.extract 8 16).size ≤ 8 := by rw [ByteArray.size_extract]; omega
      have z3 : (dg.extract 16 24).size ≤ 8 := by rw [ByteArray.size_extract]; omega
      have z4 : (dg.extract 24 32).size ≤ 8 := by rw [ByteArray.size_extract]; omega
      have z5 : (dg.extract 32 40).size ≤ 8 := by rw [ByteArray.size_extract]; omega
      go_wp2
      go_region
      all_goals
        go_wp2
        go_ret2
        exact ⟨ret_str_num HPR.out.symm, HB4.out.drew⟩

theorem ref_print (B : Nat) (lv : Value) (ls : List (Int × Int)) (up ex : Int) (w : World) (wu : (Lit.int .i64 up).wf = true) (wx : (Lit.int .i64 ex).wf = true)
    (hv : w.ownsRow B 46 2 lv ls.length (flat ls)) (hn : ls.length ≤ 100000) (hwf : ∀ p ∈ ls, WfP p) :
    Calls Tryz.prog 46 #[.agg #[.int .i64 up, .int .i64 ex, lv]] w fun e w' =>
      e = .returned (.tuple #[.string (Txt.printed up ex ls).1, .int .i64 (Txt.printed up ex ls).2]) ∧ Below w.heap.size w w' := by
  cases hwh : Tab.whole up ex ls with
  | false =>
    have e : Txt.printed up ex ls = (⟨#[]⟩, 8) := by unfold Txt.printed; rw [if_pos hwh]
    rw [e]; exact ref_print_no B lv ls up ex w wu wx hv hn hwf hwh
  | true =>
    have e : Txt.printed up ex ls = (Txt.print up ex ls, 0) := by unfold Txt.printed; rw [if_neg (by rw [hwh]; simp)]
    rw [e]; exact ref_print_yes B lv ls up ex w wu wx hv hn hwf hwh

end Go.Proofs.YtmmkhodaljpjgaaGreatDoor
