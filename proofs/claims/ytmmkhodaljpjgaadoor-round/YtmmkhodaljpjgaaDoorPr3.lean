import Derived.Test.YtmmkhodaljpjgaaDoorPr2
/-! smear.Print. -/
namespace Go.Proofs.YtmmkhodaljpjgaaDoor
open Go.RowKit

/-- What Print answers. -/
def Txt.printed (up ex : Int) (ls : List (Int × Int)) : ByteArray × Int := if Tab.whole up ex ls = false then (⟨#[]⟩, 8) else (Txt.print up ex ls, 0)
theorem file_print (lv : Value) (ls : List (Int × Int)) (up ex : Int) (w : World) (wu : (Lit.int .i64 up).wf = true) (wx : (Lit.int .i64 ex).wf = true)
    (hv : Held w lv ls) (hn : ls.length ≤ 100000) (hwf : ∀ p ∈ ls, WfP p) (hT : Table w) (hP : Pows w) :
    Calls Tryd.prog 13 #[.agg #[.int .i64 up, .int .i64 ex, lv]] w fun e w' =>
      e = .returned (.tuple #[.string (Txt.printed up ex ls).1, .int .i64 (Txt.printed up ex ls).2]) ∧ Below w.heap.size w w' := by
  cases hwh : Tab.whole up ex ls with
  | false =>
    have e : Txt.printed up ex ls = (⟨#[]⟩, 8) := by unfold Txt.printed; rw [if_pos hwh]
    rw [e]; exact file_print_no lv ls up ex w wu wx hv hn hwf hwh
  | true =>
    have e : Txt.printed up ex ls = (Txt.print up ex ls, 0) := by unfold Txt.printed; rw [if_neg (by rw [hwh]; simp)]
    rw [e]; exact file_print_yes lv ls up ex w wu wx hv hn hwf hwh hT hP

set_option maxRecDepth 100000 in
theorem smear_print (lv : Value) (ls : List (Int × Int)) (up ex : Int) (w : World) (wu : (Lit.int .i64 up).wf = true) (wx : (Lit.int .i64 ex).wf = true)
    (hv : Held w lv ls) (hn : ls.length ≤ 100000) (hwf : ∀ p ∈ ls, WfP p) (hT : Table w) (hP : Pows w) :
    Calls Tryd.prog 8 #[.agg #[.int .i64 up, .int .i64 ex, lv]] w fun e w' =>
      e = .returned (.tuple #[.string (Txt.printed up ex ls).1, .int .i64 (Txt.printed up ex ls).2]) ∧ Below w.heap.size w w' := by
  have HF := hid' (fun w' h1 h2 h3 => file_print lv ls up ex w' wu wx h1 hn hwf h2 h3)
  have HV := hid' hv
  have HT := hid' hT
  have HP := hid' hP
  clear wu wx hv hn hwf hT hP
  generalize Txt.printed up ex ls = r at *
  obtain ⟨rs, rn⟩ := r
  have HBel := hid' ((Below.refl w.heap.size w).alloc (Nat.le_refl _) (.cells #[.int .i64 up, .int .i64 ex, lv] 28))
  have HROW := hid' (heap_alloc_new w (.cells #[.int .i64 up, .int .i64 ex, lv] 28))
  go_enter Tryd.func8, Tryd.ntmps8
  go_wp2_with fail
  first
    | (refine (HF.out _ (held_below HV.out HBel.out) (HT.out.below HBel.out) (HP.out.below HBel.out)).mono ?_
       rintro e w1 ⟨rfl, hb1⟩
       have HB1 := hid' (HBel.out.trans (hb1.mono HBel.out.size))
       clear hb1)
    | (refine (HF.out _ HV.out HT.out HP.out).mono ?_
       rintro e w1 ⟨rfl, hb1⟩
       have HB1 := hid' hb1
       clear hb1)
  go_wp2
  go_ret2
  exact ⟨rfl, HB1.out⟩

end Go.Proofs.YtmmkhodaljpjgaaDoor
