import Derived.Test.YtmmkhodaljpjgaaGreatDoorLaw6
import Derived.Test.YtmmkhodaljpjgaaGreatDoorSteps
/-! World.pure: Print. -/
namespace Go.Proofs.YtmmkhodaljpjgaaGreatDoor
open Go.RowKit

theorem printed_size (up ex : Int) (ls : List (Int × Int)) : (Txt.printed up ex ls).1.size ≤ 16384 := by
  cases hwh : Tab.whole up ex ls with
  | false =>
    have e : Txt.printed up ex ls = (⟨#[]⟩, 8) := by unfold Txt.printed; rw [if_pos hwh]
    rw [e]; decide
  | true =>
    have e : Txt.printed up ex ls = (Txt.print up ex ls, 0) := by unfold Txt.printed; rw [if_neg (by rw [hwh]; simp)]
    have hG := Tab.good_of_whole hwh
    obtain ⟨hu0, hux, hx0⟩ := Tab.whole_bd hwh
    have a := Txt.prTo_size (u := up) (x := ex) (ls := ls) (by omega) (by omega) (fun i => by have := hG.fine.getD i; omega) ls.length
    have b := Txt.hlTo_size (Txt.dgst up ex ls) 5
    have c : (ByteArray.mk #[10]).size = 1 := rfl
    have l := hG.len
    rw [e]
    show (Txt.print up ex ls).size ≤ 16384
    unfold Txt.print Txt.hl
    rw [Txt.size_app, Txt.size_app]
    omega

set_option maxRecDepth 100000 in
set_option maxHeartbeats 3200000 in
theorem pure_print {X : Xs} (B bW n : Nat) (o : Op) (w : World) (hn : n ≤ 90000) (hI : Inv X B bW n w) (hB : B ≤ w.heap.size) (hT : Table w) (hP : Pows w) (hk : o.kind = 11) :
    Calls Tryz.prog 17 #[.pointer (some ⟨bW, 0, none⟩), .agg #[.int .i64 o.kind, .int .i64 o.x, .int .i64 o.a, .int .i64 o.b, .int .i64 o.c, .int .i64 o.d, .string o.s]] w fun e w' => e = .returned (.bool true) ∧ Left X B bW n w w' := by
  obtain ⟨k, x, a, b, c, d, s⟩ := o
  simp only at *
  subst hk
  obtain ⟨i0, hi0, hz0, hz1, hz2⟩ := info_parts infoString
  obtain ⟨le, tv, lv, xv, F, ts, ls, up, ex, se, fr, hb, ht, hl, h1, h2, h3, h4⟩ := hI
  have HB0 := hid' ((Below.refl w.heap.size w).alloc (Nat.le_refl _) (.cells #[.int .i64 11, .int .i64 x, .int .i64 a, .int .i64 b, .int .i64 c, .int .i64 d, .string s] 27))
  have HPR := hid' (fun (W : World) (h : W.ownsRow B 46 2 lv ls.length (flat ls)) (hT : Table W) (hP : Pows W) => printed_any B up ex lv ls W h3.up h3.ex h (by omega) h3.tab hT hP)
  have HSZ := hid' (printed_size up ex ls)
  generalize (Txt.printed up ex ls).1 = u at *
  have HB := hid' hb
  have HT := hid' ht
  have HL := hid' hl
  have H4 := hid' h4
  have HTB := hid' hT
  have HPW := hid' hP
  have hlt := hb.lt
  have c1 := hb.cell 1
  have c2 := hb.cell 2
  have c3 := hb.cell 3
  simp at c1 c2 c3
  clear hb ht hl h4 hT hP
  go_enter Tryz.func17, Tryz.ntmps17
  go_wp2_with fail
  refine (HPR.out _ (own_down HL.out HB0.out) (HTB.out.below HB0.out) (HPW.out.below HB0.out)).mono ?_
  rintro e w1 ⟨rfl, hb1⟩
  have HB1 := hid' (HB0.out.trans (hb1.mono HB0.out.size))
  have hs1 := HB1.out.size
  have BL1 : Blk bW tv up ex lv se fr xv w1 := (HB1.out.block _ hlt).trans HB.out
  have T1 := hid' (own_down HT.out HB1.out)
  have L1 := hid' (own_down HL.out HB1.out)
  have v0 := BL1.cell 0
  have fv := BL1.free 0
  have hlt1 := BL1.lt
  simp at v0
  have BL := hid' BL1
  clear hb1 BL1 c1 c2 c3
  have fz1 : ∀ o, (w1.alloc o).frozen? ⟨bW, 0, none⟩ = false := fun o => (BL.out.alloc o).free 0
  go_wp2_with (at_builtin; refine wpList_append_lies _ (by rfl) (.tmp 60) (.tmp 62) 30 (by rfl) B 9 i0 (.string ByteArray.empty) 1 16 Tryz.underlying30 hi0 hz0 hz1 hz2 rfl (by decide) tv ts.length (ts.map Value.string) (by rfl) (T1.out.alloc _) ⟨w1.heap.size, 0, none⟩ 1 1 [.string u] (by rfl) (by rfl) (World.news_of_block (cs := #[.string u]) (t := 9) (fr := (0, 0)) (heap_alloc_new w1 _)) (by simp [Value.oneCell']) (by decide) (by unfold maxLen; omega) (by omega) (by simp <;> omega) (w1.heap.size + 1) (by simp) ?_; intro g3 cap3 w3 own3 hg3 hat3 hlt3; have B3 := hid' ((BL.out.alloc (.cells #[.string u] 9)).grown hg3 (T1.out.alloc _) (by decide)); have d3 := B3.out.cell 0; have f3 := B3.out.free 0; simp at d3; have OWN3 := hid' own3; have HG3 := hid' hg3; clear own3 hg3 hat3)
  go_ret
  exact ⟨rfl, text_left HSZ.out le h1 h2 h3 (T1.out.alloc _) (L1.out.alloc _) H4.out ((Keeps.below HB1.out).alloc _) ((HB1.out.mono hB).alloc (by omega) _) (by simp <;> omega) OWN3.out HG3.out B3.out⟩

theorem does_print {X : Xs} (w : World) (hT : Table w) (hP : Pows w) (o : Op) (hk : o.kind = 11) (B n : Nat) (wr : World) (hB : w.heap.size ≤ B) (hn : n ≤ 90000) (hb : Below w.heap.size w wr) : Does X B B n o wr := by
  refine does_pure (.inr (by omega)) (by omega) ?_
  intro w1 hI hB1 hb1
  refine (pure_print B B n o w1 hn hI hB1 (hT.below (hb.trans (hb1.mono hB))) (hP.below (hb.trans (hb1.mono hB))) hk).mono ?_
  rintro e w' ⟨rfl, h1, h2, h3⟩
  exact ⟨rfl, h1, h2.op, h3⟩

end Go.Proofs.YtmmkhodaljpjgaaGreatDoor
