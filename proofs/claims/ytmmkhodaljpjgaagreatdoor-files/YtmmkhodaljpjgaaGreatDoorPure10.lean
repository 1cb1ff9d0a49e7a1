import Derived.Test.YtmmkhodaljpjgaaGreatDoorLaw5
import Derived.Test.YtmmkhodaljpjgaaGreatDoorSteps
/-! World.pure: Parse. -/
namespace Go.Proofs.YtmmkhodaljpjgaaGreatDoor
open Go.RowKit

theorem below_keep {t : TypeId} {w w' : World} (hb : Below w.heap.size w w') : Keep t w w' := Keep.below hb

set_option maxRecDepth 100000 in
set_option maxHeartbeats 1600000 in
theorem pure_parse {X : Xs} (B bW n : Nat) (o : Op) (w : World) (ho : o.Ok) (hn : n ≤ 100000) (hI : Inv X B bW n w) (hB : B ≤ w.heap.size) (hT : Table w) (hk : o.kind = 10) :
    Calls Tryz.prog 17 #[.pointer (some ⟨bW, 0, none⟩), .agg #[.int .i64 o.kind, .int .i64 o.x, .int .i64 o.a, .int .i64 o.b, .int .i64 o.c, .int .i64 o.d, .string o.s]] w fun e w' => e = .returned (.bool true) ∧ Inv X B bW n w' ∧ Keep 27 w w' ∧ Below B w w' := by
  have hTx := text_any B bW n o.a (w.alloc (.cells #[.int .i64 o.kind, .int .i64 o.x, .int .i64 o.a, .int .i64 o.b, .int .i64 o.c, .int .i64 o.d, .string o.s] 27)) ho.a hn (inv_alloc hI _)
  have HTx := hid' hTx
  have HT := hid' hT
  have HI := hid' hI
  clear hTx ho hI hT
  obtain ⟨k, x, a, b, c, d, s⟩ := o
  simp only at *
  subst hk
  have HB0 := hid' ((Below.refl w.heap.size w).alloc (Nat.le_refl _) (.cells #[.int .i64 10, .int .i64 x, .int .i64 a, .int .i64 b, .int .i64 c, .int .i64 d, .string s] 27))
  go_enter Tryz.func17, Tryz.ntmps17
  go_wp2_with fail
  refine HTx.out.mono ?_
  rintro e w1 ⟨t, m, rfl, hts, hw1⟩
  have hb1 : Below w.heap.size w w1 := by rw [hw1]; exact below_drewN HB0.out m
  have HB1 := hid' hb1
  have HT1 := hid' (HT.out.below hb1)
  have hs1 := hb1.size
  clear hw1 hb1 HTx
  go_wp2_with fail
  refine (parsed_any t w1 (by omega) HT1.out).mono ?_
  rintro e w2 ⟨lv, rfl, ol, hb2⟩
  have hb3 := HB1.out.trans (hb2.mono HB1.out.size)
  obtain ⟨le, tv, lv0, xv, F, ts, ls0, up0, ex0, se, fr, hbw, htw, hlw, h1, h2, h3, h4⟩ := HI.out
  have hb : Blk bW tv up0 ex0 lv0 se fr xv w2 := (hb3.block _ hbw.lt).trans hbw
  have ht := own_down htw hb3
  have H4 := hid' h4
  have ge : ∀ k, lv.ownBlock = some k → w.heap.size ≤ k := fun k hk => Nat.le_trans hs1 (own_ge ol k hk)
  have GE := hid' ge
  clear hbw htw hlw h4 ge
  have fair := Txt.parse_fair t
  generalize Txt.parse t = gt at *
  obtain ⟨up, ex, ls, er, nm⟩ := gt
  simp only at ol
  have hlv : ∃ ao l cp, lv = .slice ao l cp := by
    rcases ol.2 with ⟨h, _⟩ | ⟨g, cap, cur, h, _⟩
    · exact ⟨_, _, _, h⟩
    · exact ⟨_, _, _, h⟩
  obtain ⟨ao, ll, cp, rfl⟩ := hlv
  have c1 := hb.cell 1
  have c2 := hb.cell 2
  have c3 := hb.cell 3
  have f1 := hb.free 1
  have f2 := hb.free 2
  have f3 := hb.free 3
  simp at c1 c2 c3
  have HB := hid' hb
  have HTV := hid' ht
  have HOL := hid' ol
  have HB3 := hid' hb3
  have HF := hid' fair
  clear hb ht ol hb2 hb3 fair HB1 HT1 HI HT
  simp only at *
  go_wp2
  go_ret
  have q1 := HB.out.at1 up
  have q2 := q1.at2 ex
  have q3 := q2.at3 (.slice ao ll cp)
  have tv3 := q2.own (q1.own (HB.out.own HTV.out (by decide) 1 (.int .i64 up)) (by decide) 2 (.int .i64 ex)) (by decide) 3 (.slice ao ll cp)
  have lv3 := q2.own (q1.own (HB.out.own (own_wide HOL.out (show B ≤ w1.heap.size by omega)) (by decide) 1 (.int .i64 up)) (by decide) 2 (.int .i64 ex)) (by decide) 3 (.slice ao ll cp)
  have kp : Keeps w _ := q2.keeps (q1.keeps (HB.out.keeps (Keeps.below HB3.out) 1 (.int .i64 up)) 2 (.int .i64 ex)) 3 (.slice ao ll cp)
  have bl := (((HB3.out.mono hB).setCell (p := ⟨bW, 1, none⟩) le (.int .i64 up)).setCell (p := ⟨bW, 2, none⟩) le (.int .i64 ex)).setCell (p := ⟨bW, 3, none⟩) le (.slice ao ll cp)
  have fl := HF.out.len
  exact ⟨rfl, ⟨le, tv, .slice ao ll cp, xv, F, ts, ls, up, ex, se, fr, q3, tv3, lv3, h1, by simp only at fl; omega, ⟨h3.txt, HF.out.wf, HF.out.up, HF.out.ex, h3.se, h3.fr⟩, H4.out.fresh kp (Nat.le_refl _) GE.out⟩, kp.op, bl⟩

theorem does_parse {X : Xs} (w : World) (hT : Table w) (o : Op) (hk : o.kind = 10) (hok : o.Ok) (B n : Nat) (wr : World) (hB : w.heap.size ≤ B) (hn : n ≤ 100000) (hb : Below w.heap.size w wr) : Does X B B n o wr := by
  refine does_pure (.inr (by omega)) (by omega) ?_
  intro w1 hI hB1 hb1
  refine (pure_parse B B n o w1 hok hn hI hB1 (hT.below (hb.trans (hb1.mono hB))) hk).mono ?_
  rintro e w' ⟨rfl, h1, h2, h3⟩
  exact ⟨rfl, h1.up (Nat.le_succ _), h2, h3⟩

end Go.Proofs.YtmmkhodaljpjgaaGreatDoor
