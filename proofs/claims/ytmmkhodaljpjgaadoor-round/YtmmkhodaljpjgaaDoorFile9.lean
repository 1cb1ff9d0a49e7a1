import Derived.Test.YtmmkhodaljpjgaaDoorFile8
/-! Package file: Parse. -/
namespace Go.Proofs.YtmmkhodaljpjgaaDoor
open Go.RowKit

theorem results_ctt {fn : Func} {p u v : Tmp} {ty : TypeId} (h : fn.results = #[.cell p ty, .tmp u, .tmp v]) (tmps : Array Value) (P : Program) (w : World) :
    (results fn tmps).run P w =
      ((asAddr (tmps.getD p undef)).run P w).andThen fun a w₁ => ((loadVar ty a).run P w₁).andThen fun x w₂ => .ok (.tuple #[x, tmps.getD u undef, tmps.getD v undef]) w₂ := by
  simp only [results, h]
  simp [Sem.run_bind, Result.andThen]
theorem results_row_tt {fn : Func} {p u v : Tmp} {ty : TypeId} {P : Program} (h : fn.results = #[.cell p ty, .tmp u, .tmp v]) (tmps : Array Value) (w : World) (g : Nat) (cs : Array Value)
    (hp : tmps.getD p undef = .pointer (some ⟨g, 0, none⟩)) (hl : (loadVar ty ⟨g, 0, none⟩).run P w = .ok (.agg cs) w) :
    (results fn tmps).run P w = .ok (.tuple #[.agg cs, tmps.getD u undef, tmps.getD v undef]) w := by
  rw [results_ctt h, hp]
  simp [asAddr, hl, Result.andThen]

/-- What Parse answers. -/
def PGot (w : World) (gt : Txt.Got) (e : Ending) (w' : World) : Prop := ∃ lv, e = .returned (.tuple #[.agg #[.int .i64 gt.up, .int .i64 gt.ex, lv], .int .i64 gt.err, .int .i64 gt.num]) ∧ w'.ownsRow w.heap.size 40 2 lv gt.ls.length (flat gt.ls) ∧ Below w.heap.size w w'
theorem pgot_no {w w' : World} {e : Int} {m : Nat} {en : Ending} (h : en = .returned (.tuple #[.agg #[.int .i64 0, .int .i64 0, .slice none 0 0], .int .i64 e, .int .i64 m])) (hb : Below w.heap.size w w') : PGot w ⟨0, 0, [], e, m⟩ en w' :=
  ⟨.slice none 0 0, h, World.ownsRow_nil _ _ _ _, hb⟩
theorem own_wide {w : World} {B B' e size n : Nat} {v : Value} {xs : List Value} (h : w.ownsRow B e size v n xs) (hb : B' ≤ B) : w.ownsRow B' e size v n xs := by
  refine ⟨h.1, ?_⟩
  rcases h.2 with h | ⟨g, cap, cur, rfl, a, r⟩
  · exact .inl h
  · exact .inr ⟨g, cap, cur, rfl, by omega, r⟩

/-- Between two lines of the loop. -/
structure PMid (w : World) (t : ByteArray) (n b : Nat) (st : Txt.St) (wr : World) : Prop where
  rd : Rd wr (w.heap.size + 1) st
  ok : Txt.Ok st n
  nb : n ≤ b
  b1 : b ≤ t.size + 1
  run : ∃ f, t.size + 2 - b ≤ f ∧ Txt.run t (t.size + 2) 0 0 Txt.st0 = Txt.run t f b n st
  row : wr.heap[w.heap.size]? = some (.cells #[.int .i64 0, .int .i64 0, .slice none 0 0] 28 (0, 0))
  bel : Below w.heap.size w wr

theorem rd_start (w : World) : Rd ((w.alloc (.cells #[.int .i64 0, .int .i64 0, .slice none 0 0] 28)).alloc (.cells #[.string ⟨#[]⟩, .string ⟨#[]⟩, .string ⟨#[]⟩, .slice none 0 0, .string ⟨#[]⟩] 51)) (w.heap.size + 1) Txt.st0 :=
  ⟨.slice none 0 0, heap_alloc2_new _ _ _, World.ownsRow_nil _ _ _ _⟩

theorem done_num (st : Txt.St) : (Txt.done st).num = 0 := by unfold Txt.done; split <;> rfl

set_option maxRecDepth 100000 in
set_option maxHeartbeats 6400000 in
theorem file_parse (t : ByteArray) (w : World) (hs : t.size ≤ 1000000) (hT : Table w) :
    Calls Tryd.prog 14 #[.string t] w fun e w' => PGot w (Txt.parse t) e w' := by
  have RN := hid' (heap_alloc_new w (.cells #[.int .i64 0, .int .i64 0, .slice none 0 0] 28))
  have BN := hid' ((Below.refl w.heap.size w).alloc (Nat.le_refl _) (.cells #[.int .i64 0, .int .i64 0, .slice none 0 0] 28))
  by_cases hbig : 2000 < t.size
  · have HP : Hid (Txt.parse t = ⟨0, 0, [], 2, 0⟩) := by show _ = _; unfold Txt.parse; rw [if_pos hbig]
    clear hT
    go_enter Tryd.func14, Tryd.ntmps14
    go_wp2
    refine bodyPost_ret (results_row_tt (p := 2) (u := 3) (v := 4) rfl _ _ w.heap.size #[.int .i64 0, .int .i64 0, .slice none 0 0] rfl (load_table RN.out rfl)) rfl ?_
    rw [HP.out]
    exact pgot_no rfl BN.out
  have HT := hid' hT
  clear hT
  have RF0 := hid' (rd_start w)
  have R0 := hid' (heap_alloc2_old w (.cells #[.int .i64 0, .int .i64 0, .slice none 0 0] 28) (.cells #[.string ⟨#[]⟩, .string ⟨#[]⟩, .string ⟨#[]⟩, .slice none 0 0, .string ⟨#[]⟩] 51))
  have B0 := hid' (BN.out.alloc (by simp) (.cells #[.string ⟨#[]⟩, .string ⟨#[]⟩, .string ⟨#[]⟩, .slice none 0 0, .string ⟨#[]⟩] 51))
  have HPE : Hid (¬ (Txt.run t (t.size + 2) 0 0 Txt.st0).1 = 0 → Txt.parse t = ⟨0, 0, [], (Txt.run t (t.size + 2) 0 0 Txt.st0).1, (Txt.run t (t.size + 2) 0 0 Txt.st0).2.1⟩) := fun h => by unfold Txt.parse; rw [if_neg hbig, if_neg h]
  have HPD : Hid ((Txt.run t (t.size + 2) 0 0 Txt.st0).1 = 0 → Txt.parse t = Txt.done (Txt.run t (t.size + 2) 0 0 Txt.st0).2.2) := fun h => by unfold Txt.parse; rw [if_neg hbig, if_pos h]
  go_enter Tryd.func14, Tryd.ntmps14
  go_wp2_with fail
  go_loopw [6, 7, 8, 9] (fun b n _ _ wr => ∃ (bb nn : Nat) (st : Txt.St), b = .int .i64 bb ∧ n = .int .i64 nn ∧ PMid w t nn bb st wr) (fun b _ _ _ _ => t.size + 1 - (intOf b).toNat)
  case atStart => exact ⟨0, 0, Txt.st0, rfl, rfl, ⟨RF0.out, Txt.Ok.start, Nat.le_refl _, by omega, ⟨t.size + 2, by omega, rfl⟩, R0.out, B0.out⟩⟩
  case round =>
    clear RF0 R0 B0 RN BN
    obtain ⟨b, n, st, rfl, rfl, hM⟩ := hrel
    have b1 := hM.b1
    have nb := hM.nb
    have HM := hid' hM
    clear hM
    by_cases hb : b ≤ t.size
    · have hel := Txt.eol_bd t b hb
      have HEL := hid' (line_end t b wr hb (by omega))
      obtain ⟨i, hi⟩ : ∃ i, Txt.eol t b = i := ⟨_, rfl⟩
      rw [hi] at hel HEL
      have HI := hid' hi
      clear hi
      have hx : (t.extract b i).size ≤ 90000 := by rw [ByteArray.size_extract]; omega
      have HLN := hid' (take_line (w.heap.size + 1) st (t.extract b i) wr n HM.out.rd HM.out.ok (by omega) hx)
      have HROW0 := hid' HM.out.row
      have HBEL0 := hid' HM.out.bel
      obtain ⟨f, hf, hrun⟩ := HM.out.run
      obtain ⟨f', rfl⟩ : ∃ f', f = f' + 1 := ⟨f - 1, by omega⟩
      by_cases he : (Txt.line st (t.extract b i)).1 = 0
      · have hr2 : Txt.run t (t.size + 2) 0 0 Txt.st0 = Txt.run t f' (i + 1) (n + 1) (Txt.line st (t.extract b i)).2 := by
          rw [hrun, Txt.run_go (by omega) (by rw [HI.out]; exact he), HI.out]
        have HR2 := hid' hr2
        have HOK2 := hid' (HM.out.ok.line _ he)
        rw [he] at HLN
        clear hrun hr2 he
        generalize (Txt.line st (t.extract b i)).2 = st' at *
        go_wp2_with fail
        refine HEL.out.mono ?_
        rintro e w2 ⟨rfl, rfl⟩
        go_wp2_with fail
        refine HLN.out.mono ?_
        rintro e w3 ⟨rfl, hrd, hb3⟩
        have RD3 := hid' (hrd trivial)
        have ROW3 := hid' ((hb3.block _ (by omega)).trans HROW0.out)
        have BEL3 := hid' (HBEL0.out.trans (hb3.mono (by omega)))
        clear hrd hb3
        go_wp2
        go_roundw
        case rel => exact ⟨i + 1, n + 1, st', by go_num, by go_num, ⟨RD3.out, HOK2.out, by omega, by omega, ⟨f', by omega, HR2.out⟩, ROW3.out, BEL3.out⟩⟩
        case measure => simp [intOf]; omega
      · have hr2 : Txt.run t (t.size + 2) 0 0 Txt.st0 = ((Txt.line st (t.extract b i)).1, n, st) := by
          rw [hrun, Txt.run_err (by omega) (by rw [HI.out]; exact he), HI.out]
        have hp := HPE.out (by rw [hr2]; exact he)
        rw [hr2] at hp
        have HP := hid' hp
        have qe : ((Txt.line st (t.extract b i)).1 != 0) = true := bne_iff_ne.2 he
        clear hrun hr2 hp he
        generalize hG : Txt.line st (t.extract b i) = G at *
        obtain ⟨er, st'⟩ := G
        simp only at qe HLN HP
        clear hG
        go_wp2_with fail
        refine HEL.out.mono ?_
        rintro e w2 ⟨rfl, rfl⟩
        go_wp2_with fail
        refine HLN.out.mono ?_
        rintro e w3 ⟨rfl, hrd, hb3⟩
        have row3 := (hb3.block _ (by omega)).trans HROW0.out
        have BEL3 := hid' (HBEL0.out.trans (hb3.mono (by omega)))
        have y0 := cell_of_row _ _ 0 _ _ _ row3
        have y1 := cell_of_row _ _ 1 _ _ _ row3
        have y2 := cell_of_row _ _ 2 _ _ _ row3
        simp at y0 y1 y2
        have x0 := frozen_of_row _ _ 0 _ _ row3
        have x1 := frozen_of_row _ _ 1 _ _ row3
        have x2 := frozen_of_row _ _ 2 _ _ row3
        have ROW3 := hid' row3
        clear hrd hb3 row3
        go_wp2
        refine bodyPost_ret (results_row_tt (p := 2) (u := 3) (v := 4) rfl _ _ w.heap.size #[.int .i64 0, .int .i64 0, .slice none 0 0] rfl (load_table (zero3_row ROW3.out) rfl)) rfl ?_
        rw [HP.out]
        exact pgot_no rfl (below3 BEL3.out (Nat.le_refl _))
    · obtain ⟨f, hf, hrun⟩ := HM.out.run
      rw [Txt.run_end hb] at hrun
      have hp := HPD.out (by rw [hrun])
      rw [hrun] at hp
      have HP := hid' hp
      have HNUM := hid' (done_num st)
      have hnb : ¬ (b : Int) ≤ (t.size : Int) := by omega
      have HTR := hid' (HT.out.below HM.out.bel)
      have HFI : Hid (Calls Tryd.prog 25 #[.pointer (some ⟨w.heap.size + 1, 0, none⟩)] wr fun e w' => FinSaid wr (w.heap.size + 1) (Txt.done st) e w') := by
        by_cases hmiss : st.u = Txt.em ∨ st.x = Txt.em ∨ st.h = Txt.em ∨ st.ls.length = 0
        · exact finish_missing _ st wr HM.out.rd hmiss
        · exact finish_full _ st wr n HM.out.rd HM.out.ok (by omega) HTR.out (fun h => hmiss (.inl h)) (fun h => hmiss (.inr (.inl h))) (fun h => hmiss (.inr (.inr (.inl h)))) (fun h => hmiss (.inr (.inr (.inr h))))
      have HROW0 := hid' HM.out.row
      have HBEL0 := hid' HM.out.bel
      clear hrun hp HM HPE HPD HT HTR
      go_wp2_with fail
      refine HFI.out.mono ?_
      rintro e w3 ⟨lv, rfl, hown, hb3⟩
      have row3 := (hb3.block _ (lt_of_heap HROW0.out)).trans HROW0.out
      have hbw := HBEL0.out.size
      have hsz3 := hb3.size
      have hlt3 := lt_of_heap row3
      have BEL3 := hid' (HBEL0.out.trans (hb3.mono hbw))
      have OW3 := hid' hown
      have RR := hid' row3
      have y0 := cell_of_row _ _ 0 _ _ _ row3
      have y1 := cell_of_row _ _ 1 _ _ _ row3
      have y2 := cell_of_row _ _ 2 _ _ _ row3
      simp at y0 y1 y2
      have x0 := frozen_of_row _ _ 0 _ _ row3
      have x1 := frozen_of_row _ _ 1 _ _ row3
      have x2 := frozen_of_row _ _ 2 _ _ row3
      have hlv : ∃ ao l c, lv = .slice ao l c := by
        rcases hown.2 with ⟨h, _⟩ | ⟨g, cap, cur, h, _⟩
        · exact ⟨_, _, _, h⟩
        · exact ⟨_, _, _, h⟩
      obtain ⟨ao, ll, cc, rfl⟩ := hlv
      clear hown hb3 row3
      generalize hgt : Txt.done st = gt at *
      obtain ⟨gu, gx, gl, ge, gn⟩ := gt
      simp only at *
      have HGN : Hid (gn = 0) := HNUM.out
      have HP' : Hid (Txt.parse t = ⟨gu, gx, gl, ge, 0⟩) := by show _ = _; rw [HP.out, HGN.out]
      clear hgt HNUM HP
      go_wp2
      have hrowE := zero3_row (x := .int .i64 gu) (y := .int .i64 gx) (z := .slice ao ll cc) RR.out
      refine bodyPost_ret (results_row_tt (p := 2) (u := 3) (v := 4) rfl _ _ w.heap.size #[.int .i64 gu, .int .i64 gx, .slice ao ll cc] rfl (load_table ((Below.heap_alloc _ _ _ (lt_of_heap hrowE)).trans hrowE) rfl)) rfl ?_
      rw [HP'.out]
      have hb9 := below3 (x := .int .i64 gu) (y := .int .i64 gx) (z := .slice ao ll cc) BEL3.out (Nat.le_refl _)
      exact ⟨.slice ao ll cc, rfl, own_wide ((own3 RR.out OW3.out (by decide)).alloc _) (by omega), hb9.alloc hb9.size _⟩

set_option maxRecDepth 100000 in
theorem smear_parse (t : ByteArray) (w : World) (hs : t.size ≤ 1000000) (hT : Table w) :
    Calls Tryd.prog 9 #[.string t] w fun e w' => PGot w (Txt.parse t) e w' := by
  have B0 := hid' ((Below.refl w.heap.size w).alloc (Nat.le_refl _) (.cells #[.int .i64 0, .int .i64 0, .slice none 0 0] 28))
  have R0 := hid' (heap_alloc_new w (.cells #[.int .i64 0, .int .i64 0, .slice none 0 0] 28))
  have HP := hid' (file_parse t (w.alloc (.cells #[.int .i64 0, .int .i64 0, .slice none 0 0] 28)) hs (hT.below B0.out))
  clear hT
  generalize Txt.parse t = gt at *
  obtain ⟨gu, gx, gl, ge, gn⟩ := gt
  go_enter Tryd.func9, Tryd.ntmps9
  go_wp2_with fail
  refine HP.out.mono ?_
  rintro e w3 ⟨lv, rfl, hown, hb3⟩
  have row := (hb3.block _ (lt_of_heap R0.out)).trans R0.out
  have y0 := cell_of_row _ _ 0 _ _ _ row
  have y1 := cell_of_row _ _ 1 _ _ _ row
  have y2 := cell_of_row _ _ 2 _ _ _ row
  simp at y0 y1 y2
  have x0 := frozen_of_row _ _ 0 _ _ row
  have x1 := frozen_of_row _ _ 1 _ _ row
  have x2 := frozen_of_row _ _ 2 _ _ row
  have hlv : ∃ ao l c, lv = .slice ao l c := by
    rcases hown.2 with ⟨h, _⟩ | ⟨g, cap, cur, h, _⟩
    · exact ⟨_, _, _, h⟩
    · exact ⟨_, _, _, h⟩
  obtain ⟨ao, ll, cc, rfl⟩ := hlv
  have ROW := hid' row
  have OW := hid' hown
  have BE := hid' (B0.out.trans (hb3.mono B0.out.size))
  clear row hown hb3
  simp only at *
  go_wp2
  refine bodyPost_ret (results_row_tt (p := 2) (u := 3) (v := 4) rfl _ _ w.heap.size #[.int .i64 gu, .int .i64 gx, .slice ao ll cc] rfl (load_table (zero3_row ROW.out) rfl)) rfl ?_
  exact ⟨.slice ao ll cc, rfl, own_wide (own3 ROW.out OW.out (by decide)) (by simp), below3 BE.out (Nat.le_refl _)⟩

end Go.Proofs.YtmmkhodaljpjgaaDoor
