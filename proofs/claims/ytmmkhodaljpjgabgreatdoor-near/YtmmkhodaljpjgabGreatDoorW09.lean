import Derived.Test.YtmmkhodaljpjgabGreatDoorW08
import Derived.Laws.ResultCell
import Derived.Deep.RegionHeld3
namespace Go.Proofs.YtmmkhodaljpjgabGreatDoor
open Go.RowKit
theorem Txt.scan_sz (s : ByteArray) (k : Nat) : ∀ t ∈ (Txt.scan s k).1, t.size ≤ k := by
  induction k with
  | zero => intro t h; simp [Txt.scan] at h
  | succ k ih =>
    intro t h
    by_cases c : Txt.inWord s k
    · rw [Txt.scan_word c] at h; have := ih t h; omega
    · by_cases e : (Txt.scan s k).2 = ⟨#[]⟩
      · rw [Txt.scan_gap c e] at h; have := ih t h; omega
      · rw [Txt.scan_end c e] at h
        rcases List.mem_append.1 h with h | h
        · have := ih t h; omega
        · simp at h; subst h; have := (Txt.scan_bd s k).2; omega
theorem Txt.words_sz (s : ByteArray) (i : Nat) : ((Txt.words s).getD i Txt.em).size ≤ s.size + 1 := by
  rw [List.getD_eq_getElem?_getD]
  by_cases h : i < (Txt.words s).length
  · rw [List.getElem?_eq_getElem h]; exact Txt.scan_sz s (s.size + 1) _ (List.getElem_mem h)
  · rw [List.getElem?_eq_none (by omega)]; exact Nat.zero_le _
theorem ws_of {w w1 : World} {v : Value} {s : ByteArray} (hs : s.size ≤ 90000) (h : w1.ownsRow w.heap.size 9 1 v (Txt.words s).length ((Txt.words s).map Value.string)) : Ws w1 v (Txt.words s) :=
  ⟨⟨_, h⟩, by have := (Txt.scan_bd s (s.size + 1)).1; unfold Txt.words; omega, fun i => by have := Txt.words_sz s i; omega⟩
theorem rd_down {w w1 : World} {bR : Nat} {st : Txt.St} (h : Rd w bR st) (hb : Below w.heap.size w w1) : Rd w1 bR st := by
  obtain ⟨lv, a, b⟩ := h
  exact ⟨lv, (hb.block _ (lt_of_heap a)).trans a, own_down b hb⟩
theorem rd_lt {w : World} {bR : Nat} {st : Txt.St} (h : Rd w bR st) : bR < w.heap.size := by obtain ⟨lv, a, b⟩ := h; exact lt_of_heap a
theorem take_entry (bR : Nat) (st : Txt.St) (v : Value) (ws : List ByteArray) (w : World) (n : Nat) (hR : Rd w bR st) (hO : Txt.Ok st n) (hn : n ≤ 100000) (hW : Ws w v ws) :
    Calls Tryz.prog 93 #[.pointer (some ⟨bR, 0, none⟩), v] w fun e w' => e = .returned (.int .i64 (Txt.takeE st ws).1) ∧ ((Txt.takeE st ws).1 = 0 → Rd w' bR (Txt.takeE st ws).2) ∧ Below bR w w' := by
  by_cases h : ws.length < 2 ∨ Txt.isNum (ws.getD 0 Txt.em) = false ∨ Txt.isNum (ws.getD 1 Txt.em) = false ∨ (2 < ws.length ∧ Txt.beg (ws.getD 2 Txt.em) ⟨#[35]⟩ = false)
  · exact take_entry_text bR st v ws w hR hW h
  · refine take_entry_go bR st v ws w n hR hO hn hW ?_ ?_ ?_ ?_
    · by_cases c : ws.length < 2
      · exact absurd (.inl c) h
      · omega
    · cases c : Txt.isNum (ws.getD 0 Txt.em) with
      | true => rfl
      | false => exact absurd (.inr (.inl c)) h
    · cases c : Txt.isNum (ws.getD 1 Txt.em) with
      | true => rfl
      | false => exact absurd (.inr (.inr (.inl c))) h
    · exact fun c => h (.inr (.inr (.inr c)))
set_option maxRecDepth 100000 in
set_option maxHeartbeats 1000000 in
theorem take_line (bR : Nat) (st : Txt.St) (s : ByteArray) (w : World) (n : Nat) (hR : Rd w bR st) (hO : Txt.Ok st n) (hn : n ≤ 100000) (hs : s.size ≤ 90000) :
    Calls Tryz.prog 68 #[.pointer (some ⟨bR, 0, none⟩), .string s] w fun e w' => e = .returned (.int .i64 (Txt.line st s).1) ∧ ((Txt.line st s).1 = 0 → Rd w' bR (Txt.line st s).2) ∧ Below bR w w' := by
  have hbR := rd_lt hR
  have HO := hid' hO
  have HR := hid' hR
  have hx : (s.extract 2 s.size).size ≤ 90000 := by rw [ByteArray.size_extract]; omega
  have HB1 := hid' (begins_any s ⟨#[35, 36]⟩ w)
  have HB2 := hid' (begins_any s ⟨#[35, 64]⟩ w)
  have HB3 := hid' (begins_any s ⟨#[35, 104]⟩ w)
  have HB4 := hid' (begins_any s ⟨#[35]⟩ w)
  have HWX := hid' (words_of (s.extract 2 s.size) w (by omega))
  have HWS := hid' (words_of s w (by omega))
  have hge : ∀ p : ByteArray, Txt.beg s p = true → p.size ≤ s.size := fun p h => by unfold Txt.beg at h; exact (of_decide_eq_true h).1
  have HGE := hid' hge
  clear hO hR hge
  cases b1 : Txt.beg s ⟨#[35, 36]⟩ with
  | true =>
    have HL : Hid (Txt.line st s = Txt.takeU st (Txt.words (s.extract 2 s.size))) := by show _ = _; unfold Txt.line; rw [if_pos b1]
    have h2 : 2 ≤ s.size := HGE.out _ b1
    rw [b1] at HB1
    clear b1 HB2 HB3 HB4 HWS
    go_enter Tryz.func68, Tryz.ntmps68
    go_wp2_with fail
    refine HB1.out.mono ?_
    rintro e w1 ⟨rfl, rfl⟩
    go_wp2_with fail
    refine HWX.out.mono ?_
    rintro e w2 ⟨v, rfl, hown, hbel⟩
    go_wp2_with fail
    refine (take_update bR st v _ w2 n (rd_down HR.out hbel) HO.out hn (ws_of hx hown)).mono ?_
    rintro e w3 ⟨rfl, hrd, hbel3⟩
    have A := hid' hrd
    have B := hid' ((hbel.mono (by omega)).trans hbel3)
    clear hrd hbel3 hown hbel
    go_wp2
    go_ret
    rw [HL.out]
    exact ⟨rfl, A.out, B.out⟩
  | false =>
    rw [b1] at HB1
    cases b2 : Txt.beg s ⟨#[35, 64]⟩ with
    | true =>
      have HL : Hid (Txt.line st s = Txt.takeX st (Txt.words (s.extract 2 s.size))) := by show _ = _; unfold Txt.line; rw [if_neg (by rw [b1]; decide), if_pos b2]
      have h2 : 2 ≤ s.size := HGE.out _ b2
      rw [b2] at HB2
      clear b1 b2 HB3 HB4 HWS
      go_enter Tryz.func68, Tryz.ntmps68
      go_wp2_with fail
      refine HB1.out.mono ?_
      rintro e w1 ⟨rfl, rfl⟩
      go_wp2_with fail
      refine HB2.out.mono ?_
      rintro e w1 ⟨rfl, rfl⟩
      go_wp2_with fail
      refine HWX.out.mono ?_
      rintro e w2 ⟨v, rfl, hown, hbel⟩
      go_wp2_with fail
      refine (take_expiry bR st v _ w2 n (rd_down HR.out hbel) HO.out hn (ws_of hx hown)).mono ?_
      rintro e w3 ⟨rfl, hrd, hbel3⟩
      have A := hid' hrd
      have B := hid' ((hbel.mono (by omega)).trans hbel3)
      clear hrd hbel3 hown hbel
      go_wp2
      go_ret
      rw [HL.out]
      exact ⟨rfl, A.out, B.out⟩
    | false =>
      rw [b2] at HB2
      cases b3 : Txt.beg s ⟨#[35, 104]⟩ with
      | true =>
        have HL : Hid (Txt.line st s = Txt.takeH st (Txt.words (s.extract 2 s.size))) := by show _ = _; unfold Txt.line; rw [if_neg (by rw [b1]; decide), if_neg (by rw [b2]; decide), if_pos b3]
        have h2 : 2 ≤ s.size := HGE.out _ b3
        rw [b3] at HB3
        clear b1 b2 b3 HB4 HWS
        go_enter Tryz.func68, Tryz.ntmps68
        go_wp2_with fail
        refine HB1.out.mono ?_
        rintro e w1 ⟨rfl, rfl⟩
        go_wp2_with fail
        refine HB2.out.mono ?_
        rintro e w1 ⟨rfl, rfl⟩
        go_wp2_with fail
        refine HB3.out.mono ?_
        rintro e w1 ⟨rfl, rfl⟩
        go_wp2_with fail
        refine HWX.out.mono ?_
        rintro e w2 ⟨v, rfl, hown, hbel⟩
        go_wp2_with fail
        refine (take_hash bR st v _ w2 n (rd_down HR.out hbel) HO.out (ws_of hx hown)).mono ?_
        rintro e w3 ⟨rfl, hrd, hbel3⟩
        have A := hid' hrd
        have B := hid' ((hbel.mono (by omega)).trans hbel3)
        clear hrd hbel3 hown hbel
        go_wp2
        go_ret
        rw [HL.out]
        exact ⟨rfl, A.out, B.out⟩
      | false =>
        rw [b3] at HB3
        cases b4 : Txt.beg s ⟨#[35]⟩ with
        | true =>
          have HL : Hid (Txt.line st s = (0, st)) := by show _ = _; unfold Txt.line; rw [if_neg (by rw [b1]; decide), if_neg (by rw [b2]; decide), if_neg (by rw [b3]; decide), if_pos b4]
          rw [b4] at HB4
          clear b1 b2 b3 b4 HWS HWX
          go_enter Tryz.func68, Tryz.ntmps68
          go_wp2_with fail
          refine HB1.out.mono ?_
          rintro e w1 ⟨rfl, rfl⟩
          go_wp2_with fail
          refine HB2.out.mono ?_
          rintro e w1 ⟨rfl, rfl⟩
          go_wp2_with fail
          refine HB3.out.mono ?_
          rintro e w1 ⟨rfl, rfl⟩
          go_wp2_with fail
          refine HB4.out.mono ?_
          rintro e w1 ⟨rfl, rfl⟩
          go_wp2
          go_ret
          rw [HL.out]
          exact ⟨rfl, fun _ => HR.out, Below.refl _ _⟩
        | false =>
          have HL : Hid (Txt.line st s = Txt.takeE st (Txt.words s)) := by show _ = _; unfold Txt.line; rw [if_neg (by rw [b1]; decide), if_neg (by rw [b2]; decide), if_neg (by rw [b3]; decide), if_neg (by rw [b4]; decide)]
          rw [b4] at HB4
          clear b1 b2 b3 b4 HWX
          go_enter Tryz.func68, Tryz.ntmps68
          go_wp2_with fail
          refine HB1.out.mono ?_
          rintro e w1 ⟨rfl, rfl⟩
          go_wp2_with fail
          refine HB2.out.mono ?_
          rintro e w1 ⟨rfl, rfl⟩
          go_wp2_with fail
          refine HB3.out.mono ?_
          rintro e w1 ⟨rfl, rfl⟩
          go_wp2_with fail
          refine HB4.out.mono ?_
          rintro e w1 ⟨rfl, rfl⟩
          go_wp2_with fail
          refine HWS.out.mono ?_
          rintro e w2 ⟨v, rfl, hown, hbel⟩
          go_wp2_with fail
          refine (take_entry bR st v _ w2 n (rd_down HR.out hbel) HO.out hn (ws_of hs hown)).mono ?_
          rintro e w3 ⟨rfl, hrd, hbel3⟩
          have A := hid' hrd
          have B := hid' ((hbel.mono (by omega)).trans hbel3)
          clear hrd hbel3 hown hbel
          go_wp2
          go_ret
          rw [HL.out]
          exact ⟨rfl, A.out, B.out⟩
theorem results_row_tmp {fn : Func} {p u : Tmp} {ty : TypeId} {P : Program} (h : fn.results = #[.cell p ty, .tmp u]) (tmps : Array Value) (w : World) (g : Nat) (cs : Array Value)
    (hp : tmps.getD p undef = .pointer (some ⟨g, 0, none⟩)) (hl : (loadVar ty ⟨g, 0, none⟩).run P w = .ok (.agg cs) w) :
    (results fn tmps).run P w = .ok (.tuple #[.agg cs, tmps.getD u undef]) w := by
  rw [results_cell_tmp h, hp]
  simp [asAddr, hl, Result.andThen]
theorem load_table {w : World} {g : Nat} {cs : Array Value} (hg : w.heap[g]? = some (.cells cs 29 (0, 0))) (hs : cs.size = 3) : (loadVar 29 ⟨g, 0, none⟩).run Tryz.prog w = .ok (.agg cs) w :=
  run_loadVar_row (P := Tryz.prog) w g 29 29 cs (0, 0) _ hg Tryz.underlying29 rfl (by rw [hs]; kernel_rfl)
theorem zero3_row {V : World} {b : Nat} {p q r : Value} {t : TypeId} {x y z : Value} (h1 : V.heap[b]? = some (.cells #[p, q, r] t (0, 0))) : (((V.setCell ⟨b, 0, none⟩ x).setCell ⟨b, 1, none⟩ y).setCell ⟨b, 2, none⟩ z).heap[b]? = some (.cells #[x, y, z] t (0, 0)) := by
  have e1 := heap_setCell_same _ b 0 _ t x h1
  have e2 := heap_setCell_same _ b 1 _ t y e1
  have e3 := heap_setCell_same _ b 2 _ t z e2
  simpa using e3
theorem below3 {W V : World} {b B : Nat} {x y z : Value} (h : Below B W V) (hb : B ≤ b) : Below B W (((V.setCell ⟨b, 0, none⟩ x).setCell ⟨b, 1, none⟩ y).setCell ⟨b, 2, none⟩ z) :=
  ((h.setCell (p := ⟨b, 0, none⟩) hb x).setCell (p := ⟨b, 1, none⟩) hb y).setCell (p := ⟨b, 2, none⟩) hb z
theorem own3 {V : World} {b B n size : Nat} {x y z p q r v : Value} {t e : TypeId} {xs : List Value} (h1 : V.heap[b]? = some (.cells #[p, q, r] t (0, 0))) (ho : V.ownsRow B e size v n xs) (hne : t ≠ e) :
    (((V.setCell ⟨b, 0, none⟩ x).setCell ⟨b, 1, none⟩ y).setCell ⟨b, 2, none⟩ z).ownsRow B e size v n xs := by
  have e1 := heap_setCell_same _ b 0 _ t x h1
  have e2 := heap_setCell_same _ b 1 _ t y e1
  exact own_set (p := ⟨b, 2, none⟩) (own_set (p := ⟨b, 1, none⟩) (own_set (p := ⟨b, 0, none⟩) ho h1 hne x) e1 hne y) e2 hne z
/-- What finish answers. -/
def FinSaid (w : World) (bR : Nat) (gt : Txt.Got) (e : Ending) (w' : World) : Prop := ∃ lv, e = .returned (.tuple #[.agg #[.int .i64 gt.up, .int .i64 gt.ex, lv], .int .i64 gt.err]) ∧ w'.ownsRow (bR + 1) 49 2 lv gt.ls.length (flat gt.ls) ∧ Below w.heap.size w w'
theorem done_no {st : Txt.St} {n : Int} (h : Txt.fin st = n) (hn : n ≠ 0) : Txt.done st = ⟨0, 0, [], n, 0⟩ := by unfold Txt.done; rw [if_neg (by rw [h]; exact hn), h]
theorem done_yes {st : Txt.St} (h : Txt.fin st = 0) : Txt.done st = ⟨Txt.numTo st.u st.u.size, Txt.numTo st.x st.x.size, st.ls, 0, 0⟩ := by unfold Txt.done; rw [if_pos h]
theorem fin_six {st : Txt.St} (h : st.u = Txt.em ∨ st.x = Txt.em ∨ st.h = Txt.em ∨ st.ls.length = 0) : Txt.fin st = 6 := by unfold Txt.fin; rw [if_pos h]
set_option maxRecDepth 100000 in
set_option maxHeartbeats 1000000 in
theorem finish_missing (bR : Nat) (st : Txt.St) (w : World) (hR : Rd w bR st) (h : st.u = Txt.em ∨ st.x = Txt.em ∨ st.h = Txt.em ∨ st.ls.length = 0) :
    Calls Tryz.prog 69 #[.pointer (some ⟨bR, 0, none⟩)] w fun e w' => FinSaid w bR (Txt.done st) e w' := by
  have HD := hid' (done_no (fin_six h) (by decide))
  obtain ⟨lv, hrow, hown⟩ := hR
  have hbR := lt_of_heap hrow
  have c0 := cell_of_row _ _ 0 _ _ _ hrow
  have c1 := cell_of_row _ _ 1 _ _ _ hrow
  have c2 := cell_of_row _ _ 2 _ _ _ hrow
  have c3 := cell_of_row _ _ 3 _ _ _ hrow
  simp at c0 c1 c2 c3
  have hlv : ∃ ao cap, lv = .slice ao st.ls.length cap := by
    rcases hown.2 with ⟨rfl, e⟩ | ⟨g, cap, cur, rfl, _⟩
    · exact ⟨_, _, by rw [e]⟩
    · exact ⟨_, _, rfl⟩
  obtain ⟨ao, cap, rfl⟩ := hlv
  have RN := hid' (heap_alloc_new w (.cells #[.int .i64 0, .int .i64 0, .slice none 0 0] 29))
  have BN := hid' ((Below.refl w.heap.size w).alloc (Nat.le_refl _) (.cells #[.int .i64 0, .int .i64 0, .slice none 0 0] 29))
  clear hrow hown
  have fin' : ∀ e : Ending, e = .returned (.tuple #[.agg #[.int .i64 0, .int .i64 0, .slice none 0 0], .int .i64 6]) → ∀ w', Below w.heap.size w w' → FinSaid w bR (Txt.done st) e w' := fun e he w' hb => by
    rw [HD.out]; exact ⟨.slice none 0 0, he, World.ownsRow_nil _ _ _ _, hb⟩
  have FIN := hid' fin'
  clear fin' HD
  by_cases h0 : st.u = Txt.em
  · rw [h0] at c0
    clear h
    go_enter Tryz.func69, Tryz.ntmps69
    go_wp2
    refine bodyPost_ret (results_row_tmp (p := 2) (u := 3) rfl _ _ w.heap.size #[.int .i64 0, .int .i64 0, .slice none 0 0] rfl (load_table RN.out rfl)) rfl ?_
    exact FIN.out _ rfl _ BN.out
  have h0' := em_test h0
  by_cases h1 : st.x = Txt.em
  · rw [h1] at c1
    clear h h0
    go_enter Tryz.func69, Tryz.ntmps69
    go_wp2
    refine bodyPost_ret (results_row_tmp (p := 2) (u := 3) rfl _ _ w.heap.size #[.int .i64 0, .int .i64 0, .slice none 0 0] rfl (load_table RN.out rfl)) rfl ?_
    exact FIN.out _ rfl _ BN.out
  have h1' := em_test h1
  by_cases h2 : st.h = Txt.em
  · rw [h2] at c2
    clear h h0 h1
    go_enter Tryz.func69, Tryz.ntmps69
    go_wp2
    refine bodyPost_ret (results_row_tmp (p := 2) (u := 3) rfl _ _ w.heap.size #[.int .i64 0, .int .i64 0, .slice none 0 0] rfl (load_table RN.out rfl)) rfl ?_
    exact FIN.out _ rfl _ BN.out
  have h2' := em_test h2
  have h3 : st.ls.length = 0 := by
    rcases h with h | h | h | h
    · exact absurd h h0
    · exact absurd h h1
    · exact absurd h h2
    · exact h
  rw [h3] at c3
  clear h h0 h1 h2 h3
  go_enter Tryz.func69, Tryz.ntmps69
  go_wp2
  refine bodyPost_ret (results_row_tmp (p := 2) (u := 3) rfl _ _ w.heap.size #[.int .i64 0, .int .i64 0, .slice none 0 0] rfl (load_table RN.out rfl)) rfl ?_
  exact FIN.out _ rfl _ BN.out
theorem held_of {w : World} {B : Nat} {lv : Value} {ls : List (Int × Int)} (h : w.ownsRow B 49 2 lv ls.length (flat ls)) : Held w lv ls := by
  by_cases h0 : 0 < ls.length
  · obtain ⟨g, cap, rfl⟩ := own_some h h0
    refine .inr ⟨h0, g, cap, rfl, ?_, (h.lt _ rfl).2, lies_api h⟩
    rcases h.2 with ⟨h, _⟩ | ⟨g', cap', cur, h, _, _, h2, _⟩
    · cases h
    · cases h; exact h2
  · have e : ls = [] := List.eq_nil_of_length_eq_zero (by omega)
    subst e
    rcases h.2 with ⟨rfl, _⟩ | ⟨g, cap, cur, rfl, _⟩
    · exact .inl ⟨rfl, _, _, rfl⟩
    · exact .inl ⟨rfl, _, _, rfl⟩
set_option maxRecDepth 100000 in
set_option maxHeartbeats 6400000 in
theorem finish_full (bR : Nat) (st : Txt.St) (w : World) (n : Nat) (hR : Rd w bR st) (hO : Txt.Ok st n) (hn : n ≤ 100000) (hT : Table w) (hu : ¬ st.u = Txt.em) (hx : ¬ st.x = Txt.em) (hh : ¬ st.h = Txt.em) (hls : ¬ st.ls.length = 0) :
    Calls Tryz.prog 69 #[.pointer (some ⟨bR, 0, none⟩)] w fun e w' => FinSaid w bR (Txt.done st) e w' := by
  have nu : Txt.isNum st.u = true := by rcases hO.u with h | h; exact absurd h hu; exact h
  have nx : Txt.isNum st.x = true := by rcases hO.x with h | h; exact absurd h hx; exact h
  have lu := Txt.numTo_le nu
  have lx := Txt.numTo_le nx
  have h6 : ¬ (st.u = Txt.em ∨ st.x = Txt.em ∨ st.h = Txt.em ∨ st.ls.length = 0) := fun h => by
    rcases h with h | h | h | h
    · exact hu h
    · exact hx h
    · exact hh h
    · exact hls h
  have HV := hid' (fun W => value_of st.u W nu)
  have HX := hid' (fun W => value_of st.x W nx)
  have HWH := hid' (fun W (lv : Value) (h : Held W lv st.ls) => is_table lv st.ls _ _ W (wf_small lu.1 lu.2) (wf_small lx.1 lx.2) h (by have := hO.len; omega) hO.wf)
  have hdg := hO.dg
  have HOF := hid' (fun W (h : Table W) => of_any st.dg W (by omega) h)
  have HF8 : Hid (Tab.whole (Txt.numTo st.u st.u.size) (Txt.numTo st.x st.x.size) st.ls = false → Txt.done st = ⟨0, 0, [], 8, 0⟩) := fun h => done_no (by unfold Txt.fin; rw [if_neg h6, if_pos h]) (by decide)
  have HF7 : Hid (Tab.whole (Txt.numTo st.u st.u.size) (Txt.numTo st.x st.x.size) st.ls = true → ¬ ByteArray.mk (Sha.digest st.dg).toArray = st.h → Txt.done st = ⟨0, 0, [], 7, 0⟩) := fun h h' => done_no (by unfold Txt.fin; rw [if_neg h6, if_neg (by rw [h]; decide), if_pos h']) (by decide)
  have HF0 : Hid (Tab.whole (Txt.numTo st.u st.u.size) (Txt.numTo st.x st.x.size) st.ls = true → ByteArray.mk (Sha.digest st.dg).toArray = st.h → Txt.done st = ⟨Txt.numTo st.u st.u.size, Txt.numTo st.x st.x.size, st.ls, 0, 0⟩) := fun h h' => done_yes (by unfold Txt.fin; rw [if_neg h6, if_neg (by rw [h]; decide), if_neg (by simpa using h')])
  obtain ⟨lv, hrow, hown⟩ := hR
  have hbR := lt_of_heap hrow
  obtain ⟨g, cap, rfl⟩ := own_some hown (by omega)
  have RN := hid' (heap_alloc_new w (.cells #[.int .i64 0, .int .i64 0, .slice none 0 0] 29))
  have BN := hid' ((Below.refl w.heap.size w).alloc (Nat.le_refl _) (.cells #[.int .i64 0, .int .i64 0, .slice none 0 0] 29))
  have RR := hid' ((BN.out.block _ hbR).trans hrow)
  have OO := hid' (own_down hown BN.out)
  have TT := hid' (hT.below BN.out)
  have hz : (w.alloc (.cells #[.int .i64 0, .int .i64 0, .slice none 0 0] 29)).heap.size = w.heap.size + 1 := by simp
  have hl0 : ((st.ls.length : Int) == 0) = false := by rw [beq_eq_false_iff_ne]; omega
  have c0 := cell_of_row _ _ 0 _ _ _ hrow
  have c1 := cell_of_row _ _ 1 _ _ _ hrow
  have c2 := cell_of_row _ _ 2 _ _ _ hrow
  have c3 := cell_of_row _ _ 3 _ _ _ hrow
  have c4 := cell_of_row _ _ 4 _ _ _ hrow
  simp at c0 c1 c2 c3 c4
  have e0 := em_test hu
  have e1 := em_test hx
  have e2 := em_test hh
  clear hrow hown hO hT h6 hls hu hx hh nu nx
  generalize Txt.numTo st.u st.u.size = vu at *
  generalize Txt.numTo st.x st.x.size = vx at *
  generalize ByteArray.mk (Sha.digest st.dg).toArray = D at *
  generalize hk : st.ls.length = k at *
  generalize hsu : st.u = su at *
  generalize hsx : st.x = sx at *
  generalize hsh : st.h = sh at *
  generalize hsd : st.dg = sd at *
  go_enter Tryz.func69, Tryz.ntmps69
  go_upto_region 3 with fail
  generalize hV : w.alloc (.cells #[.int .i64 0, .int .i64 0, .slice none 0 0] 29) = V at *
  have d0 := cell_of_row _ _ 0 _ _ _ RR.out
  have d1 := cell_of_row _ _ 1 _ _ _ RR.out
  have d2 := cell_of_row _ _ 2 _ _ _ RR.out
  have d3 := cell_of_row _ _ 3 _ _ _ RR.out
  have d4 := cell_of_row _ _ 4 _ _ _ RR.out
  simp at d0 d1 d2 d3 d4
  clear hV c0 c1 c2 c3 c4
  go_cut [4] from 5 (fun s4 wx => s4 = .pointer (some ⟨w.heap.size + 1, 0, none⟩) ∧ Below V.heap.size V wx ∧ wx.heap[w.heap.size + 1]? = some (.cells #[.int .i64 vu, .int .i64 vx, .slice (some ⟨g, 0, none⟩) k cap] 29 (0, 0)))
  case first =>
    clear HWH HOF HF8 HF7 HF0 RN BN RR OO TT d2 d4 e0 e1 e2 hl0 hdg lu lx
    go_region_held3 (fun w' => w'.cell? ⟨bR, 0, none⟩ = some (.string su) ∧ w'.cell? ⟨bR, 1, none⟩ = some (.string sx) ∧ w'.cell? ⟨bR, 3, none⟩ = some (.slice (some ⟨g, 0, none⟩) k cap)) (go_keep)
      (first
        | (go_at_call_of 94 (Value.string su); refine (HV.out _).mono ?_; rintro e w3 ⟨rfl, rfl⟩)
        | (go_at_call_of 94 (Value.string sx); refine (HX.out _).mono ?_; rintro e w3 ⟨rfl, rfl⟩))
    all_goals
      go_wp2_with fail
      go_meet
      case rel => exact ⟨rfl, ((Below.refl _ _).alloc (Nat.le_refl _) _).drew, by rw [← hz]; exact heap_alloc_new _ _⟩
  case rest =>
    obtain ⟨rfl, bel3, row3⟩ := hcut
    rename World => W1
    have BE1 := hid' (BN.out.trans (bel3.mono (by omega)))
    have RR1 := hid' ((bel3.block _ (lt_of_heap RR.out)).trans RR.out)
    have OO1 := hid' (own_down OO.out bel3)
    have TT1 := hid' (TT.out.below bel3)
    have RN1 := hid' ((bel3.block _ (lt_of_heap RN.out)).trans RN.out)
    have k0 := cell_of_row _ _ 0 _ _ _ row3
    have k1 := cell_of_row _ _ 1 _ _ _ row3
    have k2 := cell_of_row _ _ 2 _ _ _ row3
    simp at k0 k1 k2
    have HR3 := hid' row3
    have HWH1 := hid' (HWH.out W1 (.slice (some ⟨g, 0, none⟩) k cap) (by have := held_of (ls := st.ls) (by rw [hk]; exact OO1.out); exact this))
    clear bel3 row3 d0 d1 d2 d3 d4 HV HX RR OO TT RN BN HWH
    cases hwh : Tab.whole vu vx st.ls with
    | false =>
      rw [hwh] at HWH1
      have HD := hid' (HF8.out hwh)
      clear hwh
      go_wp2_with fail
      refine HWH1.out.mono ?_
      rintro e w4 ⟨rfl, hb4⟩
      have rn4 := (hb4.block _ (lt_of_heap RN1.out)).trans RN1.out
      have y0 := cell_of_row _ _ 0 _ _ _ rn4
      have y1 := cell_of_row _ _ 1 _ _ _ rn4
      have y2 := cell_of_row _ _ 2 _ _ _ rn4
      simp at y0 y1 y2
      have x0 := frozen_of_row _ _ 0 _ _ rn4
      have x1 := frozen_of_row _ _ 1 _ _ rn4
      have x2 := frozen_of_row _ _ 2 _ _ rn4
      have RN4 := hid' rn4
      have BE4 := hid' (BE1.out.trans (hb4.mono BE1.out.size))
      clear rn4 hb4 k0 k1 k2
      go_wp2
      refine bodyPost_ret (results_row_tmp (p := 2) (u := 3) rfl _ _ w.heap.size #[.int .i64 0, .int .i64 0, .slice none 0 0] rfl (load_table (zero3_row RN4.out) rfl)) rfl ?_
      rw [HD.out]
      exact ⟨.slice none 0 0, rfl, World.ownsRow_nil _ _ _ _, below3 BE4.out (Nat.le_refl _)⟩
    | true =>
      rw [hwh] at HWH1
      have HF7' := hid' (HF7.out hwh)
      have HF0' := hid' (HF0.out hwh)
      clear hwh HF7 HF0 HF8
      go_wp2_with fail
      refine HWH1.out.mono ?_
      rintro e W2 ⟨rfl, hb4⟩
      have RN2 := hid' ((hb4.block _ (lt_of_heap RN1.out)).trans RN1.out)
      have RR2 := hid' ((hb4.block _ (lt_of_heap RR1.out)).trans RR1.out)
      have R32 := hid' ((hb4.block _ (lt_of_heap HR3.out)).trans HR3.out)
      have OO2 := hid' (own_down OO1.out hb4)
      have TT2 := hid' (TT1.out.below hb4)
      have BE2 := hid' (BE1.out.trans (hb4.mono BE1.out.size))
      have m2 := cell_of_row _ _ 2 _ _ _ RR2.out
      have m4 := cell_of_row _ _ 4 _ _ _ RR2.out
      simp at m2 m4
      clear hb4 k0 k1 k2 RN1 RR1 OO1 TT1 BE1 HR3 HWH1
      go_upto_region 6 with fail
      go_cut [61] from 5 (fun s61 wx => s61 = .bool (decide (¬ D = sh)) ∧ Below W2.heap.size W2 wx)
      case first =>
        have hbR2 := lt_of_heap RR2.out
        clear HF7' HF0' RN2 RR2 R32 OO2 BE2 e0 e1 e2 hl0 lu lx
        go_region_held3 (fun w' => w'.cell? ⟨bR, 2, none⟩ = some (.string sh) ∧ w'.cell? ⟨bR, 4, none⟩ = some (.string sd)) (go_keep)
          (first
            | (go_at_call 66; refine (HOF.out _ (by exact TT2.out.below (Below.refl _ W2).drew)).mono ?_; rintro e w3 ⟨rfl, hb⟩; have n2 := (hb.cell (p := ⟨bR, 2, none⟩) (by exact hbR2)).trans m2; have n4 := (hb.cell (p := ⟨bR, 4, none⟩) (by exact hbR2)).trans m4; have HB := hid' hb; clear hb))
        all_goals
          go_wp2_with fail
          go_meet
          case rel => exact ⟨by rw [str_eq]; simp, (Below.refl _ W2).drew.trans HB.out⟩
      case rest =>
        obtain ⟨rfl, bel6⟩ := hcut
        rename World => W3
        have rn := (bel6.block _ (lt_of_heap RN2.out)).trans RN2.out
        have r3 := (bel6.block _ (lt_of_heap R32.out)).trans R32.out
        have OO3 := hid' (own_down OO2.out bel6)
        have BE3 := hid' (BE2.out.trans (bel6.mono BE2.out.size))
        have y0 := cell_of_row _ _ 0 _ _ _ rn
        have y1 := cell_of_row _ _ 1 _ _ _ rn
        have y2 := cell_of_row _ _ 2 _ _ _ rn
        simp at y0 y1 y2
        have x0 := frozen_of_row _ _ 0 _ _ rn
        have x1 := frozen_of_row _ _ 1 _ _ rn
        have x2 := frozen_of_row _ _ 2 _ _ rn
        have k0 := cell_of_row _ _ 0 _ _ _ r3
        have k1 := cell_of_row _ _ 1 _ _ _ r3
        have k2 := cell_of_row _ _ 2 _ _ _ r3
        simp at k0 k1 k2
        have RN3 := hid' rn
        clear rn r3 bel6 m2 m4 RN2 RR2 R32 OO2 TT2 BE2
        by_cases hD : D = sh
        · have hDd : decide (¬ D = sh) = false := by simp [hD]
          have HD := hid' (HF0'.out hD)
          rw [hDd]
          clear hD hDd
          go_wp2
          refine bodyPost_ret (results_row_tmp (p := 2) (u := 3) rfl _ _ w.heap.size #[.int .i64 vu, .int .i64 vx, .slice (some ⟨g, 0, none⟩) k cap] rfl (load_table (zero3_row RN3.out) rfl)) rfl ?_
          rw [HD.out]
          refine ⟨.slice (some ⟨g, 0, none⟩) k cap, rfl, ?_, below3 BE3.out (Nat.le_refl _)⟩
          have := own3 (x := .int .i64 vu) (y := .int .i64 vx) (z := .slice (some ⟨g, 0, none⟩) k cap) RN3.out OO3.out (by decide)
          simp only [hk]
          exact this
        · have hDd : decide (¬ D = sh) = true := by simp [hD]
          have HD := hid' (HF7'.out hD)
          rw [hDd]
          clear hD hDd
          go_wp2
          refine bodyPost_ret (results_row_tmp (p := 2) (u := 3) rfl _ _ w.heap.size #[.int .i64 0, .int .i64 0, .slice none 0 0] rfl (load_table (zero3_row RN3.out) rfl)) rfl ?_
          rw [HD.out]
          exact ⟨.slice none 0 0, rfl, World.ownsRow_nil _ _ _ _, below3 BE3.out (Nat.le_refl _)⟩
theorem results_ctt {fn : Func} {p u v : Tmp} {ty : TypeId} (h : fn.results = #[.cell p ty, .tmp u, .tmp v]) (tmps : Array Value) (P : Program) (w : World) :
    (results fn tmps).run P w =
      ((asAddr (tmps.getD p undef)).run P w).andThen fun a w₁ => ((loadVar ty a).run P w₁).andThen fun x w₂ => .ok (.tuple #[x, tmps.getD u undef, tmps.getD v undef]) w₂ := by
  simp only [results, h]
  simp [Sem.run_bind, Result.andThen]
theorem results_row_tt {fn : Func} {p u v : Tmp} {ty : TypeId} {P : Program} (h : fn.results = #[.cell p ty, .tmp u, .tmp v]) (tmps : Array Value) (w : World) (g : Nat) (cs : Array Value)
    (hp : tmps.getD p undef = .pointer (some ⟨g, 0, none⟩)) (hl : (loadVar ty ⟨g, 0, none⟩).run P w = .ok (.agg cs) w) :
    (results fn tmps).run P w = .ok (.tuple #[.agg cs, tmps.getD u undef, tmps.getD v undef]) w := by
  rw [results_ctt h, hp]
  simp [asAddr, hl, Result.andThen]
/-- What Parse answers. -/
def PGot (w : World) (gt : Txt.Got) (e : Ending) (w' : World) : Prop := ∃ lv, e = .returned (.tuple #[.agg #[.int .i64 gt.up, .int .i64 gt.ex, lv], .int .i64 gt.err, .int .i64 gt.num]) ∧ w'.ownsRow w.heap.size 49 2 lv gt.ls.length (flat gt.ls) ∧ Below w.heap.size w w'
theorem pgot_no {w w' : World} {e : Int} {m : Nat} {en : Ending} (h : en = .returned (.tuple #[.agg #[.int .i64 0, .int .i64 0, .slice none 0 0], .int .i64 e, .int .i64 m])) (hb : Below w.heap.size w w') : PGot w ⟨0, 0, [], e, m⟩ en w' :=
  ⟨.slice none 0 0, h, World.ownsRow_nil _ _ _ _, hb⟩
theorem own_wide {w : World} {B B' e size n : Nat} {v : Value} {xs : List Value} (h : w.ownsRow B e size v n xs) (hb : B' ≤ B) : w.ownsRow B' e size v n xs := by
  refine ⟨h.1, ?_⟩
  rcases h.2 with h | ⟨g, cap, cur, rfl, a, r⟩
  · exact .inl h
  · exact .inr ⟨g, cap, cur, rfl, by omega, r⟩
/-- Between two lines of the loop. -/
structure PMid (w : World) (t : ByteArray) (n b : Nat) (st : Txt.St) (wr : World) : Prop where
  rd : Rd wr (w.heap.size + 1) st
  ok : Txt.Ok st n
  nb : n ≤ b
  b1 : b ≤ t.size + 1
  run : ∃ f, t.size + 2 - b ≤ f ∧ Txt.run t (t.size + 2) 0 0 Txt.st0 = Txt.run t f b n st
  row : wr.heap[w.heap.size]? = some (.cells #[.int .i64 0, .int .i64 0, .slice none 0 0] 29 (0, 0))
  bel : Below w.heap.size w wr
theorem rd_start (w : World) : Rd ((w.alloc (.cells #[.int .i64 0, .int .i64 0, .slice none 0 0] 29)).alloc (.cells #[.string ⟨#[]⟩, .string ⟨#[]⟩, .string ⟨#[]⟩, .slice none 0 0, .string ⟨#[]⟩] 114)) (w.heap.size + 1) Txt.st0 :=
  ⟨.slice none 0 0, heap_alloc2_new _ _ _, World.ownsRow_nil _ _ _ _⟩
theorem done_num (st : Txt.St) : (Txt.done st).num = 0 := by unfold Txt.done; split <;> rfl
set_option maxRecDepth 100000 in
set_option maxHeartbeats 6400000 in
theorem file_parse (t : ByteArray) (w : World) (hs : t.size ≤ 1000000) (hT : Table w) :
    Calls Tryz.prog 43 #[.string t] w fun e w' => PGot w (Txt.parse t) e w' := by
  have RN := hid' (heap_alloc_new w (.cells #[.int .i64 0, .int .i64 0, .slice none 0 0] 29))
  have BN := hid' ((Below.refl w.heap.size w).alloc (Nat.le_refl _) (.cells #[.int .i64 0, .int .i64 0, .slice none 0 0] 29))
  by_cases hbig : 2000 < t.size
  · have HP : Hid (Txt.parse t = ⟨0, 0, [], 2, 0⟩) := by show _ = _; unfold Txt.parse; rw [if_pos hbig]
    clear hT
    go_enter Tryz.func43, Tryz.ntmps43
    go_wp2
    refine bodyPost_ret (results_row_tt (p := 2) (u := 3) (v := 4) rfl _ _ w.heap.size #[.int .i64 0, .int .i64 0, .slice none 0 0] rfl (load_table RN.out rfl)) rfl ?_
    rw [HP.out]
    exact pgot_no rfl BN.out
  have HT := hid' hT
  clear hT
  have RF0 := hid' (rd_start w)
  have R0 := hid' (heap_alloc2_old w (.cells #[.int .i64 0, .int .i64 0, .slice none 0 0] 29) (.cells #[.string ⟨#[]⟩, .string ⟨#[]⟩, .string ⟨#[]⟩, .slice none 0 0, .string ⟨#[]⟩] 114))
  have B0 := hid' (BN.out.alloc (by simp) (.cells #[.string ⟨#[]⟩, .string ⟨#[]⟩, .string ⟨#[]⟩, .slice none 0 0, .string ⟨#[]⟩] 114))
  have HPE : Hid (¬ (Txt.run t (t.size + 2) 0 0 Txt.st0).1 = 0 → Txt.parse t = ⟨0, 0, [], (Txt.run t (t.size + 2) 0 0 Txt.st0).1, (Txt.run t (t.size + 2) 0 0 Txt.st0).2.1⟩) := fun h => by unfold Txt.parse; rw [if_neg hbig, if_neg h]
  have HPD : Hid ((Txt.run t (t.size + 2) 0 0 Txt.st0).1 = 0 → Txt.parse t = Txt.done (Txt.run t (t.size + 2) 0 0 Txt.st0).2.2) := fun h => by unfold Txt.parse; rw [if_neg hbig, if_pos h]
  go_enter Tryz.func43, Tryz.ntmps43
  go_wp2_with fail
  go_loopw [6, 7, 8, 9] (fun b n _ _ wr => ∃ (bb nn : Nat) (st : Txt.St), b = .int .i64 bb ∧ n = .int .i64 nn ∧ PMid w t nn bb st wr) (fun b _ _ _ _ => t.size + 1 - (intOf b).toNat)
  case atStart => exact ⟨0, 0, Txt.st0, rfl, rfl, ⟨RF0.out, Txt.Ok.start, Nat.le_refl _, by omega, ⟨t.size + 2, by omega, rfl⟩, R0.out, B0.out⟩⟩
  case round =>
    clear RF0 R0 B0 RN BN
    obtain ⟨b, n, st, rfl, rfl, hM⟩ := hrel
    have b1 := hM.b1
    have nb := hM.nb
    have HM := hid' hM
    clear hM
    by_cases hb : b ≤ t.size
    · have hel := Txt.eol_bd t b hb
      have HEL := hid' (line_end t b wr hb (by omega))
      obtain ⟨i, hi⟩ : ∃ i, Txt.eol t b = i := ⟨_, rfl⟩
      rw [hi] at hel HEL
      have HI := hid' hi
      clear hi
      have hx : (t.extract b i).size ≤ 90000 := by rw [ByteArray.size_extract]; omega
      have HLN := hid' (take_line (w.heap.size + 1) st (t.extract b i) wr n HM.out.rd HM.out.ok (by omega) hx)
      have HROW0 := hid' HM.out.row
      have HBEL0 := hid' HM.out.bel
      obtain ⟨f, hf, hrun⟩ := HM.out.run
      obtain ⟨f', rfl⟩ : ∃ f', f = f' + 1 := ⟨f - 1, by omega⟩
      by_cases he : (Txt.line st (t.extract b i)).1 = 0
      · have hr2 : Txt.run t (t.size + 2) 0 0 Txt.st0 = Txt.run t f' (i + 1) (n + 1) (Txt.line st (t.extract b i)).2 := by
          rw [hrun, Txt.run_go (by omega) (by rw [HI.out]; exact he), HI.out]
        have HR2 := hid' hr2
        have HOK2 := hid' (HM.out.ok.line _ he)
        rw [he] at HLN
        clear hrun hr2 he
        generalize (Txt.line st (t.extract b i)).2 = st' at *
        go_wp2_with fail
        refine HEL.out.mono ?_
        rintro e w2 ⟨rfl, rfl⟩
        go_wp2_with fail
        refine HLN.out.mono ?_
        rintro e w3 ⟨rfl, hrd, hb3⟩
        have RD3 := hid' (hrd trivial)
        have ROW3 := hid' ((hb3.block _ (by omega)).trans HROW0.out)
        have BEL3 := hid' (HBEL0.out.trans (hb3.mono (by omega)))
        clear hrd hb3
        go_wp2
        go_roundw
        case rel => exact ⟨i + 1, n + 1, st', by go_num, by go_num, ⟨RD3.out, HOK2.out, by omega, by omega, ⟨f', by omega, HR2.out⟩, ROW3.out, BEL3.out⟩⟩
        case measure => simp [intOf]; omega
      · have hr2 : Txt.run t (t.size + 2) 0 0 Txt.st0 = ((Txt.line st (t.extract b i)).1, n, st) := by
          rw [hrun, Txt.run_err (by omega) (by rw [HI.out]; exact he), HI.out]
        have hp := HPE.out (by rw [hr2]; exact he)
        rw [hr2] at hp
        have HP := hid' hp
        have qe : ((Txt.line st (t.extract b i)).1 != 0) = true := bne_iff_ne.2 he
        clear hrun hr2 hp he
        generalize hG : Txt.line st (t.extract b i) = G at *
        obtain ⟨er, st'⟩ := G
        simp only at qe HLN HP
        clear hG
        go_wp2_with fail
        refine HEL.out.mono ?_
        rintro e w2 ⟨rfl, rfl⟩
        go_wp2_with fail
        refine HLN.out.mono ?_
        rintro e w3 ⟨rfl, hrd, hb3⟩
        have row3 := (hb3.block _ (by omega)).trans HROW0.out
        have BEL3 := hid' (HBEL0.out.trans (hb3.mono (by omega)))
        have y0 := cell_of_row _ _ 0 _ _ _ row3
        have y1 := cell_of_row _ _ 1 _ _ _ row3
        have y2 := cell_of_row _ _ 2 _ _ _ row3
        simp at y0 y1 y2
        have x0 := frozen_of_row _ _ 0 _ _ row3
        have x1 := frozen_of_row _ _ 1 _ _ row3
        have x2 := frozen_of_row _ _ 2 _ _ row3
        have ROW3 := hid' row3
        clear hrd hb3 row3
        go_wp2
        refine bodyPost_ret (results_row_tt (p := 2) (u := 3) (v := 4) rfl _ _ w.heap.size #[.int .i64 0, .int .i64 0, .slice none 0 0] rfl (load_table (zero3_row ROW3.out) rfl)) rfl ?_
        rw [HP.out]
        exact pgot_no rfl (below3 BEL3.out (Nat.le_refl _))
    · obtain ⟨f, hf, hrun⟩ := HM.out.run
      rw [Txt.run_end hb] at hrun
      have hp := HPD.out (by rw [hrun])
      rw [hrun] at hp
      have HP := hid' hp
      have HNUM := hid' (done_num st)
      have hnb : ¬ (b : Int) ≤ (t.size : Int) := by omega
      have HTR := hid' (HT.out.below HM.out.bel)
      have HFI : Hid (Calls Tryz.prog 69 #[.pointer (some ⟨w.heap.size + 1, 0, none⟩)] wr fun e w' => FinSaid wr (w.heap.size + 1) (Txt.done st) e w') := by
        by_cases hmiss : st.u = Txt.em ∨ st.x = Txt.em ∨ st.h = Txt.em ∨ st.ls.length = 0
        · exact finish_missing _ st wr HM.out.rd hmiss
        · exact finish_full _ st wr n HM.out.rd HM.out.ok (by omega) HTR.out (fun h => hmiss (.inl h)) (fun h => hmiss (.inr (.inl h))) (fun h => hmiss (.inr (.inr (.inl h)))) (fun h => hmiss (.inr (.inr (.inr h))))
      have HROW0 := hid' HM.out.row
      have HBEL0 := hid' HM.out.bel
      clear hrun hp HM HPE HPD HT HTR
      go_wp2_with fail
      refine HFI.out.mono ?_
      rintro e w3 ⟨lv, rfl, hown, hb3⟩
      have row3 := (hb3.block _ (lt_of_heap HROW0.out)).trans HROW0.out
      have hbw := HBEL0.out.size
      have hsz3 := hb3.size
      have hlt3 := lt_of_heap row3
      have BEL3 := hid' (HBEL0.out.trans (hb3.mono hbw))
      have OW3 := hid' hown
      have RR := hid' row3
      have y0 := cell_of_row _ _ 0 _ _ _ row3
      have y1 := cell_of_row _ _ 1 _ _ _ row3
      have y2 := cell_of_row _ _ 2 _ _ _ row3
      simp at y0 y1 y2
      have x0 := frozen_of_row _ _ 0 _ _ row3
      have x1 := frozen_of_row _ _ 1 _ _ row3
      have x2 := frozen_of_row _ _ 2 _ _ row3
      have hlv : ∃ ao l c, lv = .slice ao l c := by
        rcases hown.2 with ⟨h, _⟩ | ⟨g, cap, cur, h, _⟩
        · exact ⟨_, _, _, h⟩
        · exact ⟨_, _, _, h⟩
      obtain ⟨ao, ll, cc, rfl⟩ := hlv
      clear hown hb3 row3
      generalize hgt : Txt.done st = gt at *
      obtain ⟨gu, gx, gl, ge, gn⟩ := gt
      simp only at *
      have HGN : Hid (gn = 0) := HNUM.out
      have HP' : Hid (Txt.parse t = ⟨gu, gx, gl, ge, 0⟩) := by show _ = _; rw [HP.out, HGN.out]
      clear hgt HNUM HP
      go_wp2
      have hrowE := zero3_row (x := .int .i64 gu) (y := .int .i64 gx) (z := .slice ao ll cc) RR.out
      refine bodyPost_ret (results_row_tt (p := 2) (u := 3) (v := 4) rfl _ _ w.heap.size #[.int .i64 gu, .int .i64 gx, .slice ao ll cc] rfl (load_table ((Below.heap_alloc _ _ _ (lt_of_heap hrowE)).trans hrowE) rfl)) rfl ?_
      rw [HP'.out]
      have hb9 := below3 (x := .int .i64 gu) (y := .int .i64 gx) (z := .slice ao ll cc) BEL3.out (Nat.le_refl _)
      exact ⟨.slice ao ll cc, rfl, own_wide ((own3 RR.out OW3.out (by decide)).alloc _) (by omega), hb9.alloc hb9.size _⟩
end Go.Proofs.YtmmkhodaljpjgabGreatDoor
