import Derived.Test.YtmmkhodaljpjgaaDoorSched
namespace Go.Proofs.YtmmkhodaljpjgaaDoor
open Go.RowKit

theorem zero5 : (∀ w, (zeroValue 42).run Tryd.prog w = .ok (.agg (zeros 5)) w) ∧ (Tryd.prog.info? 42).map (·.size) = some 5 :=
  zero_of_info (by kernel_rfl)

/-- The constants' table, as it was laid. -/
structure Table (w : World) : Prop where
  c0 : w.cell? ⟨0, 0, none⟩ = some (.int .u32 1518500249)
  c1 : w.cell? ⟨0, 1, none⟩ = some (.int .u32 1859775393)
  c2 : w.cell? ⟨0, 2, none⟩ = some (.int .u32 2400959708)
  c3 : w.cell? ⟨0, 3, none⟩ = some (.int .u32 3395469782)

theorem Table.at' {w : World} (h : Table w) (t : Nat) (ht : t < 80) : w.cell? ⟨0, t / 20, none⟩ = some (.int .u32 (Sha.K t)) := by
  unfold Sha.K
  by_cases c0 : t < 20
  · rw [if_pos c0, show t / 20 = 0 from by omega]; exact h.c0
  by_cases c1 : t < 40
  · rw [if_neg c0, if_pos c1, show t / 20 = 1 from by omega]; exact h.c1
  by_cases c2 : t < 60
  · rw [if_neg c0, if_neg c1, if_pos c2, show t / 20 = 2 from by omega]; exact h.c2
  · rw [if_neg c0, if_neg c1, if_neg c2, show t / 20 = 3 from by omega]; exact h.c3

theorem Table.pos {w : World} (h : Table w) : 0 < w.heap.size := block_lt_of_cell h.c0

theorem Table.below {w w' : World} (h : Table w) (hb : Below w.heap.size w w') : Table w' := by
  have hp := h.pos
  exact ⟨by rw [hb.cell hp]; exact h.c0, by rw [hb.cell hp]; exact h.c1, by rw [hb.cell hp]; exact h.c2, by rw [hb.cell hp]; exact h.c3⟩

set_option maxRecDepth 100000 in
set_option maxHeartbeats 1000000 in
theorem mix_any (x : Sha.St) (l : List Int) (w : World) (hx : x.Ok) (hl : l.length = 80) (hlb : ∀ j, 0 ≤ l.getD j 0 ∧ l.getD j 0 < 4294967296) (hT : Table w) :
    Calls Tryd.prog 17 #[.agg #[.int .u32 x.a, .int .u32 x.b, .int .u32 x.c, .int .u32 x.d, .int .u32 x.e], .agg (l.map (Value.int .u32)).toArray] w fun q w' => q = .returned (.agg (Sha.mixed l x).cells) ∧ Below w.heap.size w w' := by
  have hz := zero5.1
  have hp := hT.pos
  generalize hcs : (l.map (Value.int .u32)).toArray = cs
  have hsz : cs.size = 80 := by rw [← hcs]; simp [hl]
  have hat : ∀ j, j < 80 → cs[j]? = some (.int .u32 (l.getD j 0)) := by
    intro j hj
    rw [← hcs]
    simp [List.getD_eq_getElem?_getD, hl, hj]
  clear hcs
  have HAT := hid hat
  have HLB := hid hlb
  have HT := hid hT
  have HX := hid hx
  have HSZ := hid hsz
  clear hat hlb hT hl hx hsz
  go_enter Tryd.func17, Tryd.ntmps17
  go_wp2_with fail
  go_quiet (fail)
  go_wp2_with fail
  clear hz
  go_loopw [5, 6, 7, 8, 9, 10, 11, 12] (fun a b c d e i _ _ wr => ∃ t n : Nat, t ≤ 80 ∧ i = .int .i64 t ∧ a = .int .u32 (Sha.rounds l x t).a ∧ b = .int .u32 (Sha.rounds l x t).b ∧ c = .int .u32 (Sha.rounds l x t).c ∧ d = .int .u32 (Sha.rounds l x t).d ∧ e = .int .u32 (Sha.rounds l x t).e
      ∧ wr = (((w.alloc (.cells #[.int .u32 x.a, .int .u32 x.b, .int .u32 x.c, .int .u32 x.d, .int .u32 x.e] 42)).alloc (.cells cs 44)).alloc (.cells (zeros 5) 42)).drewN n) (fun _ _ _ _ _ i _ _ _ => 80 - (intOf i).toNat)
  case atStart => exact ⟨0, nq, by omega, rfl, rfl, rfl, rfl, rfl, rfl, rfl⟩
  case round =>
    obtain ⟨t, n, ht, rfl, rfl, rfl, rfl, rfl, rfl, rfl⟩ := hrel
    by_cases hlt : t < 80
    · have hok := Sha.rounds_ok l x HX.out t
      have HR : Hid (Sha.rounds l x (t + 1) = Sha.step (Sha.rounds l x t) t (l.getD t 0)) := rfl
      have g := HAT.out t hlt
      have gb := HLB.out t
      have hk : (((w.alloc (.cells #[.int .u32 x.a, .int .u32 x.b, .int .u32 x.c, .int .u32 x.d, .int .u32 x.e] 42)).alloc (.cells cs 44)).alloc (.cells (zeros 5) 42)).cell? ⟨0, t / 20, none⟩ = some (.int .u32 (Sha.K t)) := by
        refine (Table.below HT.out ?_).at' t hlt
        exact ((((Below.refl _ _).alloc (Nat.le_refl _) _).alloc (by simp) _).alloc (by simp; omega) _)
      obtain ⟨q, hq⟩ : ∃ q, t / 20 = q := ⟨_, rfl⟩
      have hq4 : (q : Int) < 4 := by omega
      have hqw : IntKind.i64.wrap ((t : Int) / 20) = (q : Int) := by rw [IntKind.wrap_i64]; omega
      rw [hq] at hk
      clear hq
      generalize Sha.rounds l x t = y at *
      obtain ⟨a, b, c, d, e⟩ := y
      generalize l.getD t 0 = wt at *
      have HK : Hid (Sha.K t = Sha.K t) := rfl
      generalize hkt : Sha.K t = kt at *
      have HKT := hid hkt
      clear hkt HK
      obtain ⟨ha, hb, hc, hd, he⟩ := hok
      simp only at ha hb hc hd he
      go_wp2_with (go_at_call 27; refine (combine_any t _ _ _ _ hlt).mono ?_; rintro q w' ⟨rfl, rfl⟩)
      go_quiet (fail)
      go_wp2
      refine ⟨⟨t + 1, n + nq, by omega, by go_num, ?_, ?_, ?_, ?_, ?_, rfl⟩, by simp [intOf]; omega⟩
      · rw [HR.out]
        simp only [Sha.step, Sha.rol5, HKT.out]
        congr 1
        omega
      · rw [HR.out]; rfl
      · rw [HR.out]; rfl
      · rw [HR.out]; rfl
      · rw [HR.out]; rfl
    · have e80 : t = 80 := by omega
      subst e80
      have G : Hid (((((w.alloc (.cells #[.int .u32 x.a, .int .u32 x.b, .int .u32 x.c, .int .u32 x.d, .int .u32 x.e] 42)).alloc (.cells cs 44)).alloc (.cells (zeros 5) 42)).drewN n).heap[w.heap.size + 1 + 1]? = some (.cells (zeros 5) 42 (0, 0))) := by
        have e2 : ((w.alloc (.cells #[.int .u32 x.a, .int .u32 x.b, .int .u32 x.c, .int .u32 x.d, .int .u32 x.e] 42)).alloc (.cells cs 44)).heap.size = w.heap.size + 1 + 1 := by simp
        show (((w.alloc (.cells #[.int .u32 x.a, .int .u32 x.b, .int .u32 x.c, .int .u32 x.d, .int .u32 x.e] 42)).alloc (.cells cs 44)).alloc (.cells (zeros 5) 42)).heap[w.heap.size + 1 + 1]? = _
        rw [← e2]; exact heap_alloc_new _ _
      have I : Hid ((Tryd.prog.info? 42).map (·.size) = some (Sha.mixed l x).cells.size) := zero5.2
      have H1 : Hid ((Sha.mixed l x).cells.all (·.oneCell') = true) := by show _ = _; simp [Sha.St.cells, Value.oneCell']
      have HB := hid (below_drewN ((((Below.refl w.heap.size w).alloc (Nat.le_refl _) (.cells #[.int .u32 x.a, .int .u32 x.b, .int .u32 x.c, .int .u32 x.d, .int .u32 x.e] 42)).alloc (by simp) (.cells cs 44)).alloc (by simp; omega) (.cells (zeros 5) 42)) n)
      go_wp2_with ((with_reducible refine wpl_store (g := w.heap.size + 1 + 1) (cells := (Sha.mixed l x).cells) G.out I.out ?_ H1.out ?_ ?_ ?_); (rw [zeros_size]; exact rfl); exact rfl; exact rfl)
      refine bodyPost_ret (v := .agg (Sha.mixed l x).cells) (results_cell_row rfl _ _ (w.heap.size + 1 + 1) 42 (Sha.mixed l x).cells (0, 0) _ rfl (setRow_heap _ _ _ _ _ _ G.out) Tryd.underlying42 rfl I.out) rfl ?_
      exact ⟨rfl, below_setRow HB.out (by omega)⟩

end Go.Proofs.YtmmkhodaljpjgaaDoor
