import Derived.Test.YtmmkhodaljpjgaaGreatDoorLeaf
import Derived.BigQuiet
import Derived.Deep.QuietTactic
import Derived.Deep.WholeRow
import Derived.Deep.Draws
import Derived.WalkSmall
namespace Go.Proofs.YtmmkhodaljpjgaaGreatDoor
open Go.RowKit

def zeros (n : Nat) : Array Value := (List.replicate n (Value.int .u32 0)).toArray
theorem zeros_size (n : Nat) : (zeros n).size = n := by simp [zeros]

theorem zero80 : (∀ w, (zeroValue 135).run Tryz.prog w = .ok (.agg (zeros 80)) w) ∧ (Tryz.prog.info? 135).map (·.size) = some 80 :=
  zero_of_info (by kernel_rfl)

/-- An array holds a list's words at its first n places. -/
structure Has (cs : Array Value) (n : Nat) (l : List Int) : Prop where
  size : cs.size = 80
  at' : ∀ j, j < n → cs[j]? = some (.int .u32 (l.getD j 0))

theorem Has.start : Has (zeros 80) 0 [] := ⟨zeros_size 80, fun j h => absurd h (Nat.not_lt_zero j)⟩

theorem Has.put {cs : Array Value} {s : ByteArray} {b e : Int} {n : Nat} (h : Has cs n (Sha.wl s b e n)) (hn : n < 80) :
    Has (cs.setIfInBounds n (.int .u32 (Sha.nextW s b e (Sha.wl s b e n) n))) (n + 1) (Sha.wl s b e (n + 1)) := by
  refine ⟨by simp [h.size], fun j hj => ?_⟩
  by_cases e' : j = n
  · subst e'
    rw [Sha.wl_new]
    simp [h.size, hn]
  · rw [Sha.wl_old _ _ _ _ _ (by omega), Array.getElem?_setIfInBounds_ne (by omega)]
    exact h.at' j (by omega)

theorem Has.whole {cs : Array Value} {l : List Int} (h : Has cs 80 l) (hl : l.length = 80) : cs = (l.map (Value.int .u32)).toArray := by
  apply Array.ext_getElem?
  intro i
  by_cases hi : i < 80
  · rw [h.at' i hi]
    simp [List.getD_eq_getElem?_getD, hl, hi]
  · rw [Array.getElem?_eq_none (by have := h.size; omega), Array.getElem?_eq_none (by simp; omega)]

theorem words_one (l : List Int) : ((l.map (Value.int .u32)).toArray).all (·.oneCell') = true := by
  rw [Array.all_eq_true_iff_forall_mem]
  intro v hv
  simp at hv
  obtain ⟨x, _, rfl⟩ := hv
  rfl

theorem hid {p : Prop} (h : p) : Hid p := h

theorem wpl_load {P : Program} {ops : Array Oper} {rest : List Oper} {a : Act} {w : World} {Q : Exit → Act → World → Prop} {dst : Option Tmp} {ty tt : TypeId} {x : Operand} {pos : String} {after : Array Edge}
    {g : Nat} {t : TypeId} {cs : Array Value} {fr : Nat × Nat} {d : TypeDesc} (hg : w.heap[g]? = some (.cells cs t fr))
    (hu : P.underlying ty = some d) (hd : (match d with | .struct _ | .array _ _ => true | _ => false) = true) (hi : (P.info? ty).map (·.size) = some cs.size)
    (hx : a.eval x = .pointer (some ⟨g, 0, none⟩))
    (h : wpList P ops Q rest (a.put dst (.agg cs)) w) : wpList P ops Q ({ dst := dst, op := .load ty x, type := tt, pos := pos, after := after, guard := none } :: rest) a w :=
  wpList_load_row rfl ty x rfl g hx t cs fr d hg hu hd hi h

theorem wpl_store {P : Program} {ops : Array Oper} {rest : List Oper} {a : Act} {w : World} {Q : Exit → Act → World → Prop} {dst : Option Tmp} {ty tt : TypeId} {x y : Operand} {pos : String} {after : Array Edge}
    {g : Nat} {t : TypeId} {cells old : Array Value} (hg : w.heap[g]? = some (.cells old t (0, 0))) (hi : (P.info? ty).map (·.size) = some cells.size)
    (hold : old.size = cells.size) (h1 : cells.all (·.oneCell') = true) (hx : a.eval x = .pointer (some ⟨g, 0, none⟩)) (hy : a.eval y = .agg cells)
    (h : wpList P ops Q rest (a.put dst undef) (w.setRow g cells)) : wpList P ops Q ({ dst := dst, op := .store ty x y, type := tt, pos := pos, after := after, guard := none } :: rest) a w :=
  wpList_store_row rfl ty x y rfl g cells hx hy t old hg hi hold h1 h

theorem below_setRow {B g : Nat} {a w : World} {cs : Array Value} (h : Below B a w) (hg : B ≤ g) : Below B a (w.setRow g cs) :=
  h.trans ⟨rfl, rfl, rfl, by simp, fun i hi => setRow_other w g i cs (by omega)⟩

theorem set_drawn (W : World) (cs : Array Value) (t : TypeId) (n k g : Nat) (v : Value) (hg : g = W.heap.size) :
    ((W.alloc (.cells cs t)).drewN n).setCell ⟨g, k, none⟩ v = (W.alloc (.cells (cs.setIfInBounds k v) t)).drewN n := by
  rw [← World.setCell_alloc_at cs t g k v hg]; rfl

set_option maxRecDepth 100000 in
set_option maxHeartbeats 1000000 in
theorem sched_any (s : ByteArray) (b e : Int) (w : World) (h0 : 0 ≤ b) (h1 : b ≤ 1800000000) (h2 : 0 ≤ e) (h3 : e ≤ 2000000000) (hs : s.size ≤ 1000000000) :
    Calls Tryz.prog 73 #[.string s, .int .i64 b, .int .i64 e] w fun q w' => q = .returned (.agg ((Sha.wl s b e 80).map (Value.int .u32)).toArray) ∧ Below w.heap.size w w' := by
  have hz := zero80.1
  go_enter Tryz.func73, Tryz.ntmps73
  go_wp2
  clear hz
  go_loopw [8] (fun i wr => ∃ k : Nat, ∃ cs : Array Value, k ≤ 16 ∧ i = .int .i64 k ∧ wr = (w.alloc (.cells (zeros 80) 135)).alloc (.cells cs 135) ∧ Has cs k (Sha.wl s b e k)) (fun i _ => 16 - (intOf i).toNat)
  case atStart => exact ⟨0, _, by omega, rfl, rfl, Has.start⟩
  case round =>
    obtain ⟨k, cs, hk, rfl, rfl, hc⟩ := hrel
    by_cases hlt : k < 16
    · have hsz : cs.size = 80 := hc.size
      have HN : Hid (Has (cs.setIfInBounds k (.int .u32 (Sha.nextW s b e (Sha.wl s b e k) k))) (k + 1) (Sha.wl s b e (k + 1))) := hc.put (by omega)
      have HE : Hid (Sha.nextW s b e (Sha.wl s b e k) k = Sha.pword s (b + 4 * k) e) := by show _ = _; unfold Sha.nextW; rw [if_pos hlt]
      obtain ⟨v0, hv0⟩ : ∃ v, cs[k]? = some v := ⟨_, Array.getElem?_eq_getElem (by omega)⟩
      clear hc
      go_wp2_with (go_at_call 118; refine (word_any _ _ _ _ (by omega) (by omega) (by omega) (by omega) (by omega)).mono ?_; rintro q w' ⟨rfl, rfl⟩)
      exact ⟨⟨k + 1, _, by omega, by go_num, by rw [← HE.out], HN.out⟩, by simp [intOf]; omega⟩
    · have e16 : k = 16 := by omega
      subst e16
      clear hlt hk
      go_wp2
      go_loopw [9, 10] (fun i _ wr => ∃ k n : Nat, ∃ cs : Array Value, 16 ≤ k ∧ k ≤ 80 ∧ i = .int .i64 k ∧ wr = ((w.alloc (.cells (zeros 80) 135)).alloc (.cells cs 135)).drewN n ∧ Has cs k (Sha.wl s b e k)) (fun i _ _ => 80 - (intOf i).toNat)
      case atStart => exact ⟨16, 0, cs, by omega, by omega, rfl, rfl, hc⟩
      case round =>
        clear hc cs
        obtain ⟨k, n, cs, hk0, hk, rfl, rfl, hc⟩ := hrel
        by_cases hlt : k < 80
        · have hsz : cs.size = 80 := hc.size
          have HN : Hid (Has (cs.setIfInBounds k (.int .u32 (Sha.nextW s b e (Sha.wl s b e k) k))) (k + 1) (Sha.wl s b e (k + 1))) := hc.put hlt
          obtain ⟨v0, hv0⟩ : ∃ v, cs[k]? = some v := ⟨_, Array.getElem?_eq_getElem (by omega)⟩
          have g3 := hc.at' (k - 3) (by omega)
          have g8 := hc.at' (k - 8) (by omega)
          have g14 := hc.at' (k - 14) (by omega)
          have g16 := hc.at' (k - 16) (by omega)
          have HE : Hid (Sha.nextW s b e (Sha.wl s b e k) k = Sha.rol1 (bits .xor .u32 (bits .xor .u32 (bits .xor .u32 ((Sha.wl s b e k).getD (k - 3) 0) ((Sha.wl s b e k).getD (k - 8) 0)) ((Sha.wl s b e k).getD (k - 14) 0)) ((Sha.wl s b e k).getD (k - 16) 0))) := by show _ = _; unfold Sha.nextW; rw [if_neg (by omega)]
          clear hc
          generalize (Sha.wl s b e k).getD (k - 3) 0 = x3 at *
          generalize (Sha.wl s b e k).getD (k - 8) 0 = x8 at *
          generalize (Sha.wl s b e k).getD (k - 14) 0 = x14 at *
          generalize (Sha.wl s b e k).getD (k - 16) 0 = x16 at *
          go_wp2_with fail
          go_quiet (fail)
          go_wp2
          refine ⟨⟨k + 1, n + nq, _, by omega, by omega, by go_num, ?_, HN.out⟩, by simp [intOf]; omega⟩
          rw [HE.out]
          exact set_drawn (w.alloc (.cells (zeros 80) 135)) _ _ _ _ _ _ (by simp)
        · have e80 : k = 80 := by omega
          subst e80
          have hsz : cs.size = 80 := hc.size
          have HF : Hid (cs = ((Sha.wl s b e 80).map (Value.int .u32)).toArray) := hc.whole (Sha.wl_length s b e 80)
          have H1 : Hid (cs.all (·.oneCell') = true) := by show _ = _; rw [HF.out]; exact words_one _
          clear hc
          have hg1 : (((w.alloc (.cells (zeros 80) 135)).alloc (.cells cs 135)).drewN n).heap[w.heap.size + 1]? = some (.cells cs 135 (0, 0)) := heap_alloc2_new w _ _
          have hg0 : (((w.alloc (.cells (zeros 80) 135)).alloc (.cells cs 135)).drewN n).heap[w.heap.size]? = some (.cells (zeros 80) 135 (0, 0)) := heap_alloc2_old w _ _
          have hi : (Tryz.prog.info? 135).map (·.size) = some cs.size := by rw [hsz]; exact zero80.2
          have G1 := hid hg1
          have G0 := hid hg0
          have I := hid hi
          clear hg1 hg0 hi
          go_wp2_with (first
            | ((with_reducible refine wpl_load (g := w.heap.size + 1) G1.out Tryz.underlying135 ?_ I.out ?_ ?_); exact rfl; exact rfl)
            | ((with_reducible refine wpl_store (g := w.heap.size) G0.out I.out ?_ H1.out ?_ ?_ ?_); (rw [zeros_size, hsz]); exact rfl; exact rfl))
          refine bodyPost_ret (v := .agg cs) (results_cell_row rfl _ _ w.heap.size 135 cs (0, 0) _ rfl (setRow_heap _ _ _ _ _ _ G0.out) Tryz.underlying135 rfl I.out) rfl ?_
          refine ⟨by rw [HF.out], ?_⟩
          exact below_setRow (below_drewN (((Below.refl _ _).alloc (Nat.le_refl _) _).alloc (by simp) _) n) (Nat.le_refl _)

end Go.Proofs.YtmmkhodaljpjgaaGreatDoor

namespace Go.Proofs.YtmmkhodaljpjgaaGreatDoor
open Go.RowKit

theorem zero5 : (∀ w, (zeroValue 73).run Tryz.prog w = .ok (.agg (zeros 5)) w) ∧ (Tryz.prog.info? 73).map (·.size) = some 5 :=
  zero_of_info (by kernel_rfl)

/-- The constants' table, as it was laid. -/
structure Table (w : World) : Prop where
  c0 : w.cell? ⟨0, 0, none⟩ = some (.int .u32 1518500249)
  c1 : w.cell? ⟨0, 1, none⟩ = some (.int .u32 1859775393)
  c2 : w.cell? ⟨0, 2, none⟩ = some (.int .u32 2400959708)
  c3 : w.cell? ⟨0, 3, none⟩ = some (.int .u32 3395469782)

theorem Table.at' {w : World} (h : Table w) (t : Nat) (ht : t < 80) : w.cell? ⟨0, t / 20, none⟩ = some (.int .u32 (Sha.K t)) := by
  unfold Sha.K
  by_cases c0 : t < 20
  · rw [if_pos c0, show t / 20 = 0 from by omega]; exact h.c0
  by_cases c1 : t < 40
  · rw [if_neg c0, if_pos c1, show t / 20 = 1 from by omega]; exact h.c1
  by_cases c2 : t < 60
  · rw [if_neg c0, if_neg c1, if_pos c2, show t / 20 = 2 from by omega]; exact h.c2
  · rw [if_neg c0, if_neg c1, if_neg c2, show t / 20 = 3 from by omega]; exact h.c3

theorem Table.pos {w : World} (h : Table w) : 0 < w.heap.size := block_lt_of_cell h.c0

theorem Table.below {w w' : World} (h : Table w) (hb : Below w.heap.size w w') : Table w' := by
  have hp := h.pos
  exact ⟨by rw [hb.cell hp]; exact h.c0, by rw [hb.cell hp]; exact h.c1, by rw [hb.cell hp]; exact h.c2, by rw [hb.cell hp]; exact h.c3⟩

set_option maxRecDepth 100000 in
set_option maxHeartbeats 1000000 in
theorem mix_any (x : Sha.St) (l : List Int) (w : World) (hx : x.Ok) (hl : l.length = 80) (hlb : ∀ j, 0 ≤ l.getD j 0 ∧ l.getD j 0 < 4294967296) (hT : Table w) :
    Calls Tryz.prog 74 #[.agg #[.int .u32 x.a, .int .u32 x.b, .int .u32 x.c, .int .u32 x.d, .int .u32 x.e], .agg (l.map (Value.int .u32)).toArray] w fun q w' => q = .returned (.agg (Sha.mixed l x).cells) ∧ Below w.heap.size w w' := by
  have hz := zero5.1
  have hp := hT.pos
  generalize hcs : (l.map (Value.int .u32)).toArray = cs
  have hsz : cs.size = 80 := by rw [← hcs]; simp [hl]
  have hat : ∀ j, j < 80 → cs[j]? = some (.int .u32 (l.getD j 0)) := by
    intro j hj
    rw [← hcs]
    simp [List.getD_eq_getElem?_getD, hl, hj]
  clear hcs
  have HAT := hid hat
  have HLB := hid hlb
  have HT := hid hT
  have HX := hid hx
  have HSZ := hid hsz
  clear hat hlb hT hl hx hsz
  go_enter Tryz.func74, Tryz.ntmps74
  go_wp2_with fail
  go_quiet (fail)
  go_wp2_with fail
  clear hz
  go_loopw [5, 6, 7, 8, 9, 10, 11, 12] (fun a b c d e i _ _ wr => ∃ t n : Nat, t ≤ 80 ∧ i = .int .i64 t ∧ a = .int .u32 (Sha.rounds l x t).a ∧ b = .int .u32 (Sha.rounds l x t).b ∧ c = .int .u32 (Sha.rounds l x t).c ∧ d = .int .u32 (Sha.rounds l x t).d ∧ e = .int .u32 (Sha.rounds l x t).e
      ∧ wr = (((w.alloc (.cells #[.int .u32 x.a, .int .u32 x.b, .int .u32 x.c, .int .u32 x.d, .int .u32 x.e] 73)).alloc (.cells cs 135)).alloc (.cells (zeros 5) 73)).drewN n) (fun _ _ _ _ _ i _ _ _ => 80 - (intOf i).toNat)
  case atStart => exact ⟨0, nq, by omega, rfl, rfl, rfl, rfl, rfl, rfl, rfl⟩
  case round =>
    obtain ⟨t, n, ht, rfl, rfl, rfl, rfl, rfl, rfl, rfl⟩ := hrel
    by_cases hlt : t < 80
    · have hok := Sha.rounds_ok l x HX.out t
      have HR : Hid (Sha.rounds l x (t + 1) = Sha.step (Sha.rounds l x t) t (l.getD t 0)) := rfl
      have g := HAT.out t hlt
      have gb := HLB.out t
      have hk : (((w.alloc (.cells #[.int .u32 x.a, .int .u32 x.b, .int .u32 x.c, .int .u32 x.d, .int .u32 x.e] 73)).alloc (.cells cs 135)).alloc (.cells (zeros 5) 73)).cell? ⟨0, t / 20, none⟩ = some (.int .u32 (Sha.K t)) := by
        refine (Table.below HT.out ?_).at' t hlt
        exact ((((Below.refl _ _).alloc (Nat.le_refl _) _).alloc (by simp) _).alloc (by simp; omega) _)
      obtain ⟨q, hq⟩ : ∃ q, t / 20 = q := ⟨_, rfl⟩
      have hq4 : (q : Int) < 4 := by omega
      have hqw : IntKind.i64.wrap ((t : Int) / 20) = (q : Int) := by rw [IntKind.wrap_i64]; omega
      rw [hq] at hk
      clear hq
      generalize Sha.rounds l x t = y at *
      obtain ⟨a, b, c, d, e⟩ := y
      generalize l.getD t 0 = wt at *
      have HK : Hid (Sha.K t = Sha.K t) := rfl
      generalize hkt : Sha.K t = kt at *
      have HKT := hid hkt
      clear hkt HK
      obtain ⟨ha, hb, hc, hd, he⟩ := hok
      simp only at ha hb hc hd he
      go_wp2_with (go_at_call 119; refine (combine_any t _ _ _ _ hlt).mono ?_; rintro q w' ⟨rfl, rfl⟩)
      go_quiet (fail)
      go_wp2
      refine ⟨⟨t + 1, n + nq, by omega, by go_num, ?_, ?_, ?_, ?_, ?_, rfl⟩, by simp [intOf]; omega⟩
      · rw [HR.out]
        simp only [Sha.step, Sha.rol5, HKT.out]
        congr 1
        omega
      · rw [HR.out]; rfl
      · rw [HR.out]; rfl
      · rw [HR.out]; rfl
      · rw [HR.out]; rfl
    · have e80 : t = 80 := by omega
      subst e80
      have G : Hid (((((w.alloc (.cells #[.int .u32 x.a, .int .u32 x.b, .int .u32 x.c, .int .u32 x.d, .int .u32 x.e] 73)).alloc (.cells cs 135)).alloc (.cells (zeros 5) 73)).drewN n).heap[w.heap.size + 1 + 1]? = some (.cells (zeros 5) 73 (0, 0))) := by
        have e2 : ((w.alloc (.cells #[.int .u32 x.a, .int .u32 x.b, .int .u32 x.c, .int .u32 x.d, .int .u32 x.e] 73)).alloc (.cells cs 135)).heap.size = w.heap.size + 1 + 1 := by simp
        show (((w.alloc (.cells #[.int .u32 x.a, .int .u32 x.b, .int .u32 x.c, .int .u32 x.d, .int .u32 x.e] 73)).alloc (.cells cs 135)).alloc (.cells (zeros 5) 73)).heap[w.heap.size + 1 + 1]? = _
        rw [← e2]; exact heap_alloc_new _ _
      have I : Hid ((Tryz.prog.info? 73).map (·.size) = some (Sha.mixed l x).cells.size) := zero5.2
      have H1 : Hid ((Sha.mixed l x).cells.all (·.oneCell') = true) := by show _ = _; simp [Sha.St.cells, Value.oneCell']
      have HB := hid (below_drewN ((((Below.refl w.heap.size w).alloc (Nat.le_refl _) (.cells #[.int .u32 x.a, .int .u32 x.b, .int .u32 x.c, .int .u32 x.d, .int .u32 x.e] 73)).alloc (by simp) (.cells cs 135)).alloc (by simp; omega) (.cells (zeros 5) 73)) n)
      go_wp2_with ((with_reducible refine wpl_store (g := w.heap.size + 1 + 1) (cells := (Sha.mixed l x).cells) G.out I.out ?_ H1.out ?_ ?_ ?_); (rw [zeros_size]; exact rfl); exact rfl; exact rfl)
      refine bodyPost_ret (v := .agg (Sha.mixed l x).cells) (results_cell_row rfl _ _ (w.heap.size + 1 + 1) 73 (Sha.mixed l x).cells (0, 0) _ rfl (setRow_heap _ _ _ _ _ _ G.out) Tryz.underlying73 rfl I.out) rfl ?_
      exact ⟨rfl, below_setRow HB.out (by omega)⟩

end Go.Proofs.YtmmkhodaljpjgaaGreatDoor
