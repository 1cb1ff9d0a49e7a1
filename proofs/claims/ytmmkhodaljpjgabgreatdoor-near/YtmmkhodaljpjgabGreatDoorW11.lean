import Derived.Test.YtmmkhodaljpjgabGreatDoorW10
import Derived.Deep.Cut
import Derived.Deep.CutBlock
import Derived.Deep.CutRange
namespace Go.Proofs.YtmmkhodaljpjgabGreatDoor
open Go.RowKit
/-- What See tells of the program's server at block b. -/
def Shows (b : Nat) (s : Sv) (w : World) : Prop :=
  Calls Tryz.prog 9 #[.pointer (some ⟨b, 0, none⟩)] w fun e w' => ∃ dv cv, e = .returned (.agg #[.int .i64 s.ns, .int .i64 s.nf, .bool s.ld, .int .i64 s.up, .int .i64 s.ex, dv, cv, .int .i64 s.ref]) ∧
    w'.ownsRow w.heap.size 49 2 dv s.done.length (flat s.done) ∧ w'.ownsRow w.heap.size 84 5 cv s.com.length (flatC s.com) ∧ Below w.heap.size w w'
/-- A call of the program's on a server. -/
def PDoes (P : Nat → Sv → (Nat → Prop) → World → Prop) (fn : FuncId) (args : Nat → Array Value) (s s' : Sv) (ev : Int) (G : World → Prop) : Prop := ∀ b F W, P b s F W → G W →
  Calls Tryz.prog fn (args b) W fun e w' => e = .returned (.int .i64 ev) ∧ ∃ F', P b s' F' w' ∧ Off F W w' ∧ ∀ k, F' k → F k ∨ W.heap.size ≤ k
/-- What the program's New answers. -/
def PNewP (P : Nat → Sv → (Nat → Prop) → World → Prop) (cf : Bool) (s : Sv) (w : World) (e : Ending) (w' : World) : Prop :=
  (cf = false → e = .returned (.tuple #[.pointer none, .int .i64 10]) ∧ Below w.heap.size w w') ∧ (cf = true → ∃ b F, e = .returned (.tuple #[.pointer (some ⟨b, 0, none⟩), .int .i64 0]) ∧ P b s F w' ∧ (∀ k, F k → w.heap.size ≤ k) ∧ Below w.heap.size w w')
/-- The program's New. -/
def PNews (P : Nat → Sv → (Nat → Prop) → World → Prop) (mode win src fresh s f : Int) : Prop := ∀ W, Calls Tryz.prog 17 #[.agg #[.int .i64 mode, .int .i64 win, .int .i64 src, .int .i64 fresh, .int .i64 s, .int .i64 f]] W fun e w' => PNewP P (cfgB mode win src fresh s f) (Sv.init mode win fresh s f src.toNat) W e w'
/-- The program's Load on a server. -/
def PLoads (P : Nat → Sv → (Nat → Prop) → World → Prop) (t : ByteArray) (s s' : Sv) (ev nv : Int) (G : World → Prop) : Prop := ∀ b F W, P b s F W → G W →
  Calls Tryz.prog 20 #[.pointer (some ⟨b, 0, none⟩), .string t] W fun e w' => e = .returned (.tuple #[.int .i64 ev, .int .i64 nv]) ∧ ∃ F', P b s' F' w' ∧ Off F W w' ∧ ∀ k, F' k → F k ∨ W.heap.size ≤ k
/-- What Now tells (the program's), or Served (the document's). -/
def Tells (fn : FuncId) (b : Nat) (ts tf li er : Int) (w : World) : Prop :=
  Calls Tryz.prog fn #[.pointer (some ⟨b, 0, none⟩)] w fun e w' => e = .returned (.tuple #[.agg #[.int .i64 ts, .int .i64 tf], .int .i64 li, .int .i64 er]) ∧ Below w.heap.size w w'
/-- What Answer answers (the program's, the document's). -/
def Ans (fn : FuncId) (b : Nat) (p sv : ByteArray) (er : Int) (w : World) : Prop :=
  Calls Tryz.prog fn #[.pointer (some ⟨b, 0, none⟩), .string p] w fun e w' => e = .returned (.tuple #[.string sv, .int .i64 er]) ∧ Below w.heap.size w w'
/-- Entries that can be read. -/
def Read (w : World) (ao : Option Addr) (ls : List (Int × Int)) : Prop := 0 < ls.length → ∃ g, ao = some ⟨g, 0, none⟩ ∧ g < w.heap.size ∧ Lies w g ls
theorem Read.below {w w' : World} {ao : Option Addr} {ls : List (Int × Int)} (h : Read w ao ls) (hb : Below w.heap.size w w') : Read w' ao ls := fun hp => by
  obtain ⟨g, e, lg, hl⟩ := h hp
  exact ⟨g, e, by have := hb.size; omega, hl.below lg hb⟩
theorem read_of {w : World} {B e n cap : Nat} {ao : Option Addr} {ls : List (Int × Int)} (h : w.ownsRow B e 2 (.slice ao n cap) n (flat ls)) (hl : ls.length = n) : Read w ao ls := fun hp => by
  obtain ⟨g, cap', hg⟩ := own_some h (by omega)
  obtain ⟨rfl, _, rfl⟩ := Value.slice.inj hg
  exact ⟨g, rfl, (h.lt _ rfl).2, lies_of h hl⟩
set_option maxRecDepth 100000 in
set_option maxHeartbeats 3200000 in
theorem copy_of (ao : Option Addr) (n cap : Nat) (ls : List (Int × Int)) (w : World) (hr : Read w ao ls) (hl : ls.length = n) (hn : n ≤ 1000) :
    Calls Tryz.prog 31 #[.slice ao n cap] w fun e w' => ∃ v, e = .returned v ∧ w'.ownsRow w.heap.size 49 2 v n (flat ls) ∧ Below w.heap.size w w' := by
  obtain ⟨i0, hi0, hz0, hz1, hz2⟩ := info_parts infoALeap
  have HR := hid' hr
  clear hr
  go_enter Tryz.func31, Tryz.ntmps31
  go_wp2
  go_loopw [3, 4] (fun v i wr => ∃ k : Nat, k ≤ n ∧ i = .int .i64 k ∧ wr.ownsRow w.heap.size 49 2 v k (flat (ls.take k)) ∧ Below w.heap.size w wr) (fun _ i _ => n - (intOf i).toNat)
  case atStart => exact ⟨0, by omega, rfl, World.ownsRow_nil _ _ _ _, Below.refl _ _⟩
  case round =>
    obtain ⟨k, hk, rfl, own, hb⟩ := hrel
    have OWN := hid' own
    have HB := hid' hb
    have hsz := hb.size
    by_cases hlt : k < n
    · obtain ⟨g, rfl, lg, hlies⟩ := HR.out (by omega)
      have a0 := (hb.cell (p := ⟨g, k * 2, none⟩) lg).trans (hlies k (by omega)).1
      have a1 := (hb.cell (p := ⟨g, k * 2 + 1, none⟩) lg).trans (hlies k (by omega)).2
      have htk : ls.take (k + 1) = ls.take k ++ [ls[k]'(by omega)] := List.take_succ_eq_append_getElem (by omega)
      have HTK := hid' htk
      generalize ls[k]'(by omega) = p at *
      obtain ⟨pa, po⟩ := p
      simp only at a0 a1
      have hli : (k : Int) < (n : Int) := by omega
      obtain ⟨va, vcp, hv⟩ := own_slice own
      subst hv
      clear own hb htk hlies
      go_wp2_with (at_builtin; refine wpList_append_lies _ (by rfl) (.tmp 11) (.tmp 16) 27 (by rfl) w.heap.size 49 i0 (.agg #[.int .i64 0, .int .i64 0]) 2 16 Tryz.underlying27 hi0 hz0 hz1 hz2 rfl (by decide) (.slice va k vcp) k (flat (ls.take k)) (by rfl) (OWN.out.alloc _) ⟨wr.heap.size, 0, none⟩ 1 1 [.int .i64 pa, .int .i64 po] (by rfl) (by rfl) (World.news_of_block (cs := #[.int .i64 pa, .int .i64 po]) (t := 49) (fr := (0, 0)) (heap_alloc_new wr _)) (by simp [Value.oneCell']) (by decide) (by unfold maxLen; omega) (by omega) (by simp <;> omega) (wr.heap.size + 1) (by simp) ?_; intro g3 cap3 w3 own3 hg3 hat3 hlt3; have OWN3 := hid' own3; have HG3 := hid' hg3; clear own3 hg3 hat3)
      go_roundw
      case rel =>
        refine ⟨k + 1, by omega, by go_num, by rw [HTK.out, flat_append]; exact OWN3.out, ?_⟩
        exact (HB.out.alloc hsz _).grown HG3.out (by simp; omega) (own_ge OWN.out)
      case measure => simp [intOf]; omega
    · have hnl : ¬ (k : Int) < (n : Int) := by omega
      obtain rfl : k = n := by omega
      clear own hb
      go_wp2
      go_ret
      refine ⟨_, rfl, ?_, HB.out⟩
      have := OWN.out
      rw [List.take_of_length_le (by omega)] at this
      exact this
/-- The cells of the program's server. -/
def pCells (s : Sv) (dv cv : Value) (op : Bool) (bs bf : Int) : Array Value := #[.int .i64 s.mode, .int .i64 s.win, .int .i64 s.said.length, .int .i64 s.fresh, .int .i64 s.ns, .int .i64 s.nf, .bool s.ld, .int .i64 s.up, .int .i64 s.ex, dv, cv, .int .i64 s.ref,
  .bool (s.hd 0).said, .int .i64 (s.hd 0).leap, .int .i64 (s.hd 0).ws, .int .i64 (s.hd 0).wf, .bool (s.hd 1).said, .int .i64 (s.hd 1).leap, .int .i64 (s.hd 1).ws, .int .i64 (s.hd 1).wf,
  .bool (s.hd 2).said, .int .i64 (s.hd 2).leap, .int .i64 (s.hd 2).ws, .int .i64 (s.hd 2).wf, .bool (s.hd 3).said, .int .i64 (s.hd 3).leap, .int .i64 (s.hd 3).ws, .int .i64 (s.hd 3).wf,
  .bool (s.hd 4).said, .int .i64 (s.hd 4).leap, .int .i64 (s.hd 4).ws, .int .i64 (s.hd 4).wf, .bool (s.hd 5).said, .int .i64 (s.hd 5).leap, .int .i64 (s.hd 5).ws, .int .i64 (s.hd 5).wf,
  .bool (s.hd 6).said, .int .i64 (s.hd 6).leap, .int .i64 (s.hd 6).ws, .int .i64 (s.hd 6).wf, .bool (s.hd 7).said, .int .i64 (s.hd 7).leap, .int .i64 (s.hd 7).ws, .int .i64 (s.hd 7).wf,
  .bool op, .int .i64 bs, .int .i64 bf]
/-- The program's server at block b. -/
structure PRow (b : Nat) (s : Sv) (dv cv : Value) (op : Bool) (bs bf : Int) (w : World) : Prop where
  row : w.heap[b]? = some (.cells (pCells s dv cv op bs bf) 72 (0, 0))
  dd : w.ownsRow 0 49 2 dv s.done.length (flat s.done)
  cc : w.ownsRow 0 84 5 cv s.com.length (flatC s.com)
  sl : s.said.length ≤ 8
def pFoot (b : Nat) (dv cv : Value) (k : Nat) : Prop := k = b ∨ dv.ownBlock = some k ∨ cv.ownBlock = some k
theorem PRow.keep {b : Nat} {s : Sv} {dv cv : Value} {op : Bool} {bs bf : Int} {w w' : World} (h : PRow b s dv cv op bs bf w) (hk : ∀ k, pFoot b dv cv k → w'.heap[k]? = w.heap[k]?) : PRow b s dv cv op bs bf w' :=
  ⟨(hk b (.inl rfl)).trans h.row, own_same h.dd (fun k e => hk k (.inr (.inl e))), own_same h.cc (fun k e => hk k (.inr (.inr e))), h.sl⟩
theorem PRow.typ {b : Nat} {s : Sv} {dv cv : Value} {op : Bool} {bs bf : Int} {w : World} (h : PRow b s dv cv op bs bf w) {k : Nat} (hk : pFoot b dv cv k) : ∃ cs e fr, w.heap[k]? = some (.cells cs e fr) ∧ (e = 72 ∨ e = 49 ∨ e = 84) := by
  rcases hk with rfl | e | e
  · exact ⟨_, _, _, h.row, .inl rfl⟩
  · obtain ⟨cs, fr, hh⟩ := own_typ h.dd e; exact ⟨_, _, _, hh, .inr (.inl rfl)⟩
  · obtain ⟨cs, fr, hh⟩ := own_typ h.cc e; exact ⟨_, _, _, hh, .inr (.inr rfl)⟩
theorem PRow.below {b : Nat} {s : Sv} {dv cv : Value} {op : Bool} {bs bf : Int} {w w' : World} (h : PRow b s dv cv op bs bf w) (hb : Below w.heap.size w w') : PRow b s dv cv op bs bf w' :=
  h.keep fun k hk => by obtain ⟨cs, e, fr, hh, _⟩ := h.typ hk; exact hb.block k (lt_of_heap hh)
theorem PRow.c0 {b : Nat} {s : Sv} {dv cv : Value} {op : Bool} {bs bf : Int} {w : World} (h : PRow b s dv cv op bs bf w) : w.cell? ⟨b, 0, none⟩ = some (.int .i64 s.mode) := cell_of_row _ _ _ _ _ _ h.row
theorem PRow.c1 {b : Nat} {s : Sv} {dv cv : Value} {op : Bool} {bs bf : Int} {w : World} (h : PRow b s dv cv op bs bf w) : w.cell? ⟨b, 1, none⟩ = some (.int .i64 s.win) := cell_of_row _ _ _ _ _ _ h.row
theorem PRow.c2 {b : Nat} {s : Sv} {dv cv : Value} {op : Bool} {bs bf : Int} {w : World} (h : PRow b s dv cv op bs bf w) : w.cell? ⟨b, 2, none⟩ = some (.int .i64 s.said.length) := cell_of_row _ _ _ _ _ _ h.row
theorem PRow.c3 {b : Nat} {s : Sv} {dv cv : Value} {op : Bool} {bs bf : Int} {w : World} (h : PRow b s dv cv op bs bf w) : w.cell? ⟨b, 3, none⟩ = some (.int .i64 s.fresh) := cell_of_row _ _ _ _ _ _ h.row
theorem PRow.c4 {b : Nat} {s : Sv} {dv cv : Value} {op : Bool} {bs bf : Int} {w : World} (h : PRow b s dv cv op bs bf w) : w.cell? ⟨b, 4, none⟩ = some (.int .i64 s.ns) := cell_of_row _ _ _ _ _ _ h.row
theorem PRow.c5 {b : Nat} {s : Sv} {dv cv : Value} {op : Bool} {bs bf : Int} {w : World} (h : PRow b s dv cv op bs bf w) : w.cell? ⟨b, 5, none⟩ = some (.int .i64 s.nf) := cell_of_row _ _ _ _ _ _ h.row
theorem PRow.c6 {b : Nat} {s : Sv} {dv cv : Value} {op : Bool} {bs bf : Int} {w : World} (h : PRow b s dv cv op bs bf w) : w.cell? ⟨b, 6, none⟩ = some (.bool s.ld) := cell_of_row _ _ _ _ _ _ h.row
theorem PRow.c7 {b : Nat} {s : Sv} {dv cv : Value} {op : Bool} {bs bf : Int} {w : World} (h : PRow b s dv cv op bs bf w) : w.cell? ⟨b, 7, none⟩ = some (.int .i64 s.up) := cell_of_row _ _ _ _ _ _ h.row
theorem PRow.c8 {b : Nat} {s : Sv} {dv cv : Value} {op : Bool} {bs bf : Int} {w : World} (h : PRow b s dv cv op bs bf w) : w.cell? ⟨b, 8, none⟩ = some (.int .i64 s.ex) := cell_of_row _ _ _ _ _ _ h.row
theorem PRow.c9 {b : Nat} {s : Sv} {dv cv : Value} {op : Bool} {bs bf : Int} {w : World} (h : PRow b s dv cv op bs bf w) : w.cell? ⟨b, 9, none⟩ = some (dv) := cell_of_row _ _ _ _ _ _ h.row
theorem PRow.c10 {b : Nat} {s : Sv} {dv cv : Value} {op : Bool} {bs bf : Int} {w : World} (h : PRow b s dv cv op bs bf w) : w.cell? ⟨b, 10, none⟩ = some (cv) := cell_of_row _ _ _ _ _ _ h.row
theorem PRow.c11 {b : Nat} {s : Sv} {dv cv : Value} {op : Bool} {bs bf : Int} {w : World} (h : PRow b s dv cv op bs bf w) : w.cell? ⟨b, 11, none⟩ = some (.int .i64 s.ref) := cell_of_row _ _ _ _ _ _ h.row
theorem PRow.c44 {b : Nat} {s : Sv} {dv cv : Value} {op : Bool} {bs bf : Int} {w : World} (h : PRow b s dv cv op bs bf w) : w.cell? ⟨b, 44, none⟩ = some (.bool op) := cell_of_row _ _ _ _ _ _ h.row
theorem PRow.c45 {b : Nat} {s : Sv} {dv cv : Value} {op : Bool} {bs bf : Int} {w : World} (h : PRow b s dv cv op bs bf w) : w.cell? ⟨b, 45, none⟩ = some (.int .i64 bs) := cell_of_row _ _ _ _ _ _ h.row
theorem PRow.c46 {b : Nat} {s : Sv} {dv cv : Value} {op : Bool} {bs bf : Int} {w : World} (h : PRow b s dv cv op bs bf w) : w.cell? ⟨b, 46, none⟩ = some (.int .i64 bf) := cell_of_row _ _ _ _ _ _ h.row
theorem PRow.lt {b : Nat} {s : Sv} {dv cv : Value} {op : Bool} {bs bf : Int} {w : World} (h : PRow b s dv cv op bs bf w) : b < w.heap.size := lt_of_heap h.row
theorem PRow.fr {b : Nat} {s : Sv} {dv cv : Value} {op : Bool} {bs bf : Int} {w : World} (h : PRow b s dv cv op bs bf w) (k : Nat) : w.frozen? ⟨b, k, none⟩ = false := frozen_of_row _ _ k _ _ h.row
/-- One cell is written. -/
theorem PRow.put {b : Nat} {s s' : Sv} {dv cv : Value} {op op' : Bool} {bs bf bs' bf' : Int} {w : World} (h : PRow b s dv cv op bs bf w) (k : Nat) (v : Value) (e : (pCells s dv cv op bs bf).setIfInBounds k v = pCells s' dv cv op' bs' bf') (hd : s'.done = s.done) (hc : s'.com = s.com) (hs : s'.said.length = s.said.length) : PRow b s' dv cv op' bs' bf' (w.setCell ⟨b, k, none⟩ v) := by
  refine ⟨?_, by rw [hd]; exact own_set (p := ⟨b, k, none⟩) h.dd h.row (by decide) _, by rw [hc]; exact own_set (p := ⟨b, k, none⟩) h.cc h.row (by decide) _, by rw [hs]; exact h.sl⟩
  rw [heap_setCell_same _ _ _ _ _ _ h.row, ← e]
/-- What a source said last, as it lies in memory. -/
theorem PRow.hdAt {b : Nat} {s : Sv} {dv cv : Value} {op : Bool} {bs bf : Int} {w : World} (h : PRow b s dv cv op bs bf w) (i : Nat) (hi : i < 8) :
    w.cell? ⟨b, 12 + i * 4, none⟩ = some (.bool (s.hd i).said) ∧ w.cell? ⟨b, 12 + i * 4 + 1, none⟩ = some (.int .i64 (s.hd i).leap) ∧ w.cell? ⟨b, 12 + i * 4 + 2, none⟩ = some (.int .i64 (s.hd i).ws) ∧ w.cell? ⟨b, 12 + i * 4 + 3, none⟩ = some (.int .i64 (s.hd i).wf) := by
  have r := h.row
  match i, hi with
  | 0, _ | 1, _ | 2, _ | 3, _ | 4, _ | 5, _ | 6, _ | 7, _ => exact ⟨cell_of_row _ _ _ _ _ _ r, cell_of_row _ _ _ _ _ _ r, cell_of_row _ _ _ _ _ _ r, cell_of_row _ _ _ _ _ _ r⟩
theorem Sv.hd_says (s : Sv) (k : Nat) (leap : Int) (hk : k < s.said.length) (i : Nat) : (s.says k leap).hd i = if i = k then ⟨true, leap, s.ns, s.nf⟩ else s.hd i := by
  unfold Sv.hd Sv.says
  simp only [List.getD_eq_getElem?_getD, List.getElem?_set]
  split
  · rename_i e; subst e; rw [if_pos rfl]; simp
  · rename_i e; rw [if_neg (fun q => e q.symm)]
set_option maxHeartbeats 3200000 in
/-- A source says something. -/
theorem PRow.putH {b : Nat} {s : Sv} {dv cv : Value} {op : Bool} {bs bf : Int} {w : World} (h : PRow b s dv cv op bs bf w) (k : Nat) (leap : Int) (hk : k < s.said.length) :
    PRow b (s.says k leap) dv cv op bs bf ((((w.setCell ⟨b, 12 + k * 4, none⟩ (.bool true)).setCell ⟨b, 12 + k * 4 + 1, none⟩ (.int .i64 leap)).setCell ⟨b, 12 + k * 4 + 2, none⟩ (.int .i64 s.ns)).setCell ⟨b, 12 + k * 4 + 3, none⟩ (.int .i64 s.nf)) := by
  have r0 := h.row
  have r1 := heap_setCell_same _ _ (12 + k * 4) _ _ (.bool true) r0
  have r2 := heap_setCell_same _ _ (12 + k * 4 + 1) _ _ (.int .i64 leap) r1
  have r3 := heap_setCell_same _ _ (12 + k * 4 + 2) _ _ (.int .i64 s.ns) r2
  have r4 := heap_setCell_same _ _ (12 + k * 4 + 3) _ _ (.int .i64 s.nf) r3
  have ow : ∀ {B e size n : Nat} {v : Value} {xs : List Value}, w.ownsRow B e size v n xs → 72 ≠ e → ((((w.setCell ⟨b, 12 + k * 4, none⟩ (.bool true)).setCell ⟨b, 12 + k * 4 + 1, none⟩ (.int .i64 leap)).setCell ⟨b, 12 + k * 4 + 2, none⟩ (.int .i64 s.ns)).setCell ⟨b, 12 + k * 4 + 3, none⟩ (.int .i64 s.nf)).ownsRow B e size v n xs := fun o he =>
    own_set (p := ⟨b, 12 + k * 4 + 3, none⟩) (own_set (p := ⟨b, 12 + k * 4 + 2, none⟩) (own_set (p := ⟨b, 12 + k * 4 + 1, none⟩) (own_set (p := ⟨b, 12 + k * 4, none⟩) o r0 he _) r1 he _) r2 he _) r3 he _
  have sl := h.sl
  have len : (s.says k leap).said.length = s.said.length := List.length_set
  refine ⟨?_, ow h.dd (by decide), ow h.cc (by decide), by rw [len]; exact sl⟩
  rw [r4]
  have hh := fun i => s.hd_says k leap hk i
  have k8 : k < 8 := by omega
  have e : ((((pCells s dv cv op bs bf).setIfInBounds (12 + k * 4) (.bool true)).setIfInBounds (12 + k * 4 + 1) (.int .i64 leap)).setIfInBounds (12 + k * 4 + 2) (.int .i64 s.ns)).setIfInBounds (12 + k * 4 + 3) (.int .i64 s.nf) = pCells (s.says k leap) dv cv op bs bf := by
    unfold pCells
    rw [len]
    clear r0 r1 r2 r3 r4 ow
    have ymode : (s.says k leap).mode = s.mode := rfl
    have ywin : (s.says k leap).win = s.win := rfl
    have yfresh : (s.says k leap).fresh = s.fresh := rfl
    have yns : (s.says k leap).ns = s.ns := rfl
    have ynf : (s.says k leap).nf = s.nf := rfl
    have yld : (s.says k leap).ld = s.ld := rfl
    have yup : (s.says k leap).up = s.up := rfl
    have yex : (s.says k leap).ex = s.ex := rfl
    have yref : (s.says k leap).ref = s.ref := rfl
    clear h
    generalize s.says k leap = y at *
    simp only [hh, ymode, ywin, yfresh, yns, ynf, yld, yup, yex, yref]
    clear hh len hk ymode ywin yfresh yns ynf yld yup yex yref
    match k, k8 with
    | 0, _ => simp
    | 1, _ => simp
    | 2, _ => simp
    | 3, _ => simp
    | 4, _ => simp
    | 5, _ => simp
    | 6, _ => simp
    | 7, _ => simp
  rw [e]
/-- The program's server. -/
def PS (b : Nat) (s : Sv) (F : Nat → Prop) (w : World) : Prop := ∃ dv cv op bs bf, PRow b s dv cv op bs bf w ∧ Opn s op bs bf ∧ ∀ k, F k ↔ pFoot b dv cv k
end Go.Proofs.YtmmkhodaljpjgabGreatDoor
namespace Go.Proofs.YtmmkhodaljpjgabGreatDoor
open Go.RowKit
attribute [local go_sem ↓] Go.wp_at_zero Go.wp_at_succ
/-- What is seen, while it is laid. -/
structure SeeV (w : World) (s : Sv) (k : Nat) (dv cv : Value) (wr : World) : Prop where
  bel : Below w.heap.size w wr
  res : wr.heap[w.heap.size]? = some (.cells #[.int .i64 0, .int .i64 0, .bool false, .int .i64 0, .int .i64 0, .slice none 0 0, .slice none 0 0, .int .i64 0] 36 (0, 0))
  row : wr.heap[w.heap.size + 1]? = some (.cells #[.int .i64 s.ns, .int .i64 s.nf, .bool s.ld, .int .i64 s.up, .int .i64 s.ex, dv, cv, .int .i64 s.ref] 36 (0, 0))
  dd : wr.ownsRow w.heap.size 49 2 dv s.done.length (flat s.done)
  cc : wr.ownsRow w.heap.size 84 5 cv k (flatC (s.com.take k))
theorem SeeV.put {w : World} {s : Sv} {k m : Nat} {dv cv cv' : Value} {wr w2 : World} (h : SeeV w s k dv cv wr) (hg : wr.grownBy w2 cv.ownBlock) (own : w2.ownsRow w.heap.size 84 5 cv' m (flatC (s.com.take m))) : SeeV w s m dv cv' (w2.setCell ⟨w.heap.size + 1, 6, none⟩ cv') := by
  have row2 := grown_heap (t := 36) hg h.cc h.row (by decide)
  have res2 := grown_heap (t := 36) hg h.cc h.res (by decide)
  refine ⟨(h.bel.grown hg h.bel.size (own_ge h.cc)).setCell (by show w.heap.size ≤ w.heap.size + 1; omega) _, ?_, ?_, own_set (p := ⟨w.heap.size + 1, 6, none⟩) (own_grown h.dd hg h.cc (by decide)) row2 (by decide) _, own_set (p := ⟨w.heap.size + 1, 6, none⟩) own row2 (by decide) _⟩
  · rw [heap_setCell_other _ _ _ _ (by show w.heap.size ≠ w.heap.size + 1; omega)]; exact res2
  · rw [heap_setCell_same _ _ _ _ _ _ row2]; rfl
theorem SeeV.below {w : World} {s : Sv} {k : Nat} {dv cv : Value} {wr w2 : World} (h : SeeV w s k dv cv wr) (hb : Below wr.heap.size wr w2) : SeeV w s k dv cv w2 :=
  ⟨h.bel.trans (hb.mono h.bel.size), (hb.block _ (lt_of_heap h.res)).trans h.res, (hb.block _ (lt_of_heap h.row)).trans h.row, own_down h.dd hb, own_down h.cc hb⟩
/-- A block of eight cells is written over. -/
def set8 (V : World) (b : Nat) (a0 a1 a2 a3 a4 a5 a6 a7 : Value) : World := (((((((V.setCell ⟨b, 0, none⟩ a0).setCell ⟨b, 1, none⟩ a1).setCell ⟨b, 2, none⟩ a2).setCell ⟨b, 3, none⟩ a3).setCell ⟨b, 4, none⟩ a4).setCell ⟨b, 5, none⟩ a5).setCell ⟨b, 6, none⟩ a6).setCell ⟨b, 7, none⟩ a7
theorem set8_row {V : World} {b : Nat} {t : TypeId} {a0 a1 a2 a3 a4 a5 a6 a7 p0 p1 p2 p3 p4 p5 p6 p7 : Value} (h : V.heap[b]? = some (.cells #[p0, p1, p2, p3, p4, p5, p6, p7] t (0, 0))) : (set8 V b a0 a1 a2 a3 a4 a5 a6 a7).heap[b]? = some (.cells #[a0, a1, a2, a3, a4, a5, a6, a7] t (0, 0)) := by
  have h0 := heap_setCell_same _ b 0 _ t a0 h
  have h1 := heap_setCell_same _ b 1 _ t a1 h0
  have h2 := heap_setCell_same _ b 2 _ t a2 h1
  have h3 := heap_setCell_same _ b 3 _ t a3 h2
  have h4 := heap_setCell_same _ b 4 _ t a4 h3
  have h5 := heap_setCell_same _ b 5 _ t a5 h4
  have h6 := heap_setCell_same _ b 6 _ t a6 h5
  have h7 := heap_setCell_same _ b 7 _ t a7 h6
  unfold set8
  simpa using h7
theorem set8_own {V : World} {b : Nat} {t : TypeId} {a0 a1 a2 a3 a4 a5 a6 a7 : Value} {cs : Array Value} (h : V.heap[b]? = some (.cells cs t (0, 0))) {B e size n : Nat} {v : Value} {xs : List Value} (ho : V.ownsRow B e size v n xs) (he : t ≠ e) : (set8 V b a0 a1 a2 a3 a4 a5 a6 a7).ownsRow B e size v n xs := by
  have h0 := heap_setCell_same _ b 0 _ t a0 h
  have h1 := heap_setCell_same _ b 1 _ t a1 h0
  have h2 := heap_setCell_same _ b 2 _ t a2 h1
  have h3 := heap_setCell_same _ b 3 _ t a3 h2
  have h4 := heap_setCell_same _ b 4 _ t a4 h3
  have h5 := heap_setCell_same _ b 5 _ t a5 h4
  have h6 := heap_setCell_same _ b 6 _ t a6 h5
  exact own_set (p := ⟨b, 7, none⟩) (own_set (p := ⟨b, 6, none⟩) (own_set (p := ⟨b, 5, none⟩) (own_set (p := ⟨b, 4, none⟩) (own_set (p := ⟨b, 3, none⟩) (own_set (p := ⟨b, 2, none⟩) (own_set (p := ⟨b, 1, none⟩) (own_set (p := ⟨b, 0, none⟩) ho h he _) h0 he _) h1 he _) h2 he _) h3 he _) h4 he _) h5 he _) h6 he _
theorem set8_below {B : Nat} {w V : World} {b : Nat} {a0 a1 a2 a3 a4 a5 a6 a7 : Value} (h : Below B w V) (hb : B ≤ b) : Below B w (set8 V b a0 a1 a2 a3 a4 a5 a6 a7) :=
  (((((((h.setCell (p := ⟨b, 0, none⟩) hb _).setCell (p := ⟨b, 1, none⟩) hb _).setCell (p := ⟨b, 2, none⟩) hb _).setCell (p := ⟨b, 3, none⟩) hb _).setCell (p := ⟨b, 4, none⟩) hb _).setCell (p := ⟨b, 5, none⟩) hb _).setCell (p := ⟨b, 6, none⟩) hb _).setCell (p := ⟨b, 7, none⟩) hb _
set_option maxRecDepth 100000 in
set_option maxHeartbeats 6400000 in
theorem srv_see (b : Nat) (s : Sv) (dv cv : Value) (op : Bool) (bs bf : Int) (w : World) (h : PRow b s dv cv op bs bf w) (l1 : s.done.length ≤ 900) (l2 : s.com.length ≤ 900) :
    Calls Tryz.prog 21 #[.pointer (some ⟨b, 0, none⟩)] w fun e w' => ∃ dv' cv', e = .returned (.agg #[.int .i64 s.ns, .int .i64 s.nf, .bool s.ld, .int .i64 s.up, .int .i64 s.ex, dv', cv', .int .i64 s.ref]) ∧
      w'.ownsRow w.heap.size 49 2 dv' s.done.length (flat s.done) ∧ w'.ownsRow w.heap.size 84 5 cv' s.com.length (flatC s.com) ∧ Below w.heap.size w w' := by
  obtain ⟨k0, hk0, hx0, hx1, hx2⟩ := info_parts infoAComing
  have HP := hid' h
  have q2 := h.c4
  have q3 := h.c5
  have q4 := h.c6
  have q5 := h.c7
  have q6 := h.c8
  have q7 := h.c9
  have q8 := h.c10
  have q9 := h.c11
  have lb := lt_of_heap h.row
  obtain ⟨da, dcp, hdv⟩ := own_slice h.dd
  subst hdv
  obtain ⟨ca, ccp, hcv⟩ := own_slice h.cc
  subst hcv
  have RD := hid' (read_of h.dd rfl)
  clear h
  have B0 := hid' (((Below.refl w.heap.size w).alloc (Nat.le_refl _) (.cells #[.int .i64 0, .int .i64 0, .bool false, .int .i64 0, .int .i64 0, .slice none 0 0, .slice none 0 0, .int .i64 0] 36)).alloc (by simp) (.cells #[.int .i64 s.ns, .int .i64 s.nf, .bool s.ld, .int .i64 s.up, .int .i64 s.ex, .slice da s.done.length dcp, .slice ca s.com.length ccp, .int .i64 s.ref] 36))
  have R0 := hid' (heap_alloc2_old w (.cells #[.int .i64 0, .int .i64 0, .bool false, .int .i64 0, .int .i64 0, .slice none 0 0, .slice none 0 0, .int .i64 0] 36) (.cells #[.int .i64 s.ns, .int .i64 s.nf, .bool s.ld, .int .i64 s.up, .int .i64 s.ex, .slice da s.done.length dcp, .slice ca s.com.length ccp, .int .i64 s.ref] 36))
  have R1 := hid' (heap_alloc2_new w (.cells #[.int .i64 0, .int .i64 0, .bool false, .int .i64 0, .int .i64 0, .slice none 0 0, .slice none 0 0, .int .i64 0] 36) (.cells #[.int .i64 s.ns, .int .i64 s.nf, .bool s.ld, .int .i64 s.up, .int .i64 s.ex, .slice da s.done.length dcp, .slice ca s.com.length ccp, .int .i64 s.ref] 36))
  go_enter Tryz.func21, Tryz.ntmps21
  go_upto_region 2 with fail
  generalize hV : (w.alloc (.cells #[.int .i64 0, .int .i64 0, .bool false, .int .i64 0, .int .i64 0, .slice none 0 0, .slice none 0 0, .int .i64 0] 36)).alloc (.cells #[.int .i64 s.ns, .int .i64 s.nf, .bool s.ld, .int .i64 s.up, .int .i64 s.ex, .slice da s.done.length dcp, .slice ca s.com.length ccp, .int .i64 s.ref] 36) = V at *
  clear hV
  have v7 := (B0.out.cell (p := ⟨b, 9, none⟩) lb).trans q7
  clear q2 q3 q4 q5 q6 q7 q9
  go_wp2_with fail
  refine (copy_of da s.done.length dcp s.done _ (RD.out.below B0.out) rfl (by omega)).mono ?_
  rintro e w1 ⟨dn, rfl, own1, hb1⟩
  have r0 := (hb1.block _ (lt_of_heap R0.out)).trans R0.out
  have r1 := (hb1.block _ (lt_of_heap R1.out)).trans R1.out
  have s0 := B0.out.size
  have fr5 := frozen_of_row _ _ 5 _ _ r1
  have fr6 := frozen_of_row _ _ 6 _ _ r1
  have cr5 := cell_of_row _ _ 5 _ _ _ r1
  have cr6 := cell_of_row _ _ 6 _ _ _ r1
  simp at cr5 cr6
  obtain ⟨dna, dncp, hdn⟩ := own_slice own1
  subst hdn
  have SV : Hid (SeeV w s 0 (.slice dna s.done.length dncp) (.slice none 0 0) ((w1.setCell ⟨w.heap.size + 1, 5, none⟩ (.slice dna s.done.length dncp)).setCell ⟨w.heap.size + 1, 6, none⟩ (.slice none 0 0))) := by
    have rr := heap_setCell_same _ _ 5 _ _ (.slice dna s.done.length dncp) r1
    refine ⟨((B0.out.trans (hb1.mono s0)).setCell (by show w.heap.size ≤ w.heap.size + 1; omega) _).setCell (by show w.heap.size ≤ w.heap.size + 1; omega) _, ?_, ?_, own_set (p := ⟨w.heap.size + 1, 6, none⟩) (own_set (p := ⟨w.heap.size + 1, 5, none⟩) (own_lo own1 s0) r1 (by decide) _) rr (by decide) _, World.ownsRow_nil _ _ _ _⟩
    · rw [heap_setCell_other _ _ _ _ (by show w.heap.size ≠ w.heap.size + 1; omega), heap_setCell_other _ _ _ _ (by show w.heap.size ≠ w.heap.size + 1; omega)]; exact r0
    · rw [heap_setCell_same _ _ _ _ _ _ rr]; rfl
  clear own1 hb1 r0 r1 v7
  go_upto_region 4 with fail
  generalize hW : (w1.setCell ⟨w.heap.size + 1, 5, none⟩ (.slice dna s.done.length dncp)).setCell ⟨w.heap.size + 1, 6, none⟩ (.slice none 0 0) = W1 at *
  clear hW fr5 fr6 cr5 cr6
  go_wp2_with fail
  go_loopw [4] (fun i wr => ∃ (k : Nat) (cv' : Value), k ≤ s.com.length ∧ i = .int .i64 k ∧ SeeV w s k (.slice dna s.done.length dncp) cv' wr) (fun i _ => s.com.length - (intOf i).toNat)
  case atStart => exact ⟨0, _, by omega, rfl, SV.out⟩
  case round =>
    obtain ⟨k, cv', hk, rfl, sv⟩ := hrel
    have SVK := hid' sv
    have v8 := (sv.bel.cell (p := ⟨b, 10, none⟩) lb).trans q8
    have hsz := sv.bel.size
    by_cases hlt : k < s.com.length
    · have hli : (k : Int) < (s.com.length : Int) := by omega
      have hk0i : (0 : Int) ≤ (k : Int) := by omega
      obtain ⟨g, cg, hg⟩ := own_some HP.out.cc (by omega)
      obtain ⟨rfl, _, rfl⟩ := Value.slice.inj hg
      have lg : g < w.heap.size := (HP.out.cc.lt _ rfl).2
      have e0 := ((sv.bel.cell (p := ⟨g, k * 5, none⟩) lg).trans (HP.out.cc.cellAt (k * 5) (by omega))).trans (flatC_at s.com k hlt 0 (by omega))
      have e1 := ((sv.bel.cell (p := ⟨g, k * 5 + 1, none⟩) lg).trans (HP.out.cc.cellAt (k * 5 + 1) (by omega))).trans (flatC_at s.com k hlt 1 (by omega))
      have e2 := ((sv.bel.cell (p := ⟨g, k * 5 + 2, none⟩) lg).trans (HP.out.cc.cellAt (k * 5 + 2) (by omega))).trans (flatC_at s.com k hlt 2 (by omega))
      have e3 := ((sv.bel.cell (p := ⟨g, k * 5 + 3, none⟩) lg).trans (HP.out.cc.cellAt (k * 5 + 3) (by omega))).trans (flatC_at s.com k hlt 3 (by omega))
      have e4 := ((sv.bel.cell (p := ⟨g, k * 5 + 4, none⟩) lg).trans (HP.out.cc.cellAt (k * 5 + 4) (by omega))).trans (flatC_at s.com k hlt 4 (by omega))
      have htk : s.com.take (k + 1) = s.com.take k ++ [s.com[k]] := List.take_succ_eq_append_getElem (by omega)
      have HTK := hid' htk
      generalize s.com[k] = c at *
      obtain ⟨cA, cO, cS, cF, cV⟩ := c
      simp [Cm.cells] at e0 e1 e2 e3 e4
      have c6 := cell_of_row _ _ 6 _ _ _ sv.row
      have f6 := frozen_of_row _ _ 6 _ _ sv.row
      have lr := lt_of_heap sv.row
      obtain ⟨va, vcp, hv⟩ := own_slice sv.cc
      subst hv
      simp at c6
      have lgr : g < wr.heap.size := by omega
      have lbr : b < wr.heap.size := by omega
      have ng1 : g ≠ w.heap.size + 1 := by omega
      have nb1 : b ≠ w.heap.size + 1 := by omega
      have ng2 : w.heap.size + 1 ≠ g := by omega
      have nb2 : w.heap.size + 1 ≠ b := by omega
      have BAL := (Below.refl wr.heap.size wr).alloc (Nat.le_refl _) (.cells #[.int .i64 cA, .int .i64 cO, .int .i64 cS, .int .i64 cF, .bool cV] 84)
      have m8 := (BAL.cell (p := ⟨b, 10, none⟩) lbr).trans v8
      have m0 := (BAL.cell (p := ⟨g, k * 5, none⟩) lgr).trans e0
      have m1 := (BAL.cell (p := ⟨g, k * 5 + 1, none⟩) lgr).trans e1
      have m2 := (BAL.cell (p := ⟨g, k * 5 + 2, none⟩) lgr).trans e2
      have m3 := (BAL.cell (p := ⟨g, k * 5 + 3, none⟩) lgr).trans e3
      have m4 := (BAL.cell (p := ⟨g, k * 5 + 4, none⟩) lgr).trans e4
      have NG : Hid (some g ≠ (Value.slice va k vcp).ownBlock) := fun e => by have := own_ge SVK.out.cc g e.symm; omega
      have NB : Hid (some b ≠ (Value.slice va k vcp).ownBlock) := fun e => by have := own_ge SVK.out.cc b e.symm; omega
      have fz : ∀ o, (wr.alloc o).frozen? ⟨w.heap.size + 1, 6, none⟩ = false := fun o => frozen_of_row _ _ 6 _ _ ((Keep.refl _ wr).alloc o _ _ _ SVK.out.row)
      clear sv hg htk BAL
      go_upto_region 7 with fail
      go_region_law ((refine step_append_lies _ ?_ (.tmp 28) (.tmp 37) 34 ?_ w.heap.size 84 k0 (.agg #[.int .i64 0, .int .i64 0, .int .i64 0, .int .i64 0, .bool false]) 5 40 Tryz.underlying34 hk0 hx0 hx1 hx2 rfl (by decide) (.slice va k vcp) k (flatC (s.com.take k)) ?_ ?_ ⟨wr.heap.size, 0, none⟩ 1 1 [.int .i64 cA, .int .i64 cO, .int .i64 cS, .int .i64 cF, .bool cV] ?_ ?_ ?_ ?_ ?_ ?_ ?_ ?_ (wr.heap.size + 1) ?_ ?_; exact rfl; exact rfl; exact rfl; exact (SVK.out.cc.alloc _).drew; exact rfl; exact rfl; exact (World.news_of_block (cs := #[.int .i64 cA, .int .i64 cO, .int .i64 cS, .int .i64 cF, .bool cV]) (t := 84) (fr := (0, 0)) (heap_alloc_new wr _)); (simp [Value.oneCell']); decide; (unfold maxLen; omega); omega; (simp; omega); (simp); intro gg cap6 w6 own6 hg6 hat6 hlt6; have k8 := (hg6.cell (a := ⟨b, 10, none⟩) (v := .slice (some ⟨g, 0, none⟩) s.com.length ccp) (by exact m8) NB.out); have k0' := (hg6.cell (a := ⟨g, k * 5, none⟩) (v := .int .i64 cA) (by exact m0) NG.out); have k1 := (hg6.cell (a := ⟨g, k * 5 + 1, none⟩) (v := .int .i64 cO) (by exact m1) NG.out); have k2 := (hg6.cell (a := ⟨g, k * 5 + 2, none⟩) (v := .int .i64 cS) (by exact m2) NG.out); have k3 := (hg6.cell (a := ⟨g, k * 5 + 3, none⟩) (v := .int .i64 cF) (by exact m3) NG.out); have k4 := (hg6.cell (a := ⟨g, k * 5 + 4, none⟩) (v := .bool cV) (by exact m4) NG.out); have S6 := hid' (grown_heap (w := (wr.alloc (.cells #[.int .i64 cA, .int .i64 cO, .int .i64 cS, .int .i64 cF, .bool cV] 84)).drew) (t := 36) hg6 (SVK.out.cc.alloc _).drew ((Keep.refl _ wr).alloc _ _ _ _ SVK.out.row) (by decide)); have c66 := cell_of_row _ _ 6 _ _ _ S6.out; have f66 := frozen_of_row _ _ 6 _ _ S6.out; (simp at c66); have OWN6 := hid' own6; have HG6 := hid' hg6; clear own6 hg6 hat6))
      all_goals
        go_wp2
        go_roundw
        case rel =>
          refine ⟨k + 1, _, by omega, by go_num, (SVK.out.below ((Below.refl wr.heap.size wr).alloc (Nat.le_refl _) (.cells #[.int .i64 cA, .int .i64 cO, .int .i64 cS, .int .i64 cF, .bool cV] 84)).drew).put (by exact HG6.out) ?_⟩
          rw [HTK.out, flatC_append]; exact OWN6.out
        case measure => simp [intOf]; omega
    · have hnl : ¬ (k : Int) < (s.com.length : Int) := by omega
      obtain rfl : k = s.com.length := by omega
      obtain ⟨va, vcp, hv⟩ := own_slice sv.cc
      subst hv
      have t0 := cell_of_row _ _ 0 _ _ _ sv.row
      have t1 := cell_of_row _ _ 1 _ _ _ sv.row
      have t2 := cell_of_row _ _ 2 _ _ _ sv.row
      have t3 := cell_of_row _ _ 3 _ _ _ sv.row
      have t4 := cell_of_row _ _ 4 _ _ _ sv.row
      have t5 := cell_of_row _ _ 5 _ _ _ sv.row
      have t6 := cell_of_row _ _ 6 _ _ _ sv.row
      have t7 := cell_of_row _ _ 7 _ _ _ sv.row
      simp at t0 t1 t2 t3 t4 t5 t6 t7
      have u0 := cell_of_row _ _ 0 _ _ _ sv.res
      have u1 := cell_of_row _ _ 1 _ _ _ sv.res
      have u2 := cell_of_row _ _ 2 _ _ _ sv.res
      have u3 := cell_of_row _ _ 3 _ _ _ sv.res
      have u4 := cell_of_row _ _ 4 _ _ _ sv.res
      have u5 := cell_of_row _ _ 5 _ _ _ sv.res
      have u6 := cell_of_row _ _ 6 _ _ _ sv.res
      have u7 := cell_of_row _ _ 7 _ _ _ sv.res
      simp at u0 u1 u2 u3 u4 u5 u6 u7
      have f0 := frozen_of_row _ _ 0 _ _ sv.res
      have f1 := frozen_of_row _ _ 1 _ _ sv.res
      have f2 := frozen_of_row _ _ 2 _ _ sv.res
      have f3 := frozen_of_row _ _ 3 _ _ sv.res
      have f4 := frozen_of_row _ _ 4 _ _ sv.res
      have f5 := frozen_of_row _ _ 5 _ _ sv.res
      have f6 := frozen_of_row _ _ 6 _ _ sv.res
      have f7 := frozen_of_row _ _ 7 _ _ sv.res
      clear sv
      go_wp2
      try simp only [Exit.inBlock, Exit.then]
      have R8 := set8_row (a0 := .int .i64 s.ns) (a1 := .int .i64 s.nf) (a2 := .bool s.ld) (a3 := .int .i64 s.up) (a4 := .int .i64 s.ex) (a5 := .slice dna s.done.length dncp) (a6 := .slice va s.com.length vcp) (a7 := .int .i64 s.ref) SVK.out.res
      refine bodyPost_ret (results_cell_row rfl _ _ w.heap.size 36 #[.int .i64 s.ns, .int .i64 s.nf, .bool s.ld, .int .i64 s.up, .int .i64 s.ex, .slice dna s.done.length dncp, .slice va s.com.length vcp, .int .i64 s.ref] (0, 0) _ rfl (by exact R8) Tryz.underlying36 rfl (by kernel_rfl)) rfl ?_
      have cc := SVK.out.cc
      rw [List.take_length] at cc
      exact ⟨_, _, rfl, by exact set8_own SVK.out.res SVK.out.dd (by decide), by exact set8_own SVK.out.res cc (by decide), by exact set8_below SVK.out.bel (Nat.le_refl _)⟩
set_option maxRecDepth 100000 in
theorem p_see (b : Nat) (s : Sv) (F : Nat → Prop) (w : World) (h : PS b s F w) (l1 : s.done.length ≤ 900) (l2 : s.com.length ≤ 900) : Shows b s w := by
  obtain ⟨dv, cv, op, bs, bf, r, _, _⟩ := h
  have B0 := hid' ((Below.refl w.heap.size w).alloc (Nat.le_refl _) (.cells #[.int .i64 0, .int .i64 0, .bool false, .int .i64 0, .int .i64 0, .slice none 0 0, .slice none 0 0, .int .i64 0] 36))
  have R0 := hid' (heap_alloc_new w (.cells #[.int .i64 0, .int .i64 0, .bool false, .int .i64 0, .int .i64 0, .slice none 0 0, .slice none 0 0, .int .i64 0] 36))
  have SE := hid' (srv_see b s dv cv op bs bf _ (r.below B0.out) l1 l2)
  unfold Shows
  clear r
  go_enter Tryz.func9, Tryz.ntmps9
  go_wp2_with fail
  refine SE.out.mono ?_
  rintro e w1 ⟨dv', cv', rfl, od, oc, hb⟩
  have R1 := hid' ((hb.block _ (lt_of_heap R0.out)).trans R0.out)
  have s0 := B0.out.size
  have OD := hid' (own_lo od s0)
  have OC := hid' (own_lo oc s0)
  have B1 := hid' (B0.out.trans (hb.mono s0))
  obtain ⟨xa, xcp, hx⟩ := own_slice od
  subst hx
  obtain ⟨ya, ycp, hy⟩ := own_slice oc
  subst hy
  have u0 := cell_of_row _ _ 0 _ _ _ R1.out
  have u1 := cell_of_row _ _ 1 _ _ _ R1.out
  have u2 := cell_of_row _ _ 2 _ _ _ R1.out
  have u3 := cell_of_row _ _ 3 _ _ _ R1.out
  have u4 := cell_of_row _ _ 4 _ _ _ R1.out
  have u5 := cell_of_row _ _ 5 _ _ _ R1.out
  have u6 := cell_of_row _ _ 6 _ _ _ R1.out
  have u7 := cell_of_row _ _ 7 _ _ _ R1.out
  simp at u0 u1 u2 u3 u4 u5 u6 u7
  have f0 := frozen_of_row _ _ 0 _ _ R1.out
  have f1 := frozen_of_row _ _ 1 _ _ R1.out
  have f2 := frozen_of_row _ _ 2 _ _ R1.out
  have f3 := frozen_of_row _ _ 3 _ _ R1.out
  have f4 := frozen_of_row _ _ 4 _ _ R1.out
  have f5 := frozen_of_row _ _ 5 _ _ R1.out
  have f6 := frozen_of_row _ _ 6 _ _ R1.out
  have f7 := frozen_of_row _ _ 7 _ _ R1.out
  clear od oc hb SE
  go_wp2
  try simp only [Exit.inBlock, Exit.then]
  have R8 := set8_row (a0 := .int .i64 s.ns) (a1 := .int .i64 s.nf) (a2 := .bool s.ld) (a3 := .int .i64 s.up) (a4 := .int .i64 s.ex) (a5 := .slice xa s.done.length xcp) (a6 := .slice ya s.com.length ycp) (a7 := .int .i64 s.ref) R1.out
  refine bodyPost_ret (results_cell_row rfl _ _ w.heap.size 36 #[.int .i64 s.ns, .int .i64 s.nf, .bool s.ld, .int .i64 s.up, .int .i64 s.ex, .slice xa s.done.length xcp, .slice ya s.com.length ycp, .int .i64 s.ref] (0, 0) _ rfl (by exact R8) Tryz.underlying36 rfl (by kernel_rfl)) rfl ?_
  exact ⟨_, _, rfl, by exact set8_own R1.out OD.out (by decide), by exact set8_own R1.out OC.out (by decide), by exact set8_below B1.out (Nat.le_refl _)⟩
end Go.Proofs.YtmmkhodaljpjgabGreatDoor
