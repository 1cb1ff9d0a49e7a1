import Derived.Test.YtmmkhodaljpjgaaGreatDoorW11
import Derived.Test.YtmmkhodaljpjgaaGreatDoorW06
import Derived.Test.YtmmkhodaljpjgaaGreatDoorW04
import Derived.Test.YtmmkhodaljpjgaaGreatDoorW03
namespace Go.Proofs.YtmmkhodaljpjgaaGreatDoor
open Go.RowKit
def Sv.hd (x : Sv) (i : Nat) : Hd := x.said.getD i noHd
def Sv.freshB (x : Sv) (h : Hd) : Bool := h.said && !tLater x.ns x.nf (tSum h.ws h.wf x.fresh 0).1 (tSum h.ws h.wf x.fresh 0).2
/-- How many of the first k say so, and are fresh. -/
def Sv.cnt (x : Sv) (l : Int) : Nat → Int
  | 0 => 0
  | k + 1 => if (x.hd k).leap = l ∧ x.freshB (x.hd k) = true then x.cnt l k + 1 else x.cnt l k
theorem Sv.cnt_bd (x : Sv) (l : Int) (k : Nat) : 0 ≤ x.cnt l k ∧ x.cnt l k ≤ k := by
  induction k with
  | zero => simp [Sv.cnt]
  | succ k ih => unfold Sv.cnt; split <;> omega
theorem Sv.tally_cnt {x : Sv} (hs : ∀ h ∈ x.said, 0 ≤ h.leap ∧ h.leap ≤ 3) (k : Nat) (hk : k ≤ x.said.length) : x.tally k = (x.cnt 0 k + x.cnt 1 k + x.cnt 2 k, x.cnt 1 k, x.cnt 2 k) := by
  induction k with
  | zero => rfl
  | succ k ih =>
    have lk : k < x.said.length := by omega
    have e : x.said.getD k noHd = x.said[k] := by rw [List.getD_eq_getElem?_getD, List.getElem?_eq_getElem lk]; rfl
    have hb := hs _ (List.getElem_mem lk)
    rw [← e] at hb
    have eh : x.hd k = x.said.getD k noHd := rfl
    unfold Sv.tally Sv.cnt
    rw [ih (by omega), eh]
    generalize x.said.getD k noHd = h at *
    have ec : x.counts h = (x.freshB h && h.leap != 3) := rfl
    rw [ec]
    cases hf : x.freshB h with
    | false => simp
    | true =>
      obtain ⟨h0, h3⟩ := hb
      simp only [Bool.true_and, bne_iff_ne, ne_eq]
      have : h.leap = 0 ∨ h.leap = 1 ∨ h.leap = 2 ∨ h.leap = 3 := by omega
      rcases this with q | q | q | q
      · rw [q]; simp; omega
      · rw [q]; simp; omega
      · rw [q]; simp; omega
      · rw [q]; simp
theorem Sv.cnt_rest {x : Sv} (l : Int) (k : Nat) : x.cnt l (x.said.length + k) = x.cnt l x.said.length := by
  induction k with
  | zero => rfl
  | succ k ih =>
    have st : x.cnt l (x.said.length + k + 1) = if (x.hd (x.said.length + k)).leap = l ∧ x.freshB (x.hd (x.said.length + k)) = true then x.cnt l (x.said.length + k) + 1 else x.cnt l (x.said.length + k) := rfl
    rw [← Nat.add_assoc, st]
    have e : x.hd (x.said.length + k) = noHd := by
      unfold Sv.hd
      rw [List.getD_eq_getElem?_getD, List.getElem?_eq_none (by omega)]; rfl
    rw [e, if_neg (by intro h; cases h.2), ih]
theorem Sv.Num.most_eq {x : Sv} (h : x.Num) : x.most = if 2 * x.cnt 1 8 > x.cnt 1 8 + x.cnt 2 8 + x.cnt 0 8 then 1 else if 2 * x.cnt 2 8 > x.cnt 1 8 + x.cnt 2 8 + x.cnt 0 8 then -1 else 0 := by
  have e : ∀ l, x.cnt l 8 = x.cnt l x.said.length := fun l => by
    have := x.cnt_rest l (8 - x.said.length)
    rw [show x.said.length + (8 - x.said.length) = 8 from by have := h.sl; omega] at this
    exact this
  rw [e 0, e 1, e 2]
  unfold Sv.most
  rw [Sv.tally_cnt (fun q hq => (h.sok q hq).2) _ (Nat.le_refl _)]
  have : x.cnt 0 x.said.length + x.cnt 1 x.said.length + x.cnt 2 x.said.length = x.cnt 1 x.said.length + x.cnt 2 x.said.length + x.cnt 0 x.said.length := by omega
  simp only [this]
theorem Sv.fresh_eq {x : Sv} (h : Hd) (t2 : 0 ≤ x.nf) (t3 : x.nf < 4294967296) (w0 : 0 ≤ h.wf) (w1 : h.wf < 4294967296) : x.freshB h = (h.said && !tLater (gone x.ns x.nf h.ws h.wf).1 (gone x.ns x.nf h.ws h.wf).2 x.fresh 0) := by
  unfold Sv.freshB
  rw [gone_later t2 t3 w0 w1]
theorem Sv.Num.hd_ok {x : Sv} (h : x.Num) (i : Nat) : (x.hd i).Ok ∧ 0 ≤ (x.hd i).leap ∧ (x.hd i).leap ≤ 3 := by
  unfold Sv.hd
  rw [List.getD_eq_getElem?_getD]
  cases e : x.said[i]? with
  | none => exact ⟨⟨by decide, by decide, by decide, by decide⟩, by decide, by decide⟩
  | some q => exact h.sok q (List.mem_of_getElem? e)
end Go.Proofs.YtmmkhodaljpjgaaGreatDoor
namespace Go.Proofs.YtmmkhodaljpjgaaGreatDoor
open Go.RowKit
/-- What See tells of the program's server at block b. -/
def Shows (b : Nat) (s : Sv) (w : World) : Prop :=
  Calls Tryz.prog 59 #[.pointer (some ⟨b, 0, none⟩)] w fun e w' => ∃ dv cv, e = .returned (.agg #[.int .i64 s.ns, .int .i64 s.nf, .bool s.ld, .int .i64 s.up, .int .i64 s.ex, dv, cv, .int .i64 s.ref]) ∧
    w'.ownsRow w.heap.size 84 2 dv s.done.length (flat s.done) ∧ w'.ownsRow w.heap.size 121 5 cv s.com.length (flatC s.com) ∧ Below w.heap.size w w'
/-- A call of the program's on a server. -/
def PDoes (P : Nat → Sv → (Nat → Prop) → World → Prop) (fn : FuncId) (args : Nat → Array Value) (s s' : Sv) (ev : Int) (G : World → Prop) : Prop := ∀ b F W, P b s F W → G W →
  Calls Tryz.prog fn (args b) W fun e w' => e = .returned (.int .i64 ev) ∧ ∃ F', P b s' F' w' ∧ Off F W w' ∧ ∀ k, F' k → F k ∨ W.heap.size ≤ k
/-- What the program's New answers. -/
def PNewP (P : Nat → Sv → (Nat → Prop) → World → Prop) (cf : Bool) (s : Sv) (w : World) (e : Ending) (w' : World) : Prop :=
  (cf = false → e = .returned (.tuple #[.pointer none, .int .i64 10]) ∧ Below w.heap.size w w') ∧ (cf = true → ∃ b F, e = .returned (.tuple #[.pointer (some ⟨b, 0, none⟩), .int .i64 0]) ∧ P b s F w' ∧ (∀ k, F k → w.heap.size ≤ k) ∧ Below w.heap.size w w')
/-- The program's New. -/
def PNews (P : Nat → Sv → (Nat → Prop) → World → Prop) (mode win src fresh s f : Int) : Prop := ∀ W, Calls Tryz.prog 53 #[.agg #[.int .i64 mode, .int .i64 win, .int .i64 src, .int .i64 fresh, .int .i64 s, .int .i64 f]] W fun e w' => PNewP P (cfgB mode win src fresh s f) (Sv.init mode win fresh s f src.toNat) W e w'
/-- The program's Load on a server. -/
def PLoads (P : Nat → Sv → (Nat → Prop) → World → Prop) (t : ByteArray) (s s' : Sv) (ev nv : Int) (G : World → Prop) : Prop := ∀ b F W, P b s F W → G W →
  Calls Tryz.prog 64 #[.pointer (some ⟨b, 0, none⟩), .string t] W fun e w' => e = .returned (.tuple #[.int .i64 ev, .int .i64 nv]) ∧ ∃ F', P b s' F' w' ∧ Off F W w' ∧ ∀ k, F' k → F k ∨ W.heap.size ≤ k
/-- What Now tells (the program's), or Served (the document's). -/
def Tells (fn : FuncId) (b : Nat) (ts tf li er : Int) (w : World) : Prop :=
  Calls Tryz.prog fn #[.pointer (some ⟨b, 0, none⟩)] w fun e w' => e = .returned (.tuple #[.agg #[.int .i64 ts, .int .i64 tf], .int .i64 li, .int .i64 er]) ∧ Below w.heap.size w w'
end Go.Proofs.YtmmkhodaljpjgaaGreatDoor
namespace Go.Proofs.YtmmkhodaljpjgaaGreatDoor
open Go.RowKit
/-- Entries that can be read. -/
def Read (w : World) (ao : Option Addr) (ls : List (Int × Int)) : Prop := 0 < ls.length → ∃ g, ao = some ⟨g, 0, none⟩ ∧ g < w.heap.size ∧ Lies w g ls
theorem Read.below {w w' : World} {ao : Option Addr} {ls : List (Int × Int)} (h : Read w ao ls) (hb : Below w.heap.size w w') : Read w' ao ls := fun hp => by
  obtain ⟨g, e, lg, hl⟩ := h hp
  exact ⟨g, e, by have := hb.size; omega, hl.below lg hb⟩
theorem read_of {w : World} {B e n cap : Nat} {ao : Option Addr} {ls : List (Int × Int)} (h : w.ownsRow B e 2 (.slice ao n cap) n (flat ls)) (hl : ls.length = n) : Read w ao ls := fun hp => by
  obtain ⟨g, cap', hg⟩ := own_some h (by omega)
  obtain ⟨rfl, _, rfl⟩ := Value.slice.inj hg
  exact ⟨g, rfl, (h.lt _ rfl).2, lies_of h hl⟩
set_option maxRecDepth 100000 in
set_option maxHeartbeats 3200000 in
theorem copy_of (ao : Option Addr) (n cap : Nat) (ls : List (Int × Int)) (w : World) (hr : Read w ao ls) (hl : ls.length = n) (hn : n ≤ 1000) :
    Calls Tryz.prog 146 #[.slice ao n cap] w fun e w' => ∃ v, e = .returned v ∧ w'.ownsRow w.heap.size 84 2 v n (flat ls) ∧ Below w.heap.size w w' := by
  obtain ⟨i0, hi0, hz0, hz1, hz2⟩ := info_parts infoALeap
  have HR := hid' hr
  clear hr
  go_enter Tryz.func146, Tryz.ntmps146
  go_wp2
  go_loopw [3, 4] (fun v i wr => ∃ k : Nat, k ≤ n ∧ i = .int .i64 k ∧ wr.ownsRow w.heap.size 84 2 v k (flat (ls.take k)) ∧ Below w.heap.size w wr) (fun _ i _ => n - (intOf i).toNat)
  case atStart => exact ⟨0, by omega, rfl, World.ownsRow_nil _ _ _ _, Below.refl _ _⟩
  case round =>
    obtain ⟨k, hk, rfl, own, hb⟩ := hrel
    have OWN := hid' own
    have HB := hid' hb
    have hsz := hb.size
    by_cases hlt : k < n
    · obtain ⟨g, rfl, lg, hlies⟩ := HR.out (by omega)
      have a0 := (hb.cell (p := ⟨g, k * 2, none⟩) lg).trans (hlies k (by omega)).1
      have a1 := (hb.cell (p := ⟨g, k * 2 + 1, none⟩) lg).trans (hlies k (by omega)).2
      have htk : ls.take (k + 1) = ls.take k ++ [ls[k]'(by omega)] := List.take_succ_eq_append_getElem (by omega)
      have HTK := hid' htk
      generalize ls[k]'(by omega) = p at *
      obtain ⟨pa, po⟩ := p
      simp only at a0 a1
      have hli : (k : Int) < (n : Int) := by omega
      obtain ⟨va, vcp, hv⟩ := own_slice own
      subst hv
      clear own hb htk hlies
      go_wp2_with (at_builtin; refine wpList_append_lies _ (by rfl) (.tmp 11) (.tmp 16) 76 (by rfl) w.heap.size 84 i0 (.agg #[.int .i64 0, .int .i64 0]) 2 16 Tryz.underlying76 hi0 hz0 hz1 hz2 rfl (by decide) (.slice va k vcp) k (flat (ls.take k)) (by rfl) (OWN.out.alloc _) ⟨wr.heap.size, 0, none⟩ 1 1 [.int .i64 pa, .int .i64 po] (by rfl) (by rfl) (World.news_of_block (cs := #[.int .i64 pa, .int .i64 po]) (t := 84) (fr := (0, 0)) (heap_alloc_new wr _)) (by simp [Value.oneCell']) (by decide) (by unfold maxLen; omega) (by omega) (by simp <;> omega) (wr.heap.size + 1) (by simp) ?_; intro g3 cap3 w3 own3 hg3 hat3 hlt3; have OWN3 := hid' own3; have HG3 := hid' hg3; clear own3 hg3 hat3)
      go_roundw
      case rel =>
        refine ⟨k + 1, by omega, by go_num, by rw [HTK.out, flat_append]; exact OWN3.out, ?_⟩
        exact (HB.out.alloc hsz _).grown HG3.out (by simp; omega) (own_ge OWN.out)
      case measure => simp [intOf]; omega
    · have hnl : ¬ (k : Int) < (n : Int) := by omega
      obtain rfl : k = n := by omega
      clear own hb
      go_wp2
      go_ret
      refine ⟨_, rfl, ?_, HB.out⟩
      have := OWN.out
      rw [List.take_of_length_le (by omega)] at this
      exact this
/-- The cells of the program's server. -/
def pCells (s : Sv) (dv cv : Value) (op : Bool) (bs bf : Int) : Array Value := #[.int .i64 s.mode, .int .i64 s.win, .int .i64 s.said.length, .int .i64 s.fresh, .int .i64 s.ns, .int .i64 s.nf, .bool s.ld, .int .i64 s.up, .int .i64 s.ex, dv, cv, .int .i64 s.ref,
  .bool (s.hd 0).said, .int .i64 (s.hd 0).leap, .int .i64 (s.hd 0).ws, .int .i64 (s.hd 0).wf, .bool (s.hd 1).said, .int .i64 (s.hd 1).leap, .int .i64 (s.hd 1).ws, .int .i64 (s.hd 1).wf,
  .bool (s.hd 2).said, .int .i64 (s.hd 2).leap, .int .i64 (s.hd 2).ws, .int .i64 (s.hd 2).wf, .bool (s.hd 3).said, .int .i64 (s.hd 3).leap, .int .i64 (s.hd 3).ws, .int .i64 (s.hd 3).wf,
  .bool (s.hd 4).said, .int .i64 (s.hd 4).leap, .int .i64 (s.hd 4).ws, .int .i64 (s.hd 4).wf, .bool (s.hd 5).said, .int .i64 (s.hd 5).leap, .int .i64 (s.hd 5).ws, .int .i64 (s.hd 5).wf,
  .bool (s.hd 6).said, .int .i64 (s.hd 6).leap, .int .i64 (s.hd 6).ws, .int .i64 (s.hd 6).wf, .bool (s.hd 7).said, .int .i64 (s.hd 7).leap, .int .i64 (s.hd 7).ws, .int .i64 (s.hd 7).wf,
  .bool op, .int .i64 bs, .int .i64 bf]
/-- The program's server at block b. -/
structure PRow (b : Nat) (s : Sv) (dv cv : Value) (op : Bool) (bs bf : Int) (w : World) : Prop where
  row : w.heap[b]? = some (.cells (pCells s dv cv op bs bf) 157 (0, 0))
  dd : w.ownsRow 0 84 2 dv s.done.length (flat s.done)
  cc : w.ownsRow 0 121 5 cv s.com.length (flatC s.com)
  sl : s.said.length ≤ 8
def pFoot (b : Nat) (dv cv : Value) (k : Nat) : Prop := k = b ∨ dv.ownBlock = some k ∨ cv.ownBlock = some k
theorem PRow.keep {b : Nat} {s : Sv} {dv cv : Value} {op : Bool} {bs bf : Int} {w w' : World} (h : PRow b s dv cv op bs bf w) (hk : ∀ k, pFoot b dv cv k → w'.heap[k]? = w.heap[k]?) : PRow b s dv cv op bs bf w' :=
  ⟨(hk b (.inl rfl)).trans h.row, own_same h.dd (fun k e => hk k (.inr (.inl e))), own_same h.cc (fun k e => hk k (.inr (.inr e))), h.sl⟩
theorem PRow.typ {b : Nat} {s : Sv} {dv cv : Value} {op : Bool} {bs bf : Int} {w : World} (h : PRow b s dv cv op bs bf w) {k : Nat} (hk : pFoot b dv cv k) : ∃ cs e fr, w.heap[k]? = some (.cells cs e fr) ∧ (e = 157 ∨ e = 84 ∨ e = 121) := by
  rcases hk with rfl | e | e
  · exact ⟨_, _, _, h.row, .inl rfl⟩
  · obtain ⟨cs, fr, hh⟩ := own_typ h.dd e; exact ⟨_, _, _, hh, .inr (.inl rfl)⟩
  · obtain ⟨cs, fr, hh⟩ := own_typ h.cc e; exact ⟨_, _, _, hh, .inr (.inr rfl)⟩
theorem PRow.below {b : Nat} {s : Sv} {dv cv : Value} {op : Bool} {bs bf : Int} {w w' : World} (h : PRow b s dv cv op bs bf w) (hb : Below w.heap.size w w') : PRow b s dv cv op bs bf w' :=
  h.keep fun k hk => by obtain ⟨cs, e, fr, hh, _⟩ := h.typ hk; exact hb.block k (lt_of_heap hh)
theorem PRow.c0 {b : Nat} {s : Sv} {dv cv : Value} {op : Bool} {bs bf : Int} {w : World} (h : PRow b s dv cv op bs bf w) : w.cell? ⟨b, 0, none⟩ = some (.int .i64 s.mode) := cell_of_row _ _ _ _ _ _ h.row
theorem PRow.c1 {b : Nat} {s : Sv} {dv cv : Value} {op : Bool} {bs bf : Int} {w : World} (h : PRow b s dv cv op bs bf w) : w.cell? ⟨b, 1, none⟩ = some (.int .i64 s.win) := cell_of_row _ _ _ _ _ _ h.row
theorem PRow.c2 {b : Nat} {s : Sv} {dv cv : Value} {op : Bool} {bs bf : Int} {w : World} (h : PRow b s dv cv op bs bf w) : w.cell? ⟨b, 2, none⟩ = some (.int .i64 s.said.length) := cell_of_row _ _ _ _ _ _ h.row
theorem PRow.c3 {b : Nat} {s : Sv} {dv cv : Value} {op : Bool} {bs bf : Int} {w : World} (h : PRow b s dv cv op bs bf w) : w.cell? ⟨b, 3, none⟩ = some (.int .i64 s.fresh) := cell_of_row _ _ _ _ _ _ h.row
theorem PRow.c4 {b : Nat} {s : Sv} {dv cv : Value} {op : Bool} {bs bf : Int} {w : World} (h : PRow b s dv cv op bs bf w) : w.cell? ⟨b, 4, none⟩ = some (.int .i64 s.ns) := cell_of_row _ _ _ _ _ _ h.row
theorem PRow.c5 {b : Nat} {s : Sv} {dv cv : Value} {op : Bool} {bs bf : Int} {w : World} (h : PRow b s dv cv op bs bf w) : w.cell? ⟨b, 5, none⟩ = some (.int .i64 s.nf) := cell_of_row _ _ _ _ _ _ h.row
theorem PRow.c6 {b : Nat} {s : Sv} {dv cv : Value} {op : Bool} {bs bf : Int} {w : World} (h : PRow b s dv cv op bs bf w) : w.cell? ⟨b, 6, none⟩ = some (.bool s.ld) := cell_of_row _ _ _ _ _ _ h.row
theorem PRow.c7 {b : Nat} {s : Sv} {dv cv : Value} {op : Bool} {bs bf : Int} {w : World} (h : PRow b s dv cv op bs bf w) : w.cell? ⟨b, 7, none⟩ = some (.int .i64 s.up) := cell_of_row _ _ _ _ _ _ h.row
theorem PRow.c8 {b : Nat} {s : Sv} {dv cv : Value} {op : Bool} {bs bf : Int} {w : World} (h : PRow b s dv cv op bs bf w) : w.cell? ⟨b, 8, none⟩ = some (.int .i64 s.ex) := cell_of_row _ _ _ _ _ _ h.row
theorem PRow.c9 {b : Nat} {s : Sv} {dv cv : Value} {op : Bool} {bs bf : Int} {w : World} (h : PRow b s dv cv op bs bf w) : w.cell? ⟨b, 9, none⟩ = some (dv) := cell_of_row _ _ _ _ _ _ h.row
theorem PRow.c10 {b : Nat} {s : Sv} {dv cv : Value} {op : Bool} {bs bf : Int} {w : World} (h : PRow b s dv cv op bs bf w) : w.cell? ⟨b, 10, none⟩ = some (cv) := cell_of_row _ _ _ _ _ _ h.row
theorem PRow.c11 {b : Nat} {s : Sv} {dv cv : Value} {op : Bool} {bs bf : Int} {w : World} (h : PRow b s dv cv op bs bf w) : w.cell? ⟨b, 11, none⟩ = some (.int .i64 s.ref) := cell_of_row _ _ _ _ _ _ h.row
theorem PRow.c44 {b : Nat} {s : Sv} {dv cv : Value} {op : Bool} {bs bf : Int} {w : World} (h : PRow b s dv cv op bs bf w) : w.cell? ⟨b, 44, none⟩ = some (.bool op) := cell_of_row _ _ _ _ _ _ h.row
theorem PRow.c45 {b : Nat} {s : Sv} {dv cv : Value} {op : Bool} {bs bf : Int} {w : World} (h : PRow b s dv cv op bs bf w) : w.cell? ⟨b, 45, none⟩ = some (.int .i64 bs) := cell_of_row _ _ _ _ _ _ h.row
theorem PRow.c46 {b : Nat} {s : Sv} {dv cv : Value} {op : Bool} {bs bf : Int} {w : World} (h : PRow b s dv cv op bs bf w) : w.cell? ⟨b, 46, none⟩ = some (.int .i64 bf) := cell_of_row _ _ _ _ _ _ h.row
theorem PRow.lt {b : Nat} {s : Sv} {dv cv : Value} {op : Bool} {bs bf : Int} {w : World} (h : PRow b s dv cv op bs bf w) : b < w.heap.size := lt_of_heap h.row
theorem PRow.fr {b : Nat} {s : Sv} {dv cv : Value} {op : Bool} {bs bf : Int} {w : World} (h : PRow b s dv cv op bs bf w) (k : Nat) : w.frozen? ⟨b, k, none⟩ = false := frozen_of_row _ _ k _ _ h.row
/-- One cell is written. -/
theorem PRow.put {b : Nat} {s s' : Sv} {dv cv : Value} {op op' : Bool} {bs bf bs' bf' : Int} {w : World} (h : PRow b s dv cv op bs bf w) (k : Nat) (v : Value) (e : (pCells s dv cv op bs bf).setIfInBounds k v = pCells s' dv cv op' bs' bf') (hd : s'.done = s.done) (hc : s'.com = s.com) (hs : s'.said.length = s.said.length) : PRow b s' dv cv op' bs' bf' (w.setCell ⟨b, k, none⟩ v) := by
  refine ⟨?_, by rw [hd]; exact own_set (p := ⟨b, k, none⟩) h.dd h.row (by decide) _, by rw [hc]; exact own_set (p := ⟨b, k, none⟩) h.cc h.row (by decide) _, by rw [hs]; exact h.sl⟩
  rw [heap_setCell_same _ _ _ _ _ _ h.row, ← e]
/-- What a source said last, as it lies in memory. -/
theorem PRow.hdAt {b : Nat} {s : Sv} {dv cv : Value} {op : Bool} {bs bf : Int} {w : World} (h : PRow b s dv cv op bs bf w) (i : Nat) (hi : i < 8) :
    w.cell? ⟨b, 12 + i * 4, none⟩ = some (.bool (s.hd i).said) ∧ w.cell? ⟨b, 12 + i * 4 + 1, none⟩ = some (.int .i64 (s.hd i).leap) ∧ w.cell? ⟨b, 12 + i * 4 + 2, none⟩ = some (.int .i64 (s.hd i).ws) ∧ w.cell? ⟨b, 12 + i * 4 + 3, none⟩ = some (.int .i64 (s.hd i).wf) := by
  have r := h.row
  match i, hi with
  | 0, _ | 1, _ | 2, _ | 3, _ | 4, _ | 5, _ | 6, _ | 7, _ => exact ⟨cell_of_row _ _ _ _ _ _ r, cell_of_row _ _ _ _ _ _ r, cell_of_row _ _ _ _ _ _ r, cell_of_row _ _ _ _ _ _ r⟩
theorem Sv.hd_says (s : Sv) (k : Nat) (leap : Int) (hk : k < s.said.length) (i : Nat) : (s.says k leap).hd i = if i = k then ⟨true, leap, s.ns, s.nf⟩ else s.hd i := by
  unfold Sv.hd Sv.says
  simp only [List.getD_eq_getElem?_getD, List.getElem?_set]
  split
  · rename_i e; subst e; rw [if_pos rfl]; simp
  · rename_i e; rw [if_neg (fun q => e q.symm)]
set_option maxHeartbeats 3200000 in
/-- A source says something. -/
theorem PRow.putH {b : Nat} {s : Sv} {dv cv : Value} {op : Bool} {bs bf : Int} {w : World} (h : PRow b s dv cv op bs bf w) (k : Nat) (leap : Int) (hk : k < s.said.length) :
    PRow b (s.says k leap) dv cv op bs bf ((((w.setCell ⟨b, 12 + k * 4, none⟩ (.bool true)).setCell ⟨b, 12 + k * 4 + 1, none⟩ (.int .i64 leap)).setCell ⟨b, 12 + k * 4 + 2, none⟩ (.int .i64 s.ns)).setCell ⟨b, 12 + k * 4 + 3, none⟩ (.int .i64 s.nf)) := by
  have r0 := h.row
  have r1 := heap_setCell_same _ _ (12 + k * 4) _ _ (.bool true) r0
  have r2 := heap_setCell_same _ _ (12 + k * 4 + 1) _ _ (.int .i64 leap) r1
  have r3 := heap_setCell_same _ _ (12 + k * 4 + 2) _ _ (.int .i64 s.ns) r2
  have r4 := heap_setCell_same _ _ (12 + k * 4 + 3) _ _ (.int .i64 s.nf) r3
  have ow : ∀ {B e size n : Nat} {v : Value} {xs : List Value}, w.ownsRow B e size v n xs → 157 ≠ e → ((((w.setCell ⟨b, 12 + k * 4, none⟩ (.bool true)).setCell ⟨b, 12 + k * 4 + 1, none⟩ (.int .i64 leap)).setCell ⟨b, 12 + k * 4 + 2, none⟩ (.int .i64 s.ns)).setCell ⟨b, 12 + k * 4 + 3, none⟩ (.int .i64 s.nf)).ownsRow B e size v n xs := fun o he =>
    own_set (p := ⟨b, 12 + k * 4 + 3, none⟩) (own_set (p := ⟨b, 12 + k * 4 + 2, none⟩) (own_set (p := ⟨b, 12 + k * 4 + 1, none⟩) (own_set (p := ⟨b, 12 + k * 4, none⟩) o r0 he _) r1 he _) r2 he _) r3 he _
  have sl := h.sl
  have len : (s.says k leap).said.length = s.said.length := List.length_set
  refine ⟨?_, ow h.dd (by decide), ow h.cc (by decide), by rw [len]; exact sl⟩
  rw [r4]
  have hh := fun i => s.hd_says k leap hk i
  have k8 : k < 8 := by omega
  have e : ((((pCells s dv cv op bs bf).setIfInBounds (12 + k * 4) (.bool true)).setIfInBounds (12 + k * 4 + 1) (.int .i64 leap)).setIfInBounds (12 + k * 4 + 2) (.int .i64 s.ns)).setIfInBounds (12 + k * 4 + 3) (.int .i64 s.nf) = pCells (s.says k leap) dv cv op bs bf := by
    unfold pCells
    rw [len]
    clear r0 r1 r2 r3 r4 ow
    have ymode : (s.says k leap).mode = s.mode := rfl
    have ywin : (s.says k leap).win = s.win := rfl
    have yfresh : (s.says k leap).fresh = s.fresh := rfl
    have yns : (s.says k leap).ns = s.ns := rfl
    have ynf : (s.says k leap).nf = s.nf := rfl
    have yld : (s.says k leap).ld = s.ld := rfl
    have yup : (s.says k leap).up = s.up := rfl
    have yex : (s.says k leap).ex = s.ex := rfl
    have yref : (s.says k leap).ref = s.ref := rfl
    clear h
    generalize s.says k leap = y at *
    simp only [hh, ymode, ywin, yfresh, yns, ynf, yld, yup, yex, yref]
    clear hh len hk ymode ywin yfresh yns ynf yld yup yex yref
    match k, k8 with
    | 0, _ => simp
    | 1, _ => simp
    | 2, _ => simp
    | 3, _ => simp
    | 4, _ => simp
    | 5, _ => simp
    | 6, _ => simp
    | 7, _ => simp
  rw [e]
/-- The program's server. -/
def PS (b : Nat) (s : Sv) (F : Nat → Prop) (w : World) : Prop := ∃ dv cv op bs bf, PRow b s dv cv op bs bf w ∧ Opn s op bs bf ∧ ∀ k, F k ↔ pFoot b dv cv k
end Go.Proofs.YtmmkhodaljpjgaaGreatDoor
namespace Go.Proofs.YtmmkhodaljpjgaaGreatDoor
open Go.RowKit
/-- The mark of the i-th of n cells. -/
def mk (m b n i : Int) : Int := if 0 < b ∧ n - 2 ≤ i then b + i - (n - 2) else m + i
theorem view_at (a1 a2 : Option Addr) (n1 n2 c1 c2 : Nat) (m b i n : Int) (w : World) (hm0 : 0 ≤ m) (hm1 : m ≤ 1000000000000) (hb0 : 0 ≤ b) (hb1 : b ≤ 1000000000000) (hi0 : 0 ≤ i) (hi1 : i ≤ 100000) (hn0 : 0 ≤ n) (hn1 : n ≤ 100000) :
    Calls Tryz.prog 106 #[.agg #[.slice a1 n1 c1, .slice a2 n2 c2, .int .i64 m, .int .i64 b], .int .i64 i, .int .i64 n] w fun e w' => e = .returned (.int .i64 (mk m b n i)) ∧ Below w.heap.size w w' := by
  have B0 := hid' ((Below.refl w.heap.size w).alloc (Nat.le_refl _) (.cells #[.slice a1 n1 c1, .slice a2 n2 c2, .int .i64 m, .int .i64 b] 126))
  by_cases h1 : 0 < b
  · by_cases h2 : n - 2 ≤ i
    · have H : Hid (mk m b n i = b + i - (n - 2)) := by show _ = _; unfold mk; rw [if_pos ⟨h1, h2⟩]
      go_enter Tryz.func106, Tryz.ntmps106
      go_wp2
      go_ret
      exact ⟨ret_int H.out.symm, B0.out⟩
    · have H : Hid (mk m b n i = m + i) := by show _ = _; unfold mk; rw [if_neg (fun h => h2 h.2)]
      go_enter Tryz.func106, Tryz.ntmps106
      go_wp2
      go_ret
      exact ⟨ret_int H.out.symm, B0.out⟩
  · have H : Hid (mk m b n i = m + i) := by show _ = _; unfold mk; rw [if_neg (fun h => h1 h.1)]
    go_enter Tryz.func106, Tryz.ntmps106
    go_wp2
    go_ret
    exact ⟨ret_int H.out.symm, B0.out⟩
/-- A list of n of which each has its mark. -/
structure Marks (w : World) (e : TypeId) (size : Nat) (v : Value) (m b : Int) : Prop where
  is : ∃ ao n cap, v = .slice ao n cap ∧ n ≤ 1000 ∧ (0 < n → ∃ g, ao = some ⟨g, 0, none⟩ ∧ (∃ cs fr, w.heap[g]? = some (.cells cs e fr)) ∧ ∀ i, i < n → w.cell? ⟨g, i * size, none⟩ = some (.int .i64 (mk m b n i)) ∧ w.cell? ⟨g, i * size + 1, none⟩ = some (.int .i64 (mk m b n i)))
/-- The block of a list that has something. -/
def vFoot (v : Value) (k : Nat) : Prop := ∃ n cap, 0 < n ∧ v = .slice (some ⟨k, 0, none⟩) n cap
theorem Marks.keep {w w' : World} {e : TypeId} {size : Nat} {v : Value} {m b : Int} (h : Marks w e size v m b) (hk : ∀ k, vFoot v k → w'.heap[k]? = w.heap[k]?) : Marks w' e size v m b := by
  obtain ⟨ao, n, cap, rfl, hn, hg⟩ := h.is
  refine ⟨ao, n, cap, rfl, hn, fun hp => ?_⟩
  obtain ⟨g, rfl, ⟨cs, fr, hl⟩, hc⟩ := hg hp
  have hb := hk g ⟨n, cap, hp, rfl⟩
  exact ⟨g, rfl, ⟨cs, fr, hb.trans hl⟩, fun i hi => ⟨(World.cell?_of_block (w := w) (a := ⟨g, i * size, none⟩) hb).trans (hc i hi).1, (World.cell?_of_block (w := w) (a := ⟨g, i * size + 1, none⟩) hb).trans (hc i hi).2⟩⟩
theorem Marks.typ {w : World} {e : TypeId} {size : Nat} {v : Value} {m b : Int} (h : Marks w e size v m b) {k : Nat} (hk : vFoot v k) : ∃ cs fr, w.heap[k]? = some (.cells cs e fr) := by
  obtain ⟨ao, n, cap, rfl, hn, hg⟩ := h.is
  obtain ⟨n', cap', h0, hv⟩ := hk
  obtain ⟨rfl, rfl, rfl⟩ := Value.slice.inj hv
  obtain ⟨g, e', hl, _⟩ := hg h0
  cases e'
  exact hl
theorem Marks.below {w w' : World} {e : TypeId} {size : Nat} {v : Value} {m b : Int} (h : Marks w e size v m b) (hb : Below w.heap.size w w') : Marks w' e size v m b :=
  h.keep fun k hk => by
    obtain ⟨cs, fr, hl⟩ := h.typ hk
    exact hb.block k (lt_of_heap hl)
set_option maxRecDepth 100000 in
set_option maxHeartbeats 1600000 in
theorem unchanged_yes (dv cv : Value) (m b : Int) (w : World) (hD : Marks w 84 2 dv m b) (hC : Marks w 121 5 cv m b) (hm0 : 0 ≤ m) (hm1 : m ≤ 100000000000) (hb0 : 0 ≤ b) (hb1 : b ≤ 100000000000) :
    Calls Tryz.prog 61 #[.agg #[dv, cv, .int .i64 m, .int .i64 b]] w fun e w' => e = .returned (.bool true) ∧ Below w.heap.size w w' := by
  have B0 := hid' ((Below.refl w.heap.size w).alloc (Nat.le_refl _) (.cells #[dv, cv, .int .i64 m, .int .i64 b] 126))
  have R0 := heap_alloc_new w (.cells #[dv, cv, .int .i64 m, .int .i64 b] 126)
  have hD1 := hD.below B0.out
  have hC1 := hC.below B0.out
  obtain ⟨a1, n1, c1, rfl, hn1, hg1⟩ := hD1.is
  obtain ⟨a2, n2, c2, rfl, hn2, hg2⟩ := hC1.is
  have HG1 := hid' hg1
  have HG2 := hid' hg2
  have HAT := hid' (fun (i n : Nat) (W : World) (h1 : i ≤ 100000) (h2 : n ≤ 100000) => view_at a1 a2 n1 n2 c1 c2 m b i n W hm0 (by omega) hb0 (by omega) (by omega) (by omega) (by omega) (by omega))
  clear hD hC hD1 hC1 hg1 hg2
  go_enter Tryz.func61, Tryz.ntmps61
  go_wp2_with fail
  generalize hV : w.alloc (.cells #[.slice a1 n1 c1, .slice a2 n2 c2, .int .i64 m, .int .i64 b] 126) = V at *
  clear hV
  have HR0 := hid' R0
  clear R0
  go_loopw [3, 4, 5] (fun ok i _ wr => ∃ k : Nat, k ≤ n1 ∧ i = .int .i64 k ∧ ok = .bool true ∧ Below V.heap.size V wr) (fun _ i _ _ => n1 - (intOf i).toNat)
  case atStart => exact ⟨0, by omega, rfl, rfl, Below.refl _ _⟩
  case round =>
    obtain ⟨k, hk, rfl, rfl, hb⟩ := hrel
    have row := (hb.block _ (lt_of_heap HR0.out)).trans HR0.out
    have r0 := cell_of_row _ _ 0 _ _ _ row
    have r1 := cell_of_row _ _ 1 _ _ _ row
    have r2 := cell_of_row _ _ 2 _ _ _ row
    have r3 := cell_of_row _ _ 3 _ _ _ row
    have rl := lt_of_heap row
    simp at r0 r1 r2 r3
    have HB := hid' hb
    clear hb row
    by_cases hlt : k < n1
    · obtain ⟨g, rfl, ⟨gcs, gfr, hgh⟩, hc⟩ := HG1.out (by omega)
      have hgl := lt_of_heap hgh
      clear hgh
      obtain ⟨c0, c1'⟩ := hc k hlt
      have HC0 := hid' ((HB.out.cell (p := ⟨g, k * 2, none⟩) hgl).trans c0)
      have HC1 := hid' ((HB.out.cell (p := ⟨g, k * 2 + 1, none⟩) hgl).trans c1')
      clear hc c0 c1'
      have hgw := Nat.lt_of_lt_of_le hgl HB.out.size
      go_wp2_with fail
      refine (HAT.out k n1 wr (by omega) (by omega)).mono ?_
      rintro e w1 ⟨rfl, hb1⟩
      have HB1 := hid' (HB.out.trans (hb1.mono HB.out.size))
      have p0 := (hb1.cell (p := ⟨w.heap.size, 0, none⟩) rl).trans r0
      have q0 := (hb1.cell (p := ⟨g, k * 2, none⟩) hgw).trans HC0.out
      have q1 := (hb1.cell (p := ⟨g, k * 2 + 1, none⟩) hgw).trans HC1.out
      clear hb1 r0 r1 r2 r3
      generalize mk m b n1 k = x at *
      have z0 : (0 : Int) ≤ (k : Int) := by omega
      have z1 : (k : Int) < (n1 : Int) := by omega
      have e1 : (x == x) = true := by simp
      go_wp2
      go_roundw
      case rel => exact ⟨k + 1, by omega, by go_num, rfl, HB1.out⟩
      case measure => simp [intOf]; omega
    · have hnl : ¬ (k : Int) < (n1 : Int) := by omega
      go_wp2_with fail
      go_loopw [3, 6, 7] (fun ok i _ wr => ∃ k : Nat, k ≤ n2 ∧ i = .int .i64 k ∧ ok = .bool true ∧ Below V.heap.size V wr) (fun _ i _ _ => n2 - (intOf i).toNat)
      case atStart => exact ⟨0, by omega, rfl, rfl, HB.out⟩
      case round =>
        obtain ⟨k, hk, rfl, rfl, hb⟩ := hrel
        clear r0 r1 r2 r3 rl
        have row := (hb.block _ (lt_of_heap HR0.out)).trans HR0.out
        have r0 := cell_of_row _ _ 0 _ _ _ row
        have r1 := cell_of_row _ _ 1 _ _ _ row
        have r2 := cell_of_row _ _ 2 _ _ _ row
        have r3 := cell_of_row _ _ 3 _ _ _ row
        have rl := lt_of_heap row
        simp at r0 r1 r2 r3
        have HB := hid' hb
        clear hb row
        by_cases hlt : k < n2
        · obtain ⟨g, rfl, ⟨gcs, gfr, hgh⟩, hc⟩ := HG2.out (by omega)
          have hgl := lt_of_heap hgh
          clear hgh
          obtain ⟨c0, c1'⟩ := hc k hlt
          have HC0 := hid' ((HB.out.cell (p := ⟨g, k * 5, none⟩) hgl).trans c0)
          have HC1 := hid' ((HB.out.cell (p := ⟨g, k * 5 + 1, none⟩) hgl).trans c1')
          clear hc c0 c1'
          have hgw := Nat.lt_of_lt_of_le hgl HB.out.size
          go_wp2_with fail
          refine (HAT.out k n2 _ (by omega) (by omega)).mono ?_
          rintro e w1 ⟨rfl, hb1⟩
          have HB1 := hid' (HB.out.trans (hb1.mono HB.out.size))
          have p0 := (hb1.cell (p := ⟨w.heap.size, 1, none⟩) rl).trans r1
          have q0 := (hb1.cell (p := ⟨g, k * 5, none⟩) hgw).trans HC0.out
          have q1 := (hb1.cell (p := ⟨g, k * 5 + 1, none⟩) hgw).trans HC1.out
          clear hb1 r0 r1 r2 r3
          generalize mk m b n2 k = x at *
          have z0 : (0 : Int) ≤ (k : Int) := by omega
          have z1 : (k : Int) < (n2 : Int) := by omega
          have e1 : (x == x) = true := by simp
          go_wp2
          go_roundw
          case rel => exact ⟨k + 1, by omega, by go_num, rfl, HB1.out⟩
          case measure => simp [intOf]; omega
        · have hnl : ¬ (k : Int) < (n2 : Int) := by omega
          go_wp2
          go_ret
          exact ⟨rfl, B0.out.trans (HB.out.mono B0.out.size)⟩
end Go.Proofs.YtmmkhodaljpjgaaGreatDoor
