import Derived.Test.YtmmkhodaljpjgabGreatDoorW14
import Derived.Test.YtmmkhodaljpjgabGreatDoorW24
import Derived.Test.YtmmkhodaljpjgabGreatDoorW25
namespace Go.Proofs.YtmmkhodaljpjgabGreatDoor
open Go.RowKit
theorem PS.keep {b : Nat} {s : Sv} {F : Nat → Prop} {w w' : World} (h : PS b s F w) (hk : ∀ k, F k → w'.heap[k]? = w.heap[k]?) : PS b s F w' := by
  obtain ⟨dv, cv, op, bs, bf, r, o, f⟩ := h
  exact ⟨dv, cv, op, bs, bf, r.keep (fun k e => hk k ((f k).2 e)), o, f⟩
theorem PS.lt {b : Nat} {s : Sv} {F : Nat → Prop} {w : World} (h : PS b s F w) {k : Nat} (hk : F k) : k < w.heap.size := by
  obtain ⟨dv, cv, op, bs, bf, r, o, f⟩ := h
  obtain ⟨cs, e, fr, hh, _⟩ := r.typ ((f k).1 hk)
  exact lt_of_heap hh
theorem PS.below {b : Nat} {s : Sv} {F : Nat → Prop} {w w' : World} (h : PS b s F w) (hb : Below w.heap.size w w') : PS b s F w' := h.keep fun k hk => hb.block k (h.lt hk)
theorem Sv.adv_ref (x : Sv) (s f : Int) : (x.adv s f).2.ref = x.ref := by
  unfold Sv.adv
  split
  · rfl
  · split
    · rfl
    · exact (Sv.kin_weigh _).ref
theorem Sv.hear_ref (x : Sv) (s f : Int) : (x.hear s f).2.ref = x.ref := by
  unfold Sv.hear
  split
  · rfl
  · split
    · rfl
    · exact (Sv.kin_weigh _).ref
theorem Sv.load_ref {x : Sv} (hl : x.ld = true) (g : Txt.Got) : (x.load g).2.2.ref ≤ x.ref + 1 := by
  unfold Sv.load
  split
  · show x.ref + 1 ≤ _; omega
  · show (Sv.weigh _).ref ≤ _
    rw [(Sv.kin_weigh _).ref, (Sv.taken_kin hl g.up g.ex g.ls).2.2.2.2.2.1]
    omega
/-- What a trial is made of. -/
structure Tq where
  bt : Nat
  bx : Nat
  g : Nat
  N : Nat
  cap : Nat
  up : Int
  ex : Int
  mode : Int
  win : Int
  ls : List (Int × Int)
/-- Its numbers. -/
structure Tq.Ok (q : Tq) : Prop where
  len : q.ls.length = q.N
  N12 : q.N ≤ 12
  bd : ∀ p ∈ q.ls, (0 ≤ p.1 ∧ p.1 ≤ 5000000000) ∧ 0 ≤ p.2 ∧ p.2 ≤ 200
  u0 : 0 ≤ q.up
  u1 : q.up ≤ 5000000000
  x0 : 0 ≤ q.ex
  x1 : q.ex ≤ 6000000000
/-- A trial lies in memory (B: what was there ahead of it; m: at most so many files were refused). -/
structure Tri (q : Tq) (B m n : Nat) (s : Sv) (F : Nat → Prop) (w : World) : Prop where
  row : TrRow q.bt (.pointer (some ⟨q.bx, 0, none⟩)) q.up q.ex (.slice (some ⟨q.g, 0, none⟩) q.N q.cap) n q.mode q.win w
  ok : q.Ok
  lies : Lies w q.g q.ls
  lg : q.g < w.heap.size
  ps : PS q.bx s F w
  fb : ¬ F q.bt
  fg : ¬ F q.g
  gt : q.g ≠ q.bt
  lo : ∀ k, F k → B ≤ k
  hb : B ≤ q.bt
  hg : B ≤ q.g
  hs : B ≤ w.heap.size
  n1 : 1 ≤ n
  n2 : n ≤ q.N
  inv : s.Inv
  ld : s.ld = true
  wd : s.Wd
  em : s.mode = q.mode
  ew : s.win = q.win
  rf : s.ref ≤ m
  bs : ∃ w0 : World, w0.heap.size = B ∧ Table w0 ∧ Pows w0 ∧ Below B w0 w
theorem Tri.keep {q : Tq} {B m n : Nat} {s : Sv} {F : Nat → Prop} {w w' : World} (h : Tri q B m n s F w) (hb : Below w.heap.size w w') : Tri q B m n s F w' :=
  ⟨(hb.block _ (lt_of_heap h.row)).trans h.row, h.ok, h.lies.below h.lg hb, Nat.lt_of_lt_of_le h.lg hb.size, h.ps.below hb, h.fb, h.fg, h.gt, h.lo, h.hb, h.hg, Nat.le_trans h.hs hb.size, h.n1, h.n2, h.inv, h.ld, h.wd, h.em, h.ew, h.rf, h.bs.imp fun _ ⟨a, b, c, d⟩ => ⟨a, b, c, d.trans (hb.mono h.hs)⟩⟩
theorem Tri.tb {q : Tq} {B m n : Nat} {s : Sv} {F : Nat → Prop} {w : World} (h : Tri q B m n s F w) : Table w := by
  obtain ⟨w0, a, b, c, d⟩ := h.bs
  exact b.below (by rw [a]; exact d)
theorem Tri.pw {q : Tq} {B m n : Nat} {s : Sv} {F : Nat → Prop} {w : World} (h : Tri q B m n s F w) : Pows w := by
  obtain ⟨w0, a, b, c, d⟩ := h.bs
  exact c.below (by rw [a]; exact d)
/-- Another number of entries. -/
theorem Tri.setN {q : Tq} {B m n : Nat} {s : Sv} {F : Nat → Prop} {w : World} (h : Tri q B m n s F w) (n' : Nat) (n1 : 1 ≤ n') (n2 : n' ≤ q.N) : Tri q B m n' s F (w.setCell ⟨q.bt, 4, none⟩ (.int .i64 n')) := by
  have e1 := heap_setCell_same _ q.bt 4 _ 31 (.int .i64 n') h.row
  have e2 : #[Value.pointer (some ⟨q.bx, 0, none⟩), .int .i64 q.up, .int .i64 q.ex, .slice (some ⟨q.g, 0, none⟩) q.N q.cap, .int .i64 (n : Int), .int .i64 q.mode, .int .i64 q.win].setIfInBounds 4 (.int .i64 (n' : Int)) = #[.pointer (some ⟨q.bx, 0, none⟩), .int .i64 q.up, .int .i64 q.ex, .slice (some ⟨q.g, 0, none⟩) q.N q.cap, .int .i64 n', .int .i64 q.mode, .int .i64 q.win] := rfl
  rw [e2] at e1
  refine ⟨e1, h.ok, fun i hi => ?_, by simpa using h.lg, h.ps.keep (fun k hk => heap_setCell_other _ _ _ _ (fun e => h.fb (by have e' : k = q.bt := e; rw [← e']; exact hk))), h.fb, h.fg, h.gt, h.lo, h.hb, h.hg, by simpa using h.hs, n1, n2, h.inv, h.ld, h.wd, h.em, h.ew, h.rf, h.bs.imp fun _ ⟨a, b, c, d⟩ => ⟨a, b, c, d.setCell (p := ⟨q.bt, 4, none⟩) h.hb _⟩⟩
  have c := h.lies i hi
  have k : ∀ j, (w.setCell ⟨q.bt, 4, none⟩ (.int .i64 n')).cell? ⟨q.g, j, none⟩ = w.cell? ⟨q.g, j, none⟩ := fun j => World.cell?_of_block (heap_setCell_other _ _ _ _ (fun e => h.gt e))
  exact ⟨(k _).trans c.1, (k _).trans c.2⟩
/-- Behind a call on the server. -/
theorem Tri.next {q : Tq} {B m n : Nat} {s s' : Sv} {F F' : Nat → Prop} {w w' : World} (h : Tri q B m n s F w) (hp : PS q.bx s' F' w') (ho : Off F w w') (hf : ∀ k, F' k → F k ∨ w.heap.size ≤ k) (hi : s'.Inv) (hl : s'.ld = true) (hw : s'.Wd) (hm : s'.mode = s.mode) (hn : s'.win = s.win) (m' : Nat) (hr : s'.ref ≤ m') : Tri q B m' n s' F' w' := by
  have lb := lt_of_heap h.row
  refine ⟨ho.heap h.row h.fb, h.ok, fun i hi => ?_, Nat.lt_of_lt_of_le h.lg ho.size, hp, fun e => ?_, fun e => ?_, h.gt, fun k e => ?_, h.hb, h.hg, Nat.le_trans h.hs ho.size, h.n1, h.n2, hi, hl, hw, hm.trans h.em, hn.trans h.ew, hr, h.bs.imp fun _ ⟨a, b, c, d⟩ => ⟨a, b, c, d.trans (ho.below h.lo h.hs)⟩⟩
  · have c := h.lies i hi
    have k : ∀ j, w'.cell? ⟨q.g, j, none⟩ = w.cell? ⟨q.g, j, none⟩ := fun j => World.cell?_of_block (ho.block q.g h.lg h.fg)
    exact ⟨(k _).trans c.1, (k _).trans c.2⟩
  · rcases hf _ e with a | a
    · exact h.fb a
    · omega
  · have := h.lg
    rcases hf _ e with a | a
    · exact h.fg a
    · omega
  · rcases hf _ e with a | a
    · exact h.lo k a
    · have := h.hs; omega
theorem Tri.see {q : Tq} {B m n : Nat} {s : Sv} {F : Nat → Prop} {w : World} (h : Tri q B m n s F w) : Shows q.bx s w := by
  have := h.inv.lens
  exact p_see q.bx s F w h.ps (by omega) (by omega)
/-- Told of the time. -/
theorem Tri.now {q : Tq} {B m n : Nat} {s : Sv} {F : Nat → Prop} {w : World} (h : Tri q B m n s F w) {ts tf li er : Int} (hT : s.Told ts tf li er) : Tells 10 q.bx ts tf li er w := p_now q.bx s F ts tf li er w h.ps h.inv hT
/-- One step. -/
structure Stp (k a b : Int) (s s' : Sv) (ev : Int) : Prop where
  hear : k = 1 → s' = (s.hear a b).2 ∧ ev = (s.hear a b).1
  load : k = 2 → ∃ t, s' = (s.load (Txt.parse t)).2.2 ∧ ev = (s.load (Txt.parse t)).1
  adv : k ≠ 1 → k ≠ 2 → ∃ x y, s' = (s.adv x y).2 ∧ ev = (s.adv x y).1
/-- What a step leaves. -/
def DoesP' (q : Tq) (B m : Nat) (s : Sv) (F : Nat → Prop) (w : World) (k a b : Int) (e : Ending) (w' : World) : Prop := ∃ (ev : Int) (s' : Sv) (F' : Nat → Prop) (n' : Nat), e = .returned (.int .i64 ev) ∧ Tri q B (m + 1) n' s' F' w' ∧ (Off (fun j => F j ∨ j = q.bt) w w' ∧ ∀ j, F' j → F j ∨ w.heap.size ≤ j) ∧ Stp k a b s s' ev
theorem Tri.off {q : Tq} {B m n : Nat} {s : Sv} {F : Nat → Prop} {w w' : World} (h : Tri q B m n s F w) (ho : Off (fun j => F j ∨ j = q.bt) w w') : Below B w w' := ho.below (fun k c => c.elim (h.lo k) (fun e => by rw [e]; exact h.hb)) h.hs
theorem Tri.hear {q : Tq} {B m n : Nat} {s : Sv} {F : Nat → Prop} {w W w' : World} (h : Tri q B m n s F w) (hb : Below w.heap.size w W) (a b : Int) {F' : Nat → Prop} (hp : PS q.bx (s.hear a b).2 F' w') (ho : Off F W w') (hf : ∀ k, F' k → F k ∨ W.heap.size ≤ k) : DoesP' q B m s F w 1 a b (.returned (.int .i64 (s.hear a b).1)) w' := by
  have g := Sv.goes_hear h.ld a b
  have t := (h.keep hb).next hp ho hf (h.inv.hear a b) g.ld (Sv.wd_hear h.inv h.ld h.wd a b) g.mode g.win (m + 1) (by rw [Sv.hear_ref]; have := h.rf; omega)
  exact ⟨_, _, _, _, rfl, t, ⟨(Off.of_below hb).trans ho (fun _ _ c => .inl c), fun j c => (hf j c).imp (fun e => e) (Nat.le_trans hb.size)⟩, ⟨fun _ => ⟨rfl, rfl⟩, fun e => by omega, fun e => absurd rfl e⟩⟩
theorem Tri.adv {q : Tq} {B m n : Nat} {s : Sv} {F : Nat → Prop} {w W w' : World} (h : Tri q B m n s F w) (hb : Below w.heap.size w W) (k a b x y : Int) (k1 : k ≠ 1) (k2 : k ≠ 2) {F' : Nat → Prop} (hp : PS q.bx (s.adv x y).2 F' w') (ho : Off F W w') (hf : ∀ k, F' k → F k ∨ W.heap.size ≤ k) : DoesP' q B m s F w k a b (.returned (.int .i64 (s.adv x y).1)) w' := by
  have g := Sv.goes_adv h.inv h.ld x y
  have t := (h.keep hb).next hp ho hf (h.inv.adv x y) g.ld (Sv.wd_adv h.inv h.ld h.wd x y) g.mode g.win (m + 1) (by rw [Sv.adv_ref]; have := h.rf; omega)
  exact ⟨_, _, _, _, rfl, t, ⟨(Off.of_below hb).trans ho (fun _ _ c => .inl c), fun j c => (hf j c).imp (fun e => e) (Nat.le_trans hb.size)⟩, ⟨fun e => absurd e k1, fun e => absurd e k2, fun _ _ => ⟨x, y, rfl, rfl⟩⟩⟩
end Go.Proofs.YtmmkhodaljpjgabGreatDoor
