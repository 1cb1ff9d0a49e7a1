import Derived.Test.YtmmkhodaljpjgaaGreatDoorTurn
namespace Go.Proofs.YtmmkhodaljpjgaaGreatDoor
open Go.RowKit

/-- A step whose numbers are ints, whose text is short. -/
structure Op.Ok (o : Op) : Prop where
  k : (Lit.int .i64 o.kind).wf = true
  x : (Lit.int .i64 o.x).wf = true
  a : (Lit.int .i64 o.a).wf = true
  b : (Lit.int .i64 o.b).wf = true
  c : (Lit.int .i64 o.c).wf = true
  d : (Lit.int .i64 o.d).wf = true
  s : o.s.size ≤ 16384

theorem owner_yes {X : Xs} (B bW n : Nat) (o : Op) (w : World) (ho : o.Ok) (hn : n ≤ 100000) (hk : 1 ≤ o.kind ∧ o.kind ≤ 6) (hI : Inv X B bW n w) (hB : B ≤ w.heap.size) :
    Calls Tryz.prog 16 #[.pointer (some ⟨bW, 0, none⟩), .agg #[.int .i64 o.kind, .int .i64 o.x, .int .i64 o.a, .int .i64 o.b, .int .i64 o.c, .int .i64 o.d, .string o.s]] w fun e w' => e = .returned (.bool true) ∧ Left X B bW n w w' := by
  obtain ⟨k, x, a, b, c, d, s⟩ := o
  obtain ⟨h1, h2, h3, h4, h5, h6, h7⟩ := ho
  simp only at *
  have hc : k = 1 ∨ k = 2 ∨ k = 3 ∨ k = 4 ∨ k = 5 ∨ k = 6 := by omega
  rcases hc with rfl | rfl | rfl | rfl | rfl | rfl
  · exact owner_text B bW n x a b c d s w hn h7 hI hB
  · exact owner_turn B bW n x a b c d s w h3 h4 hn hI hB
  · exact owner_stamps B bW n x a b c d s w h3 h4 hI hB
  · exact owner_entry B bW n x a b c d s w h3 h4 hn hI hB
  · exact owner_none B bW n x a b c d s w hI hB
  · exact owner_time B bW n x a b c d s w h3 h4 hI hB

theorem owner_no {X : Xs} (B bW n : Nat) (o : Op) (w : World) (hk : o.kind < 1 ∨ 6 < o.kind) (hI : Inv X B bW n w) (hB : B ≤ w.heap.size) :
    Calls Tryz.prog 16 #[.pointer (some ⟨bW, 0, none⟩), .agg #[.int .i64 o.kind, .int .i64 o.x, .int .i64 o.a, .int .i64 o.b, .int .i64 o.c, .int .i64 o.d, .string o.s]] w fun e w' => e = .returned (.bool false) ∧ Inv X B bW n w' ∧ Keeps w w' ∧ Below B w w' :=
  owner_other B bW n _ _ _ _ _ _ _ w hk hI hB

theorem Inv.below {X : Xs} {B bW n : Nat} {w w' : World} (h : Inv X B bW n w) (hb : Below w.heap.size w w') : Inv X B bW n w' := by
  obtain ⟨le, tv, lv, xv, F, ts, ls, up, ex, se, fr, hb', ht, hl, h1, h2, h3, h4⟩ := h
  have hk : ∀ k o, w.heap[k]? = some o → w'.heap[k]? = some o := fun k o e => by rw [hb.block k (lt_of_heap e)]; exact e
  have hown : ∀ {e size : Nat} {v : Value} {m : Nat} {xs : List Value}, w.ownsRow B e size v m xs → w'.ownsRow B e size v m xs := by
    intro e size v m xs h
    refine ⟨h.1, ?_⟩
    rcases h.2 with h | ⟨g, cap, cur, q, a, hh, b⟩
    · exact .inl h
    · exact .inr ⟨g, cap, cur, q, a, hk _ _ hh, b⟩
  exact ⟨le, tv, lv, xv, F, ts, ls, up, ex, se, fr, hk _ _ hb', hown ht, hown hl, h1, h2, h3, h4.keeps (Keeps.below hb) (Nat.le_refl _)⟩

theorem Inv.up {X : Xs} {B bW n m : Nat} {w : World} (h : Inv X B bW n w) (hm : n ≤ m) : Inv X B bW m w := by
  obtain ⟨le, tv, lv, xv, F, ts, ls, up, ex, se, fr, hb', ht, hl, h1, h2, h3, h4⟩ := h
  exact ⟨le, tv, lv, xv, F, ts, ls, up, ex, se, fr, hb', ht, hl, by omega, by omega, h3, h4.keeps (Keeps.refl w) hm⟩

theorem Keep.below {t : TypeId} {w w' : World} (hb : Below w.heap.size w w') : Keep t w w' := fun k cs fr e => by rw [hb.block k (lt_of_heap e)]; exact e

/-- A step that is none. -/
theorem pure_low (bW : Nat) (o : Op) (w : World) (hk : o.kind < 1) :
    Calls Tryz.prog 17 #[.pointer (some ⟨bW, 0, none⟩), .agg #[.int .i64 o.kind, .int .i64 o.x, .int .i64 o.a, .int .i64 o.b, .int .i64 o.c, .int .i64 o.d, .string o.s]] w fun e w' => e = .returned (.bool true) ∧ Below w.heap.size w w' := by
  obtain ⟨k, x, a, b, c, d, s⟩ := o
  simp only at *
  have k7 : (k == 7) = false := by rw [beq_eq_false_iff_ne]; omega
  have k8 : (k == 8) = false := by rw [beq_eq_false_iff_ne]; omega
  have k9 : (k == 9) = false := by rw [beq_eq_false_iff_ne]; omega
  have k10 : (k == 10) = false := by rw [beq_eq_false_iff_ne]; omega
  have k11 : (k == 11) = false := by rw [beq_eq_false_iff_ne]; omega
  have k12 : (k == 12) = false := by rw [beq_eq_false_iff_ne]; omega
  have k13 : (k == 13) = false := by rw [beq_eq_false_iff_ne]; omega
  have k14 : (k == 14) = false := by rw [beq_eq_false_iff_ne]; omega
  have k15 : (k == 15) = false := by rw [beq_eq_false_iff_ne]; omega
  have k16 : (k == 16) = false := by rw [beq_eq_false_iff_ne]; omega
  clear hk
  go_enter Tryz.func17, Tryz.ntmps17
  go_wp2
  go_ret
  exact ⟨rfl, (Below.refl _ _).alloc (Nat.le_refl _) _⟩

theorem dated_agg (k x a b c d : Int) (s : ByteArray) (w : World) :
    Calls Tryz.prog 21 #[.agg #[.int .i64 k, .int .i64 x, .int .i64 a, .int .i64 b, .int .i64 c, .int .i64 d, .string s]] w fun e w' => e = .returned (.bool true) ∧ Below w.heap.size w w' := by
  by_cases h : k = 7
  · exact dated_day k x a b c d s w h
  · exact dated_civil k x a b c d s w h

theorem pure_dated (bW : Nat) (o : Op) (w : World) (hk : o.kind = 7 ∨ o.kind = 8) :
    Calls Tryz.prog 17 #[.pointer (some ⟨bW, 0, none⟩), .agg #[.int .i64 o.kind, .int .i64 o.x, .int .i64 o.a, .int .i64 o.b, .int .i64 o.c, .int .i64 o.d, .string o.s]] w fun e w' => e = .returned (.bool true) ∧ Below w.heap.size w w' := by
  obtain ⟨k, x, a, b, c, d, s⟩ := o
  simp only at *
  rcases hk with rfl | rfl
  all_goals
    go_enter Tryz.func17, Tryz.ntmps17
    go_wp2_with fail
    refine (dated_agg _ x a b c d s _).mono ?_
    rintro e w1 ⟨rfl, hb⟩
    have HB := hid' hb
    clear hb
    go_wp2
    go_ret
    exact ⟨rfl, ((Below.refl w.heap.size w).alloc (Nat.le_refl _) _).trans (HB.out.mono (by simp))⟩

end Go.Proofs.YtmmkhodaljpjgaaGreatDoor

namespace Go.Proofs.YtmmkhodaljpjgaaGreatDoor
open Go.RowKit

/-- A step, done as the document says. -/
def Does (X : Xs) (B bW n : Nat) (o : Op) (w : World) : Prop :=
  ∀ w1, Inv X B bW n w1 → B ≤ w1.heap.size → Below B w w1 →
    Calls Tryz.prog 15 #[.pointer (some ⟨bW, 0, none⟩), .agg #[.int .i64 o.kind, .int .i64 o.x, .int .i64 o.a, .int .i64 o.b, .int .i64 o.c, .int .i64 o.d, .string o.s]] w1 fun e w' =>
      e = .returned (.bool true) ∧ Inv X B bW (n + 1) w' ∧ Below B w1 w'

/-- A step that is no owner's and on no server. -/
def DoesP (X : Xs) (B bW n : Nat) (o : Op) (w : World) : Prop :=
  ∀ w1, Inv X B bW n w1 → B ≤ w1.heap.size → Below B w w1 →
    Calls Tryz.prog 17 #[.pointer (some ⟨bW, 0, none⟩), .agg #[.int .i64 o.kind, .int .i64 o.x, .int .i64 o.a, .int .i64 o.b, .int .i64 o.c, .int .i64 o.d, .string o.s]] w1 fun e w' =>
      e = .returned (.bool true) ∧ Inv X B bW (n + 1) w' ∧ Keep 27 w1 w' ∧ Below B w1 w'

theorem DoesP.of_below {X : Xs} {B bW n : Nat} {o : Op} {w : World} (h : ∀ w1, Calls Tryz.prog 17 #[.pointer (some ⟨bW, 0, none⟩), .agg #[.int .i64 o.kind, .int .i64 o.x, .int .i64 o.a, .int .i64 o.b, .int .i64 o.c, .int .i64 o.d, .string o.s]] w1 fun e w' => e = .returned (.bool true) ∧ Below w1.heap.size w1 w') : DoesP X B bW n o w := by
  intro w1 hI hB _
  refine (h w1).mono ?_
  rintro e w' ⟨rfl, hb⟩
  exact ⟨rfl, (hI.below hb).up (Nat.le_succ _), Keep.below hb, hb.mono hB⟩

theorem inv_alloc {X : Xs} {B bW n : Nat} {w : World} (h : Inv X B bW n w) (o : Obj) : Inv X B bW n (w.alloc o) := h.below ((Below.refl _ _).alloc (Nat.le_refl _) _)

set_option maxHeartbeats 1000000 in
theorem step_yes {X : Xs} (B bW n : Nat) (o : Op) (w : World) (ho : o.Ok) (hn : n ≤ 100000) (hk : 1 ≤ o.kind ∧ o.kind ≤ 6) (hI : Inv X B bW n w) (hB : B ≤ w.heap.size) :
    Calls Tryz.prog 15 #[.pointer (some ⟨bW, 0, none⟩), .agg #[.int .i64 o.kind, .int .i64 o.x, .int .i64 o.a, .int .i64 o.b, .int .i64 o.c, .int .i64 o.d, .string o.s]] w fun e w' => e = .returned (.bool true) ∧ Left X B bW n w w' := by
  have hOw := owner_yes B bW n o (w.alloc (.cells #[.int .i64 o.kind, .int .i64 o.x, .int .i64 o.a, .int .i64 o.b, .int .i64 o.c, .int .i64 o.d, .string o.s] 27)) ho hn hk (inv_alloc hI _) (by simp; omega)
  have HOw := hid' hOw
  clear hOw ho hk hI
  obtain ⟨k, x, a, b, c, d, s⟩ := o
  simp only at *
  go_enter Tryz.func15, Tryz.ntmps15
  go_wp2_with fail
  refine HOw.out.mono ?_
  rintro e w1 ⟨rfl, hleft⟩
  have HLF := hid' hleft
  clear hleft HOw
  go_wp2
  go_ret
  exact ⟨rfl, HLF.out.1, ((Keeps.refl w).alloc _).trans HLF.out.2.1, ((Below.refl B w).alloc hB _).trans HLF.out.2.2⟩

set_option maxHeartbeats 1000000 in
theorem step_no {X : Xs} (B bW n : Nat) (o : Op) (w : World) (hk : o.kind < 1 ∨ 6 < o.kind) (hk17 : o.kind < 17) (hI : Inv X B bW n w) (hB : B ≤ w.heap.size) (hD : DoesP X B bW n o w) :
    Calls Tryz.prog 15 #[.pointer (some ⟨bW, 0, none⟩), .agg #[.int .i64 o.kind, .int .i64 o.x, .int .i64 o.a, .int .i64 o.b, .int .i64 o.c, .int .i64 o.d, .string o.s]] w fun e w' => e = .returned (.bool true) ∧ Inv X B bW (n + 1) w' ∧ Keep 27 w w' ∧ Below B w w' := by
  have hOw := owner_no B bW n o (w.alloc (.cells #[.int .i64 o.kind, .int .i64 o.x, .int .i64 o.a, .int .i64 o.b, .int .i64 o.c, .int .i64 o.d, .string o.s] 27)) hk (inv_alloc hI _) (by simp; omega)
  have HOw := hid' hOw
  have HD := hid' hD
  clear hOw hk hI hD
  obtain ⟨k, x, a, b, c, d, s⟩ := o
  simp only at *
  go_enter Tryz.func15, Tryz.ntmps15
  go_wp2_with fail
  refine HOw.out.mono ?_
  rintro e w1 ⟨rfl, hleft⟩
  have hrow := hleft.2.1.op _ _ _ (heap_alloc_new w (.cells #[.int .i64 k, .int .i64 x, .int .i64 a, .int .i64 b, .int .i64 c, .int .i64 d, .string s] 27))
  have p0 : w1.cell? ⟨w.heap.size, 0, none⟩ = some (.int .i64 k) := by rw [cell_of_row _ _ _ _ _ _ hrow]; rfl
  have p1 : w1.cell? ⟨w.heap.size, 1, none⟩ = some (.int .i64 x) := by rw [cell_of_row _ _ _ _ _ _ hrow]; rfl
  have p2 : w1.cell? ⟨w.heap.size, 2, none⟩ = some (.int .i64 a) := by rw [cell_of_row _ _ _ _ _ _ hrow]; rfl
  have p3 : w1.cell? ⟨w.heap.size, 3, none⟩ = some (.int .i64 b) := by rw [cell_of_row _ _ _ _ _ _ hrow]; rfl
  have p4 : w1.cell? ⟨w.heap.size, 4, none⟩ = some (.int .i64 c) := by rw [cell_of_row _ _ _ _ _ _ hrow]; rfl
  have p5 : w1.cell? ⟨w.heap.size, 5, none⟩ = some (.int .i64 d) := by rw [cell_of_row _ _ _ _ _ _ hrow]; rfl
  have p6 : w1.cell? ⟨w.heap.size, 6, none⟩ = some (.string s) := by rw [cell_of_row _ _ _ _ _ _ hrow]; rfl
  have HLF := hid' hleft
  have hs1 := hleft.2.2.size
  simp at hs1
  clear hleft HOw hrow
  go_wp2_with fail
  refine (HD.out w1 HLF.out.1 (by omega) (((Below.refl B w).alloc hB _).trans HLF.out.2.2)).mono ?_
  rintro e w2 ⟨rfl, hI2, hk2, hb2⟩
  have HI2 := hid' hI2
  have HK2 := hid' hk2
  have HB2 := hid' hb2
  clear hI2 hk2 hb2 HD
  go_wp2
  go_ret
  exact ⟨rfl, HI2.out, (((Keep.refl _ w).alloc _).trans HLF.out.2.1.op).trans HK2.out, (((Below.refl B w).alloc hB _).trans HLF.out.2.2).trans HB2.out⟩

theorem does_own {X : Xs} {B bW n : Nat} {o : Op} {w : World} (ho : o.Ok) (hn : n ≤ 100000) (hk : 1 ≤ o.kind ∧ o.kind ≤ 6) : Does X B bW n o w := by
  intro w1 hI hB _
  refine (step_yes B bW n o w1 ho hn hk hI hB).mono ?_
  rintro e w' ⟨rfl, h1, h2, h3⟩
  exact ⟨rfl, h1, h3⟩

theorem does_pure {X : Xs} {B bW n : Nat} {o : Op} {w : World} (hk : o.kind < 1 ∨ 6 < o.kind) (hk17 : o.kind < 17) (hD : DoesP X B bW n o w) : Does X B bW n o w := by
  intro w1 hI hB hb
  refine (step_no B bW n o w1 hk hk17 hI hB (fun w2 hI2 hB2 hb2 => hD w2 hI2 hB2 (hb.trans hb2))).mono ?_
  rintro e w' ⟨rfl, h1, h2, h3⟩
  exact ⟨rfl, h1, h3⟩

end Go.Proofs.YtmmkhodaljpjgaaGreatDoor
