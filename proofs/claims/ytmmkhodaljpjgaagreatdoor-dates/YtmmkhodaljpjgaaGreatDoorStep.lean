import Derived.Test.YtmmkhodaljpjgaaGreatDoorTurn
namespace Go.Proofs.YtmmkhodaljpjgaaGreatDoor
open Go.RowKit

/-- A step whose numbers are ints, whose text is short. -/
structure Op.Ok (o : Op) : Prop where
  k : (Lit.int .i64 o.kind).wf = true
  x : (Lit.int .i64 o.x).wf = true
  a : (Lit.int .i64 o.a).wf = true
  b : (Lit.int .i64 o.b).wf = true
  c : (Lit.int .i64 o.c).wf = true
  d : (Lit.int .i64 o.d).wf = true
  s : o.s.size ≤ 16384

theorem owner_yes {X : Xs} (B bW n : Nat) (o : Op) (w : World) (ho : o.Ok) (hn : n ≤ 100000) (hk : 1 ≤ o.kind ∧ o.kind ≤ 6) (hI : Inv X B bW n w) (hB : B ≤ w.heap.size) :
    Calls Tryz.prog 16 #[.pointer (some ⟨bW, 0, none⟩), .agg #[.int .i64 o.kind, .int .i64 o.x, .int .i64 o.a, .int .i64 o.b, .int .i64 o.c, .int .i64 o.d, .string o.s]] w fun e w' => e = .returned (.bool true) ∧ Left X B bW n w w' := by
  obtain ⟨k, x, a, b, c, d, s⟩ := o
  obtain ⟨h1, h2, h3, h4, h5, h6, h7⟩ := ho
  simp only at *
  have hc : k = 1 ∨ k = 2 ∨ k = 3 ∨ k = 4 ∨ k = 5 ∨ k = 6 := by omega
  rcases hc with rfl | rfl | rfl | rfl | rfl | rfl
  · exact owner_text B bW n x a b c d s w hn h7 hI hB
  · exact owner_turn B bW n x a b c d s w h3 h4 hn hI hB
  · exact owner_stamps B bW n x a b c d s w h3 h4 hI hB
  · exact owner_entry B bW n x a b c d s w h3 h4 hn hI hB
  · exact owner_none B bW n x a b c d s w hI hB
  · exact owner_time B bW n x a b c d s w h3 h4 hI hB

theorem owner_no {X : Xs} (B bW n : Nat) (o : Op) (w : World) (hk : o.kind < 1 ∨ 6 < o.kind) (hI : Inv X B bW n w) (hB : B ≤ w.heap.size) :
    Calls Tryz.prog 16 #[.pointer (some ⟨bW, 0, none⟩), .agg #[.int .i64 o.kind, .int .i64 o.x, .int .i64 o.a, .int .i64 o.b, .int .i64 o.c, .int .i64 o.d, .string o.s]] w fun e w' => e = .returned (.bool false) ∧ Inv X B bW n w' ∧ Keeps w w' ∧ Below B w w' :=
  owner_other B bW n _ _ _ _ _ _ _ w hk hI hB

theorem Inv.below {X : Xs} {B bW n : Nat} {w w' : World} (h : Inv X B bW n w) (hb : Below w.heap.size w w') : Inv X B bW n w' := by
  obtain ⟨le, tv, lv, xv, F, ts, ls, up, ex, se, fr, hb', ht, hl, h1, h2, h3, h4⟩ := h
  have hk : ∀ k o, w.heap[k]? = some o → w'.heap[k]? = some o := fun k o e => by rw [hb.block k (lt_of_heap e)]; exact e
  have hown : ∀ {e size : Nat} {v : Value} {m : Nat} {xs : List Value}, w.ownsRow B e size v m xs → w'.ownsRow B e size v m xs := by
    intro e size v m xs h
    refine ⟨h.1, ?_⟩
    rcases h.2 with h | ⟨g, cap, cur, q, a, hh, b⟩
    · exact .inl h
    · exact .inr ⟨g, cap, cur, q, a, hk _ _ hh, b⟩
  exact ⟨le, tv, lv, xv, F, ts, ls, up, ex, se, fr, hk _ _ hb', hown ht, hown hl, h1, h2, h3, h4.keeps (Keeps.below hb) (Nat.le_refl _)⟩

theorem Inv.up {X : Xs} {B bW n m : Nat} {w : World} (h : Inv X B bW n w) (hm : n ≤ m) : Inv X B bW m w := by
  obtain ⟨le, tv, lv, xv, F, ts, ls, up, ex, se, fr, hb', ht, hl, h1, h2, h3, h4⟩ := h
  exact ⟨le, tv, lv, xv, F, ts, ls, up, ex, se, fr, hb', ht, hl, by omega, by omega, h3, h4.keeps (Keeps.refl w) hm⟩

theorem Keep.below {t : TypeId} {w w' : World} (hb : Below w.heap.size w w') : Keep t w w' := fun k cs fr e => by rw [hb.block k (lt_of_heap e)]; exact e

/-- A step that is none. -/
theorem pure_low (bW : Nat) (o : Op) (w : World) (hk : o.kind < 1) :
    Calls Tryz.prog 17 #[.pointer (some ⟨bW, 0, none⟩), .agg #[.int .i64 o.kind, .int .i64 o.x, .int .i64 o.a, .int .i64 o.b, .int .i64 o.c, .int .i64 o.d, .string o.s]] w fun e w' => e = .returned (.bool true) ∧ Below w.heap.size w w' := by
  obtain ⟨k, x, a, b, c, d, s⟩ := o
  simp only at *
  have k7 : (k == 7) = false := by rw [beq_eq_false_iff_ne]; omega
  have k8 : (k == 8) = false := by rw [beq_eq_false_iff_ne]; omega
  have k9 : (k == 9) = false := by rw [beq_eq_false_iff_ne]; omega
  have k10 : (k == 10) = false := by rw [beq_eq_false_iff_ne]; omega
  have k11 : (k == 11) = false := by rw [beq_eq_false_iff_ne]; omega
  have k12 : (k == 12) = false := by rw [beq_eq_false_iff_ne]; omega
  have k13 : (k == 13) = false := by rw [beq_eq_false_iff_ne]; omega
  have k14 : (k == 14) = false := by rw [beq_eq_false_iff_ne]; omega
  have k15 : (k == 15) = false := by rw [beq_eq_false_iff_ne]; omega
  have k16 : (k == 16) = false := by rw [beq_eq_false_iff_ne]; omega
  clear hk
  go_enter Tryz.func17, Tryz.ntmps17
  go_wp2
  go_ret
  exact ⟨rfl, (Below.refl _ _).alloc (Nat.le_refl _) _⟩

theorem dated_agg (k x a b c d : Int) (s : ByteArray) (w : World) :
    Calls Tryz.prog 21 #[.agg #[.int .i64 k, .int .i64 x, .int .i64 a, .int .i64 b, .int .i64 c, .int .i64 d, .string s]] w fun e w' => e = .returned (.bool true) ∧ Below w.heap.size w w' := by
  by_cases h : k = 7
  · exact dated_day k x a b c d s w h
  · exact dated_civil k x a b c d s w h

theorem pure_dated (bW : Nat) (o : Op) (w : World) (hk : o.kind = 7 ∨ o.kind = 8) :
    Calls Tryz.prog 17 #[.pointer (some ⟨bW, 0, none⟩), .agg #[.int .i64 o.kind, .int .i64 o.x, .int .i64 o.a, .int .i64 o.b, .int .i64 o.c, .int .i64 o.d, .string o.s]] w fun e w' => e = .returned (.bool true) ∧ Below w.heap.size w w' := by
  obtain ⟨k, x, a, b, c, d, s⟩ := o
  simp only at *
  rcases hk with rfl | rfl
  all_goals
    go_enter Tryz.func17, Tryz.ntmps17
    go_wp2_with fail
    refine (dated_agg _ x a b c d s _).mono ?_
    rintro e w1 ⟨rfl, hb⟩
    have HB := hid' hb
    clear hb
    go_wp2
    go_ret
    exact ⟨rfl, ((Below.refl w.heap.size w).alloc (Nat.le_refl _) _).trans (HB.out.mono (by simp))⟩

end Go.Proofs.YtmmkhodaljpjgaaGreatDoor
