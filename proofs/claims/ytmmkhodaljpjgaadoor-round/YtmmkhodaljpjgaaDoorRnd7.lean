import Derived.Test.YtmmkhodaljpjgaaDoorRnd6
/-! What is printed is parsed. -/
namespace Go.Proofs.YtmmkhodaljpjgaaDoor
open Go.RowKit

namespace Txt
/-- The lines of a table ahead of the digest's. -/
def lines (u x : Int) (ls : List (Int × Int)) (k : Nat) : List ByteArray := lnU u :: lnX x :: (ls.take k).map lnE
theorem eline_ln (p : Int × Int) : eline p = lnE p ++ nl := rfl
theorem head_ln (u x : Int) : head u x = join [lnU u, lnX x] := by
  unfold head join join join lnU lnX
  have e1 : (⟨#[35, 36, 32]⟩ : ByteArray) = ⟨#[35, 36]⟩ ++ ⟨#[32]⟩ := rfl
  have e2 : (⟨#[10, 35, 64, 32]⟩ : ByteArray) = nl ++ (⟨#[35, 64]⟩ ++ ⟨#[32]⟩) := rfl
  rw [e1, e2, app_nil]
  simp only [ByteArray.append_assoc]
theorem prTo_ln (u x : Int) (ls : List (Int × Int)) (k : Nat) (hk : k ≤ ls.length) : prTo u x ls k = join (lines u x ls k) := by
  induction k with
  | zero => rw [prTo, head_ln]; rfl
  | succ k ih =>
    have e : lines u x ls (k + 1) = lines u x ls k ++ [lnE (ls.getD k (0, 0))] := by
      unfold lines
      rw [List.take_succ_eq_append_getElem (by omega), List.map_append, List.getD_eq_getElem?_getD, List.getElem?_eq_getElem (by omega)]
      rfl
    rw [prTo, ih (by omega), e, join_app, eline_ln]
    show _ = join (lines u x ls k) ++ (lnE (ls.getD k (0, 0)) ++ nl ++ em)
    rw [app_nil]
theorem print_ln (u x : Int) (ls : List (Int × Int)) : print u x ls = join (lines u x ls ls.length ++ [lnH (dgst u x ls)]) := by
  unfold print
  rw [prTo_ln _ _ _ _ (Nat.le_refl _), hl_ln, join_app]
  show _ = _ ++ (lnH (dgst u x ls) ++ nl ++ em)
  rw [app_nil]
/-- What is read behind k entries. -/
def stE (u x : Int) (ls : List (Int × Int)) (k : Nat) : St := ⟨db u, db x, em, ls.take k, dgTo u x ls k⟩
structure Fair (u x : Int) (ls : List (Int × Int)) : Prop where
  u0 : 0 ≤ u
  u1 : u < 100000000000
  x0 : 0 ≤ x
  x1 : x < 100000000000
  e : ∀ i, 0 ≤ (ls.getD i (0, 0)).1 ∧ (ls.getD i (0, 0)).1 < 100000000000 ∧ 0 ≤ (ls.getD i (0, 0)).2 ∧ (ls.getD i (0, 0)).2 < 100000000000
  ok : Tab.okUpTo ls ls.length = true
theorem okUpTo_at {ls : List (Int × Int)} (n : Nat) (hn : n ≤ ls.length) (h : Tab.okUpTo ls n = true) (k : Nat) (hk : k < n) : Tab.follows (ls.take k) (ls.getD k (0, 0)).1 (ls.getD k (0, 0)).2 = true := by
  induction n with
  | zero => omega
  | succ n ih =>
    rw [Tab.okUpTo_succ _ _ (by omega), Bool.and_eq_true] at h
    by_cases c : k < n
    · exact ih (by omega) h.1 c
    · have : k = n := by omega
      subst this
      rw [List.getD_eq_getElem?_getD, List.getElem?_eq_getElem (by omega)]
      exact h.2
theorem reads_head {u x : Int} {ls : List (Int × Int)} (h : Fair u x ls) : Reads st0 [lnU u, lnX x] (stE u x ls 0) := by
  obtain ⟨a, b⟩ := line_U st0 u h.u1 rfl
  refine Reads.cons (flat_U u) a ?_
  rw [b]
  obtain ⟨c, d⟩ := line_X { st0 with u := db u, dg := st0.dg ++ db u } x h.x1 rfl
  refine Reads.cons (flat_X x) c ?_
  rw [d]
  have e : ({ { st0 with u := db u, dg := st0.dg ++ db u } with x := db x, dg := ({ st0 with u := db u, dg := st0.dg ++ db u } : St).dg ++ db x } : St) = stE u x ls 0 := by
    show (⟨db u, db x, em, [], em ++ db u ++ db x⟩ : St) = ⟨db u, db x, em, ls.take 0, db u ++ db x⟩
    rw [nil_app]; rfl
  rw [e]
  exact Reads.nil _
theorem reads_lines {u x : Int} {ls : List (Int × Int)} (h : Fair u x ls) (k : Nat) (hk : k ≤ ls.length) : Reads st0 (lines u x ls k) (stE u x ls k) := by
  induction k with
  | zero => exact reads_head h
  | succ k ih =>
    have e : lines u x ls (k + 1) = lines u x ls k ++ [lnE (ls.getD k (0, 0))] := by
      unfold lines
      rw [List.take_succ_eq_append_getElem (by omega), List.map_append, List.getD_eq_getElem?_getD, List.getElem?_eq_getElem (by omega)]
      rfl
    rw [e]
    refine (ih (by omega)).app ?_
    obtain ⟨a, b⟩ := line_E (stE u x ls k) (ls.getD k (0, 0)) (h.e k).1 (h.e k).2.1 (h.e k).2.2.1 (h.e k).2.2.2 (okUpTo_at _ (Nat.le_refl _) h.ok k (by omega))
    refine Reads.cons (flat_E _) a ?_
    rw [b]
    have e2 : ({ stE u x ls k with ls := (stE u x ls k).ls ++ [ls.getD k (0, 0)], dg := (stE u x ls k).dg ++ (db (ls.getD k (0, 0)).1 ++ db (ls.getD k (0, 0)).2) } : St) = stE u x ls (k + 1) := by
      show (⟨db u, db x, em, ls.take k ++ [ls.getD k (0, 0)], dgTo u x ls k ++ (db (ls.getD k (0, 0)).1 ++ db (ls.getD k (0, 0)).2)⟩ : St) = ⟨db u, db x, em, ls.take (k + 1), dgTo u x ls (k + 1)⟩
      have tk : ls.take (k + 1) = ls.take k ++ [ls.getD k (0, 0)] := by
        rw [List.take_succ_eq_append_getElem (by omega), List.getD_eq_getElem?_getD, List.getElem?_eq_getElem (by omega)]; rfl
      rw [tk]
      rfl
    rw [e2]
    exact Reads.nil _
def stH (u x : Int) (ls : List (Int × Int)) : St := { stE u x ls ls.length with h := dgst u x ls }
theorem reads_all {u x : Int} {ls : List (Int × Int)} (h : Fair u x ls) : Reads st0 (lines u x ls ls.length ++ [lnH (dgst u x ls)]) (stH u x ls) := by
  refine (reads_lines h _ (Nat.le_refl _)).app ?_
  have hs : (dgst u x ls).size = 40 := digest_size _
  have hh : Hexes (dgst u x ls) 40 := hexes_digest _
  obtain ⟨a, b⟩ := line_H (stE u x ls ls.length) hs hh rfl
  refine Reads.cons (flat_H hs hh) a ?_
  rw [b]
  exact Reads.nil _
theorem db_ne (n : Int) : db n ≠ em := fun e => by
  have a := dec_pos n.toNat
  have l := db_len n
  have z : em.size = 0 := rfl
  rw [e] at l
  omega
theorem done_all {u x : Int} {ls : List (Int × Int)} (h : Fair u x ls) (hp : 0 < ls.length) (hw : Tab.whole u x ls = true) : done (stH u x ls) = ⟨u, x, ls, 0, 0⟩ := by
  have hs : (dgst u x ls).size = 40 := digest_size _
  have hn : dgst u x ls ≠ em := fun e => by rw [e] at hs; exact absurd hs (by decide)
  have tk : (stH u x ls).ls = ls := List.take_length
  have f : fin (stH u x ls) = 0 := by
    unfold fin
    rw [if_neg (fun c => by
      rcases c with c | c | c | c
      · exact db_ne u c
      · exact db_ne x c
      · exact hn c
      · rw [tk] at c; omega)]
    show (if Tab.whole (numTo (db u) (db u).size) (numTo (db x) (db x).size) (stH u x ls).ls = false then (8 : Int) else _) = 0
    rw [numTo_db u h.u0, numTo_db x h.x0, tk, hw, if_neg (by simp)]
    exact if_neg (by intro c; exact c rfl)
  unfold done
  rw [if_pos f]
  show (⟨numTo (db u) (db u).size, numTo (db x) (db x).size, (stH u x ls).ls, 0, 0⟩ : Got) = _
  rw [numTo_db u h.u0, numTo_db x h.x0, tk]
theorem done_cut {u x : Int} {ls : List (Int × Int)} : done (stE u x ls ls.length) = ⟨0, 0, [], 6, 0⟩ := by
  have f : fin (stE u x ls ls.length) = 6 := by
    unfold fin
    rw [if_pos (.inr (.inr (.inl rfl)))]
  unfold done
  rw [f, if_neg (by decide)]
theorem print_size {u x : Int} {ls : List (Int × Int)} (h : Fair u x ls) (hl : ls.length ≤ 40) : (print u x ls).size ≤ 1120 := by
  have a := prTo_size (u := u) (x := x) (ls := ls) (by have := h.u1; omega) (by have := h.x1; omega) (fun i => by have := h.e i; omega) ls.length
  have b := hlTo_size (dgst u x ls) 5
  have c : (ByteArray.mk #[10]).size = 1 := rfl
  unfold print Txt.hl
  rw [size_app, size_app]
  omega
/-- What is printed is parsed. -/
theorem round {u x : Int} {ls : List (Int × Int)} (h : Fair u x ls) (hp : 0 < ls.length) (hl : ls.length ≤ 40) (hw : Tab.whole u x ls = true) : parse (print u x ls) = ⟨u, x, ls, 0, 0⟩ := by
  have z := print_size h hl
  rw [print_ln] at z ⊢
  rw [parse_join (reads_all h) (by omega), done_all h hp hw]
/-- Without its last line. -/
theorem round_cut {u x : Int} {ls : List (Int × Int)} (h : Fair u x ls) (hl : ls.length ≤ 40) : parse (prTo u x ls ls.length) = ⟨0, 0, [], 6, 0⟩ := by
  have a := prTo_size (u := u) (x := x) (ls := ls) (by have := h.u1; omega) (by have := h.x1; omega) (fun i => by have := h.e i; omega) ls.length
  rw [prTo_ln _ _ _ _ (Nat.le_refl _)] at a ⊢
  rw [parse_join (reads_lines h _ (Nat.le_refl _)) (by omega), done_cut]
/-- With comments and empty lines about it. -/
theorem round_about {u x : Int} {ls : List (Int × Int)} (h : Fair u x ls) (hp : 0 < ls.length) (hl : ls.length ≤ 40) (hw : Tab.whole u x ls = true) :
    parse (⟨#[35, 32]⟩ ++ ⟨#[35, 36, 32]⟩ ++ ⟨#[10, 10, 35, 10]⟩ ++ print u x ls ++ nl) = ⟨u, x, ls, 0, 0⟩ := by
  have z := print_size h hl
  have e : (⟨#[35, 32]⟩ ++ ⟨#[35, 36, 32]⟩ ++ ⟨#[10, 10, 35, 10]⟩ ++ print u x ls ++ nl : ByteArray) = join ([⟨#[35, 32, 35, 36, 32]⟩, em, ⟨#[35]⟩] ++ ((lines u x ls ls.length ++ [lnH (dgst u x ls)]) ++ [em])) := by
    have j1 : join [⟨#[35, 32, 35, 36, 32]⟩, em, ⟨#[35]⟩] = ⟨#[35, 32]⟩ ++ ⟨#[35, 36, 32]⟩ ++ ⟨#[10, 10, 35, 10]⟩ := rfl
    have j2 : join [em] = nl := rfl
    rw [print_ln, join_app [⟨#[35, 32, 35, 36, 32]⟩, em, ⟨#[35]⟩], join_app (lines u x ls ls.length ++ [lnH (dgst u x ls)]) [em], ← ByteArray.append_assoc, j1, j2]
  have zz : (⟨#[35, 32]⟩ ++ ⟨#[35, 36, 32]⟩ ++ ⟨#[10, 10, 35, 10]⟩ ++ print u x ls ++ nl : ByteArray).size ≤ 2000 := by
    simp only [size_app]
    have z1 : (ByteArray.mk #[35, 32]).size = 2 := rfl
    have z2 : (ByteArray.mk #[35, 36, 32]).size = 3 := rfl
    have z3 : (ByteArray.mk #[10, 10, 35, 10]).size = 4 := rfl
    have z4 : nl.size = 1 := rfl
    omega
  rw [e] at zz ⊢
  have c1 : line st0 ⟨#[35, 32, 35, 36, 32]⟩ = (0, st0) := line_C st0 ⟨#[32, 35, 36, 32]⟩ (.inr rfl)
  have c3 : line st0 ⟨#[35]⟩ = (0, st0) := line_C st0 em (.inl rfl)
  have fe : Flat em := fun i hi => by simp [ByteArray.size] at hi
  have f5 : Flat ⟨#[35, 32, 35, 36, 32]⟩ := fun i hi => by
    match i, hi with
    | 0, _ | 1, _ | 2, _ | 3, _ | 4, _ => decide
  have r1 : Reads st0 [⟨#[35, 32, 35, 36, 32]⟩, em, ⟨#[35]⟩] st0 := by
    refine Reads.cons f5 (by rw [c1]) ?_
    rw [c1]
    refine Reads.cons fe (by rw [line_em]) ?_
    rw [line_em]
    refine Reads.cons (flat1 (by decide)) (by rw [c3]) ?_
    rw [c3]
    exact Reads.nil _
  have r2 : Reads (stH u x ls) [em] (stH u x ls) := by
    refine Reads.cons fe (by rw [line_em]) ?_
    rw [line_em]
    exact Reads.nil _
  rw [parse_join (r1.app ((reads_all h).app r2)) zz, done_all h hp hw]
/-- Behind the last newline of the first k bytes. -/
def cutTo (s : ByteArray) : Nat → Nat
  | 0 => 0
  | k + 1 => if byte s k = 10 then k + 1 else cutTo s k
theorem cutTo_flat (p l q : ByteArray) (hl : Flat l) (k : Nat) (hk : k ≤ l.size) : cutTo (p ++ l ++ q) (p.size + k) = cutTo (p ++ l ++ q) p.size := by
  induction k with
  | zero => rfl
  | succ k ih =>
    show cutTo (p ++ l ++ q) (p.size + k + 1) = _
    rw [cutTo, if_neg (by rw [ByteArray.append_assoc, byte_right, byte_left _ _ _ (by omega)]; exact hl k (by omega)), ih (by omega)]
theorem cut_last {u x : Int} {ls : List (Int × Int)} : cutTo (print u x ls) ((print u x ls).size - 1) = (prTo u x ls ls.length).size := by
  have hs : (dgst u x ls).size = 40 := digest_size _
  have hh : Hexes (dgst u x ls) 40 := hexes_digest _
  unfold print
  rw [hl_ln, ← ByteArray.append_assoc]
  have z : (prTo u x ls ls.length ++ lnH (dgst u x ls) ++ nl).size - 1 = (prTo u x ls ls.length).size + (lnH (dgst u x ls)).size := by
    rw [size_app, size_app, nl_size]; omega
  rw [z, cutTo_flat _ _ _ (flat_H hs hh) _ (Nat.le_refl _)]
  obtain ⟨q, hq⟩ : ∃ q, prTo u x ls ls.length = q ++ nl := by
    cases ls.length with
    | zero => exact ⟨_, rfl⟩
    | succ k => rw [prTo, eline_ln, ← ByteArray.append_assoc]; exact ⟨_, rfl⟩
  rw [hq, size_app, nl_size]
  have b : byte (q ++ nl ++ lnH (dgst u x ls) ++ nl) q.size = 10 := by
    rw [show q.size = q.size + 0 from rfl]
    rw [ByteArray.append_assoc, ByteArray.append_assoc, byte_right, byte_left _ _ _ (by decide)]; rfl
  rw [cutTo, if_pos b]
end Txt

end Go.Proofs.YtmmkhodaljpjgaaDoor
