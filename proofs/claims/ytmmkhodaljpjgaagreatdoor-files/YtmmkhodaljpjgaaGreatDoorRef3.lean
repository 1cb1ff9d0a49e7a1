import Derived.Test.YtmmkhodaljpjgaaGreatDoorRef2
import Derived.Test.YtmmkhodaljpjgaaGreatDoorRTab
import Derived.Test.YtmmkhodaljpjgaaGreatDoorFile6
/-! The document's file: an entry; how a line begins. -/
namespace Go.Proofs.YtmmkhodaljpjgaaGreatDoor
open Go.RowKit

namespace Txt
theorem ext_list (s : ByteArray) (n : Nat) : (s.extract 0 n).data.toList = s.data.toList.take n := by
  rw [ByteArray.data_extract]
  simp
theorem beg_iff (s p : ByteArray) : beg s p = true ↔ p.size ≤ s.size ∧ ∀ i, i < p.size → byte s i = byte p i := by
  have hsz : ∀ b : ByteArray, b.size = b.data.toList.length := fun b => by obtain ⟨d⟩ := b; show d.size = d.toList.length; rw [Array.length_toList]
  have hb : ∀ (b : ByteArray) i (h : i < b.data.toList.length), byte b i = ((b.data.toList[i]).toNat : Int) := fun b i h => by
    unfold byte; rw [List.getD_eq_getElem?_getD, List.getElem?_eq_getElem h]; rfl
  unfold beg
  rw [decide_eq_true_iff]
  constructor
  · rintro ⟨h, e⟩
    refine ⟨h, fun i hi => ?_⟩
    have e2 : p.data.toList = s.data.toList.take p.size := by rw [← ext_list, e]
    rw [hb s i (by rw [← hsz]; omega), hb p i (by rw [← hsz]; exact hi)]
    congr 2
    have : p.data.toList[i]'(by rw [← hsz]; exact hi) = (s.data.toList.take p.size)[i]'(by rw [← e2, ← hsz]; exact hi) := by congr 1
    rw [this, List.getElem_take]
  · rintro ⟨h, e⟩
    refine ⟨h, ByteArray.ext (Array.toList_inj.mp ?_)⟩
    rw [ext_list]
    apply List.ext_getElem
    · rw [List.length_take, ← hsz, ← hsz]; omega
    · intro i h1 h2
      rw [List.getElem_take]
      have hi : i < p.size := by rw [hsz]; exact h2
      have := e i hi
      rw [hb s i (by rw [← hsz]; omega), hb p i h2] at this
      have h3 : (s.data.toList[i]'(by rw [← hsz]; omega)).toNat = (p.data.toList[i]).toNat := by omega
      exact UInt8.toNat_inj.mp h3
theorem beg_one (s : ByteArray) : beg s ⟨#[35]⟩ = true ↔ 1 ≤ s.size ∧ byte s 0 = 35 := by
  rw [beg_iff]
  constructor
  · rintro ⟨h, e⟩; exact ⟨h, e 0 (by decide)⟩
  · rintro ⟨h, e⟩
    refine ⟨h, fun i hi => ?_⟩
    have : i = 0 := by have : (ByteArray.mk #[35]).size = 1 := rfl; omega
    subst this; exact e
theorem beg_two (s : ByteArray) (a b : UInt8) : beg s ⟨#[a, b]⟩ = true ↔ 2 ≤ s.size ∧ byte s 0 = (a.toNat : Int) ∧ byte s 1 = (b.toNat : Int) := by
  rw [beg_iff]
  constructor
  · rintro ⟨h, e⟩; exact ⟨h, e 0 (by show 0 < 2; omega), e 1 (by show 1 < 2; omega)⟩
  · rintro ⟨h, e, e'⟩
    refine ⟨h, fun i hi => ?_⟩
    have : i = 0 ∨ i = 1 := by have : (ByteArray.mk #[a, b]).size = 2 := rfl; omega
    rcases this with rfl | rfl
    · exact e
    · exact e'
theorem scan_ne (s : ByteArray) (k : Nat) : ∀ t ∈ (scan s k).1, ¬ t = em := by
  induction k with
  | zero => intro t h; simp [scan] at h
  | succ k ih =>
    intro t h
    by_cases c : inWord s k
    · rw [scan_word c] at h; exact ih t h
    · by_cases e : (scan s k).2 = ⟨#[]⟩
      · rw [scan_gap c e] at h; exact ih t h
      · rw [scan_end c e] at h
        rcases List.mem_append.1 h with h | h
        · exact ih t h
        · simp at h; subst h; exact e
theorem size_pos {s : ByteArray} (h : ¬ s = em) : 0 < s.size := by
  by_cases c : s.size = 0
  · exfalso; apply h
    obtain ⟨d⟩ := s
    have : d = #[] := by apply Array.eq_empty_of_size_eq_zero; exact c
    subst this; rfl
  · omega
theorem words_pos (s : ByteArray) (i : Nat) (h : i < (words s).length) : 0 < ((words s).getD i em).size := by
  rw [List.getD_eq_getElem?_getD, List.getElem?_eq_getElem h]
  exact size_pos (scan_ne s (s.size + 1) _ (List.getElem_mem h))
end Txt

set_option maxRecDepth 100000 in
set_option maxHeartbeats 1000000 in
theorem ref_entry_text (bF : Nat) (st : Txt.St) (v : Value) (ws : List ByteArray) (w : World) (hW : Ws w v ws) (h0 : ¬ ws.length = 0) (hpos : ∀ i, i < ws.length → 0 < (ws.getD i Txt.em).size)
    (h : ws.length < 2 ∨ Txt.isNum (ws.getD 0 Txt.em) = false ∨ Txt.isNum (ws.getD 1 Txt.em) = false ∨ (2 < ws.length ∧ Txt.beg (ws.getD 2 Txt.em) ⟨#[35]⟩ = false)) :
    Calls Tryz.prog 125 #[.pointer (some ⟨bF, 0, none⟩), v] w fun e w' => e = .returned (.int .i64 (Txt.takeE st ws).1) ∧ ((Txt.takeE st ws).1 = 0 → Rf w' bF (Txt.takeE st ws).2) ∧ Below bF w w' := by
  have hlen := hW.len
  have H : Hid ((Txt.takeE st ws).1 = 3) := entry_text h0 h
  obtain ⟨g, cap, rfl, hgl, hc⟩ := hW.at' (by omega)
  by_cases h2 : ws.length < 2
  · clear h h0 hc hW hpos
    go_enter Tryz.func125, Tryz.ntmps125
    go_wp2
    go_ret
    exact ⟨ret_int H.out.symm, no_err H.out (by decide), Below.refl _ _⟩
  have c0 := hc 0 (by omega)
  have c1 := hc 1 (by omega)
  have z0 := hW.sz 0
  have z1 := hW.sz 1
  have N0 := hid' (ref_number (ws.getD 0 Txt.em) w (by omega))
  have N1 := hid' (ref_number (ws.getD 1 Txt.em) w (by omega))
  have b0 : -1 ≤ Txt.number (ws.getD 0 Txt.em) := by
    cases hx : Txt.isNum (ws.getD 0 Txt.em) with
    | false => rw [Txt.number_neg hx]; omega
    | true => rw [Txt.number_of hx]; have := Txt.numTo_le hx; omega
  by_cases h3 : 2 < ws.length ∧ Txt.beg (ws.getD 2 Txt.em) ⟨#[35]⟩ = false
  · obtain ⟨h3, hb⟩ := h3
    have c2 := hc 2 h3
    have hp2 := hpos 2 h3
    have hz2 := hW.sz 2
    have hn : ¬ ((ws.getD 2 Txt.em)[0]'hp2).toNat = 35 := fun e => by
      have : Txt.beg (ws.getD 2 Txt.em) ⟨#[35]⟩ = true := (Txt.beg_one _).2 ⟨hp2, by rw [Txt.byte_at _ 0 hp2]; omega⟩
      rw [hb] at this; cases this
    have hn' : ((((ws.getD 2 Txt.em)[0]'hp2).toNat : Int) != 35) = true := bne_iff_ne.2 (by omega)
    clear h h0 hc hW hpos hb hn N0 N1 b0 c0 c1 z0 z1
    generalize ws.getD 2 Txt.em = s2 at *
    go_enter Tryz.func125, Tryz.ntmps125
    go_wp2
    go_ret
    exact ⟨ret_int H.out.symm, no_err H.out (by decide), Below.refl _ _⟩
  have h3' : ws.length = 2 ∨ (2 < ws.length ∧ Txt.beg (ws.getD 2 Txt.em) ⟨#[35]⟩ = true) := by
    by_cases e : ws.length = 2
    · exact .inl e
    · refine .inr ⟨by omega, ?_⟩
      cases hb : Txt.beg (ws.getD 2 Txt.em) ⟨#[35]⟩ with
      | true => rfl
      | false => exact absurd ⟨by omega, hb⟩ h3
  have hneg : Txt.number (ws.getD 0 Txt.em) < 0 ∨ (0 ≤ Txt.number (ws.getD 0 Txt.em) ∧ Txt.number (ws.getD 1 Txt.em) < 0) := by
    by_cases c : Txt.number (ws.getD 0 Txt.em) < 0
    · exact .inl c
    · refine .inr ⟨by omega, ?_⟩
      rcases h with h | h | h | h
      · exact absurd h h2
      · rw [Txt.number_neg h] at c; omega
      · rw [Txt.number_neg h]; omega
      · exact absurd h h3
  rcases h3' with h3' | ⟨h3', hb⟩
  · clear h h0 hc hW hpos h3
    generalize ws.getD 0 Txt.em = s0 at *
    generalize ws.getD 1 Txt.em = s1 at *
    generalize Txt.number s0 = n0 at *
    generalize Txt.number s1 = n1 at *
    rcases hneg with hn | ⟨hn, hm⟩
    · go_enter Tryz.func125, Tryz.ntmps125
      go_wp2_with fail
      refine N0.out.mono ?_
      rintro e w' ⟨rfl, rfl⟩
      go_wp2_with fail
      refine N1.out.mono ?_
      rintro e w' ⟨rfl, rfl⟩
      go_wp2
      go_ret
      exact ⟨ret_int H.out.symm, no_err H.out (by decide), Below.refl _ _⟩
    · go_enter Tryz.func125, Tryz.ntmps125
      go_wp2_with fail
      refine N0.out.mono ?_
      rintro e w' ⟨rfl, rfl⟩
      go_wp2_with fail
      refine N1.out.mono ?_
      rintro e w' ⟨rfl, rfl⟩
      go_wp2
      go_ret
      exact ⟨ret_int H.out.symm, no_err H.out (by decide), Below.refl _ _⟩
  · have c2 := hc 2 h3'
    have hp2 := hpos 2 h3'
    have hz2 := hW.sz 2
    have hn35 : ((ws.getD 2 Txt.em)[0]'hp2).toNat = 35 := by
      have := ((Txt.beg_one _).1 hb).2; rw [Txt.byte_at _ 0 hp2] at this; omega
    have hn' : ((((ws.getD 2 Txt.em)[0]'hp2).toNat : Int) != 35) = false := by rw [bne_eq_false_iff_eq]; omega
    clear h h0 hc hW hpos hb h3 hn35
    generalize ws.getD 0 Txt.em = s0 at *
    generalize ws.getD 1 Txt.em = s1 at *
    generalize ws.getD 2 Txt.em = s2 at *
    generalize Txt.number s0 = n0 at *
    generalize Txt.number s1 = n1 at *
    rcases hneg with hn | ⟨hn, hm⟩
    · go_enter Tryz.func125, Tryz.ntmps125
      go_wp2_with fail
      refine N0.out.mono ?_
      rintro e w' ⟨rfl, rfl⟩
      go_wp2_with fail
      refine N1.out.mono ?_
      rintro e w' ⟨rfl, rfl⟩
      go_wp2
      go_ret
      exact ⟨ret_int H.out.symm, no_err H.out (by decide), Below.refl _ _⟩
    · go_enter Tryz.func125, Tryz.ntmps125
      go_wp2_with fail
      refine N0.out.mono ?_
      rintro e w' ⟨rfl, rfl⟩
      go_wp2_with fail
      refine N1.out.mono ?_
      rintro e w' ⟨rfl, rfl⟩
      go_wp2
      go_ret
      exact ⟨ret_int H.out.symm, no_err H.out (by decide), Below.refl _ _⟩

end Go.Proofs.YtmmkhodaljpjgaaGreatDoor
