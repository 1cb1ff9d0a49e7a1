import Derived.Test.YtmmkhodaljpjgaaGreatDoorTxtM
import Derived.Test.YtmmkhodaljpjgaaGreatDoorTabs
import Derived.Test.YtmmkhodaljpjgaaGreatDoorSha
import Derived.Test.YtmmkhodaljpjgaaGreatDoorItoa
import Derived.Test.YtmmkhodaljpjgaaGreatDoorOf
import Derived.Test.YtmmkhodaljpjgaaGreatDoorTables
/-! What is printed of a table. -/
namespace Go.Proofs.YtmmkhodaljpjgaaGreatDoor
open Go.RowKit

namespace Txt
/-- A number's digits, as bytes. -/
def db (n : Int) : ByteArray := ⟨(dec n.toNat).toArray⟩
theorem dec_ten (n : Nat) (k : Nat) (h : n < 10 ^ (k + 1)) : (dec n).length ≤ k + 1 := by
  induction k generalizing n with
  | zero => rw [dec_low n (by omega)]; simp
  | succ k ih =>
    by_cases c : 9 < n
    · rw [dec_up n c, List.length_append]
      have := ih (n / 10) (by rw [Nat.pow_succ] at h; omega)
      simp; omega
    · rw [dec_low n c]; simp
theorem db_size (n : Int) (h : n < 1000000000000) : (db n).size ≤ 12 := by
  have := dec_ten n.toNat 11 (by omega)
  show (dec n.toNat).toArray.size ≤ 12
  simpa using this
def head (u x : Int) : ByteArray := ⟨#[35, 36, 32]⟩ ++ db u ++ ⟨#[10, 35, 64, 32]⟩ ++ db x ++ ⟨#[10]⟩
/-- One entry's line. -/
def eline (p : Int × Int) : ByteArray := db p.1 ++ ⟨#[32]⟩ ++ db p.2 ++ ⟨#[10]⟩
def prTo (u x : Int) (ls : List (Int × Int)) : Nat → ByteArray
  | 0 => head u x
  | k + 1 => prTo u x ls k ++ eline (ls.getD k (0, 0))
def dgTo (u x : Int) (ls : List (Int × Int)) : Nat → ByteArray
  | 0 => db u ++ db x
  | k + 1 => dgTo u x ls k ++ (db (ls.getD k (0, 0)).1 ++ db (ls.getD k (0, 0)).2)
def hlTo (h : ByteArray) : Nat → ByteArray
  | 0 => ⟨#[35, 104]⟩
  | k + 1 => hlTo h k ++ (⟨#[32]⟩ ++ h.extract (k * 8) (k * 8 + 8))
def hl (h : ByteArray) : ByteArray := hlTo h 5 ++ ⟨#[10]⟩
/-- The digest of all that is printed of a table. -/
def dgst (u x : Int) (ls : List (Int × Int)) : ByteArray := ⟨(Sha.digest (dgTo u x ls ls.length)).toArray⟩
/-- The file. -/
def print (u x : Int) (ls : List (Int × Int)) : ByteArray := prTo u x ls ls.length ++ hl (dgst u x ls)
theorem digest_size (s : ByteArray) : (ByteArray.mk (Sha.digest s).toArray).size = 40 := by
  show (Sha.digest s).toArray.size = 40
  unfold Sha.digest
  simp [Sha.St.text_length]
theorem size_app (a b : ByteArray) : (a ++ b).size = a.size + b.size := ByteArray.size_append
theorem head_size {u x : Int} (hu : u < 1000000000000) (hx : x < 1000000000000) : (head u x).size ≤ 32 := by
  have a := db_size u hu
  have b := db_size x hx
  unfold head
  rw [size_app, size_app, size_app, size_app]
  have c1 : (ByteArray.mk #[35, 36, 32]).size = 3 := rfl
  have c2 : (ByteArray.mk #[10, 35, 64, 32]).size = 4 := rfl
  have c3 : (ByteArray.mk #[10]).size = 1 := rfl
  omega
theorem eline_size {p : Int × Int} (h1 : p.1 < 1000000000000) (h2 : p.2 < 1000000000000) : (eline p).size ≤ 26 := by
  have a := db_size _ h1
  have b := db_size _ h2
  unfold eline
  rw [size_app, size_app, size_app]
  have c1 : (ByteArray.mk #[32]).size = 1 := rfl
  have c3 : (ByteArray.mk #[10]).size = 1 := rfl
  omega
theorem prTo_size {u x : Int} {ls : List (Int × Int)} (hu : u < 1000000000000) (hx : x < 1000000000000) (hl : ∀ i, (ls.getD i (0, 0)).1 < 1000000000000 ∧ (ls.getD i (0, 0)).2 < 1000000000000) (k : Nat) : (prTo u x ls k).size ≤ 32 + 26 * k := by
  induction k with
  | zero => exact head_size hu hx
  | succ k ih => rw [prTo, size_app]; have := eline_size (hl k).1 (hl k).2; omega
theorem dgTo_size {u x : Int} {ls : List (Int × Int)} (hu : u < 1000000000000) (hx : x < 1000000000000) (hl : ∀ i, (ls.getD i (0, 0)).1 < 1000000000000 ∧ (ls.getD i (0, 0)).2 < 1000000000000) (k : Nat) : (dgTo u x ls k).size ≤ 24 + 24 * k := by
  induction k with
  | zero => rw [dgTo, size_app]; have := db_size u hu; have := db_size x hx; omega
  | succ k ih => rw [dgTo, size_app, size_app]; have := db_size _ (hl k).1; have := db_size _ (hl k).2; omega
theorem hlTo_size (h : ByteArray) (k : Nat) : (hlTo h k).size ≤ 2 + 9 * k := by
  induction k with
  | zero => exact Nat.le_refl _
  | succ k ih =>
    rw [hlTo, size_app, size_app, ByteArray.size_extract]
    have c1 : (ByteArray.mk #[32]).size = 1 := rfl
    omega
end Txt

end Go.Proofs.YtmmkhodaljpjgaaGreatDoor

/-! Package file: hashLine, Print. -/
namespace Go.Proofs.YtmmkhodaljpjgaaGreatDoor
open Go.RowKit

set_option maxRecDepth 100000 in
theorem hash_line (h : ByteArray) (w : World) (hs : h.size = 40) :
    Calls Tryz.prog 129 #[.string h] w fun e w' => e = .returned (.string (Txt.hl h)) ∧ w' = w := by
  have H : Hid (Txt.hl h = Txt.hlTo h 5 ++ ⟨#[10]⟩) := rfl
  go_enter Tryz.func129, Tryz.ntmps129
  go_wp2
  go_loop [3, 4] (fun l i => ∃ k : Nat, k ≤ 5 ∧ i = .int .i64 ((k * 8 : Nat) : Int) ∧ l = .string (Txt.hlTo h k)) (fun _ i => 40 - (intOf i).toNat)
  case atStart => exact ⟨0, by omega, rfl, rfl⟩
  case round =>
    obtain ⟨k, hk, rfl, rfl⟩ := hrel
    have hz := Txt.hlTo_size h k
    by_cases hlt : k < 5
    · obtain ⟨b, hb⟩ : ∃ b, k * 8 = b := ⟨_, rfl⟩
      have HK : Hid (Txt.hlTo h (k + 1) = Txt.hlTo h k ++ (⟨#[32]⟩ ++ h.extract b (b + 8))) := by show _ = _; rw [Txt.hlTo, hb]
      rw [hb]
      have HB := hid' hb
      have hb8 : b + 8 ≤ 40 := by omega
      have hx : (h.extract b (b + 8)).size ≤ 8 := by rw [ByteArray.size_extract]; omega
      clear hb
      generalize Txt.hlTo h k = l at *
      go_wp2
      exact ⟨⟨k + 1, by omega, by have := HB.out; go_num; try omega, by rw [HK.out]⟩, by simp [intOf]; omega⟩
    · have ek : k = 5 := by omega
      subst ek
      generalize Txt.hlTo h 5 = l at *
      go_wp2
      go_ret
      exact ⟨ret_str H.out.symm, rfl⟩

end Go.Proofs.YtmmkhodaljpjgaaGreatDoor

/-! Package file: Print. -/
namespace Go.Proofs.YtmmkhodaljpjgaaGreatDoor
open Go.RowKit

theorem held_below {w w' : World} {lv : Value} {ls : List (Int × Int)} (h : Held w lv ls) (hb : Below w.heap.size w w') : Held w' lv ls := by
  rcases h with h | ⟨h3, g, cap, rfl, hcap, hgl, hlies⟩
  · exact .inl h
  · exact .inr ⟨h3, g, cap, rfl, hcap, by have := hb.size; omega, hlies.below hgl hb⟩

theorem itoa_int (n : Int) (w : World) (h0 : 0 ≤ n) (hn : n ≤ 1000000000000) (hP : Pows w) :
    Calls Tryz.prog 128 #[.int .i64 n] w fun e w' => e = .returned (.string (Txt.db n)) ∧ Below w.heap.size w w' := by
  obtain ⟨m, rfl⟩ := Int.eq_ofNat_of_zero_le h0
  exact itoa_any m w (by omega) hP

theorem Tab.whole_bd {up ex : Int} {ls : List (Int × Int)} (h : Tab.whole up ex ls = true) : 0 ≤ up ∧ up < ex ∧ ex ≤ 34000000000 := by
  unfold Tab.whole at h
  simp only [Bool.and_eq_true, decide_eq_true_eq] at h
  exact ⟨h.1, h.2.1, h.2.2.1⟩
theorem Fine.getD {ls : List (Int × Int)} (h : Fine ls) (i : Nat) : (0 ≤ (ls.getD i (0, 0)).1 ∧ (ls.getD i (0, 0)).1 ≤ 34712668800) ∧ (0 ≤ (ls.getD i (0, 0)).2 ∧ (ls.getD i (0, 0)).2 ≤ 200) := by
  by_cases c : i < ls.length
  · rw [getD_at i c]; exact h _ (List.getElem_mem c)
  · rw [List.getD_eq_getElem?_getD, List.getElem?_eq_none (by omega)]; simp

theorem ret_str_num {a b : ByteArray} {n : Int} (h : a = b) : Ending.returned (.tuple #[.string a, .int .i64 n]) = .returned (.tuple #[.string b, .int .i64 n]) := by rw [h]

set_option maxRecDepth 100000 in
set_option maxHeartbeats 1000000 in
theorem file_print_no (lv : Value) (ls : List (Int × Int)) (up ex : Int) (w : World) (wu : (Lit.int .i64 up).wf = true) (wx : (Lit.int .i64 ex).wf = true)
    (hv : Held w lv ls) (hn : ls.length ≤ 100000) (hwf : ∀ p ∈ ls, WfP p) (hwh : Tab.whole up ex ls = false) :
    Calls Tryz.prog 80 #[.agg #[.int .i64 up, .int .i64 ex, lv]] w fun e w' =>
      e = .returned (.tuple #[.string ⟨#[]⟩, .int .i64 8]) ∧ Below w.heap.size w w' := by
  have HBel := hid' ((Below.refl w.heap.size w).alloc (Nat.le_refl _) (.cells #[.int .i64 up, .int .i64 ex, lv] 78))
  have HW := hid' (is_table lv ls up ex (w.alloc (.cells #[.int .i64 up, .int .i64 ex, lv] 78)) wu wx (held_below hv HBel.out) hn hwf)
  rw [hwh] at HW
  clear hwh hv wu wx hwf hn
  go_enter Tryz.func80, Tryz.ntmps80
  go_wp2_with (go_at_call 127; refine HW.out.mono ?_; rintro e w1 ⟨rfl, hb1⟩; have HB1 := hid' hb1; clear hb1)
  go_ret2
  exact ⟨rfl, HBel.out.trans (HB1.out.mono HBel.out.size)⟩

set_option maxRecDepth 100000 in
set_option maxHeartbeats 2000000 in
theorem file_print_yes (lv : Value) (ls : List (Int × Int)) (up ex : Int) (w : World) (wu : (Lit.int .i64 up).wf = true) (wx : (Lit.int .i64 ex).wf = true)
    (hv : Held w lv ls) (hn : ls.length ≤ 100000) (hwf : ∀ p ∈ ls, WfP p) (hwh : Tab.whole up ex ls = true) (hT : Table w) (hP : Pows w) :
    Calls Tryz.prog 80 #[.agg #[.int .i64 up, .int .i64 ex, lv]] w fun e w' =>
      e = .returned (.tuple #[.string (Txt.print up ex ls), .int .i64 0]) ∧ Below w.heap.size w w' := by
  have HBel := hid' ((Below.refl w.heap.size w).alloc (Nat.le_refl _) (.cells #[.int .i64 up, .int .i64 ex, lv] 78))
  have HW := hid' (is_table lv ls up ex (w.alloc (.cells #[.int .i64 up, .int .i64 ex, lv] 78)) wu wx (held_below hv HBel.out) hn hwf)
  have HROW := hid' (heap_alloc_new w (.cells #[.int .i64 up, .int .i64 ex, lv] 78))
  rw [hwh] at HW
  have hG := Tab.good_of_whole hwh
  have hpos := hG.pos
  have hlen := hG.len
  obtain ⟨hu0, hux, hx0⟩ := Tab.whole_bd hwh
  have HF := hid' hG.fine.getD
  clear hwh hwf hG wu wx hn
  have HT := hid' hT
  have HP := hid' hP
  clear hT hP
  rcases hv with ⟨rfl, _⟩ | ⟨_, g, cap, rfl, hcap, hgl, hlies⟩
  · simp at hpos
  have HLies := hid' hlies
  clear hlies
  have hsu := Txt.db_size up (by omega)
  have hsx := Txt.db_size ex (by omega)
  have IU := hid' (fun w' h => itoa_int up w' hu0 (by omega) h)
  have IX := hid' (fun w' h => itoa_int ex w' (by omega) (by omega) h)
  have HH : Hid (Txt.head up ex = ⟨#[35, 36, 32]⟩ ++ Txt.db up ++ ⟨#[10, 35, 64, 32]⟩ ++ Txt.db ex ++ ⟨#[10]⟩) := rfl
  have HD0 : Hid (Txt.dgTo up ex ls 0 = Txt.db up ++ Txt.db ex) := rfl
  have HZ := hid' (fun k => Txt.prTo_size (u := up) (x := ex) (ls := ls) (by omega) (by omega) (fun i => by have := HF.out i; omega) k)
  have HZD := hid' (fun k => Txt.dgTo_size (u := up) (x := ex) (ls := ls) (by omega) (by omega) (fun i => by have := HF.out i; omega) k)
  generalize Txt.db up = su at *
  generalize Txt.db ex = sx at *
  go_enter Tryz.func80, Tryz.ntmps80
  go_wp2_with fail
  refine HW.out.mono ?_
  rintro e w1 ⟨rfl, hb1⟩
  have HB1 := hid' (HBel.out.trans (hb1.mono HBel.out.size))
  have HR1 := hid' ((hb1.block _ (lt_of_heap HROW.out)).trans HROW.out)
  clear hb1
  have t0 := cell_of_row _ _ 0 _ _ _ HR1.out
  simp at t0
  go_wp2_with fail
  refine (IU.out w1 (HP.out.below HB1.out)).mono ?_
  clear t0
  rintro e w2 ⟨rfl, hb2⟩
  have HB2 := hid' (HB1.out.trans (hb2.mono HB1.out.size))
  have HR2 := hid' ((hb2.block _ (lt_of_heap HR1.out)).trans HR1.out)
  clear hb2
  have t1 := cell_of_row _ _ 1 _ _ _ HR2.out
  simp at t1
  go_wp2_with fail
  refine (IX.out w2 (HP.out.below HB2.out)).mono ?_
  clear t1
  rintro e w3 ⟨rfl, hb3⟩
  have HB3 := hid' (HB2.out.trans (hb3.mono HB2.out.size))
  have HR3 := hid' ((hb3.block _ (lt_of_heap HR2.out)).trans HR2.out)
  clear hb3
  go_wp2
  go_loopw [6, 7, 8, 9, 10] (fun t d i _ _ wr => ∃ k : Nat, k ≤ ls.length ∧ i = .int .i64 k ∧ t = .string (Txt.prTo up ex ls k) ∧ d = .string (Txt.dgTo up ex ls k) ∧ Below w.heap.size w wr ∧ wr.heap[w.heap.size]? = some (.cells #[.int .i64 up, .int .i64 ex, .slice (some ⟨g, 0, none⟩) ls.length cap] 78 (0, 0))) (fun _ _ i _ _ _ => ls.length - (intOf i).toNat)
  case atStart => exact ⟨0, by omega, rfl, by rw [Txt.prTo, HH.out], by rw [HD0.out], HB3.out, HR3.out⟩
  case round =>
    obtain ⟨k, hk, rfl, rfl, rfl, hb, hr⟩ := hrel
    have HB := hid' hb
    have HR := hid' hr
    clear hb hr
    have hz := HZ.out k
    have hzd := HZD.out k
    have t2 := cell_of_row _ _ 2 _ _ _ HR.out
    simp at t2
    by_cases hlt : k < ls.length
    · have hcell := HLies.out k hlt
      have hf := HF.out k
      have HN : Hid (Txt.prTo up ex ls (k + 1) = Txt.prTo up ex ls k ++ (Txt.db ls[k].1 ++ ⟨#[32]⟩ ++ Txt.db ls[k].2 ++ ⟨#[10]⟩)) := by show _ = _; rw [Txt.prTo, getD_at k hlt]; rfl
      have HND : Hid (Txt.dgTo up ex ls (k + 1) = Txt.dgTo up ex ls k ++ (Txt.db ls[k].1 ++ Txt.db ls[k].2)) := by show _ = _; rw [Txt.dgTo, getD_at k hlt]
      rw [getD_at k hlt] at hf
      generalize ls[k] = p at *
      obtain ⟨pa, po⟩ := p
      simp only at hcell hf HN HND
      have hsa := Txt.db_size pa (by omega)
      have hso := Txt.db_size po (by omega)
      have IA := hid' (fun w' h => itoa_int pa w' hf.1.1 (by omega) h)
      have IO := hid' (fun w' h => itoa_int po w' hf.2.1 (by omega) h)
      generalize Txt.db pa = sa at *
      generalize Txt.db po = so at *
      generalize Txt.prTo up ex ls k = pt at *
      generalize Txt.dgTo up ex ls k = dt at *
      have HC := hid' hcell
      have hc := (HB.out.cell (p := ⟨g, k * 2, none⟩) hgl).trans hcell.1
      clear hcell
      go_wp2_with fail
      refine (IA.out _ (HP.out.below HB.out)).mono ?_
      clear hc t2
      rintro e w4 ⟨rfl, hb4⟩
      have HB4 := hid' (HB.out.trans (hb4.mono HB.out.size))
      have HR4 := hid' ((hb4.block _ (lt_of_heap HR.out)).trans HR.out)
      clear hb4
      have t2 := cell_of_row _ _ 2 _ _ _ HR4.out
      simp at t2
      have hc := (HB4.out.cell (p := ⟨g, k * 2 + 1, none⟩) hgl).trans HC.out.2
      go_wp2_with fail
      refine (IO.out _ (HP.out.below HB4.out)).mono ?_
      clear hc t2
      rintro e w5 ⟨rfl, hb5⟩
      have HB5 := hid' (HB4.out.trans (hb5.mono HB4.out.size))
      have HR5 := hid' ((hb5.block _ (lt_of_heap HR4.out)).trans HR4.out)
      clear hb5
      go_wp2
      go_roundw
      case rel => exact ⟨k + 1, by omega, by go_num, by rw [HN.out], by rw [HND.out], HB5.out, HR5.out⟩
      case measure => simp [intOf]; omega
    · have ek : k = ls.length := by omega
      subst ek
      have HPR : Hid (Txt.print up ex ls = Txt.prTo up ex ls ls.length ++ Txt.hl (Txt.dgst up ex ls)) := rfl
      have HDG : Hid (Txt.dgst up ex ls = ⟨(Sha.digest (Txt.dgTo up ex ls ls.length)).toArray⟩) := rfl
      have hds := Txt.digest_size (Txt.dgTo up ex ls ls.length)
      rw [← HDG.out] at hds
      have OFF := hid' (fun w' h => of_any (Txt.dgTo up ex ls ls.length) w' (by omega) h)
      rw [← HDG.out] at OFF
      have HLN := hid' (fun w' => hash_line (Txt.dgst up ex ls) w' hds)
      have hhl := Txt.hlTo_size (Txt.dgst up ex ls) 5
      have hhz : (Txt.hl (Txt.dgst up ex ls)).size ≤ 48 := by
        rw [Txt.hl, Txt.size_app]; have : (ByteArray.mk #[10]).size = 1 := rfl
        omega
      clear hhl HDG
      generalize Txt.prTo up ex ls ls.length = pt at *
      generalize Txt.dgTo up ex ls ls.length = dt at *
      generalize Txt.dgst up ex ls = dg at *
      generalize Txt.hl dg = hh at *
      go_wp2_with fail
      refine (OFF.out _ (HT.out.below HB.out)).mono ?_
      clear t2
      rintro e w4 ⟨rfl, hb4⟩
      have HB4 := hid' (HB.out.trans (hb4.mono HB.out.size))
      clear hb4
      go_wp2_with fail
      refine (HLN.out _).mono ?_
      rintro e w5 ⟨rfl, rfl⟩
      go_wp2
      go_ret2
      exact ⟨ret_str_num HPR.out.symm, HB4.out⟩

end Go.Proofs.YtmmkhodaljpjgaaGreatDoor

/-! smear.Print. -/
namespace Go.Proofs.YtmmkhodaljpjgaaGreatDoor
open Go.RowKit

/-- What Print answers. -/
def Txt.printed (up ex : Int) (ls : List (Int × Int)) : ByteArray × Int := if Tab.whole up ex ls = false then (⟨#[]⟩, 8) else (Txt.print up ex ls, 0)
theorem file_print (lv : Value) (ls : List (Int × Int)) (up ex : Int) (w : World) (wu : (Lit.int .i64 up).wf = true) (wx : (Lit.int .i64 ex).wf = true)
    (hv : Held w lv ls) (hn : ls.length ≤ 100000) (hwf : ∀ p ∈ ls, WfP p) (hT : Table w) (hP : Pows w) :
    Calls Tryz.prog 80 #[.agg #[.int .i64 up, .int .i64 ex, lv]] w fun e w' =>
      e = .returned (.tuple #[.string (Txt.printed up ex ls).1, .int .i64 (Txt.printed up ex ls).2]) ∧ Below w.heap.size w w' := by
  cases hwh : Tab.whole up ex ls with
  | false =>
    have e : Txt.printed up ex ls = (⟨#[]⟩, 8) := by unfold Txt.printed; rw [if_pos hwh]
    rw [e]; exact file_print_no lv ls up ex w wu wx hv hn hwf hwh
  | true =>
    have e : Txt.printed up ex ls = (Txt.print up ex ls, 0) := by unfold Txt.printed; rw [if_neg (by rw [hwh]; simp)]
    rw [e]; exact file_print_yes lv ls up ex w wu wx hv hn hwf hwh hT hP

set_option maxRecDepth 100000 in
theorem smear_print (lv : Value) (ls : List (Int × Int)) (up ex : Int) (w : World) (wu : (Lit.int .i64 up).wf = true) (wx : (Lit.int .i64 ex).wf = true)
    (hv : Held w lv ls) (hn : ls.length ≤ 100000) (hwf : ∀ p ∈ ls, WfP p) (hT : Table w) (hP : Pows w) :
    Calls Tryz.prog 44 #[.agg #[.int .i64 up, .int .i64 ex, lv]] w fun e w' =>
      e = .returned (.tuple #[.string (Txt.printed up ex ls).1, .int .i64 (Txt.printed up ex ls).2]) ∧ Below w.heap.size w w' := by
  have HF := hid' (fun w' h1 h2 h3 => file_print lv ls up ex w' wu wx h1 hn hwf h2 h3)
  have HV := hid' hv
  have HT := hid' hT
  have HP := hid' hP
  clear wu wx hv hn hwf hT hP
  generalize Txt.printed up ex ls = r at *
  obtain ⟨rs, rn⟩ := r
  have HBel := hid' ((Below.refl w.heap.size w).alloc (Nat.le_refl _) (.cells #[.int .i64 up, .int .i64 ex, lv] 78))
  have HROW := hid' (heap_alloc_new w (.cells #[.int .i64 up, .int .i64 ex, lv] 78))
  go_enter Tryz.func44, Tryz.ntmps44
  go_wp2_with fail
  first
    | (refine (HF.out _ (held_below HV.out HBel.out) (HT.out.below HBel.out) (HP.out.below HBel.out)).mono ?_
       rintro e w1 ⟨rfl, hb1⟩
       have HB1 := hid' (HBel.out.trans (hb1.mono HBel.out.size))
       clear hb1)
    | (refine (HF.out _ HV.out HT.out HP.out).mono ?_
       rintro e w1 ⟨rfl, hb1⟩
       have HB1 := hid' hb1
       clear hb1)
  go_wp2
  go_ret2
  exact ⟨rfl, HB1.out⟩

end Go.Proofs.YtmmkhodaljpjgaaGreatDoor
