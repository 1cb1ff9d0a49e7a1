import Derived.Test.YtmmkhodaljpjgabGreatDoorW05
namespace Go.Proofs.YtmmkhodaljpjgabGreatDoor
open Go.RowKit
set_option maxRecDepth 100000 in
theorem hash_line (h : ByteArray) (w : World) (hs : h.size = 40) :
    Calls Tryz.prog 65 #[.string h] w fun e w' => e = .returned (.string (Txt.hl h)) ∧ w' = w := by
  have H : Hid (Txt.hl h = Txt.hlTo h 5 ++ ⟨#[10]⟩) := rfl
  go_enter Tryz.func65, Tryz.ntmps65
  go_wp2
  go_loop [3, 4] (fun l i => ∃ k : Nat, k ≤ 5 ∧ i = .int .i64 ((k * 8 : Nat) : Int) ∧ l = .string (Txt.hlTo h k)) (fun _ i => 40 - (intOf i).toNat)
  case atStart => exact ⟨0, by omega, rfl, rfl⟩
  case round =>
    obtain ⟨k, hk, rfl, rfl⟩ := hrel
    have hz := Txt.hlTo_size h k
    by_cases hlt : k < 5
    · obtain ⟨b, hb⟩ : ∃ b, k * 8 = b := ⟨_, rfl⟩
      have HK : Hid (Txt.hlTo h (k + 1) = Txt.hlTo h k ++ (⟨#[32]⟩ ++ h.extract b (b + 8))) := by show _ = _; rw [Txt.hlTo, hb]
      rw [hb]
      have HB := hid' hb
      have hb8 : b + 8 ≤ 40 := by omega
      have hx : (h.extract b (b + 8)).size ≤ 8 := by rw [ByteArray.size_extract]; omega
      clear hb
      generalize Txt.hlTo h k = l at *
      go_wp2
      exact ⟨⟨k + 1, by omega, by have := HB.out; go_num; try omega, by rw [HK.out]⟩, by simp [intOf]; omega⟩
    · have ek : k = 5 := by omega
      subst ek
      generalize Txt.hlTo h 5 = l at *
      go_wp2
      go_ret
      exact ⟨ret_str H.out.symm, rfl⟩
theorem held_below {w w' : World} {lv : Value} {ls : List (Int × Int)} (h : Held w lv ls) (hb : Below w.heap.size w w') : Held w' lv ls := by
  rcases h with h | ⟨h3, g, cap, rfl, hcap, hgl, hlies⟩
  · exact .inl h
  · exact .inr ⟨h3, g, cap, rfl, hcap, by have := hb.size; omega, hlies.below hgl hb⟩
theorem itoa_int (n : Int) (w : World) (h0 : 0 ≤ n) (hn : n ≤ 1000000000000) (hP : Pows w) :
    Calls Tryz.prog 64 #[.int .i64 n] w fun e w' => e = .returned (.string (Txt.db n)) ∧ Below w.heap.size w w' := by
  obtain ⟨m, rfl⟩ := Int.eq_ofNat_of_zero_le h0
  exact itoa_any m w (by omega) hP
theorem Tab.whole_bd {up ex : Int} {ls : List (Int × Int)} (h : Tab.whole up ex ls = true) : 0 ≤ up ∧ up < ex ∧ ex ≤ 34000000000 := by
  unfold Tab.whole at h
  simp only [Bool.and_eq_true, decide_eq_true_eq] at h
  exact ⟨h.1, h.2.1, h.2.2.1⟩
theorem Fine.getD {ls : List (Int × Int)} (h : Fine ls) (i : Nat) : (0 ≤ (ls.getD i (0, 0)).1 ∧ (ls.getD i (0, 0)).1 ≤ 34712668800) ∧ (0 ≤ (ls.getD i (0, 0)).2 ∧ (ls.getD i (0, 0)).2 ≤ 200) := by
  by_cases c : i < ls.length
  · rw [getD_at i c]; exact h _ (List.getElem_mem c)
  · rw [List.getD_eq_getElem?_getD, List.getElem?_eq_none (by omega)]; simp
theorem ret_str_num {a b : ByteArray} {n : Int} (h : a = b) : Ending.returned (.tuple #[.string a, .int .i64 n]) = .returned (.tuple #[.string b, .int .i64 n]) := by rw [h]
set_option maxRecDepth 100000 in
set_option maxHeartbeats 1000000 in
theorem file_print_no (lv : Value) (ls : List (Int × Int)) (up ex : Int) (w : World) (wu : (Lit.int .i64 up).wf = true) (wx : (Lit.int .i64 ex).wf = true)
    (hv : Held w lv ls) (hn : ls.length ≤ 100000) (hwf : ∀ p ∈ ls, WfP p) (hwh : Tab.whole up ex ls = false) :
    Calls Tryz.prog 42 #[.agg #[.int .i64 up, .int .i64 ex, lv]] w fun e w' =>
      e = .returned (.tuple #[.string ⟨#[]⟩, .int .i64 8]) ∧ Below w.heap.size w w' := by
  have HBel := hid' ((Below.refl w.heap.size w).alloc (Nat.le_refl _) (.cells #[.int .i64 up, .int .i64 ex, lv] 29))
  have HW := hid' (is_table lv ls up ex (w.alloc (.cells #[.int .i64 up, .int .i64 ex, lv] 29)) wu wx (held_below hv HBel.out) hn hwf)
  rw [hwh] at HW
  clear hwh hv wu wx hwf hn
  go_enter Tryz.func42, Tryz.ntmps42
  go_wp2_with (go_at_call 63; refine HW.out.mono ?_; rintro e w1 ⟨rfl, hb1⟩; have HB1 := hid' hb1; clear hb1)
  go_ret2
  exact ⟨rfl, HBel.out.trans (HB1.out.mono HBel.out.size)⟩
set_option maxRecDepth 100000 in
set_option maxHeartbeats 2000000 in
theorem file_print_yes (lv : Value) (ls : List (Int × Int)) (up ex : Int) (w : World) (wu : (Lit.int .i64 up).wf = true) (wx : (Lit.int .i64 ex).wf = true)
    (hv : Held w lv ls) (hn : ls.length ≤ 100000) (hwf : ∀ p ∈ ls, WfP p) (hwh : Tab.whole up ex ls = true) (hT : Table w) (hP : Pows w) :
    Calls Tryz.prog 42 #[.agg #[.int .i64 up, .int .i64 ex, lv]] w fun e w' =>
      e = .returned (.tuple #[.string (Txt.print up ex ls), .int .i64 0]) ∧ Below w.heap.size w w' := by
  have HBel := hid' ((Below.refl w.heap.size w).alloc (Nat.le_refl _) (.cells #[.int .i64 up, .int .i64 ex, lv] 29))
  have HW := hid' (is_table lv ls up ex (w.alloc (.cells #[.int .i64 up, .int .i64 ex, lv] 29)) wu wx (held_below hv HBel.out) hn hwf)
  have HROW := hid' (heap_alloc_new w (.cells #[.int .i64 up, .int .i64 ex, lv] 29))
  rw [hwh] at HW
  have hG := Tab.good_of_whole hwh
  have hpos := hG.pos
  have hlen := hG.len
  obtain ⟨hu0, hux, hx0⟩ := Tab.whole_bd hwh
  have HF := hid' hG.fine.getD
  clear hwh hwf hG wu wx hn
  have HT := hid' hT
  have HP := hid' hP
  clear hT hP
  rcases hv with ⟨rfl, _⟩ | ⟨_, g, cap, rfl, hcap, hgl, hlies⟩
  · simp at hpos
  have HLies := hid' hlies
  clear hlies
  have hsu := Txt.db_size up (by omega)
  have hsx := Txt.db_size ex (by omega)
  have IU := hid' (fun w' h => itoa_int up w' hu0 (by omega) h)
  have IX := hid' (fun w' h => itoa_int ex w' (by omega) (by omega) h)
  have HH : Hid (Txt.head up ex = ⟨#[35, 36, 32]⟩ ++ Txt.db up ++ ⟨#[10, 35, 64, 32]⟩ ++ Txt.db ex ++ ⟨#[10]⟩) := rfl
  have HD0 : Hid (Txt.dgTo up ex ls 0 = Txt.db up ++ Txt.db ex) := rfl
  have HZ := hid' (fun k => Txt.prTo_size (u := up) (x := ex) (ls := ls) (by omega) (by omega) (fun i => by have := HF.out i; omega) k)
  have HZD := hid' (fun k => Txt.dgTo_size (u := up) (x := ex) (ls := ls) (by omega) (by omega) (fun i => by have := HF.out i; omega) k)
  generalize Txt.db up = su at *
  generalize Txt.db ex = sx at *
  go_enter Tryz.func42, Tryz.ntmps42
  go_wp2_with fail
  refine HW.out.mono ?_
  rintro e w1 ⟨rfl, hb1⟩
  have HB1 := hid' (HBel.out.trans (hb1.mono HBel.out.size))
  have HR1 := hid' ((hb1.block _ (lt_of_heap HROW.out)).trans HROW.out)
  clear hb1
  have t0 := cell_of_row _ _ 0 _ _ _ HR1.out
  simp at t0
  go_wp2_with fail
  refine (IU.out w1 (HP.out.below HB1.out)).mono ?_
  clear t0
  rintro e w2 ⟨rfl, hb2⟩
  have HB2 := hid' (HB1.out.trans (hb2.mono HB1.out.size))
  have HR2 := hid' ((hb2.block _ (lt_of_heap HR1.out)).trans HR1.out)
  clear hb2
  have t1 := cell_of_row _ _ 1 _ _ _ HR2.out
  simp at t1
  go_wp2_with fail
  refine (IX.out w2 (HP.out.below HB2.out)).mono ?_
  clear t1
  rintro e w3 ⟨rfl, hb3⟩
  have HB3 := hid' (HB2.out.trans (hb3.mono HB2.out.size))
  have HR3 := hid' ((hb3.block _ (lt_of_heap HR2.out)).trans HR2.out)
  clear hb3
  go_wp2
  go_loopw [6, 7, 8, 9, 10] (fun t d i _ _ wr => ∃ k : Nat, k ≤ ls.length ∧ i = .int .i64 k ∧ t = .string (Txt.prTo up ex ls k) ∧ d = .string (Txt.dgTo up ex ls k) ∧ Below w.heap.size w wr ∧ wr.heap[w.heap.size]? = some (.cells #[.int .i64 up, .int .i64 ex, .slice (some ⟨g, 0, none⟩) ls.length cap] 29 (0, 0))) (fun _ _ i _ _ _ => ls.length - (intOf i).toNat)
  case atStart => exact ⟨0, by omega, rfl, by rw [Txt.prTo, HH.out], by rw [HD0.out], HB3.out, HR3.out⟩
  case round =>
    obtain ⟨k, hk, rfl, rfl, rfl, hb, hr⟩ := hrel
    have HB := hid' hb
    have HR := hid' hr
    clear hb hr
    have hz := HZ.out k
    have hzd := HZD.out k
    have t2 := cell_of_row _ _ 2 _ _ _ HR.out
    simp at t2
    by_cases hlt : k < ls.length
    · have hcell := HLies.out k hlt
      have hf := HF.out k
      have HN : Hid (Txt.prTo up ex ls (k + 1) = Txt.prTo up ex ls k ++ (Txt.db ls[k].1 ++ ⟨#[32]⟩ ++ Txt.db ls[k].2 ++ ⟨#[10]⟩)) := by show _ = _; rw [Txt.prTo, getD_at k hlt]; rfl
      have HND : Hid (Txt.dgTo up ex ls (k + 1) = Txt.dgTo up ex ls k ++ (Txt.db ls[k].1 ++ Txt.db ls[k].2)) := by show _ = _; rw [Txt.dgTo, getD_at k hlt]
      rw [getD_at k hlt] at hf
      generalize ls[k] = p at *
      obtain ⟨pa, po⟩ := p
      simp only at hcell hf HN HND
      have hsa := Txt.db_size pa (by omega)
      have hso := Txt.db_size po (by omega)
      have IA := hid' (fun w' h => itoa_int pa w' hf.1.1 (by omega) h)
      have IO := hid' (fun w' h => itoa_int po w' hf.2.1 (by omega) h)
      generalize Txt.db pa = sa at *
      generalize Txt.db po = so at *
      generalize Txt.prTo up ex ls k = pt at *
      generalize Txt.dgTo up ex ls k = dt at *
      have HC := hid' hcell
      have hc := (HB.out.cell (p := ⟨g, k * 2, none⟩) hgl).trans hcell.1
      clear hcell
      go_wp2_with fail
      refine (IA.out _ (HP.out.below HB.out)).mono ?_
      clear hc t2
      rintro e w4 ⟨rfl, hb4⟩
      have HB4 := hid' (HB.out.trans (hb4.mono HB.out.size))
      have HR4 := hid' ((hb4.block _ (lt_of_heap HR.out)).trans HR.out)
      clear hb4
      have t2 := cell_of_row _ _ 2 _ _ _ HR4.out
      simp at t2
      have hc := (HB4.out.cell (p := ⟨g, k * 2 + 1, none⟩) hgl).trans HC.out.2
      go_wp2_with fail
      refine (IO.out _ (HP.out.below HB4.out)).mono ?_
      clear hc t2
      rintro e w5 ⟨rfl, hb5⟩
      have HB5 := hid' (HB4.out.trans (hb5.mono HB4.out.size))
      have HR5 := hid' ((hb5.block _ (lt_of_heap HR4.out)).trans HR4.out)
      clear hb5
      go_wp2
      go_roundw
      case rel => exact ⟨k + 1, by omega, by go_num, by rw [HN.out], by rw [HND.out], HB5.out, HR5.out⟩
      case measure => simp [intOf]; omega
    · have ek : k = ls.length := by omega
      subst ek
      have HPR : Hid (Txt.print up ex ls = Txt.prTo up ex ls ls.length ++ Txt.hl (Txt.dgst up ex ls)) := rfl
      have HDG : Hid (Txt.dgst up ex ls = ⟨(Sha.digest (Txt.dgTo up ex ls ls.length)).toArray⟩) := rfl
      have hds := Txt.digest_size (Txt.dgTo up ex ls ls.length)
      rw [← HDG.out] at hds
      have OFF := hid' (fun w' h => of_any (Txt.dgTo up ex ls ls.length) w' (by omega) h)
      rw [← HDG.out] at OFF
      have HLN := hid' (fun w' => hash_line (Txt.dgst up ex ls) w' hds)
      have hhl := Txt.hlTo_size (Txt.dgst up ex ls) 5
      have hhz : (Txt.hl (Txt.dgst up ex ls)).size ≤ 48 := by
        rw [Txt.hl, Txt.size_app]; have : (ByteArray.mk #[10]).size = 1 := rfl
        omega
      clear hhl HDG
      generalize Txt.prTo up ex ls ls.length = pt at *
      generalize Txt.dgTo up ex ls ls.length = dt at *
      generalize Txt.dgst up ex ls = dg at *
      generalize Txt.hl dg = hh at *
      go_wp2_with fail
      refine (OFF.out _ (HT.out.below HB.out)).mono ?_
      clear t2
      rintro e w4 ⟨rfl, hb4⟩
      have HB4 := hid' (HB.out.trans (hb4.mono HB.out.size))
      clear hb4
      go_wp2_with fail
      refine (HLN.out _).mono ?_
      rintro e w5 ⟨rfl, rfl⟩
      go_wp2
      go_ret2
      exact ⟨ret_str_num HPR.out.symm, HB4.out⟩
/-- What Print answers. -/
def Txt.printed (up ex : Int) (ls : List (Int × Int)) : ByteArray × Int := if Tab.whole up ex ls = false then (⟨#[]⟩, 8) else (Txt.print up ex ls, 0)
theorem file_print (lv : Value) (ls : List (Int × Int)) (up ex : Int) (w : World) (wu : (Lit.int .i64 up).wf = true) (wx : (Lit.int .i64 ex).wf = true)
    (hv : Held w lv ls) (hn : ls.length ≤ 100000) (hwf : ∀ p ∈ ls, WfP p) (hT : Table w) (hP : Pows w) :
    Calls Tryz.prog 42 #[.agg #[.int .i64 up, .int .i64 ex, lv]] w fun e w' =>
      e = .returned (.tuple #[.string (Txt.printed up ex ls).1, .int .i64 (Txt.printed up ex ls).2]) ∧ Below w.heap.size w w' := by
  cases hwh : Tab.whole up ex ls with
  | false =>
    have e : Txt.printed up ex ls = (⟨#[]⟩, 8) := by unfold Txt.printed; rw [if_pos hwh]
    rw [e]; exact file_print_no lv ls up ex w wu wx hv hn hwf hwh
  | true =>
    have e : Txt.printed up ex ls = (Txt.print up ex ls, 0) := by unfold Txt.printed; rw [if_neg (by rw [hwh]; simp)]
    rw [e]; exact file_print_yes lv ls up ex w wu wx hv hn hwf hwh hT hP
set_option maxRecDepth 100000 in
theorem smear_print (lv : Value) (ls : List (Int × Int)) (up ex : Int) (w : World) (wu : (Lit.int .i64 up).wf = true) (wx : (Lit.int .i64 ex).wf = true)
    (hv : Held w lv ls) (hn : ls.length ≤ 100000) (hwf : ∀ p ∈ ls, WfP p) (hT : Table w) (hP : Pows w) :
    Calls Tryz.prog 29 #[.agg #[.int .i64 up, .int .i64 ex, lv]] w fun e w' =>
      e = .returned (.tuple #[.string (Txt.printed up ex ls).1, .int .i64 (Txt.printed up ex ls).2]) ∧ Below w.heap.size w w' := by
  have HF := hid' (fun w' h1 h2 h3 => file_print lv ls up ex w' wu wx h1 hn hwf h2 h3)
  have HV := hid' hv
  have HT := hid' hT
  have HP := hid' hP
  clear wu wx hv hn hwf hT hP
  generalize Txt.printed up ex ls = r at *
  obtain ⟨rs, rn⟩ := r
  have HBel := hid' ((Below.refl w.heap.size w).alloc (Nat.le_refl _) (.cells #[.int .i64 up, .int .i64 ex, lv] 29))
  have HROW := hid' (heap_alloc_new w (.cells #[.int .i64 up, .int .i64 ex, lv] 29))
  go_enter Tryz.func29, Tryz.ntmps29
  go_wp2_with fail
  first
    | (refine (HF.out _ (held_below HV.out HBel.out) (HT.out.below HBel.out) (HP.out.below HBel.out)).mono ?_
       rintro e w1 ⟨rfl, hb1⟩
       have HB1 := hid' (HBel.out.trans (hb1.mono HBel.out.size))
       clear hb1)
    | (refine (HF.out _ HV.out HT.out HP.out).mono ?_
       rintro e w1 ⟨rfl, hb1⟩
       have HB1 := hid' hb1
       clear hb1)
  go_wp2
  go_ret2
  exact ⟨rfl, HB1.out⟩
/-- But for the blocks of F the world w' is as w was. -/
structure Off (F : Nat → Prop) (w w' : World) : Prop where
  os : w'.os = w.os
  tape : w'.tape = w.tape
  output : w'.output = w.output
  size : w.heap.size ≤ w'.heap.size
  block : ∀ k, k < w.heap.size → ¬ F k → w'.heap[k]? = w.heap[k]?
theorem Off.refl (F : Nat → Prop) (w : World) : Off F w w := ⟨rfl, rfl, rfl, Nat.le_refl _, fun _ _ _ => rfl⟩
/-- What the second step turns is F's, or was not there. -/
theorem Off.trans {F G : Nat → Prop} {a b c : World} (h : Off F a b) (g : Off G b c) (hG : ∀ k, k < a.heap.size → G k → F k) : Off F a c :=
  ⟨g.os.trans h.os, g.tape.trans h.tape, g.output.trans h.output, Nat.le_trans h.size g.size, fun k hk hF => (g.block k (Nat.lt_of_lt_of_le hk h.size) (fun c => hF (hG k hk c))).trans (h.block k hk hF)⟩
theorem Off.mono {F G : Nat → Prop} {w w' : World} (h : Off F w w') (hF : ∀ k, k < w.heap.size → F k → G k) : Off G w w' :=
  ⟨h.os, h.tape, h.output, h.size, fun k hk hG => h.block k hk (fun c => hG (hF k hk c))⟩
theorem Off.of_below {F : Nat → Prop} {w w' : World} (h : Below w.heap.size w w') : Off F w w' := ⟨h.os, h.tape, h.output, h.size, fun k hk _ => h.block k hk⟩
theorem Off.below {F : Nat → Prop} {w w' : World} {B : Nat} (h : Off F w w') (hF : ∀ k, F k → B ≤ k) (hB : B ≤ w.heap.size) : Below B w w' :=
  ⟨h.os, h.tape, h.output, h.size, fun k hk => h.block k (by omega) (fun c => by have := hF k c; omega)⟩
theorem Off.then {F : Nat → Prop} {a b c : World} (h : Off F a b) (g : Below b.heap.size b c) : Off F a c := h.trans (Off.of_below (F := fun _ => False) g) (fun _ _ h => h.elim)
theorem Off.alloc {F : Nat → Prop} {a w : World} (h : Off F a w) (o : Obj) : Off F a (w.alloc o) := h.then ((Below.refl _ _).alloc (Nat.le_refl _) o)
theorem Off.drewN {F : Nat → Prop} {a w : World} (h : Off F a w) (n : Nat) : Off F a (w.drewN n) := h.then (below_drewN (Below.refl _ _) n)
theorem Off.drew {F : Nat → Prop} {a w : World} (h : Off F a w) : Off F a w.drew := h.then (Below.refl _ _).drew
theorem Off.setCell {F : Nat → Prop} {a w : World} (h : Off F a w) {p : Addr} (hp : p.block < a.heap.size → F p.block) (u : Value) : Off F a (w.setCell p u) :=
  ⟨h.os, h.tape, h.output, by simpa [World.setCell] using h.size, fun k hk hF => (Below.heap_setCell _ _ _ _ (fun e => hF (by subst e; exact hp hk))).trans (h.block k hk hF)⟩
theorem Off.grown {F : Nat → Prop} {a w w' : World} {row : Option Nat} (h : Off F a w) (hg : w.grownBy w' row) (hr : ∀ k, row = some k → k < a.heap.size → F k) : Off F a w' :=
  ⟨hg.os.trans h.os, hg.tape.trans h.tape, hg.output.trans h.output, Nat.le_trans h.size hg.size, fun k hk hF => (hg.block k (Nat.lt_of_lt_of_le hk h.size) (fun e => hF (hr k e.symm hk))).trans (h.block k hk hF)⟩
theorem Off.heap {F : Nat → Prop} {w w' : World} (h : Off F w w') {k : Nat} {o : Obj} (hk : w.heap[k]? = some o) (hF : ¬ F k) : w'.heap[k]? = some o := (h.block k (lt_of_heap hk) hF).trans hk
/-- A row that none of F's blocks bears. -/
theorem Off.own {F : Nat → Prop} {w w' : World} (h : Off F w w') {B e size n : Nat} {v : Value} {xs : List Value} (ho : w.ownsRow B e size v n xs) (hF : ∀ k, v.ownBlock = some k → ¬ F k) : w'.ownsRow B e size v n xs := by
  refine ⟨ho.1, ?_⟩
  rcases ho.2 with h' | ⟨g, cap, cur, rfl, a, hh, b⟩
  · exact .inl h'
  · exact .inr ⟨g, cap, cur, rfl, a, h.heap hh (hF g rfl), b⟩
/-- A row of cells whose block is one of F. -/
def OwnF (F : Nat → Prop) (e size : Nat) (v : Value) (n : Nat) (xs : List Value) (w : World) : Prop := w.ownsRow 0 e size v n xs ∧ ∀ k, v.ownBlock = some k → F k
theorem OwnF.keep {F : Nat → Prop} {e size n : Nat} {v : Value} {xs : List Value} {w w' : World} (h : OwnF F e size v n xs w) (hk : ∀ k, F k → w'.heap[k]? = w.heap[k]?) : OwnF F e size v n xs w' := by
  refine ⟨⟨h.1.1, ?_⟩, h.2⟩
  rcases h.1.2 with h' | ⟨g, cap, cur, rfl, a, hh, b⟩
  · exact .inl h'
  · exact .inr ⟨g, cap, cur, rfl, a, (hk g (h.2 g rfl)).trans hh, b⟩
/-- A leap to come. -/
structure Cm where
  a : Int
  o : Int
  bs : Int
  bf : Int
  v : Bool
/-- Leaps to come as cells. -/
def flatC : List Cm → List Value
  | [] => []
  | c :: r => .int .i64 c.a :: .int .i64 c.o :: .int .i64 c.bs :: .int .i64 c.bf :: .bool c.v :: flatC r
theorem flatC_append (l r : List Cm) : flatC (l ++ r) = flatC l ++ flatC r := by
  induction l with
  | nil => rfl
  | cons p q ih => simp [flatC, ih]
def Cm.cells (c : Cm) : Array Value := #[.int .i64 c.a, .int .i64 c.o, .int .i64 c.bs, .int .i64 c.bf, .bool c.v]
theorem flatC_at (l : List Cm) (k : Nat) (h : k < l.length) (j : Nat) (hj : j < 5) : (flatC l)[k * 5 + j]? = l[k].cells[j]? := by
  induction l generalizing k with
  | nil => simp at h
  | cons p r ih =>
    cases k with
    | zero =>
      simp only [flatC, Nat.zero_mul, Nat.zero_add, List.getElem_cons_zero]
      match j, hj with
      | 0, _ => rfl
      | 1, _ => rfl
      | 2, _ => rfl
      | 3, _ => rfl
      | 4, _ => rfl
    | succ k =>
      have h' : k < r.length := by simpa using h
      have e : (k + 1) * 5 + j = (k * 5 + j) + 5 := by omega
      rw [e]
      simp only [flatC, List.getElem_cons_succ]
      exact ih k h'
theorem infoALeap : (Tryz.prog.info? 49).map (fun i => (i.zero, i.size, i.bytes)) = some (some (.agg #[.int .i64 0, .int .i64 0]), 2, 16) := by kernel_rfl
theorem infoAComing : (Tryz.prog.info? 84).map (fun i => (i.zero, i.size, i.bytes)) = some (some (.agg #[.int .i64 0, .int .i64 0, .int .i64 0, .int .i64 0, .bool false]), 5, 40) := by kernel_rfl
namespace Tab
theorem first_gap {a b : Int} (ha : IsFirst a) (hb : IsFirst b) (h : a < b) : a + 2419200 ≤ b := by
  obtain ⟨a0, a1, y, m, hi, he⟩ := ha
  obtain ⟨b0, b1, z, o, gi, ge⟩ := hb
  have ym1 := hi.m1
  have ym2 := hi.m2
  have zm1 := gi.m1
  have zm2 := gi.m2
  have dm := Cal.dim_bd y m
  have cs := Cal.cum_succ y m ym1 ym2
  suffices hs : a / 86400 + 28 ≤ b / 86400 by omega
  rcases Int.lt_trichotomy y z with c | c | c
  · have e13 := Cal.cum_mono y (m + 1) 13 (by omega)
    have ys := Cal.yb_succ y
    have ce := Cal.cum_end y
    have ymn := Cal.yb_mono (y + 1) z (by omega)
    have cb := Cal.cum_bd z o zm1 (by omega)
    omega
  · subst c
    have hmo : m < o := by
      by_cases q : o ≤ m
      · have := Cal.cum_mono y o m q; omega
      · omega
    have := Cal.cum_mono y (m + 1) o (by omega)
    omega
  · have q1 := gi.year
    have q2 := Cal.yb_mono (z + 1) y (by omega)
    have q3 := hi.year
    omega
theorem whole_bds {up ex : Int} {ls : List (Int × Int)} (h : Tab.whole up ex ls = true) : 0 ≤ up ∧ up < ex ∧ ex ≤ 34000000000 := by
  unfold Tab.whole at h
  simp only [Bool.and_eq_true, decide_eq_true_eq] at h
  exact ⟨h.1, h.2.1, h.2.2.1⟩
/-- Entries that may stand in a table. -/
def Fit (ls : List (Int × Int)) : Prop := 0 < ls.length ∧ okUpTo ls ls.length = true
theorem Fit.whole {ls : List (Int × Int)} (h : Fit ls) : whole 0 1 ls = true := by
  rw [whole_is (by omega) (by omega) (by omega) (by have := h.1; omega)]; exact h.2
theorem Fit.good {ls : List (Int × Int)} (h : Fit ls) : Good ls := good_of_whole h.whole
theorem fit_of_whole {up ex : Int} {ls : List (Int × Int)} (h : Tab.whole up ex ls = true) : Fit ls := ⟨(whole_ok h).2, (whole_ok h).1⟩
theorem Fit.isFirst {ls : List (Int × Int)} (h : Fit ls) (i : Nat) (hi : i < ls.length) : IsFirst (ls.getD i (0, 0)).1 := by
  rw [getD_at i hi]; exact follows_first (okUpTo_at ls.length (Nat.le_refl _) h.2 i hi)
theorem Fit.gap {ls : List (Int × Int)} (h : Fit ls) (i : Nat) (hi : i + 1 < ls.length) : (ls.getD i (0, 0)).1 + 2419200 ≤ (ls.getD (i + 1) (0, 0)).1 :=
  first_gap (h.isFirst i (by omega)) (h.isFirst (i + 1) hi) (h.good.up i hi)
theorem okUpTo_take (ls : List (Int × Int)) (k m : Nat) (hm : m ≤ k) : okUpTo (ls.take k) m = okUpTo ls m := by
  induction m with
  | zero => rfl
  | succ m ih =>
    simp only [okUpTo]
    rw [ih (by omega), List.getElem?_take_of_lt (by omega), List.take_take, Nat.min_eq_left (by omega)]
theorem okUpTo_append (ls r : List (Int × Int)) (m : Nat) (hm : m ≤ ls.length) : okUpTo (ls ++ r) m = okUpTo ls m := by
  have := okUpTo_take (ls ++ r) ls.length m hm
  rw [List.take_left] at this
  exact this.symm
theorem Fit.take {ls : List (Int × Int)} (h : Fit ls) (k : Nat) (h0 : 0 < k) (hk : k ≤ ls.length) : Fit (ls.take k) := by
  refine ⟨by simp; omega, ?_⟩
  rw [okUpTo_take _ _ _ (by simp; omega)]
  cases hq : okUpTo ls (ls.take k).length with
  | true => rfl
  | false =>
    have := okUpTo_no hq (show _ ≤ ls.length by simp; omega)
    rw [h.2] at this; cases this
theorem Fit.left {a b : List (Int × Int)} (h : Fit (a ++ b)) (h0 : 0 < a.length) : Fit a := by
  have := h.take a.length h0 (by simp)
  rwa [List.take_left] at this
theorem Fit.grow {ls : List (Int × Int)} {a o : Int} (h : Fit ls) (hf : follows ls a o = true) : Fit (ls ++ [(a, o)]) := by
  refine ⟨by simp, ?_⟩
  rw [List.length_append, List.length_singleton, okUpTo_succ _ ls.length (by simp)]
  rw [okUpTo_append ls _ _ (Nat.le_refl _), h.2, List.take_left]
  simpa using hf
theorem getD_left (ls r : List (Int × Int)) (i : Nat) (hi : i < ls.length) : (ls ++ r).getD i (0, 0) = ls.getD i (0, 0) := by
  rw [List.getD_eq_getElem?_getD, List.getD_eq_getElem?_getD, List.getElem?_append_left hi]
theorem when_append (ls r : List (Int × Int)) (i : Nat) (hi : i < ls.length) : when (ls ++ r) i = when ls i := by
  unfold when
  rw [getD_left _ _ i hi, getD_left _ _ (i - 1) (by omega)]
theorem Fit.bd {ls : List (Int × Int)} (h : Fit ls) (i : Nat) (hi : i < ls.length) : (0 ≤ (ls.getD i (0, 0)).1 ∧ (ls.getD i (0, 0)).1 ≤ 34712668800) ∧ 0 ≤ (ls.getD i (0, 0)).2 ∧ (ls.getD i (0, 0)).2 ≤ 200 := by
  rw [getD_at i hi]; exact h.good.fine _ (List.getElem_mem hi)
theorem Fit.when_bd {ls : List (Int × Int)} (h : Fit ls) (i : Nat) (hi : i < ls.length) : (ls.getD i (0, 0)).1 ≤ when ls i ∧ when ls i ≤ (ls.getD i (0, 0)).1 + (ls.getD i (0, 0)).2 ∧ (0 < i → (ls.getD i (0, 0)).1 + (ls.getD i (0, 0)).2 ≤ when ls i + 1) ∧ (i = 0 → when ls i = (ls.getD i (0, 0)).1 + (ls.getD i (0, 0)).2) := by
  have b := h.bd i hi
  have c := h.bd (i - 1) (by omega)
  unfold when
  split
  · rename_i q
    have o := h.good.off (i - 1) (by omega)
    rw [show i - 1 + 1 = i from by omega] at o
    omega
  · rename_i q
    by_cases z : i = 0
    · omega
    · have o := h.good.off (i - 1) (by omega)
      rw [show i - 1 + 1 = i from by omega] at o
      omega
theorem Fit.when_next {ls : List (Int × Int)} (h : Fit ls) (i : Nat) (hi : i + 1 < ls.length) : when ls i + 2419000 ≤ when ls (i + 1) := by
  have a := h.when_bd i (by omega)
  have b := h.when_bd (i + 1) hi
  have c := h.bd i (by omega)
  have g := h.gap i hi
  omega
theorem Fit.when_lt {ls : List (Int × Int)} (h : Fit ls) (i j : Nat) (hij : i < j) (hj : j < ls.length) : when ls i + 2419000 ≤ when ls j := by
  induction j with
  | zero => omega
  | succ j ih =>
    by_cases e : i = j
    · subst e; exact h.when_next i hj
    · have := ih (by omega) (by omega)
      have := h.when_next j hj
      omega
/-- The entries that hold, or held, at a second are the first ones. -/
theorem Fit.lastAt_iff {ls : List (Int × Int)} (h : Fit ls) (sec : Int) (k i : Nat) (hk : k ≤ ls.length) (hi : i < k) : when ls i ≤ sec ↔ (i : Int) ≤ lastAt ls sec k := by
  induction k with
  | zero => omega
  | succ k ih =>
    simp only [lastAt]
    by_cases c : when ls k ≤ sec
    · rw [if_pos c]
      refine ⟨fun _ => by omega, fun _ => ?_⟩
      by_cases e : i = k
      · subst e; exact c
      · have := h.when_lt i k (by omega) (by omega); omega
    · rw [if_neg c]
      have lb := lastAt_bd ls sec k
      by_cases e : i = k
      · subst e
        exact ⟨fun q => absurd q c, fun q => by omega⟩
      · exact ih (by omega) (by omega)
theorem Fit.lastAt_le {ls : List (Int × Int)} (h : Fit ls) (sec : Int) (h0 : when ls 0 ≤ sec) : 0 ≤ lastAt ls sec ls.length ∧ lastAt ls sec ls.length < ls.length ∧ when ls (lastAt ls sec ls.length).toNat ≤ sec := by
  have a := (h.lastAt_iff sec ls.length 0 (Nat.le_refl _) h.1).1 h0
  have b := lastAt_bd ls sec ls.length
  refine ⟨by omega, b.2, (h.lastAt_iff sec ls.length _ (Nat.le_refl _) (by omega)).2 (by omega)⟩
/-- UTC without smear is no less than nought, and no greater than the second. -/
theorem Fit.utc_bd {ls : List (Int × Int)} (h : Fit ls) (sec : Int) (h0 : when ls 0 ≤ sec) : 0 ≤ sec - (ls.getD (lastAt ls sec ls.length).toNat (0, 0)).2 ∧ sec - (ls.getD (lastAt ls sec ls.length).toNat (0, 0)).2 ≤ sec := by
  obtain ⟨a, b, c⟩ := h.lastAt_le sec h0
  have k : (lastAt ls sec ls.length).toNat < ls.length := by omega
  have w := h.when_bd _ k
  have bd := h.bd _ k
  generalize (lastAt ls sec ls.length).toNat = q at *
  by_cases z : q = 0
  · have := w.2.2.2 z; omega
  · have := w.2.2.1 (by omega)
    have g := h.gap (q - 1) (by omega)
    rw [show q - 1 + 1 = q from by omega] at g
    have := (h.bd (q - 1) (by omega)).1.1
    omega
end Tab
namespace Txt
def isDig (c : Int) : Bool := decide (48 ≤ c) && decide (c ≤ 57)
def isNum (s : ByteArray) : Bool := !decide (s.size = 0 ∨ 11 < s.size) && digitsB s s.size
theorem isNum_iff (s : ByteArray) : isNum s = true ↔ ¬ (s.size = 0 ∨ 11 < s.size) ∧ Digits s s.size := by
  unfold isNum
  rw [Bool.and_eq_true, digitsB_iff, Bool.not_eq_true', decide_eq_false_iff_not]
theorem isNum_yes {s : ByteArray} (h : ¬ (s.size = 0 ∨ 11 < s.size)) (hd : Digits s s.size) : isNum s = true := (isNum_iff s).2 ⟨h, hd⟩
theorem isNum_no {s : ByteArray} (h : ¬ (¬ (s.size = 0 ∨ 11 < s.size) ∧ Digits s s.size)) : isNum s = false := by
  cases e : isNum s with
  | false => rfl
  | true => exact absurd ((isNum_iff s).1 e) h
theorem isNum_is {s : ByteArray} (h : isNum s = true) : ¬ (s.size = 0 ∨ 11 < s.size) ∧ Digits s s.size := (isNum_iff s).1 h
theorem numTo_le {s : ByteArray} (h : isNum s = true) : 0 ≤ numTo s s.size ∧ numTo s s.size < 100000000000 := by
  obtain ⟨h0, hd⟩ := isNum_is h
  have a := numTo_bd _ hd
  refine ⟨a.1, Int.lt_of_lt_of_le a.2 ?_⟩
  have : s.size ≤ 11 := by omega
  by_cases e : s.size = 11
  · rw [e]; decide
  · exact Int.le_trans (pow10_le s.size (by omega)) (by decide)
def isHex (s : ByteArray) : Bool := !decide (s.size = 0 ∨ 8 < s.size) && hexesB s s.size
theorem isHex_iff (s : ByteArray) : isHex s = true ↔ ¬ (s.size = 0 ∨ 8 < s.size) ∧ Hexes s s.size := by
  unfold isHex
  rw [Bool.and_eq_true, hexesB_iff, Bool.not_eq_true', decide_eq_false_iff_not]
theorem isHex_yes {s : ByteArray} (h : ¬ (s.size = 0 ∨ 8 < s.size)) (hd : Hexes s s.size) : isHex s = true := (isHex_iff s).2 ⟨h, hd⟩
theorem isHex_no {s : ByteArray} (h : ¬ (¬ (s.size = 0 ∨ 8 < s.size) ∧ Hexes s s.size)) : isHex s = false := by
  cases e : isHex s with
  | false => rfl
  | true => exact absurd ((isHex_iff s).1 e) h
theorem isHex_is {s : ByteArray} (h : isHex s = true) : ¬ (s.size = 0 ∨ 8 < s.size) ∧ Hexes s s.size := (isHex_iff s).1 h
theorem isHex_not {s : ByteArray} (h : isHex s = false) : ¬ (¬ (s.size = 0 ∨ 8 < s.size) ∧ Hexes s s.size) := fun e => by rw [(isHex_iff s).2 e] at h; cases h
theorem word_of {s : ByteArray} (h : isHex s = true) : word s = noughts.extract s.size 8 ++ s := word_yes (isHex_is h).1 (isHex_is h).2
theorem word_none {s : ByteArray} (h : isHex s = false) : word s = ⟨#[]⟩ := by
  by_cases c : s.size = 0 ∨ 8 < s.size
  · exact word_no1 c
  · exact word_no2 fun d => isHex_not h ⟨c, d⟩
theorem noughts_more : ∀ a t : Fin 9, a.val + t.val < 8 → (ByteArray.mk #[48]) ++ noughts.extract a.val (a.val + t.val) = noughts.extract a.val (a.val + t.val + 1) := by decide +kernel
theorem noughts_none : ∀ a : Fin 9, noughts.extract a.val (a.val + 0) = ByteArray.empty := by decide +kernel
theorem noughts_size (a t : Nat) (h : a + t ≤ 8) : (noughts.extract a (a + t)).size = t := by
  rw [ByteArray.size_extract]
  have : noughts.size = 8 := rfl
  omega
end Txt
theorem is_digit (c : Int) (w : World) : Calls Tryz.prog 120 #[.int .u8 c] w fun e w' => e = .returned (.bool (Txt.isDig c)) ∧ w' = w := by
  by_cases h0 : 48 ≤ c
  · by_cases h1 : c ≤ 57
    · have H : Hid (Txt.isDig c = true) := by show _ = _; unfold Txt.isDig; simp [h0, h1]
      go_enter Tryz.func120, Tryz.ntmps120
      go_wp2
      go_ret
      exact ⟨ret_bool H.out.symm, rfl⟩
    · have H : Hid (Txt.isDig c = false) := by show _ = _; unfold Txt.isDig; simp [h0, h1]
      go_enter Tryz.func120, Tryz.ntmps120
      go_wp2
      go_ret
      exact ⟨ret_bool H.out.symm, rfl⟩
  · have H : Hid (Txt.isDig c = false) := by show _ = _; unfold Txt.isDig; simp [h0]
    go_enter Tryz.func120, Tryz.ntmps120
    go_wp2
    go_ret
    exact ⟨ret_bool H.out.symm, rfl⟩
set_option maxRecDepth 100000 in
theorem is_number (s : ByteArray) (w : World) (hs : s.size ≤ 1000000000) :
    Calls Tryz.prog 111 #[.string s] w fun e w' => e = .returned (.bool (Txt.isNum s)) ∧ w' = w := by
  by_cases h0 : s.size < 1
  · have H : Hid (Txt.isNum s = false) := Txt.isNum_no fun h => h.1 (.inl (by omega))
    go_enter Tryz.func111, Tryz.ntmps111
    go_wp2
    go_ret
    exact ⟨ret_bool H.out.symm, rfl⟩
  · by_cases h1 : 11 < s.size
    · have H : Hid (Txt.isNum s = false) := Txt.isNum_no fun h => h.1 (.inr h1)
      go_enter Tryz.func111, Tryz.ntmps111
      go_wp2
      go_ret
      exact ⟨ret_bool H.out.symm, rfl⟩
    · go_enter Tryz.func111, Tryz.ntmps111
      go_wp2
      go_loop [3] (fun i => ∃ k : Nat, k ≤ s.size ∧ i = .int .i64 k ∧ Txt.Digits s k) (fun i => s.size - (intOf i).toNat)
      case atStart => exact ⟨0, by omega, rfl, fun i hi => by omega⟩
      case round =>
        obtain ⟨k, hk, rfl, hdg⟩ := hrel
        by_cases hlt : k < s.size
        · have hby := Txt.byte_at s k hlt
          have HBY := hid' hby
          have HDG := hid' hdg
          have h8 := s[k].toNat_lt
          have HD := hid' (is_digit (s[k].toNat : Int) w)
          clear hdg hby
          by_cases c : 48 ≤ (s[k].toNat : Int) ∧ (s[k].toNat : Int) ≤ 57
          · have hd : Txt.isDig (s[k].toNat : Int) = true := by unfold Txt.isDig; simp [c.1, c.2]
            rw [hd] at HD
            have HD2 : Hid (Txt.Digits s (k + 1)) := fun i hi => by
              by_cases e : i = k
              · subst e; rw [HBY.out]; exact c
              · exact HDG.out i (by omega)
            clear hd c
            go_wp2_with (go_at_call 120; refine HD.out.mono ?_; rintro e w' ⟨rfl, rfl⟩)
            exact ⟨⟨k + 1, by omega, by go_num, HD2.out⟩, by simp [intOf]; omega⟩
          · have hd : Txt.isDig (s[k].toNat : Int) = false := by unfold Txt.isDig; simp; omega
            rw [hd] at HD
            have H : Hid (Txt.isNum s = false) := Txt.isNum_no fun h => by have := h.2 k hlt; rw [HBY.out] at this; exact c this
            clear hd c
            go_wp2_with (go_at_call 120; refine HD.out.mono ?_; rintro e w' ⟨rfl, rfl⟩)
            go_ret
            exact ⟨ret_bool H.out.symm, rfl⟩
        · have ek : k = s.size := by omega
          have H : Hid (Txt.isNum s = true) := Txt.isNum_yes (by omega) (by rw [← ek]; exact hdg)
          clear ek hdg
          go_wp2
          go_ret
          exact ⟨ret_bool H.out.symm, rfl⟩
set_option maxRecDepth 100000 in
theorem value_of (s : ByteArray) (w : World) (hs : Txt.isNum s = true) :
    Calls Tryz.prog 94 #[.string s] w fun e w' => e = .returned (.int .i64 (Txt.numTo s s.size)) ∧ w' = w := by
  obtain ⟨h1, hd⟩ := Txt.isNum_is hs
  have h11 : s.size ≤ 11 := by omega
  have HD := hid' hd
  clear h1 hd hs
  go_enter Tryz.func94, Tryz.ntmps94
  go_wp2
  go_loop [3, 4] (fun r i => ∃ k : Nat, k ≤ s.size ∧ i = .int .i64 k ∧ r = .int .i64 (Txt.numTo s k)) (fun _ i => s.size - (intOf i).toNat)
  case atStart => exact ⟨0, by omega, rfl, rfl⟩
  case round =>
    obtain ⟨k, hk, rfl, rfl⟩ := hrel
    by_cases hlt : k < s.size
    · have hbd := Txt.numTo_bd k (s := s) (fun i hi => HD.out i (by omega))
      have hpw := Txt.pow10_le k (by omega)
      have hdk := HD.out k hlt
      rw [Txt.byte_at s k hlt] at hdk
      have HS : Hid (Txt.numTo s (k + 1) = 10 * Txt.numTo s k + ((s[k].toNat : Int) - 48)) := by show _ = _; simp only [Txt.numTo]; rw [Txt.byte_at s k hlt]
      generalize Txt.numTo s k = v at *
      generalize hP : (10 : Int) ^ k = p10 at *
      clear hP
      go_wp2
      exact ⟨⟨k + 1, by omega, by go_num, by rw [HS.out]; congr 1; omega⟩, by simp [intOf]; omega⟩
    · have ek : k = s.size := by omega
      have H : Hid (Txt.numTo s k = Txt.numTo s s.size) := by show _ = _; rw [ek]
      clear ek
      go_wp2
      go_ret
      exact ⟨ret_int H.out, rfl⟩
set_option maxRecDepth 100000 in
set_option maxHeartbeats 1000000 in
theorem is_hex (s : ByteArray) (w : World) (hs : s.size ≤ 1000000000) :
    Calls Tryz.prog 109 #[.string s] w fun e w' => e = .returned (.bool (Txt.isHex s)) ∧ w' = w := by
  by_cases h0 : s.size < 1
  · have H : Hid (Txt.isHex s = false) := Txt.isHex_no fun h => h.1 (.inl (by omega))
    go_enter Tryz.func109, Tryz.ntmps109
    go_wp2
    go_ret
    exact ⟨ret_bool H.out.symm, rfl⟩
  · by_cases h1 : 8 < s.size
    · have H : Hid (Txt.isHex s = false) := Txt.isHex_no fun h => h.1 (.inr h1)
      go_enter Tryz.func109, Tryz.ntmps109
      go_wp2
      go_ret
      exact ⟨ret_bool H.out.symm, rfl⟩
    · go_enter Tryz.func109, Tryz.ntmps109
      go_wp2
      go_loop [3] (fun i => ∃ k : Nat, k ≤ s.size ∧ i = .int .i64 k ∧ Txt.Hexes s k) (fun i => s.size - (intOf i).toNat)
      case atStart => exact ⟨0, by omega, rfl, fun i hi => by omega⟩
      case round =>
        obtain ⟨k, hk, rfl, hdg⟩ := hrel
        by_cases hlt : k < s.size
        · have hby := Txt.byte_at s k hlt
          have HBY := hid' hby
          have HDG := hid' hdg
          have h8 := s[k].toNat_lt
          have HD := hid' (is_digit (s[k].toNat : Int) w)
          clear hdg hby
          by_cases c : Txt.HexB (s[k].toNat : Int)
          · have HD2 : Hid (Txt.Hexes s (k + 1)) := fun i hi => by
              by_cases e : i = k
              · subst e; rw [HBY.out]; exact c
              · exact HDG.out i (by omega)
            rcases c with ⟨c1, c2⟩ | ⟨c1, c2⟩
            · have hd : Txt.isDig (s[k].toNat : Int) = true := by unfold Txt.isDig; simp [c1, c2]
              rw [hd] at HD
              clear hd
              go_wp2_with (go_at_call 120; refine HD.out.mono ?_; rintro e w' ⟨rfl, rfl⟩)
              exact ⟨⟨k + 1, by omega, by go_num, HD2.out⟩, by simp [intOf]; omega⟩
            · have hd : Txt.isDig (s[k].toNat : Int) = false := by unfold Txt.isDig; simp; omega
              rw [hd] at HD
              clear hd
              go_wp2_with (go_at_call 120; refine HD.out.mono ?_; rintro e w' ⟨rfl, rfl⟩)
              exact ⟨⟨k + 1, by omega, by go_num, HD2.out⟩, by simp [intOf]; omega⟩
          · have H : Hid (Txt.isHex s = false) := Txt.isHex_no fun h => c (by have := h.2 k hlt; rw [HBY.out] at this; exact this)
            unfold Txt.HexB at c
            have hd : Txt.isDig (s[k].toNat : Int) = false := by unfold Txt.isDig; simp; omega
            rw [hd] at HD
            clear hd
            by_cases c2 : (s[k].toNat : Int) < 97
            · clear c
              go_wp2_with (go_at_call 120; refine HD.out.mono ?_; rintro e w' ⟨rfl, rfl⟩)
              go_ret
              exact ⟨ret_bool H.out.symm, rfl⟩
            · have c4 : (102 : Int) < (s[k].toNat : Int) := by omega
              clear c
              go_wp2_with (go_at_call 120; refine HD.out.mono ?_; rintro e w' ⟨rfl, rfl⟩)
              go_ret
              exact ⟨ret_bool H.out.symm, rfl⟩
        · have ek : k = s.size := by omega
          have H : Hid (Txt.isHex s = true) := Txt.isHex_yes (by omega) (by rw [← ek]; exact hdg)
          clear ek hdg
          go_wp2
          go_ret
          exact ⟨ret_bool H.out.symm, rfl⟩
set_option maxRecDepth 100000 in
theorem full_hex (s : ByteArray) (w : World) (hs : s.size ≤ 8) :
    Calls Tryz.prog 110 #[.string s] w fun e w' => e = .returned (.string (Txt.noughts.extract s.size 8 ++ s)) ∧ w' = w := by
  go_enter Tryz.func110, Tryz.ntmps110
  go_wp2
  go_loop [3] (fun i => ∃ t : Nat, s.size + t ≤ 8 ∧ i = .string (Txt.noughts.extract s.size (s.size + t) ++ s)) (fun i => match i with | .string b => 8 - b.size | _ => 0)
  case atStart => exact ⟨0, by omega, by rw [Txt.noughts_none ⟨s.size, by omega⟩, ByteArray.empty_append]⟩
  case round =>
    obtain ⟨t, ht, rfl⟩ := hrel
    have hz : (Txt.noughts.extract s.size (s.size + t) ++ s).size = s.size + t := by
      rw [ByteArray.size_append, Txt.noughts_size _ _ ht]; omega
    by_cases hlt : s.size + t < 8
    · have H : Hid ((ByteArray.mk #[48]) ++ (Txt.noughts.extract s.size (s.size + t) ++ s) = Txt.noughts.extract s.size (s.size + (t + 1)) ++ s) := by
        show _ = _
        rw [← ByteArray.append_assoc, Txt.noughts_more ⟨s.size, by omega⟩ ⟨t, by omega⟩ hlt]
        rfl
      generalize Txt.noughts.extract s.size (s.size + t) ++ s = f at *
      go_wp2
      refine ⟨⟨t + 1, by omega, by rw [← H.out]⟩, ?_⟩
      show 8 - ((ByteArray.mk #[48]) ++ f).size < 8 - f.size
      rw [ByteArray.size_append, hz]
      have : (ByteArray.mk #[48]).size = 1 := rfl
      omega
    · have e8 : s.size + t = 8 := by omega
      have H : Hid (Txt.noughts.extract s.size (s.size + t) ++ s = Txt.noughts.extract s.size 8 ++ s) := by show _ = _; rw [e8]
      generalize Txt.noughts.extract s.size (s.size + t) ++ s = f at *
      go_wp2
      go_ret
      exact ⟨ret_str H.out, rfl⟩
namespace Txt
def isGap (c : Int) : Bool := c == 32 || c == 9
/-- Does a text begin so? -/
def beg (s p : ByteArray) : Bool := decide (p.size ≤ s.size ∧ s.extract 0 p.size = p)
/-- Where the line from b on ends. -/
def eolF (t : ByteArray) : Nat → Nat → Nat
  | 0, b => b
  | f + 1, b => if b < t.size ∧ byte t b ≠ 10 then eolF t f (b + 1) else b
def eol (t : ByteArray) (b : Nat) : Nat := eolF t (t.size - b) b
theorem eol_go {t : ByteArray} {b : Nat} (h : b < t.size) (hn : byte t b ≠ 10) : eol t b = eol t (b + 1) := by
  unfold eol
  rw [show t.size - b = (t.size - (b + 1)) + 1 from by omega, eolF, if_pos ⟨h, hn⟩]
theorem eol_stop {t : ByteArray} {b : Nat} (h : ¬ (b < t.size ∧ byte t b ≠ 10)) : eol t b = b := by
  unfold eol
  cases hf : t.size - b with
  | zero => rfl
  | succ f => rw [eolF, if_neg h]
theorem eol_bd (t : ByteArray) (b : Nat) (h : b ≤ t.size) : b ≤ eol t b ∧ eol t b ≤ t.size := by
  unfold eol
  generalize hf : t.size - b = f
  induction f generalizing b with
  | zero => simp only [eolF]; omega
  | succ f ih =>
    simp only [eolF]
    split
    · have := ih (b + 1) (by omega) (by omega); omega
    · omega
theorem scan_word {s : ByteArray} {k : Nat} (h : inWord s k) : scan s (k + 1) = ((scan s k).1, (scan s k).2 ++ s.extract k (k + 1)) := by rw [scan, if_pos h]
theorem scan_gap {s : ByteArray} {k : Nat} (h : ¬ inWord s k) (he : (scan s k).2 = ⟨#[]⟩) : scan s (k + 1) = scan s k := by rw [scan, if_neg h, if_pos he]
theorem scan_end {s : ByteArray} {k : Nat} (h : ¬ inWord s k) (he : ¬ (scan s k).2 = ⟨#[]⟩) : scan s (k + 1) = ((scan s k).1 ++ [(scan s k).2], ⟨#[]⟩) := by rw [scan, if_neg h, if_neg he]
theorem extract_more (s : ByteArray) (b j : Nat) (h : b ≤ j) : s.extract b j ++ s.extract j (j + 1) = s.extract b (j + 1) := by
  rw [ByteArray.extract_append_extract]
  congr 1 <;> omega
theorem extract_none (s : ByteArray) (b : Nat) : s.extract b b = ⟨#[]⟩ := by
  have h : (s.extract b b).size = 0 := by rw [ByteArray.size_extract]; omega
  generalize s.extract b b = x at *
  obtain ⟨d⟩ := x
  have : d = #[] := by apply Array.eq_empty_of_size_eq_zero; exact h
  subst this; rfl
theorem extract_some (s : ByteArray) (b j : Nat) (h : b < j) (hj : j ≤ s.size) : ¬ s.extract b j = ⟨#[]⟩ := fun e => by
  have h1 : (s.extract b j).size = 0 := by rw [e]; rfl
  rw [ByteArray.size_extract] at h1
  omega
end Txt
theorem str_eq (a b : ByteArray) : (a.toList == b.toList) = decide (a = b) := by
  rw [ByteArray.toList_eq, ByteArray.toList_eq]
  by_cases h : a = b
  · subst h; simp
  · have h' : ¬ a.data = b.data := fun e => h (ByteArray.ext e)
    simp [h, h']
theorem is_gap (c : Int) (w : World) : Calls Tryz.prog 108 #[.int .u8 c] w fun e w' => e = .returned (.bool (Txt.isGap c)) ∧ w' = w := by
  by_cases h0 : c = 32
  · subst h0
    go_enter Tryz.func108, Tryz.ntmps108
    go_wp2
    go_ret
    exact ⟨rfl, rfl⟩
  · have h0' : (c == 32) = false := by rw [beq_eq_false_iff_ne]; exact h0
    have H : Hid (Txt.isGap c = (c == 9)) := by show _ = _; unfold Txt.isGap; rw [h0']; rfl
    go_enter Tryz.func108, Tryz.ntmps108
    go_wp2
    all_goals
      go_ret
      exact ⟨ret_bool H.out.symm, rfl⟩
set_option maxRecDepth 100000 in
theorem begins_any (s p : ByteArray) (w : World) :
    Calls Tryz.prog 88 #[.string s, .string p] w fun e w' => e = .returned (.bool (Txt.beg s p)) ∧ w' = w := by
  by_cases h : p.size ≤ s.size
  · have H : Hid (Txt.beg s p = decide (s.extract 0 p.size = p)) := by show _ = _; unfold Txt.beg; simp [h]
    go_enter Tryz.func88, Tryz.ntmps88
    go_wp2
    all_goals
      go_ret
      exact ⟨ret_bool (by rw [H.out, str_eq]), rfl⟩
  · have H : Hid (Txt.beg s p = false) := by show _ = _; unfold Txt.beg; simp [h]
    go_enter Tryz.func88, Tryz.ntmps88
    go_wp2
    go_ret
    exact ⟨ret_bool H.out.symm, rfl⟩
set_option maxRecDepth 100000 in
theorem line_end (t : ByteArray) (b : Nat) (w : World) (hb : b ≤ t.size) (hs : t.size ≤ 1000000000) :
    Calls Tryz.prog 67 #[.string t, .int .i64 b] w fun e w' => e = .returned (.int .i64 (Txt.eol t b)) ∧ w' = w := by
  go_enter Tryz.func67, Tryz.ntmps67
  go_wp2
  go_loop [5] (fun i => ∃ k : Nat, k ≤ t.size ∧ i = .int .i64 k ∧ Txt.eol t b = Txt.eol t k) (fun i => t.size - (intOf i).toNat)
  case atStart => exact ⟨b, by omega, rfl, rfl⟩
  case round =>
    obtain ⟨k, hk, rfl, hrl⟩ := hrel
    have HRL := hid' hrl
    clear hrl
    by_cases hlt : k < t.size
    · by_cases hn : (t[k].toNat : Int) = 10
      · have H : Hid (Txt.eol t b = k) := by show _ = _; rw [HRL.out]; exact Txt.eol_stop fun h => h.2 (by rw [Txt.byte_at t k hlt]; exact hn)
        have hn' : ((t[k].toNat : Int) != 10) = false := by rw [bne_eq_false_iff_eq]; exact hn
        clear hn
        go_wp2
        go_ret
        exact ⟨ret_int (by rw [H.out]), rfl⟩
      · have H : Hid (Txt.eol t b = Txt.eol t (k + 1)) := by show _ = _; rw [HRL.out]; exact Txt.eol_go hlt (by rw [Txt.byte_at t k hlt]; exact hn)
        have hn' : ((t[k].toNat : Int) != 10) = true := bne_iff_ne.2 hn
        clear hn
        go_wp2
        exact ⟨⟨k + 1, by omega, by go_num, H.out⟩, by simp [intOf]; omega⟩
    · have H : Hid (Txt.eol t b = k) := by show _ = _; rw [HRL.out]; exact Txt.eol_stop fun h => hlt h.1
      have hnl : ¬ (k : Int) < (t.size : Int) := by omega
      go_wp2
      go_ret
      exact ⟨ret_int (by rw [H.out]), rfl⟩
theorem infoStr : (Tryz.prog.info? 9).map (fun i => (i.zero, i.size, i.bytes)) = some (some (.string ByteArray.empty), 1, 16) := by kernel_rfl
set_option maxRecDepth 100000 in
set_option maxHeartbeats 1000000 in
theorem words_of (s : ByteArray) (w : World) (hs : s.size ≤ 1000000) :
    Calls Tryz.prog 90 #[.string s] w fun e w' => ∃ v, e = .returned v ∧ w'.ownsRow w.heap.size 9 1 v (Txt.words s).length ((Txt.words s).map Value.string) ∧ Below w.heap.size w w' := by
  obtain ⟨i0, hi0, hz0, hz1, hz2⟩ := info_parts infoStr
  go_enter Tryz.func90, Tryz.ntmps90
  go_wp2
  go_loopw [3, 4, 5] (fun l i _ wr => ∃ b : Nat, b ≤ s.size + 1 ∧ i = .int .i64 b ∧ (Txt.scan s b).2 = ⟨#[]⟩ ∧ wr.ownsRow w.heap.size 9 1 l (Txt.scan s b).1.length ((Txt.scan s b).1.map Value.string) ∧ Below w.heap.size w wr) (fun _ i _ _ => s.size + 1 - (intOf i).toNat)
  case atStart => exact ⟨0, by omega, rfl, rfl, World.ownsRow_nil _ _ _ _, Below.refl _ _⟩
  case round =>
    obtain ⟨b, hb, rfl, hemp, hown, hbw⟩ := hrel
    have hsw := hbw.size
    have OWN := hid' hown
    have HBW := hid' hbw
    have HEMP := hid' hemp
    clear hown hbw hemp
    by_cases hlt : b < s.size
    · go_wp2_with fail
      go_loop [5] (fun i => ∃ j : Nat, b ≤ j ∧ j ≤ s.size ∧ i = .int .i64 j ∧ (Txt.scan s j).1 = (Txt.scan s b).1 ∧ (Txt.scan s j).2 = s.extract b j) (fun i => s.size - (intOf i).toNat)
      case atStart => exact ⟨b, by omega, by omega, rfl, rfl, by rw [HEMP.out, Txt.extract_none]⟩
      case round =>
        obtain ⟨j, hbj, hj, rfl, hs1, hs2⟩ := hrel
        have HS1 := hid' hs1
        have HS2 := hid' hs2
        clear hs1 hs2
        by_cases hjl : j < s.size
        · have HG := hid' (is_gap (s[j].toNat : Int) wr)
          by_cases hg : Txt.isGap (s[j].toNat : Int) = true
          · rw [hg] at HG
            have hnw : ¬ Txt.inWord s j := fun h => by
              have h1 := h.2.1
              have h2 := h.2.2
              rw [Txt.byte_at s j hjl] at h1 h2
              unfold Txt.isGap at hg
              simp at hg
              omega
            have HNW := hid' hnw
            clear hnw hg
            have hbd := Txt.scan_bd s b
            by_cases hwd : b < j
            · have HSC : Hid (Txt.scan s (j + 1) = ((Txt.scan s b).1 ++ [s.extract b j], ⟨#[]⟩)) := by show _ = _; rw [Txt.scan_end HNW.out (by rw [HS2.out]; exact Txt.extract_some s b j hwd hj), HS1.out, HS2.out]
              go_wp2_with (first
                | (go_at_call 108; refine HG.out.mono ?_; rintro e w1 ⟨rfl, rfl⟩)
                | (at_builtin; refine wpList_append_lies _ (by rfl) (.tmp 27) (.tmp 32) 135 (by rfl) w.heap.size 9 i0 (.string ByteArray.empty) 1 16 Tryz.underlying135 hi0 hz0 hz1 hz2 rfl (by decide) u3 (Txt.scan s b).1.length ((Txt.scan s b).1.map Value.string) (by rfl) (OWN.out.alloc _) ⟨w1.heap.size, 0, none⟩ 1 1 [.string (s.extract b j)] (by rfl) (by rfl) (World.news_of_block (cs := #[.string (s.extract b j)]) (heap_alloc_new w1 _)) (by simp [Value.oneCell']) (by decide) (by unfold maxLen; omega) (by omega) (by simp; omega) (w1.heap.size + 1) (by simp) ?_; intro g3 cap3 w3 own3 hg3 _ hlt3; have HB3 := hid' ((HBW.out.alloc hsw _).grown hg3 (by simp; omega) (own_ge OWN.out)); have OWN3 := hid' own3; clear own3 hg3))
              go_roundw
              case rel => exact ⟨j + 1, by omega, by go_num, by rw [HSC.out], by rw [HSC.out]; simpa using OWN3.out, HB3.out⟩
              case measure => simp [intOf]; omega
            · have ebj : j = b := by omega
              have HSC : Hid (Txt.scan s (j + 1) = Txt.scan s b) := by show _ = _; rw [ebj] at HNW ⊢; exact Txt.scan_gap HNW.out HEMP.out
              have hnb : ¬ (b : Int) < (j : Int) := by omega
              clear ebj
              go_wp2_with ((go_at_call 108; refine HG.out.mono ?_; rintro e w1 ⟨rfl, rfl⟩))
              go_roundw
              case rel => exact ⟨j + 1, by omega, by go_num, by rw [HSC.out]; exact HEMP.out, by rw [HSC.out]; exact OWN.out, HBW.out⟩
              case measure => simp [intOf]; omega
          · have hg' : Txt.isGap (s[j].toNat : Int) = false := by simpa using hg
            rw [hg'] at HG
            have hiw : Txt.inWord s j := by
              unfold Txt.isGap at hg'
              simp at hg'
              exact ⟨hjl, by rw [Txt.byte_at s j hjl]; exact hg'.1, by rw [Txt.byte_at s j hjl]; exact hg'.2⟩
            have H1 : Hid ((Txt.scan s (j + 1)).1 = (Txt.scan s b).1) := by show _ = _; rw [Txt.scan_word hiw]; exact HS1.out
            have H2 : Hid ((Txt.scan s (j + 1)).2 = s.extract b (j + 1)) := by show _ = _; rw [Txt.scan_word hiw]; simp only; rw [HS2.out, Txt.extract_more s b j hbj]
            clear hg hg' hiw
            go_wp2_with (go_at_call 108; refine HG.out.mono ?_; rintro e w' ⟨rfl, rfl⟩)
            exact ⟨⟨j + 1, by omega, by omega, by go_num, H1.out, H2.out⟩, by simp [intOf]; omega⟩
        · have ej : j = s.size := by omega
          have hnl : ¬ (j : Int) < (s.size : Int) := by omega
          have HNW : Hid (¬ Txt.inWord s j) := fun h => hjl h.1
          have hbd := Txt.scan_bd s b
          clear ej
          by_cases hwd : b < j
          · have HSC : Hid (Txt.scan s (j + 1) = ((Txt.scan s b).1 ++ [s.extract b j], ⟨#[]⟩)) := by show _ = _; rw [Txt.scan_end HNW.out (by rw [HS2.out]; exact Txt.extract_some s b j hwd hj), HS1.out, HS2.out]
            go_wp2_with (first
              | fail
              | (at_builtin; refine wpList_append_lies _ (by rfl) (.tmp 27) (.tmp 32) 135 (by rfl) w.heap.size 9 i0 (.string ByteArray.empty) 1 16 Tryz.underlying135 hi0 hz0 hz1 hz2 rfl (by decide) u3 (Txt.scan s b).1.length ((Txt.scan s b).1.map Value.string) (by rfl) (OWN.out.alloc _) ⟨wr.heap.size, 0, none⟩ 1 1 [.string (s.extract b j)] (by rfl) (by rfl) (World.news_of_block (cs := #[.string (s.extract b j)]) (heap_alloc_new wr _)) (by simp [Value.oneCell']) (by decide) (by unfold maxLen; omega) (by omega) (by simp; omega) (wr.heap.size + 1) (by simp) ?_; intro g3 cap3 w3 own3 hg3 _ hlt3; have HB3 := hid' ((HBW.out.alloc hsw _).grown hg3 (by simp; omega) (own_ge OWN.out)); have OWN3 := hid' own3; clear own3 hg3))
            go_roundw
            case rel => exact ⟨j + 1, by omega, by go_num, by rw [HSC.out], by rw [HSC.out]; simpa using OWN3.out, HB3.out⟩
            case measure => simp [intOf]; omega
          · have ebj : j = b := by omega
            have HSC : Hid (Txt.scan s (j + 1) = Txt.scan s b) := by show _ = _; rw [ebj] at HNW ⊢; exact Txt.scan_gap HNW.out HEMP.out
            have hnb : ¬ (b : Int) < (j : Int) := by omega
            clear ebj
            go_wp2_with (fail)
            go_roundw
            case rel => exact ⟨j + 1, by omega, by go_num, by rw [HSC.out]; exact HEMP.out, by rw [HSC.out]; exact OWN.out, HBW.out⟩
            case measure => simp [intOf]; omega
    · have HW : Hid ((Txt.scan s b).1 = Txt.words s) := by
        show _ = _
        unfold Txt.words
        by_cases e : b = s.size + 1
        · rw [e]
        · have eb : b = s.size := by omega
          rw [← eb, Txt.scan_gap (fun h => hlt h.1) HEMP.out]
      have hnk : ¬ (b : Int) < (s.size : Int) := by omega
      rw [HW.out] at OWN
      go_wp2
      go_ret
      exact ⟨_, rfl, OWN.out, HBW.out⟩
namespace Txt
abbrev em : ByteArray := ⟨#[]⟩
/-- What was read so far: Update, Expiry and the digest as they stand in the file (empty: not yet), the entries, the digits. -/
structure St where
  u : ByteArray
  x : ByteArray
  h : ByteArray
  ls : List (Int × Int)
  dg : ByteArray
/-- A line of one number that may stand there once: which error. -/
def once (ws : List ByteArray) (before : ByteArray) : Int :=
  if ws.length ≠ 1 then 3 else if isNum (ws.getD 0 em) = false then 3 else if before ≠ em then 4 else 0
/-- The first k words of a digest. -/
def hexTo (ws : List ByteArray) : Nat → ByteArray
  | 0 => em
  | k + 1 => hexTo ws k ++ word (ws.getD k em)
def Hexed (ws : List ByteArray) (k : Nat) : Prop := ∀ i, i < k → isHex (ws.getD i em) = true
def hexedB (ws : List ByteArray) : Nat → Bool
  | 0 => true
  | k + 1 => hexedB ws k && isHex (ws.getD k em)
theorem hexedB_iff (ws : List ByteArray) (k : Nat) : hexedB ws k = true ↔ Hexed ws k := by
  induction k with
  | zero => exact ⟨fun _ i hi => by omega, fun _ => rfl⟩
  | succ k ih =>
    simp only [hexedB, Bool.and_eq_true]
    rw [ih]
    refine ⟨fun h i hi => ?_, fun h => ⟨fun i hi => h i (by omega), h k (by omega)⟩⟩
    by_cases e : i = k
    · subst e; exact h.2
    · exact h.1 i (by omega)
theorem hexedB_no {ws : List ByteArray} {k : Nat} (h : ¬ Hexed ws k) : hexedB ws k = false := by
  cases e : hexedB ws k with
  | false => rfl
  | true => exact absurd ((hexedB_iff ws k).1 e) h
/-- A line of the digest: which error. -/
def hashErr (ws : List ByteArray) (before : ByteArray) : Int :=
  if ws.length ≠ 5 then 3 else if hexedB ws 5 = false then 3 else if before ≠ em then 4 else 0
/-- An entry: which error. -/
def entryErr (ls : List (Int × Int)) (ws : List ByteArray) : Int :=
  if ws.length = 0 then 0 else if ws.length < 2 then 3 else if isNum (ws.getD 0 em) = false then 3 else if isNum (ws.getD 1 em) = false then 3
  else if 2 < ws.length ∧ beg (ws.getD 2 em) ⟨#[35]⟩ = false then 3
  else if Tab.follows ls (numTo (ws.getD 0 em) (ws.getD 0 em).size) (numTo (ws.getD 1 em) (ws.getD 1 em).size) = false then 5 else 0
/-- The entry that a line says. -/
def entryOf (ws : List ByteArray) : Int × Int := (numTo (ws.getD 0 em) (ws.getD 0 em).size, numTo (ws.getD 1 em) (ws.getD 1 em).size)
def takeU (st : St) (ws : List ByteArray) : Int × St := (once ws st.u, { st with u := ws.getD 0 em, dg := st.dg ++ ws.getD 0 em })
def takeX (st : St) (ws : List ByteArray) : Int × St := (once ws st.x, { st with x := ws.getD 0 em, dg := st.dg ++ ws.getD 0 em })
def takeH (st : St) (ws : List ByteArray) : Int × St := (hashErr ws st.h, { st with h := hexTo ws 5 })
def takeE (st : St) (ws : List ByteArray) : Int × St :=
  (entryErr st.ls ws, if ws.length = 0 then st else { st with ls := st.ls ++ [entryOf ws], dg := st.dg ++ (ws.getD 0 em ++ ws.getD 1 em) })
/-- A line: which error, and what is read then. -/
def line (st : St) (s : ByteArray) : Int × St :=
  if beg s ⟨#[35, 36]⟩ = true then takeU st (words (s.extract 2 s.size))
  else if beg s ⟨#[35, 64]⟩ = true then takeX st (words (s.extract 2 s.size))
  else if beg s ⟨#[35, 104]⟩ = true then takeH st (words (s.extract 2 s.size))
  else if beg s ⟨#[35]⟩ = true then (0, st) else takeE st (words s)
/-- What holds of all that is read. -/
structure Ok (st : St) (n : Nat) : Prop where
  dg : st.dg.size ≤ 22 * n
  u : st.u = em ∨ isNum st.u = true
  x : st.x = em ∨ isNum st.x = true
  ls : Tab.okUpTo st.ls st.ls.length = true
  len : st.ls.length ≤ 40
  wf : ∀ p ∈ st.ls, WfP p
  off : ∀ p ∈ st.ls, 0 ≤ p.2 ∧ p.2 ≤ 200
  h : st.h.size ≤ 40
theorem once_cases {ws : List ByteArray} {b : ByteArray} (h : once ws b = 0) : ws.length = 1 ∧ isNum (ws.getD 0 em) = true ∧ b = em := by
  unfold once at h
  split at h
  · cases h
  · split at h
    · cases h
    · split at h
      · cases h
      · rename_i a b c; refine ⟨by omega, by simpa using b, by simpa using c⟩
theorem size_num {s : ByteArray} (h : isNum s = true) : s.size ≤ 11 := by have := (isNum_is h).1; omega
theorem size_word {s : ByteArray} : (word s).size ≤ 8 := by
  cases h : isHex s with
  | false => rw [word_none h]; decide
  | true =>
    have h8 := (isHex_is h).1
    rw [word_of h, ByteArray.size_append, ByteArray.size_extract]
    have : noughts.size = 8 := rfl
    omega
theorem size_hexTo (ws : List ByteArray) (k : Nat) : (hexTo ws k).size ≤ 8 * k := by
  induction k with
  | zero => exact Nat.le_refl _
  | succ k ih => rw [hexTo, ByteArray.size_append]; have := size_word (s := ws.getD k em); omega
end Txt
end Go.Proofs.YtmmkhodaljpjgabGreatDoor
