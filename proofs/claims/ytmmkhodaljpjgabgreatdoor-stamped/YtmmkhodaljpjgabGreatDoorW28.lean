import Derived.Test.YtmmkhodaljpjgabGreatDoorW27
import Derived.Test.YtmmkhodaljpjgabGreatDoorW26
import Derived.Deep.RegionHeld3
namespace Go.Proofs.YtmmkhodaljpjgabGreatDoor
open Go.RowKit
theorem Sv.init_hd (mode win fresh s f : Int) (n i : Nat) : (Sv.init mode win fresh s f n).hd i = noHd := by
  unfold Sv.hd Sv.init
  rw [List.getD_eq_getElem?_getD, List.getElem?_replicate]
  split <;> rfl
theorem init_cells {mode win src fresh s f : Int} (h : 0 ≤ src ∧ src ≤ 8) : pCells (Sv.init mode win fresh s f src.toNat) (.slice none 0 0) (.slice none 0 0) false 0 0 = new47 mode win src fresh s f := by
  have e : (((Sv.init mode win fresh s f src.toNat).said.length : Nat) : Int) = src := by
    show ((List.replicate src.toNat noHd).length : Int) = src
    rw [List.length_replicate]; omega
  unfold pCells
  rw [e]
  simp only [Sv.init_hd]
  rfl
theorem zeroT : (∀ w, (zeroValue 72).run Tryz.prog w = .ok (.agg zero47) w) ∧ (Tryz.prog.info? 72).map (·.size) = some 47 :=
  zero_of_info (by kernel_rfl)
theorem fold47 (mode win src fresh s f : Int) : Array.foldl (fun cs (x : Value × Nat) => cs.setIfInBounds x.snd x.fst) zero47 (newCells true mode win src fresh s f).zipIdx 0 (newCells true mode win src fresh s f).size = new47 mode win src fresh s f := by kernel_rfl
theorem newCells_size (cf : Bool) (mode win src fresh s f : Int) : (newCells cf mode win src fresh s f).size = 47 := by
  cases cf <;> rfl
theorem newCells_one (cf : Bool) (mode win src fresh s f : Int) : (newCells cf mode win src fresh s f).all (·.oneCell') = true := by
  cases cf
  · rw [← Array.all_toList]; rfl
  · rw [← Array.all_toList]; rfl
set_option maxRecDepth 100000 in
set_option maxHeartbeats 3200000 in
theorem p_new (mode win src fresh s f : Int) (ww : (Lit.int .i64 win).wf = true) : PNews PS mode win src fresh s f := by
  intro w
  have hz := zeroS.1
  have hzt := zeroT.1
  have B0 := hid' ((Below.refl w.heap.size w).alloc (Nat.le_refl _) (.cells #[.int .i64 mode, .int .i64 win, .int .i64 src, .int .i64 fresh, .int .i64 s, .int .i64 f] 59))
  have R0 := hid' (heap_alloc_new w (.cells #[.int .i64 mode, .int .i64 win, .int .i64 src, .int .i64 fresh, .int .i64 s, .int .i64 f] 59))
  have SN := hid' (fun W => srv_new mode win src fresh s f W ww)
  clear ww
  have HSR0 : Hid (cfgB mode win src fresh s f = true → 0 ≤ src ∧ src ≤ 8) := fun q => by
    unfold cfgB at q
    simp only [Bool.and_eq_true, decide_eq_true_eq] at q
    exact ⟨q.1.2.1, q.1.2.2.1⟩
  generalize cfgB mode win src fresh s f = cf at *
  have NI : Hid ((Tryz.prog.info? 70).map (·.size) = some (newCells cf mode win src fresh s f).size) := by show _ = _; rw [newCells_size]; exact zeroS.2
  have NO := hid' (newCells_one cf mode win src fresh s f)
  have NS : Hid (zero47.size = (newCells cf mode win src fresh s f).size) := by show _ = _; rw [newCells_size]; rfl
  have NE : Hid (cf = true → newCells cf mode win src fresh s f = new47 mode win src fresh s f) := fun q => by rw [q]; rfl
  have hns : (newCells cf mode win src fresh s f).size = 47 := newCells_size _ _ _ _ _ _ _
  have hz47 : zero47.size = 47 := rfl
  have NF : Hid (cf = true → Array.foldl (fun cs (x : Value × Nat) => cs.setIfInBounds x.snd x.fst) zero47 (newCells cf mode win src fresh s f).zipIdx 0 (newCells cf mode win src fresh s f).size = new47 mode win src fresh s f) := fun q => by rw [q]; exact fold47 mode win src fresh s f
  generalize newCells cf mode win src fresh s f = nc at *
  have HUN := hid' Tryz.underlying70
  go_enter Tryz.func17, Tryz.ntmps17
  go_wp2_with fail
  refine (SN.out _).mono ?_
  rintro e w1 ⟨rfl, hb1⟩
  have B1 := hid' (B0.out.trans (hb1.mono B0.out.size))
  have s1 := B1.out.size
  clear hb1
  have RA := hid' (heap_alloc_new w1 (.cells zero47 70))
  have BA := hid' ((Below.refl w1.heap.size w1).alloc (Nat.le_refl _) (.cells zero47 70))
  have RW := hid' (setRow_heap _ w1.heap.size _ nc _ _ RA.out)
  have BW := hid' (B1.out.trans ((below_setRow (cs := nc) BA.out (Nat.le_refl w1.heap.size)).mono s1))
  go_upto_region 2 with ((with_reducible refine wpl_store (g := w1.heap.size) (cells := nc) RA.out NI.out NS.out NO.out ?_ ?_ ?_); exact rfl; exact rfl)
  generalize hW : (w1.alloc (.cells zero47 70)).setRow w1.heap.size nc = W at *
  clear hW
  cases cf with
  | false =>
    have e10 : ((10 : Int) != 0) = true := rfl
    simp only [Bool.false_eq_true, if_false]
    go_wp2
    go_ret2
    exact ⟨fun _ => ⟨rfl, BW.out⟩, fun h => (by cases h)⟩
  | true =>
    have HSR := hid' (HSR0.out rfl)
    simp only [if_true]
    go_wp2_with ((with_reducible refine wpl_load (g := w1.heap.size) RW.out HUN.out ?_ NI.out ?_ ?_); exact rfl; exact rfl)
    go_ret2
    refine ⟨fun h => (by cases h), fun hcf => ⟨_, fun k => k = W.heap.size, rfl, ⟨.slice none 0 0, .slice none 0 0, false, 0, 0, ⟨?_, World.ownsRow_nil _ _ _ _, World.ownsRow_nil _ _ _ _, ?_⟩, ⟨fun h => (by cases h), fun _ i hi => (by simp [Sv.init] at hi)⟩, fun k => ⟨fun e => .inl e, fun e => ?_⟩⟩, fun k e => ?_, BW.out.alloc BW.out.size _⟩⟩
    · refine (heap_alloc_new W _).trans ?_
      exact congrArg (fun c => some (Obj.cells c 72 (0, 0))) ((by first | exact NF.out trivial | (have q := NF.out trivial; rw [hns] at q; exact q) : _ = new47 mode win src fresh s f).trans (init_cells HSR.out).symm)
    · show (List.replicate src.toNat noHd).length ≤ 8
      rw [List.length_replicate]; have := HSR.out; omega
    · rcases e with e | e | e
      · exact e
      · simp [Value.ownBlock] at e
      · simp [Value.ownBlock] at e
    · have e' : k = W.heap.size := e
      have := BW.out.size
      omega
theorem fair_w {up ex : Int} {ls : List (Int × Int)} (hwh : Tab.whole up ex ls = true) : Txt.Fair up ex ls := by
  obtain ⟨hu0, hux, hx0⟩ := Tab.whole_bds hwh
  refine ⟨hu0, by omega, by omega, by omega, fun i => ?_, (Tab.whole_ok hwh).1⟩
  have := (Tab.good_of_whole hwh).fine.getD i
  omega
theorem printed_size (up ex : Int) (ls : List (Int × Int)) (hl : ls.length ≤ 40) : (Txt.printed up ex ls).1.size ≤ 1000000 := by
  unfold Txt.printed
  split
  · exact (by decide : (ByteArray.mk #[]).size ≤ 1000000)
  · rename_i c
    have := Txt.print_size (fair_w (by simpa using c)) hl
    exact Nat.le_trans this (by decide)
theorem printed_parse {up ex : Int} {ls : List (Int × Int)} (hw : Tab.whole up ex ls = true) : Txt.parse (Txt.printed up ex ls).1 = ⟨up, ex, ls, 0, 0⟩ := by
  have e : (Txt.printed up ex ls).1 = Txt.print up ex ls := by unfold Txt.printed; rw [if_neg (by rw [hw]; simp)]
  rw [e]
  have g := Tab.good_of_whole hw
  exact Txt.round (fair_w hw) g.pos g.len hw
theorem printed_ok {up ex : Int} {ls : List (Int × Int)} (hw : Tab.whole up ex ls = true) : (Txt.printed up ex ls).2 = 0 := by
  unfold Txt.printed; rw [if_neg (by rw [hw]; simp)]
theorem getD_take (ls : List (Int × Int)) (n i : Nat) (h : i < n) : (ls.take n).getD i (0, 0) = ls.getD i (0, 0) := by
  rw [List.getD_eq_getElem?_getD, List.getD_eq_getElem?_getD, List.getElem?_take_of_lt h]
/-- The first entries of a table make a file. -/
theorem file_whole {up ex : Int} {ls : List (Int × Int)} (hw : Tab.whole up ex ls = true) (hu : up = (ls.getD 0 (0, 0)).1) (hb : ∀ p ∈ ls, (0 ≤ p.1 ∧ p.1 ≤ 5000000000) ∧ 0 ≤ p.2 ∧ p.2 ≤ 200) (n : Nat) (n1 : 1 ≤ n) (n2 : n ≤ ls.length) (short : Bool) : Tab.whole up (fileEx ex ls n short) (ls.take n) = true := by
  have ft := (Tab.fit_of_whole hw).take n n1 n2
  obtain ⟨a, b, c⟩ := Tab.whole_bds hw
  have g := Tab.good_of_whole hw
  have at1 := hb _ (List.getElem_mem (show n - 1 < ls.length by omega))
  rw [← getD_at (n - 1) (by omega)] at at1
  have le : up ≤ (ls.getD (n - 1) (0, 0)).1 := by
    by_cases q : n - 1 = 0
    · rw [q, hu]; exact Int.le_refl _
    · have := g.lt 0 (n - 1) (by omega) (by omega); omega
  have lt : up < fileEx ex ls n short ∧ fileEx ex ls n short ≤ 34000000000 := by
    unfold fileEx
    split <;> omega
  rw [Tab.whole_is (by omega) (by omega) (by omega) (by have := ft.1; omega)]
  exact ft.2
theorem Tab.when_zero (ls : List (Int × Int)) : Tab.when ls 0 = (ls.getD 0 (0, 0)).1 + (ls.getD 0 (0, 0)).2 := by
  unfold Tab.when
  rw [if_neg (by omega)]
/-- The first file that is taken. -/
theorem Sv.first_load {mode win fresh s f : Int} {n : Nat} {g : Txt.Got} (he : g.err = 0) (hw : Tab.when g.ls 0 ≤ s) :
    ((Sv.init mode win fresh s f n).load g).1 = 0 ∧ ((Sv.init mode win fresh s f n).load g).2.2.ld = true ∧ ((Sv.init mode win fresh s f n).load g).2.2.mode = mode ∧ ((Sv.init mode win fresh s f n).load g).2.2.win = win ∧ ((Sv.init mode win fresh s f n).load g).2.2.ref = 0 := by
  have ag : (Sv.init mode win fresh s f n).agrees g.ls = true := by
    unfold Sv.agrees
    rw [if_pos (show (Sv.init mode win fresh s f n).ld = false from rfl)]
    exact decide_eq_true hw
  have e : (Sv.init mode win fresh s f n).loadErr g = 0 := by
    unfold Sv.loadErr
    rw [if_neg (by simp [he]), if_neg (fun c => by have := c.1; cases this), if_neg (by rw [ag]; simp)]
  unfold Sv.load
  rw [if_neg (by rw [e]; simp)]
  have k := ((Sv.init mode win fresh s f n).taken g.up g.ex g.ls).kin_weigh
  exact ⟨rfl, k.ld.trans rfl, k.mode.trans rfl, k.win.trans rfl, k.ref.trans rfl⟩
theorem Sv.init_wd (mode win fresh s f : Int) (n : Nat) : (Sv.init mode win fresh s f n).Wd := fun c hc => by cases hc
/-- What is told of the time. -/
theorem Sv.Inv.tells {x : Sv} (_ : x.Inv) (hl : x.ld = true) : ∃ ts tf li er, x.Told ts tf li er := by
  by_cases hm : x.mode = 0
  · exact ⟨x.utc, x.nf, x.ind (x.utc / 86400), 0, fun e => (by rw [hl] at e; cases e), fun _ _ => ⟨rfl, rfl, rfl, rfl⟩, fun _ e => absurd hm e, fun _ e => absurd hm e⟩
  · by_cases hw : x.wide
    · exact ⟨(x.smeared (x.done.length - 1)).1, (x.smeared (x.done.length - 1)).2, 0, 0, fun e => (by rw [hl] at e; cases e), fun _ e => absurd e hm, fun _ _ e => absurd hw e, fun _ _ _ => ⟨rfl, rfl, rfl, rfl⟩⟩
    · exact ⟨x.utc, x.nf, 0, 0, fun e => (by rw [hl] at e; cases e), fun _ e => absurd e hm, fun _ _ _ => ⟨rfl, rfl, rfl, rfl⟩, fun _ _ e => absurd e hw⟩
theorem Sv.ind_three (x : Sv) (d : Int) : x.ind d = 0 ∨ x.ind d = 1 ∨ x.ind d = 2 := by
  unfold Sv.ind
  split
  · exact .inr (.inl rfl)
  · split
    · exact .inr (.inr rfl)
    · exact .inl rfl
theorem Sv.Inv.tells_bd {x : Sv} {ts tf li er : Int} (h : x.Inv) (hl : x.ld = true) (hT : x.Told ts tf li er) : (li = 0 ∨ li = 1 ∨ li = 2) ∧ er = 0 ∧ (-2 ≤ ts ∧ ts ≤ 34000000002) ∧ 0 ≤ tf ∧ tf < 4294967296 := by
  have m := h.mid hl
  have can := m.can h.num
  have u0 := can.u0
  have u1 := can.u1
  obtain ⟨a, b, c, d, _⟩ := h.near hl hT
  refine ⟨?_, a, by omega, d⟩
  by_cases hm : x.mode = 0
  · obtain ⟨_, _, e, _⟩ := hT.step hl hm
    have := x.ind_three (x.utc / 86400)
    rw [← e] at this
    exact this
  · by_cases hw : x.wide
    · obtain ⟨_, _, e, _⟩ := hT.in' hl hm hw
      exact .inl e
    · obtain ⟨_, _, e, _⟩ := hT.out hl hm hw
      exact .inl e
/-- The table of 'lives'. -/
def lvLs : List (Int × Int) := [(2272060800, 10), (2287785600, 11)]
theorem lv_whole : Tab.whole 2272060800 2400000000 lvLs = true := by
  have f1 : Tab.IsFirst 2272060800 := by
    have := Tab.mo_first 1972 1 (by omega) (by omega) (by omega) (by omega)
    rw [show Tab.mo 1972 1 = 2272060800 by decide] at this
    exact this
  have f2 : Tab.IsFirst 2287785600 := by
    have := Tab.mo_first 1972 7 (by omega) (by omega) (by omega) (by omega)
    rw [show Tab.mo 1972 7 = 2287785600 by decide] at this
    exact this
  have a := Tab.okUpTo_grow [] 2272060800 10 rfl f1 (by omega) (by omega) (by decide) (fun p h => by simp at h)
  have b := Tab.okUpTo_grow [(2272060800, 10)] 2287785600 11 a f2 (by omega) (by omega) (by decide) (fun p h => by
    have : (2272060800, 10) = p := by simpa using h
    subst this
    exact ⟨by simp only; omega, by simp only; omega⟩)
  rw [Tab.whole_is (by omega) (by omega) (by omega) (by decide)]
  exact b
def lv0 : Sv := Sv.init 1 7200 1 2287782000 0 1
def lv1 : Sv := ⟨1, 7200, 1, 2287782000, 0, true, 2272060800, 2400000000, [(2272060800, 10)], [(2272053610, 0)], [⟨2287785600, 11, 2287782010, 0, false⟩], 0, [noHd]⟩
def lv2 : Sv := ⟨1, 7200, 1, 2287785610, 0, true, 2272060800, 2400000000, [(2272060800, 10), (2287785600, 11)], [(2272053610, 0), (2287782010, 0)], [], 0, [noHd]⟩
theorem lv_cfg : cfgB 1 7200 1 1 2287782000 0 = true := by decide
theorem lv_load : lv0.load ⟨2272060800, 2400000000, lvLs, 0, 0⟩ = (0, 0, lv1) := by kernel_rfl
theorem lv_begun : (lv1.at' 2287785610 0).begun = lv2 := by kernel_rfl
theorem lv_voted : lv2.voted = lv2 := by
  have s : lv2.sign = 0 := by
    unfold Sv.sign
    rw [if_pos (by show lv2.utc < lv2.ex; exact of_decide_eq_true (by kernel_rfl))]
  have ok : lv2.okN = false := by
    unfold Sv.okN
    rw [s]
    simp
  unfold Sv.voted
  rw [if_pos (.inl ok)]
  rfl
theorem lv_adv : lv1.adv 3610 0 = (0, lv2) := by
  have w : (lv1.at' 2287785610 0).weigh = lv2 := by
    unfold Sv.weigh
    rw [if_neg (by show ¬ true = false; simp), lv_begun, if_neg (by show ¬ lv2.filed = true; exact (by decide : ¬ false = true)), lv_voted]
  unfold Sv.adv
  rw [if_neg (by show ¬ isT 3610 0 = false; rw [show isT 3610 0 = true by decide]; simp), if_neg (by rw [show isT (tSum lv1.ns lv1.nf 3610 0).1 (tSum lv1.ns lv1.nf 3610 0).2 = true by kernel_rfl]; simp)]
  have e : lv1.at' (tSum lv1.ns lv1.nf 3610 0).1 (tSum lv1.ns lv1.nf 3610 0).2 = lv1.at' 2287785610 0 := by kernel_rfl
  rw [e, w]
theorem lv_told : lv2.Told 2287785599 2147483648 0 0 := by
  have w : lv2.wide := ⟨by decide, by kernel_rfl⟩
  have s : lv2.smeared (lv2.done.length - 1) = (2287785599, 2147483648) := by kernel_rfl
  refine ⟨fun e => (by cases e), fun _ e => (by cases e), fun _ _ e => absurd w e, fun _ _ _ => ?_⟩
  rw [s]
  exact ⟨rfl, rfl, rfl, rfl⟩
/-- The file of 'lives'. -/
def lvT : ByteArray := (Txt.printed 2272060800 2400000000 lvLs).1
theorem lvT_parse : Txt.parse lvT = ⟨2272060800, 2400000000, lvLs, 0, 0⟩ := printed_parse lv_whole
theorem lvT_size : lvT.size ≤ 1000000 := printed_size _ _ _ (by decide)
theorem lv_print (g : Nat) (W : World) (hg : g < W.heap.size) (hl : Lies W g lvLs) (hT : Table W) (hP : Pows W) : Calls Tryz.prog 29 #[.agg #[.int .i64 2272060800, .int .i64 2400000000, .slice (some ⟨g, 0, none⟩) 2 2]] W fun e w' => e = .returned (.tuple #[.string lvT, .int .i64 0]) ∧ Below W.heap.size W w' :=
  Calls.mono (smear_print (.slice (some ⟨g, 0, none⟩) 2 2) lvLs 2272060800 2400000000 W (by decide) (by decide) (.inr ⟨by decide, g, 2, rfl, by decide, hg, hl⟩) (by decide) (fun p hp => by
    have : p = (2272060800, 10) ∨ p = (2287785600, 11) := by simpa [lvLs] using hp
    rcases this with rfl | rfl
    · exact ⟨by decide, by decide⟩
    · exact ⟨by decide, by decide⟩) hT hP) fun e w' ⟨a, b⟩ => ⟨by rw [a, printed_ok lv_whole]; rfl, b⟩
theorem lv_inv0 : lv0.Inv := init_inv lv_cfg
theorem lv_inv1 : lv1.Inv := by
  have := lv_inv0.load lvT
  rw [lvT_parse, lv_load] at this
  exact this
theorem lv_inv2 : lv2.Inv := by
  have := lv_inv1.adv 3610 0
  rw [lv_adv] at this
  exact this
theorem lv_new (W : World) : Calls Tryz.prog 17 #[.agg #[.int .i64 1, .int .i64 7200, .int .i64 1, .int .i64 1, .int .i64 2287782000, .int .i64 0]] W fun e w' => ∃ b F, e = .returned (.tuple #[.pointer (some ⟨b, 0, none⟩), .int .i64 0]) ∧ PS b lv0 F w' ∧ (∀ k, F k → W.heap.size ≤ k) ∧ Below W.heap.size W w' :=
  Calls.mono (p_new 1 7200 1 1 2287782000 0 (by decide) W) fun e w' h => h.2 lv_cfg
theorem lv_loads (b : Nat) (F : Nat → Prop) (W : World) (h : PS b lv0 F W) (hT : Table W) : Calls Tryz.prog 20 #[.pointer (some ⟨b, 0, none⟩), .string lvT] W fun e w' => e = .returned (.tuple #[.int .i64 0, .int .i64 0]) ∧ ∃ F', PS b lv1 F' w' ∧ Off F W w' ∧ ∀ k, F' k → F k ∨ W.heap.size ≤ k := by
  have := p_load lv0 lvT lv_inv0 (by decide) lvT_size b F W h hT
  rw [lvT_parse, lv_load] at this
  exact this
theorem lv_advs (b : Nat) (F : Nat → Prop) (W : World) (h : PS b lv1 F W) : Calls Tryz.prog 25 #[.pointer (some ⟨b, 0, none⟩), .agg #[.int .i64 3610, .int .i64 0]] W fun e w' => e = .returned (.int .i64 0) ∧ ∃ F', PS b lv2 F' w' ∧ Off F W w' ∧ ∀ k, F' k → F k ∨ W.heap.size ≤ k := by
  have := p_advance lv1 3610 0 lv_inv1 b F W h trivial
  rw [lv_adv] at this
  exact this
theorem lv_now (b : Nat) (F : Nat → Prop) (W : World) (h : PS b lv2 F W) : Calls Tryz.prog 10 #[.pointer (some ⟨b, 0, none⟩)] W fun e w' => e = .returned (.tuple #[.agg #[.int .i64 2287785599, .int .i64 2147483648], .int .i64 0, .int .i64 0]) ∧ Below W.heap.size W w' :=
  p_now b lv2 F 2287785599 2147483648 0 0 W h lv_inv2 lv_told
set_option maxRecDepth 100000 in
set_option maxHeartbeats 6400000 in
theorem k_lives (w : World) (hT : Table w) (hP : Pows w) : Calls Tryz.prog 18 #[] w fun e w' => e = .returned (.bool true) ∧ Below w.heap.size w w' := by
  have B1 := hid' (((Below.refl w.heap.size w).alloc (Nat.le_refl _) (.cells #[.int .i64 2272060800, .int .i64 10, .int .i64 2287785600, .int .i64 11] 49)).alloc (by simp) (.cells #[.int .i64 2272060800, .int .i64 2400000000, .slice (some ⟨w.heap.size, 0, none⟩) 2 2] 29))
  have HT := hid' hT
  have HP := hid' hP
  clear hT hP
  go_enter Tryz.func18, Tryz.ntmps18
  go_wp2_with fail
  have R1 := hid' (heap_alloc_new w (.cells #[.int .i64 2272060800, .int .i64 10, .int .i64 2287785600, .int .i64 11] 49))
  have R2 := hid' ((((Below.refl _ _).alloc (Nat.le_refl _) (.cells #[.int .i64 2272060800, .int .i64 2400000000, .slice (some ⟨w.heap.size, 0, none⟩) 2 2] 29)).block w.heap.size (lt_of_heap R1.out)).trans R1.out)
  generalize (w.alloc (.cells #[.int .i64 2272060800, .int .i64 10, .int .i64 2287785600, .int .i64 11] 49)).alloc (.cells #[.int .i64 2272060800, .int .i64 2400000000, .slice (some ⟨w.heap.size, 0, none⟩) 2 2] 29) = V at *
  have LV : Lies V w.heap.size lvLs := fun i hi => by
    have h2 : i = 0 ∨ i = 1 := by have : i < 2 := hi; omega
    rcases h2 with rfl | rfl
    · exact ⟨(cell_of_row _ _ 0 _ _ _ R2.out).trans rfl, (cell_of_row _ _ 1 _ _ _ R2.out).trans rfl⟩
    · exact ⟨(cell_of_row _ _ 2 _ _ _ R2.out).trans rfl, (cell_of_row _ _ 3 _ _ _ R2.out).trans rfl⟩
  have PR := hid' (lv_print w.heap.size V (lt_of_heap R2.out) LV (HT.out.below B1.out) (HP.out.below B1.out))
  clear LV R1 R2
  refine Calls.mono PR.out ?_
  rintro e w1 ⟨rfl, b1⟩
  have B2 := hid' (B1.out.trans (b1.mono B1.out.size))
  clear b1 PR
  go_wp2_with fail
  refine Calls.mono (lv_new w1) ?_
  rintro e w2 ⟨b, F, rfl, p2, f2, b2⟩
  have B3 := hid' (B2.out.trans (b2.mono B2.out.size))
  have LO : Hid (∀ k, F k → w.heap.size ≤ k) := fun k hk => Nat.le_trans B2.out.size (f2 k hk)
  have PL := hid' (lv_loads b F w2 p2 (HT.out.below B3.out))
  clear p2 f2 b2
  go_wp2_with fail
  refine Calls.mono PL.out ?_
  rintro e w3 ⟨rfl, F3, p3, o3, f3⟩
  have B4 := hid' (B3.out.trans (o3.below LO.out B3.out.size))
  have LO3 : Hid (∀ k, F3 k → w.heap.size ≤ k) := fun k hk => (f3 k hk).elim (LO.out k) (Nat.le_trans B3.out.size)
  have PA := hid' (lv_advs b F3 w3 p3)
  clear p3 o3 f3 PL
  go_wp2_with fail
  refine Calls.mono PA.out ?_
  rintro e w4 ⟨rfl, F4, p4, o4, f4⟩
  have B5 := hid' (B4.out.trans (o4.below LO3.out B4.out.size))
  have PN := hid' (lv_now b F4 w4 p4)
  clear p4 o4 f4 PA
  go_wp2_with fail
  refine Calls.mono PN.out ?_
  rintro e w5 ⟨rfl, b5⟩
  have B6 := hid' (B5.out.trans (b5.mono B5.out.size))
  clear b5 PN
  go_wp2
  go_ret
  exact ⟨rfl, B6.out.alloc B6.out.size _⟩
set_option maxRecDepth 100000 in
set_option maxHeartbeats 6400000 in
theorem does_hear (q : Tq) (B m n : Nat) (s : Sv) (F : Nat → Prop) (w : World) (a b : Int) (h : Tri q B m n s F w) :
    Calls Tryz.prog 11 #[.pointer (some ⟨q.bt, 0, none⟩), .agg #[.int .i64 1, .int .i64 a, .int .i64 b]] w fun e w' => DoesP' q B m s F w 1 a b e w' := by
  have B0 := hid' ((Below.refl w.heap.size w).alloc (Nat.le_refl _) (.cells #[.int .i64 1, .int .i64 a, .int .i64 b] 43))
  have R0 := hid' (heap_alloc_new w (.cells #[.int .i64 1, .int .i64 a, .int .i64 b] 43))
  have T0 := hid' ((B0.out.block _ (lt_of_heap h.row)).trans h.row)
  have HE := hid' (fun (W : World) (hb : Below w.heap.size w W) => p_hear s a b h.inv q.bx F W (h.ps.below hb) trivial)
  have HT := hid' (fun (W w' : World) (hb : Below w.heap.size w W) (F' : Nat → Prop) (hp : PS q.bx (s.hear a b).2 F' w') (ho : Off F W w') (hf : ∀ k, F' k → F k ∨ W.heap.size ≤ k) => h.hear hb a b hp ho hf)
  have lb := lt_of_heap h.row
  have NB := hid' h.fb
  have NQ : Hid (¬ F w.heap.size) := fun e => Nat.lt_irrefl _ (h.ps.lt e)
  clear h
  obtain ⟨bt, bx, g, N, cap, up, ex, mode, win, ls⟩ := q
  simp only at *
  go_enter Tryz.func11, Tryz.ntmps11
  go_upto_region 3 with fail
  generalize w.alloc (.cells #[.int .i64 1, .int .i64 a, .int .i64 b] 43) = V at *
  have c0 := cell_of_row _ _ 0 _ _ _ T0.out
  have d1 := cell_of_row _ _ 1 _ _ _ R0.out
  have d2 := cell_of_row _ _ 2 _ _ _ R0.out
  simp at c0 d1 d2
  have l1 := lt_of_heap T0.out
  have l2 := lt_of_heap R0.out
  go_region_held3 (fun w' => w'.cell? ⟨bt, 0, none⟩ = some (.pointer (some ⟨bx, 0, none⟩)) ∧ w'.cell? ⟨w.heap.size, 1, none⟩ = some (.int .i64 a) ∧ w'.cell? ⟨w.heap.size, 2, none⟩ = some (.int .i64 b)) (first | go_keep | assumption) (first | (go_at_call 23; refine (HE.out _ (by exact B0.out.drew)).mono ?_; rintro e w5 ⟨rfl, F', hp, ho, hf⟩; have DP := hid' (HT.out _ _ (by exact B0.out.drew) F' hp ho hf); have m0 : w5.cell? ⟨bt, 0, none⟩ = V.cell? ⟨bt, 0, none⟩ := World.cell?_of_block (ho.block bt l1 NB.out); have m1 : w5.cell? ⟨w.heap.size, 1, none⟩ = V.cell? ⟨w.heap.size, 1, none⟩ := World.cell?_of_block (ho.block _ l2 NQ.out); have m2 : w5.cell? ⟨w.heap.size, 2, none⟩ = V.cell? ⟨w.heap.size, 2, none⟩ := World.cell?_of_block (ho.block _ l2 NQ.out); clear hp ho hf))
  all_goals
    go_wp2
    go_ret
    exact DP.out
set_option maxRecDepth 100000 in
set_option maxHeartbeats 6400000 in
theorem does_far (q : Tq) (B m n : Nat) (s : Sv) (F : Nat → Prop) (w : World) (a b : Int) (wa : (Lit.int .i64 a).wf = true) (h : Tri q B m n s F w) :
    Calls Tryz.prog 11 #[.pointer (some ⟨q.bt, 0, none⟩), .agg #[.int .i64 4, .int .i64 a, .int .i64 b]] w fun e w' => DoesP' q B m s F w 4 a b e w' := by
  have B0 := hid' ((Below.refl w.heap.size w).alloc (Nat.le_refl _) (.cells #[.int .i64 4, .int .i64 a, .int .i64 b] 43))
  have R0 := hid' (heap_alloc_new w (.cells #[.int .i64 4, .int .i64 a, .int .i64 b] 43))
  have T0 := hid' ((B0.out.block _ (lt_of_heap h.row)).trans h.row)
  have HE := hid' (fun (W : World) (x y : Int) (hb : Below w.heap.size w W) => p_advance s x y h.inv q.bx F W (h.ps.below hb) trivial)
  have HT := hid' (fun (x y : Int) (W w' : World) (hb : Below w.heap.size w W) (F' : Nat → Prop) (hp : PS q.bx (s.adv x y).2 F' w') (ho : Off F W w') (hf : ∀ k, F' k → F k ∨ W.heap.size ≤ k) => h.adv hb 4 a b x y (by decide) (by decide) hp ho hf)
  have lb := lt_of_heap h.row
  have kb := kpick_bd a 400 (by omega)
  have P4 := hid' (fun W => keep_pick a 400 W wa (by omega) (by omega))
  clear h
  obtain ⟨bt, bx, g, N, cap, up, ex, mode, win, ls⟩ := q
  simp only at *
  generalize kpick a 400 = d at *
  go_enter Tryz.func11, Tryz.ntmps11
  go_upto_region 1 with fail
  generalize w.alloc (.cells #[.int .i64 4, .int .i64 a, .int .i64 b] 43) = V at *
  have c0 := cell_of_row _ _ 0 _ _ _ T0.out
  have d0 := cell_of_row _ _ 0 _ _ _ R0.out
  have d1 := cell_of_row _ _ 1 _ _ _ R0.out
  simp at c0 d0 d1
  go_wp2_with fail
  refine (P4.out _).mono ?_
  rintro e w2 ⟨rfl, rfl⟩
  go_wp2_with fail
  refine (HE.out _ (d * 86400) 0 B0.out).mono ?_
  rintro e w5 ⟨rfl, F', hp, ho, hf⟩
  have DP := hid' (HT.out _ _ _ _ B0.out F' hp ho hf)
  clear hp ho hf
  go_wp2
  go_ret
  exact DP.out
set_option maxRecDepth 100000 in
set_option maxHeartbeats 6400000 in
theorem does_any (q : Tq) (B m n : Nat) (s : Sv) (F : Nat → Prop) (w : World) (k a b : Int) (wa : (Lit.int .i64 a).wf = true) (wb : (Lit.int .i64 b).wf = true) (h : Tri q B m n s F w) (k1 : k ≠ 1) (k2 : k ≠ 2) (k3 : k ≠ 3) (k4 : k ≠ 4) :
    Calls Tryz.prog 11 #[.pointer (some ⟨q.bt, 0, none⟩), .agg #[.int .i64 k, .int .i64 a, .int .i64 b]] w fun e w' => DoesP' q B m s F w k a b e w' := by
  have B0 := hid' ((Below.refl w.heap.size w).alloc (Nat.le_refl _) (.cells #[.int .i64 k, .int .i64 a, .int .i64 b] 43))
  have R0 := hid' (heap_alloc_new w (.cells #[.int .i64 k, .int .i64 a, .int .i64 b] 43))
  have T0 := hid' ((B0.out.block _ (lt_of_heap h.row)).trans h.row)
  have HE := hid' (fun (W : World) (x y : Int) (hb : Below w.heap.size w W) => p_advance s x y h.inv q.bx F W (h.ps.below hb) trivial)
  have HT := hid' (fun (x y : Int) (W w' : World) (hb : Below w.heap.size w W) (F' : Nat → Prop) (hp : PS q.bx (s.adv x y).2 F' w') (ho : Off F W w') (hf : ∀ k, F' k → F k ∨ W.heap.size ≤ k) => h.adv hb k a b x y k1 k2 hp ho hf)
  have lb := lt_of_heap h.row
  have kb := kpick_bd a 345600 (by omega)
  have kc := kpick_bd b 4294967296 (by omega)
  have P4 := hid' (fun W => keep_pick a 345600 W wa (by omega) (by omega))
  have P5 := hid' (fun W => keep_pick b 4294967296 W wb (by omega) (by omega))
  have e1 : (k == 1) = false := beq_eq_false_iff_ne.2 k1
  have e2 : (k == 2) = false := beq_eq_false_iff_ne.2 k2
  have e3 : (k == 3) = false := beq_eq_false_iff_ne.2 k3
  have e4 : (k == 4) = false := beq_eq_false_iff_ne.2 k4
  clear h k1 k2 k3 k4
  obtain ⟨bt, bx, g, N, cap, up, ex, mode, win, ls⟩ := q
  simp only at *
  generalize kpick a 345600 = d at *
  generalize kpick b 4294967296 = f at *
  go_enter Tryz.func11, Tryz.ntmps11
  go_upto_region 1 with fail
  generalize w.alloc (.cells #[.int .i64 k, .int .i64 a, .int .i64 b] 43) = V at *
  have c0 := cell_of_row _ _ 0 _ _ _ T0.out
  have d0 := cell_of_row _ _ 0 _ _ _ R0.out
  have d1 := cell_of_row _ _ 1 _ _ _ R0.out
  have d2 := cell_of_row _ _ 2 _ _ _ R0.out
  simp at c0 d0 d1 d2
  go_wp2_with fail
  refine (P4.out _).mono ?_
  rintro e w2 ⟨rfl, rfl⟩
  go_wp2_with fail
  refine (P5.out _).mono ?_
  rintro e w2 ⟨rfl, rfl⟩
  go_wp2_with fail
  refine (HE.out _ d f B0.out).mono ?_
  rintro e w5 ⟨rfl, F', hp, ho, hf⟩
  have DP := hid' (HT.out _ _ _ _ B0.out F' hp ho hf)
  clear hp ho hf
  go_wp2
  go_ret
  exact DP.out
set_option maxRecDepth 100000 in
set_option maxHeartbeats 6400000 in
theorem does_leap (q : Tq) (B m n : Nat) (s : Sv) (F : Nat → Prop) (w : World) (a b : Int) (wa : (Lit.int .i64 a).wf = true) (h : Tri q B m n s F w) :
    Calls Tryz.prog 11 #[.pointer (some ⟨q.bt, 0, none⟩), .agg #[.int .i64 3, .int .i64 a, .int .i64 b]] w fun e w' => DoesP' q B m s F w 3 a b e w' := by
  have B0 := hid' ((Below.refl w.heap.size w).alloc (Nat.le_refl _) (.cells #[.int .i64 3, .int .i64 a, .int .i64 b] 43))
  have R0 := hid' (heap_alloc_new w (.cells #[.int .i64 3, .int .i64 a, .int .i64 b] 43))
  have T0 := hid' ((B0.out.block _ (lt_of_heap h.row)).trans h.row)
  have HE := hid' (fun (W : World) (x y : Int) (hb : Below w.heap.size w W) => p_advance s x y h.inv q.bx F W (h.ps.below hb) trivial)
  have HT := hid' (fun (x y : Int) (W w' : World) (hb : Below w.heap.size w W) (F' : Nat → Prop) (hp : PS q.bx (s.adv x y).2 F' w') (ho : Off F W w') (hf : ∀ k, F' k → F k ∨ W.heap.size ≤ k) => h.adv hb 3 a b x y (by decide) (by decide) hp ho hf)
  have lb := lt_of_heap h.row
  obtain ⟨t0, t1, _, _⟩ := h.inv.num.t'
  have hV := h.keep B0.out
  have NR := hid' (k_near q.bt q.bx s q.up q.ex q.mode q.win a q.g q.N q.cap n q.ls _ hV.row hV.ok.len hV.lies hV.lg hV.ok.N12 hV.ok.bd wa (fun W hb => (hV.keep hb).see) t0 t1)
  have NB := hid' h.fb
  have NL := hid' (fun (k : Nat) (e : F k) => h.ps.lt e)
  clear h hV
  obtain ⟨bt, bx, g, N, cap, up, ex, mode, win, ls⟩ := q
  simp only at *
  go_enter Tryz.func11, Tryz.ntmps11
  go_upto_region 1 with fail
  generalize w.alloc (.cells #[.int .i64 3, .int .i64 a, .int .i64 b] 43) = V at *
  have d0 := cell_of_row _ _ 0 _ _ _ R0.out
  have d1 := cell_of_row _ _ 1 _ _ _ R0.out
  simp at d0 d1
  go_wp2_with fail
  refine NR.out.mono ?_
  rintro e w2 ⟨⟨x, y, rfl⟩, b2⟩
  have a3 := (Below.refl w2.heap.size w2).alloc (Nat.le_refl _) (.cells #[.int .i64 x, .int .i64 y] 33)
  have B3 := hid' (B0.out.trans ((b2.trans (a3.mono b2.size)).mono B0.out.size))
  have T3 := hid' ((B3.out.block _ lb).trans ((B0.out.block _ lb).symm.trans T0.out))
  have R3 := hid' (heap_alloc_new w2 (.cells #[.int .i64 x, .int .i64 y] 33))
  have s2 : w.heap.size ≤ w2.heap.size := Nat.le_trans B0.out.size b2.size
  clear b2 a3 d0 d1 NR
  go_upto_region 17 with fail
  generalize w2.alloc (.cells #[.int .i64 x, .int .i64 y] 33) = V3 at *
  have c0 := cell_of_row _ _ 0 _ _ _ T3.out
  have y0 := cell_of_row _ _ 0 _ _ _ R3.out
  have y1 := cell_of_row _ _ 1 _ _ _ R3.out
  simp at c0 y0 y1
  have l1 := lt_of_heap T3.out
  have l2 := lt_of_heap R3.out
  have NQ : Hid (¬ F w2.heap.size) := fun e => by have := NL.out _ e; omega
  go_region_held3 (fun w' => w'.cell? ⟨bt, 0, none⟩ = some (.pointer (some ⟨bx, 0, none⟩)) ∧ w'.cell? ⟨w2.heap.size, 0, none⟩ = some (.int .i64 x) ∧ w'.cell? ⟨w2.heap.size, 1, none⟩ = some (.int .i64 y)) (first | go_keep | assumption) (first | (go_at_call 25; refine (HE.out _ x y (by exact B3.out.drew)).mono ?_; rintro e w5 ⟨rfl, F', hp, ho, hf⟩; have DP := hid' (HT.out _ _ _ _ (by exact B3.out.drew) F' hp ho hf); have m0 : w5.cell? ⟨bt, 0, none⟩ = V3.cell? ⟨bt, 0, none⟩ := World.cell?_of_block (ho.block bt l1 NB.out); have m1 : w5.cell? ⟨w2.heap.size, 0, none⟩ = V3.cell? ⟨w2.heap.size, 0, none⟩ := World.cell?_of_block (ho.block _ l2 NQ.out); have m2 : w5.cell? ⟨w2.heap.size, 1, none⟩ = V3.cell? ⟨w2.heap.size, 1, none⟩ := World.cell?_of_block (ho.block _ l2 NQ.out); clear hp ho hf))
  all_goals
    go_wp2
    go_ret
    exact DP.out
end Go.Proofs.YtmmkhodaljpjgabGreatDoor
