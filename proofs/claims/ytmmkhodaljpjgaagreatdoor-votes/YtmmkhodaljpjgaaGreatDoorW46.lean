import Derived.Test.YtmmkhodaljpjgaaGreatDoorW14
import Derived.Test.YtmmkhodaljpjgaaGreatDoorW02
import Derived.Test.YtmmkhodaljpjgaaGreatDoorW03
import Derived.Test.YtmmkhodaljpjgaaGreatDoorW16
import Derived.Test.YtmmkhodaljpjgaaGreatDoorW23
import Derived.Test.YtmmkhodaljpjgaaGreatDoorW24
import Derived.Test.YtmmkhodaljpjgaaGreatDoorW26
import Derived.Test.YtmmkhodaljpjgaaGreatDoorW37
import Derived.Test.YtmmkhodaljpjgaaGreatDoorW38
import Derived.Test.YtmmkhodaljpjgaaGreatDoorW39
import Derived.Test.YtmmkhodaljpjgaaGreatDoorW41
import Derived.Test.YtmmkhodaljpjgaaGreatDoorW43
import Derived.Test.YtmmkhodaljpjgaaGreatDoorW44
import Derived.Test.YtmmkhodaljpjgaaGreatDoorW45
import Derived.Test.YtmmkhodaljpjgaaGreatDoorW35
import Derived.Test.YtmmkhodaljpjgaaGreatDoorW10
import Derived.Deep.QuietTactic
import Derived.BigQuiet
import Derived.OwnWalk
import Derived.Deep.RegionHeld3
import Derived.Test.YtmmkhodaljpjgaaGreatDoorW25
import Derived.Test.YtmmkhodaljpjgaaGreatDoorW05
import Derived.Test.YtmmkhodaljpjgaaGreatDoorW01
import Derived.Shelf.Strconv.Itoa3
import Derived.Shelf.Lay
import Derived.Ground.NamesProg
import Derived.Lib.AppendIntMem
import Derived.Test.YtmmkhodaljpjgaaGreatDoorW07
namespace Go.Proofs.YtmmkhodaljpjgaaGreatDoor
open Go.RowKit
set_option maxRecDepth 100000 in
set_option maxHeartbeats 1600000 in
theorem served_yes (bc bx by' br b : Nat) (hv : Value) (m ts tf li er : Int) (w : World)
    (hc : w.heap[bc]? = some (.cells #[.pointer (some ⟨bx, 0, none⟩), .pointer (some ⟨by', 0, none⟩), .pointer (some ⟨br, 0, none⟩), hv, .int .i64 m] 60 (0, 0)))
    (hN : Tells 55 b ts tf li er w) (hS : ∀ W, Below w.heap.size w W → Tells 56 br ts tf li er W) :
    Calls Tryz.prog 28 #[.pointer (some ⟨bc, 0, none⟩), .pointer (some ⟨b, 0, none⟩)] w fun e w' => e = .returned (.bool true) ∧ Below w.heap.size w w' := by
  have HC := hid' hc
  have HN := hid' hN
  have HS := hid' hS
  clear hc hN hS
  go_enter Tryz.func28, Tryz.ntmps28
  go_wp2_with fail
  refine Calls.mono HN.out ?_
  rintro e w1 ⟨rfl, hb1⟩
  have a1 := (Below.refl w1.heap.size w1).alloc (Nat.le_refl _) (.cells #[.int .i64 ts, .int .i64 tf] 98)
  have B1 := hid' (hb1.trans (a1.mono hb1.size))
  have T1 := hid' (heap_alloc_new w1 (.cells #[.int .i64 ts, .int .i64 tf] 98))
  have C1 := (hb1.block _ (lt_of_heap HC.out)).trans HC.out
  have c2 := cell_of_row _ _ 2 _ _ _ C1
  have lc := lt_of_heap C1
  simp at c2
  clear hb1 a1 C1
  go_wp2_with fail
  refine Calls.mono (HS.out _ B1.out) ?_
  rintro e w2 ⟨rfl, hb2⟩
  have B2 := hid' (B1.out.trans (hb2.mono B1.out.size))
  have T2 := (hb2.block _ (lt_of_heap T1.out)).trans T1.out
  have t0 := cell_of_row _ _ 0 _ _ _ T2
  have t1 := cell_of_row _ _ 1 _ _ _ T2
  have lt2 := lt_of_heap T2
  simp at t0 t1
  clear hb2 T2 c2
  have e0 : (ts == ts) = true := by simp
  have e1 : (tf == tf) = true := by simp
  have e2 : (li == li) = true := by simp
  have e3 : (er == er) = true := by simp
  go_wp2_with (go_at_call 34; refine (num_any _ _).mono ?_; rintro e w5 ⟨rfl, rfl⟩)
  go_ret
  exact ⟨rfl, B2.out.alloc B2.out.size _⟩
end Go.Proofs.YtmmkhodaljpjgaaGreatDoor
namespace Go.Proofs.YtmmkhodaljpjgaaGreatDoor
open Go.RowKit
set_option maxRecDepth 100000 in
set_option maxHeartbeats 1600000 in
theorem does_now (bc bx by' br : Nat) (hv : Value) (m ts tf li er : Int) (o : Op) (t : ByteArray) (w : World) (hk : o.kind = 19)
    (hc : w.heap[bc]? = some (.cells #[.pointer (some ⟨bx, 0, none⟩), .pointer (some ⟨by', 0, none⟩), .pointer (some ⟨br, 0, none⟩), hv, .int .i64 m] 60 (0, 0)))
    (hN : ∀ W, Below w.heap.size w W → Tells 55 bx ts tf li er W) (hS : ∀ W, Below w.heap.size w W → Tells 56 br ts tf li er W) :
    Calls Tryz.prog 20 #[.pointer (some ⟨bc, 0, none⟩), .agg #[.int .i64 o.kind, .int .i64 o.x, .int .i64 o.a, .int .i64 o.b, .int .i64 o.c, .int .i64 o.d, .string o.s], .string t] w fun e w' => e = .returned (.bool true) ∧ Below w.heap.size w w' := by
  obtain ⟨k, x, a, b, c, d, s⟩ := o
  simp only at *
  subst hk
  have B0 := hid' ((Below.refl w.heap.size w).alloc (Nat.le_refl _) (.cells #[.int .i64 19, .int .i64 x, .int .i64 a, .int .i64 b, .int .i64 c, .int .i64 d, .string s] 27))
  have C0 := (B0.out.block _ (lt_of_heap hc)).trans hc
  have SV := hid' (served_yes bc bx by' br bx hv m ts tf li er _ C0 (hN _ B0.out) (fun W h => hS W (B0.out.trans (h.mono B0.out.size))))
  have c0 := cell_of_row _ _ 0 _ _ _ hc
  have lc := lt_of_heap hc
  simp at c0
  clear hc hN hS C0
  go_enter Tryz.func20, Tryz.ntmps20
  go_wp2_with fail
  refine SV.out.mono ?_
  rintro e w1 ⟨rfl, hb1⟩
  have B1 := hid' (B0.out.trans (hb1.mono B0.out.size))
  clear hb1 SV
  go_wp2
  go_ret
  exact ⟨rfl, B1.out⟩
end Go.Proofs.YtmmkhodaljpjgaaGreatDoor
namespace Go.Proofs.YtmmkhodaljpjgaaGreatDoor
open Go.RowKit
theorem Sv.voted_ref (x : Sv) : x.voted.ref = x.ref := by
  unfold Sv.voted
  split <;> rfl
theorem Sv.weigh_ref (x : Sv) : x.weigh.ref = x.ref := by
  unfold Sv.weigh
  split
  · rfl
  · split
    · rfl
    · rw [Sv.voted_ref]; rfl
theorem Sv.adv_ref (x : Sv) (s f : Int) : (x.adv s f).2.ref = x.ref := by
  unfold Sv.adv
  split
  · rfl
  · split
    · rfl
    · show (Sv.weigh _).ref = _
      rw [Sv.weigh_ref]; rfl
theorem Sv.hear_ref (x : Sv) (s f : Int) : (x.hear s f).2.ref = x.ref := by
  unfold Sv.hear
  split
  · rfl
  · split
    · rfl
    · show (Sv.weigh _).ref = _
      rw [Sv.weigh_ref]; rfl
theorem Sv.load_ref (x : Sv) (g : Txt.Got) : (x.load g).2.2.ref ≤ x.ref + 1 := by
  unfold Sv.load
  split
  · show x.ref + 1 ≤ _; omega
  · show (Sv.weigh _).ref ≤ _
    rw [Sv.weigh_ref]
    have e : (x.taken g.up g.ex g.ls).ref = (x.begun1 g.ls).ref := rfl
    rw [e]
    unfold Sv.begun1
    split
    · show x.ref ≤ _; omega
    · omega
theorem k_see (b : Nat) (s : Sv) (F : Nat → Prop) (w : World) (h : PS b s F w) (hI : s.Inv) : Shows b s w := by
  have := hI.lens
  exact p_see b s F w h (by omega) (by omega)
/-- What is told of the time. -/
theorem Sv.Inv.told {x : Sv} (_ : x.Inv) : ∃ ts tf li er, x.Told ts tf li er := by
  cases hl : x.ld with
  | false => exact ⟨0, 0, 3, 8, fun _ => ⟨rfl, rfl, rfl, rfl⟩, fun e => (by rw [hl] at e; cases e), fun e => (by rw [hl] at e; cases e), fun e => (by rw [hl] at e; cases e)⟩
  | true =>
    by_cases hm : x.mode = 0
    · exact ⟨x.utc, x.nf, x.ind (x.utc / 86400), 0, fun e => (by rw [hl] at e; cases e), fun _ _ => ⟨rfl, rfl, rfl, rfl⟩, fun _ e => absurd hm e, fun _ e => absurd hm e⟩
    · by_cases hw : x.wide
      · exact ⟨(x.smeared (x.done.length - 1)).1, (x.smeared (x.done.length - 1)).2, 0, 0, fun e => (by rw [hl] at e; cases e), fun _ e => absurd e hm, fun _ _ e => absurd hw e, fun _ _ _ => ⟨rfl, rfl, rfl, rfl⟩⟩
      · exact ⟨x.utc, x.nf, 0, 0, fun e => (by rw [hl] at e; cases e), fun _ e => absurd e hm, fun _ _ _ => ⟨rfl, rfl, rfl, rfl⟩, fun _ _ e => absurd e hw⟩
theorem ref_told (b : Nat) (x : Sv) (dv bv cv hv : Value) (ts tf li er : Int) (w : World) (hr : RSrv b x dv bv cv hv w) (hI : x.Inv) (hT : x.Told ts tf li er) : Tells 56 b ts tf li er w := by
  unfold Tells
  obtain ⟨t0, t1, t2, t3⟩ := hI.num.t'
  cases hl : x.ld with
  | false =>
    obtain ⟨rfl, rfl, rfl, rfl⟩ := hT.no hl
    exact ref_served_no b x dv bv cv hv w hr hl
  | true =>
    have m := hI.mid hl
    have can := m.can hI.num
    have lens := hI.lens
    have old := m.till_old hI.num
    by_cases hm : x.mode = 0
    · obtain ⟨k, hk⟩ := hI.indOk hl hm
      obtain ⟨rfl, rfl, rfl, rfl⟩ := hT.step hl hm
      exact ref_served_step b x dv bv cv hv _ w hr hl hm can (fun W hb => ref_indicator b x dv bv cv hv (x.utc / 86400) W (hr.below hb) m.pos (by omega) hk.good hk.day t1)
    · by_cases hw : x.wide
      · obtain ⟨l2, ht⟩ := hw
        obtain ⟨rfl, rfl, rfl, rfl⟩ := hT.in' hl hm ⟨l2, ht⟩
        exact ref_served_in b x dv bv cv hv (x.done.length - 1) w hr hl hm can (hI.begOk hl) (.inr ⟨x.done.length - 1, rfl, by omega, by omega, ht, fun j j1 j2 => old j (by omega)⟩) (by omega) (by omega) (hI.pullOk hl _ (by omega) ht) ⟨t2, t3⟩
      · obtain ⟨rfl, rfl, rfl, rfl⟩ := hT.out hl hm hw
        refine ref_served_out b x dv bv cv hv w hr hl hm can (hI.begOk hl) (.inl ⟨rfl, fun j j1 j2 => ?_⟩)
        by_cases c : j + 1 < x.done.length
        · exact old j c
        · obtain rfl : j = x.done.length - 1 := by omega
          cases q : x.till (x.done.length - 1) with
          | false => rfl
          | true => exact absurd ⟨by omega, q⟩ hw
theorem ref_adv (b : Nat) (x : Sv) (dv bv cv hv : Value) (s f : Int) (w : World) (hr : RSrv b x dv bv cv hv w) (hI : x.Inv) :
    Calls Tryz.prog 63 #[.pointer (some ⟨b, 0, none⟩), .agg #[.int .i64 s, .int .i64 f]] w fun e w' => e = .returned (.int .i64 (x.adv s f).1) ∧ RPost b (rFoot b dv bv cv hv) w (x.adv s f).2 w' := by
  have l := hI.lens
  exact ref_advance b x dv bv cv hv s f w hr hI.num.t (by omega) (by omega) (fun a c ht hl hla => hI.canAdv a c ht hl hla)
theorem ref_heard (b : Nat) (x : Sv) (dv bv cv hv : Value) (src leap : Int) (w : World) (hr : RSrv b x dv bv cv hv w) (hI : x.Inv) :
    Calls Tryz.prog 67 #[.pointer (some ⟨b, 0, none⟩), .int .i64 src, .int .i64 leap] w fun e w' => e = .returned (.int .i64 (x.hear src leap).1) ∧ RPost b (rFoot b dv bv cv hv) w (x.hear src leap).2 w' := by
  have l := hI.lens
  have sl := hI.num.sl
  refine ref_hear b x dv bv cv hv src leap w hr (by omega) (by omega) (by omega) (fun k lp hl => ?_)
  have w := hI.num.win
  have bg := (hI.mid hl).begun w.1 w.2
  have nn := hI.num
  have c := bg.mid.can (nn.of bg.same)
  have so : ∀ h ∈ (x.says k lp).said, h.Ok := fun h hh => by
    rcases List.mem_or_eq_of_mem_set (show h ∈ x.said.set k _ from hh) with e | e
    · exact (nn.sok h e).1
    · subst e; exact nn.t'
  exact ⟨c.fine, c.len, c.hold, c.n0, c.n1, c.u0, c.u1, (by show (x.said.set k _).length ≤ 100; rw [List.length_set]; omega), so, c.f0, c.f1, c.w0, c.w1, c.bl, c.cl⟩
theorem ref_loads (b : Nat) (x : Sv) (dv bv cv hv : Value) (t : ByteArray) (w : World) (hr : RSrv b x dv bv cv hv w) (hI : x.Inv) (ht : t.size ≤ 1000000) (r1 : x.ref ≤ 1000000) :
    Calls Tryz.prog 65 #[.pointer (some ⟨b, 0, none⟩), .string t] w fun e w' => e = .returned (.tuple #[.int .i64 (x.load (Txt.parse t)).1, .int .i64 (x.load (Txt.parse t)).2.1]) ∧ RPost b (rFoot b dv bv cv hv) w (x.load (Txt.parse t)).2.2 w' := by
  have l := hI.lens
  by_cases c : x.loadErr (Txt.parse t) = 0
  · have e : x.load (Txt.parse t) = (0, 0, (x.taken (Txt.parse t).up (Txt.parse t).ex (Txt.parse t).ls).weigh) := by unfold Sv.load; rw [if_neg (by omega)]
    rw [e]
    exact ref_load_yes b x dv bv cv hv t w hr ht hI c
  · have e : x.load (Txt.parse t) = (x.loadErr (Txt.parse t), ((Txt.parse t).num : Int), x.refuse) := by unfold Sv.load; rw [if_pos c]
    rw [e]
    exact ref_load_no b x dv bv cv hv t w hr ht (by omega) hI.num.r0 r1 c
theorem kind_step {B n : Nat} {o : Op} {w : World} (hn : n ≤ 90000) (hk : o.kind = 15) : Does (srvXs PS ps_law B) B B n o w :=
  does_made15 ps_law hn hk (fun W s f => made_any ps_law 0 0 o.c o.d s f W (by decide) (p_new 0 0 o.c o.d s f (by decide)) k_see)
theorem kind_smear {B n : Nat} {o : Op} {w : World} (ho : o.Ok) (hn : n ≤ 90000) (hk : o.kind = 16) : Does (srvXs PS ps_law B) B B n o w :=
  does_made16 ps_law hn hk (fun W s f => made_any ps_law o.a o.b o.c o.d s f W ho.b (p_new o.a o.b o.c o.d s f ho.b) k_see)
theorem kind_adv {B n : Nat} {o : Op} {w : World} (ho : o.Ok) (hn : n ≤ 90000) (hk : o.kind = 17) : Does (srvXs PS ps_law B) B B n o w :=
  does_srv ps_law ho hn (by omega) (by omega) (fun r W t hr _ _ _ => by
    have iv := hr.inv.adv o.a o.b
    have l := iv.lens
    have hl := hr.hn
    rw [hk]
    refine (does_adv ps_law r.bc r.bx r.by' r.br r.hv _ r.hs r.s (r.s.adv o.a o.b).2 r.Fx r.Fy r.Fr r.Fv o.x o.a o.b o.c o.d (r.s.adv o.a o.b).1 o.s t W hr.cs (p_advance r.s o.a o.b hr.inv) (fun dv bv cv rh V h => ref_adv r.br r.s dv bv cv rh o.a o.b V h hr.inv) (fun F V h => k_see _ _ F V h iv) (by omega) (by omega) (by omega) (by omega) (by omega)).mono ?_
    rintro e w' ⟨he, tp⟩
    exact ⟨he, tp.post iv (by rw [Sv.adv_ref]; have := hr.rf; omega) hr.hn⟩)
theorem kind_hear {B n : Nat} {o : Op} {w : World} (ho : o.Ok) (hn : n ≤ 90000) (hk : o.kind = 20) : Does (srvXs PS ps_law B) B B n o w :=
  does_srv ps_law ho hn (by omega) (by omega) (fun r W t hr _ _ _ => by
    have iv := hr.inv.hear o.a o.b
    have l := iv.lens
    have hl := hr.hn
    rw [hk]
    refine (does_hear ps_law r.bc r.bx r.by' r.br r.hv _ r.hs r.s (r.s.hear o.a o.b).2 r.Fx r.Fy r.Fr r.Fv o.x o.a o.b o.c o.d (r.s.hear o.a o.b).1 o.s t W hr.cs (p_hear r.s o.a o.b hr.inv) (fun dv bv cv rh V h => ref_heard r.br r.s dv bv cv rh o.a o.b V h hr.inv) (fun F V h => k_see _ _ F V h iv) (by omega) (by omega) (by omega) (by omega) (by omega)).mono ?_
    rintro e w' ⟨he, tp⟩
    exact ⟨he, tp.post iv (by rw [Sv.hear_ref]; have := hr.rf; omega) hr.hn⟩)
theorem table_off {A : Nat → Prop} {w W : World} (h : Table w) (o : Off A w W) (hA : ¬ A 0) : Table W := by
  have hp := h.pos
  have c : ∀ j, W.cell? ⟨0, j, none⟩ = w.cell? ⟨0, j, none⟩ := fun j => World.cell?_of_block (o.block 0 hp hA)
  exact ⟨(c 0).trans h.c0, (c 1).trans h.c1, (c 2).trans h.c2, (c 3).trans h.c3⟩
theorem kind_load {B n : Nat} {o : Op} {w w0 : World} (hT : Table w0) (hB : w0.heap.size ≤ B) (hb0 : Below w0.heap.size w0 w) (ho : o.Ok) (hn : n ≤ 90000) (hk : o.kind = 18) : Does (srvXs PS ps_law B) B B n o w :=
  does_srv ps_law ho hn (by omega) (by omega) (fun r W t hr hlo hb ht => by
    have iv := hr.inv.load t
    have l := iv.lens
    have hl := hr.hn
    have hrf := hr.rf
    have hp := hT.pos
    have TW : Table W := hT.below (hb0.trans (hb.mono hB))
    have sz := (hb0.trans (hb.mono hB)).size
    have rf := r.s.load_ref (Txt.parse t)
    rw [hk]
    refine (does_load ps_law r.bc r.bx r.by' r.br r.hv _ r.hs r.s (r.s.load (Txt.parse t)).2.2 r.Fx r.Fy r.Fr r.Fv o.x o.a o.b o.c o.d (r.s.load (Txt.parse t)).1 (r.s.load (Txt.parse t)).2.1 o.s t W Table hr.cs (p_load r.s t hr.inv (by omega) (by omega)) (fun V ov => table_off TW ov (fun q => by have := hlo 0 q; omega)) (fun dv bv cv rh V h => ref_loads r.br r.s dv bv cv rh t V h hr.inv (by omega) (by omega)) (fun F V h => k_see _ _ F V h iv) (by omega) (by omega) (by omega) (by omega) (by omega)).mono ?_
    rintro e w' ⟨he, tp⟩
    exact ⟨he, tp.post iv (by omega) hr.hn⟩)
theorem kind_now {B n : Nat} {o : Op} {w : World} (ho : o.Ok) (hn : n ≤ 90000) (hk : o.kind = 19) : Does (srvXs PS ps_law B) B B n o w :=
  does_srv ps_law ho hn (by omega) (by omega) (fun r W t hr _ _ _ => by
    obtain ⟨ts, tf, li, er, hT⟩ := hr.inv.told
    obtain ⟨dv, bv, cv, rh, rr, _⟩ := hr.cs.r
    refine (does_now r.bc r.bx r.by' r.br r.hv _ ts tf li er o t W hk hr.cs.c (fun V hb => p_now r.bx r.s r.Fx ts tf li er V (ps_law.keep hr.cs.x (fun k e => hb.block k (hr.low ps_law k (.inl e)))) hr.inv hT) (fun V hb => ref_told r.br r.s dv bv cv rh ts tf li er V (rr.below hb) hr.inv hT)).mono ?_
    rintro e w' ⟨he, bel⟩
    exact ⟨he, RcPost.of_below ps_law hr bel (Nat.le_succ _)⟩)
end Go.Proofs.YtmmkhodaljpjgaaGreatDoor
namespace Go.Proofs.YtmmkhodaljpjgaaGreatDoor
open Go.RowKit
theorem held_ref {w : World} {B : Nat} {lv : Value} {ls : List (Int × Int)} (h : w.ownsRow B 46 2 lv ls.length (flat ls)) : Held w lv ls := by
  by_cases h0 : 0 < ls.length
  · obtain ⟨g, cap, rfl⟩ := own_some h h0
    refine .inr ⟨h0, g, cap, rfl, ?_, (h.lt _ rfl).2, fun i hi => ⟨by rw [h.cellAt (i * 2) (by omega)]; exact flat_at0 ls i hi, by rw [h.cellAt (i * 2 + 1) (by omega)]; exact flat_at1 ls i hi⟩⟩
    rcases h.2 with ⟨h, _⟩ | ⟨g', cap', cur, h, _, _, h2, _⟩
    · cases h
    · cases h; exact h2
  · have e : ls = [] := List.eq_nil_of_length_eq_zero (by omega)
    subst e
    rcases h.2 with ⟨rfl, _⟩ | ⟨g, cap, cur, rfl, _⟩
    · exact .inl ⟨rfl, _, _, rfl⟩
    · exact .inl ⟨rfl, _, _, rfl⟩
set_option maxRecDepth 100000 in
set_option maxHeartbeats 1600000 in
theorem same_yes (up ex : Int) (av tv : Value) (ls : List (Int × Int)) (w : World) (hA : Held w av ls) (hT : Held w tv ls) (hn : ls.length ≤ 100000) :
    Calls Tryz.prog 42 #[.agg #[.int .i64 up, .int .i64 ex, av], .agg #[.int .i64 up, .int .i64 ex, tv]] w fun e w' => e = .returned (.bool true) ∧ Below w.heap.size w w' := by
  have n0 : (up != up) = false := by simp
  have n1 : (ex != ex) = false := by simp
  have n2 : ((ls.length : Int) != (ls.length : Int)) = false := by simp
  have B1 := hid' (((Below.refl w.heap.size w).alloc (Nat.le_refl _) (.cells #[.int .i64 up, .int .i64 ex, av] 78)).alloc (by simp) (.cells #[.int .i64 up, .int .i64 ex, tv] 33))
  by_cases h0 : ls.length = 0
  · obtain ⟨aa, ac, rfl⟩ : ∃ ao c, av = .slice ao 0 c := by
      rcases hA with ⟨_, ao, c, rfl⟩ | ⟨h, _⟩
      · exact ⟨_, _, rfl⟩
      · omega
    obtain ⟨ta, tc, rfl⟩ : ∃ ao c, tv = .slice ao 0 c := by
      rcases hT with ⟨_, ao, c, rfl⟩ | ⟨h, _⟩
      · exact ⟨_, _, rfl⟩
      · omega
    clear hA hT n2
    go_enter Tryz.func42, Tryz.ntmps42
    go_wp2_with fail
    go_loop [5] (fun i => i = .int .i64 0) (fun _ => 0)
    case atStart => rfl
    case round =>
      subst hrel
      go_wp2
      go_ret
      exact ⟨rfl, B1.out⟩
  · obtain ⟨ga, ca, rfl, ha1, ha2, ha3⟩ : ∃ g cap, av = .slice (some ⟨g, 0, none⟩) ls.length cap ∧ ls.length ≤ cap ∧ g < w.heap.size ∧ Lies w g ls := by
      rcases hA with ⟨rfl, _⟩ | ⟨_, g, cap, e, a, b, c⟩
      · simp at h0
      · exact ⟨g, cap, e, a, b, c⟩
    obtain ⟨gt, ct, rfl, ht1, ht2, ht3⟩ : ∃ g cap, tv = .slice (some ⟨g, 0, none⟩) ls.length cap ∧ ls.length ≤ cap ∧ g < w.heap.size ∧ Lies w g ls := by
      rcases hT with ⟨rfl, _⟩ | ⟨_, g, cap, e, a, b, c⟩
      · simp at h0
      · exact ⟨g, cap, e, a, b, c⟩
    have LA := hid' (ha3.below ha2 B1.out)
    have LT := hid' (ht3.below ht2 B1.out)
    have R1 := heap_alloc2_old w (.cells #[.int .i64 up, .int .i64 ex, .slice (some ⟨ga, 0, none⟩) ls.length ca] 78) (.cells #[.int .i64 up, .int .i64 ex, .slice (some ⟨gt, 0, none⟩) ls.length ct] 33)
    have R2 := heap_alloc2_new w (.cells #[.int .i64 up, .int .i64 ex, .slice (some ⟨ga, 0, none⟩) ls.length ca] 78) (.cells #[.int .i64 up, .int .i64 ex, .slice (some ⟨gt, 0, none⟩) ls.length ct] 33)
    clear ha3 ht3
    generalize hk : ls.length = k at *
    go_enter Tryz.func42, Tryz.ntmps42
    go_wp2_with fail
    generalize hV : (w.alloc (.cells #[.int .i64 up, .int .i64 ex, .slice (some ⟨ga, 0, none⟩) k ca] 78)).alloc (.cells #[.int .i64 up, .int .i64 ex, .slice (some ⟨gt, 0, none⟩) k ct] 33) = V at *
    have c1 := cell_of_row _ _ 2 _ _ _ R1
    have c2 := cell_of_row _ _ 2 _ _ _ R2
    simp at c1 c2
    clear hV R1 R2
    go_loopw [5] (fun i wr => ∃ (j m : Nat), j ≤ k ∧ i = .int .i64 j ∧ wr = V.drewN m) (fun i _ => k - (intOf i).toNat)
    case atStart => exact ⟨0, 0, by omega, rfl, rfl⟩
    case round =>
      obtain ⟨j, m, hj, rfl, hwr⟩ := hrel
      have d1 : wr.cell? ⟨w.heap.size, 2, none⟩ = some (.slice (some ⟨ga, 0, none⟩) k ca) := by rw [hwr]; exact c1
      have d2 : wr.cell? ⟨w.heap.size + 1, 2, none⟩ = some (.slice (some ⟨gt, 0, none⟩) k ct) := by rw [hwr]; exact c2
      by_cases hlt : j < k
      · have hjl : j < ls.length := by omega
        have a0 : wr.cell? ⟨ga, j * 2, none⟩ = some (.int .i64 ls[j].1) := by rw [hwr]; exact (LA.out j hjl).1
        have a1 : wr.cell? ⟨ga, j * 2 + 1, none⟩ = some (.int .i64 ls[j].2) := by rw [hwr]; exact (LA.out j hjl).2
        have t0 : wr.cell? ⟨gt, j * 2, none⟩ = some (.int .i64 ls[j].1) := by rw [hwr]; exact (LT.out j hjl).1
        have t1 : wr.cell? ⟨gt, j * 2 + 1, none⟩ = some (.int .i64 ls[j].2) := by rw [hwr]; exact (LT.out j hjl).2
        have HWR := hid' hwr
        generalize ls[j] = p at *
        obtain ⟨pa, po⟩ := p
        simp only at a0 a1 t0 t1
        have z0 : (0 : Int) ≤ (j : Int) := by omega
        have z1 : (j : Int) < (k : Int) := by omega
        have g0 : (pa != pa) = false := by simp
        have g1 : (po != po) = false := by simp
        clear hwr hjl c1 c2
        go_wp2_with fail
        go_quiet (fail)
        go_wp2
        go_roundw
        case rel => exact ⟨j + 1, m + nq, by omega, by go_num, by rw [HWR.out, World.drewN_drewN]⟩
        case measure => simp [intOf]; omega
      · have hnl : ¬ (j : Int) < (k : Int) := by omega
        have BW : Hid (Below w.heap.size w wr) := by rw [hwr]; exact below_drewN B1.out m
        clear hwr c1 c2
        go_wp2
        go_ret
        exact ⟨rfl, BW.out⟩
end Go.Proofs.YtmmkhodaljpjgaaGreatDoor
namespace Go.Proofs.YtmmkhodaljpjgaaGreatDoor
open Go.RowKit
/-- The list that is handed in, filled up to j. -/
structure Hand (w : World) (g n : Nat) (ls : List (Int × Int)) (j : Nat) (cs : Array Value) : Prop where
  row : w.heap[g]? = some (.cells cs 84 (0, 0))
  size : cs.size = (n + 2) * 2
  fill : ∀ i (_ : i < j) (h : i < ls.length), cs[i * 2]? = some (.int .i64 ls[i].1) ∧ cs[i * 2 + 1]? = some (.int .i64 ls[i].2)
/-- The list that is handed in, with its spare room. -/
def Handed (w : World) (g : Nat) (ls : List (Int × Int)) : Prop := ∃ cs, Hand w g ls.length ls ls.length cs ∧ cs[ls.length * 2]? = some (.int .i64 (-7)) ∧ cs[(ls.length + 1) * 2]? = some (.int .i64 (-7))
theorem set_same {cs : Array Value} {a : Nat} {v : Value} (h : a < cs.size) : (cs.setIfInBounds a v)[a]? = some v := by
  rw [Array.getElem?_setIfInBounds]; simp [h]
theorem set_other {cs : Array Value} {a b : Nat} {v : Value} (h : a ≠ b) : (cs.setIfInBounds a v)[b]? = cs[b]? := by
  rw [Array.getElem?_setIfInBounds]; simp [h]
theorem Hand.put {w : World} {g n j : Nat} {ls : List (Int × Int)} {cs : Array Value} (h : Hand w g n ls j cs) (hj : j < n) (hl : j < ls.length) :
    ∃ cs', Hand ((w.setCell ⟨g, j * 2, none⟩ (.int .i64 ls[j].1)).setCell ⟨g, j * 2 + 1, none⟩ (.int .i64 ls[j].2)) g n ls (j + 1) cs' := by
  have e1 := heap_setCell_same _ g (j * 2) _ _ (.int .i64 ls[j].1) h.row
  have e2 := heap_setCell_same _ g (j * 2 + 1) _ _ (.int .i64 ls[j].2) e1
  have hz := h.size
  refine ⟨_, e2, by simp [hz], fun i hi hil => ?_⟩
  by_cases e : i = j
  · subst e
    exact ⟨by rw [set_other (by omega), set_same (by omega)], by rw [set_same (by simp; omega)]⟩
  · have := h.fill i (by omega) hil
    exact ⟨by rw [set_other (by omega), set_other (by omega)]; exact this.1, by rw [set_other (by omega), set_other (by omega)]; exact this.2⟩
theorem Hand.cell {w : World} {g n j : Nat} {ls : List (Int × Int)} {cs : Array Value} (h : Hand w g n ls j cs) (k : Nat) (hk : k < (n + 2) * 2) : ∃ v, w.cell? ⟨g, k, none⟩ = some v := by
  rw [cell_of_row _ _ k _ _ _ h.row, Array.getElem?_eq_getElem (by rw [h.size]; exact hk)]; exact ⟨_, rfl⟩
theorem Hand.free {w : World} {g n j : Nat} {ls : List (Int × Int)} {cs : Array Value} (h : Hand w g n ls j cs) (k : Nat) : w.frozen? ⟨g, k, none⟩ = false := frozen_of_row _ _ k _ _ h.row
theorem Handed.held {w : World} {g : Nat} {ls : List (Int × Int)} (h : Handed w g ls) : Held w (.slice (some ⟨g, 0, none⟩) ls.length (ls.length + 2)) ls := by
  obtain ⟨cs, hh, _, _⟩ := h
  by_cases h0 : 0 < ls.length
  · exact .inr ⟨h0, g, _, rfl, by omega, lt_of_heap hh.row, fun i hi => ⟨by rw [cell_of_row _ _ _ _ _ _ hh.row]; exact (hh.fill i hi hi).1, by rw [cell_of_row _ _ _ _ _ _ hh.row]; exact (hh.fill i hi hi).2⟩⟩
  · have e : ls = [] := List.eq_nil_of_length_eq_zero (by omega)
    subst e; exact .inl ⟨rfl, _, _, rfl⟩
theorem Handed.below {w w' : World} {g : Nat} {ls : List (Int × Int)} (h : Handed w g ls) (hb : Below w.heap.size w w') : Handed w' g ls := by
  obtain ⟨cs, hh, a, b⟩ := h
  exact ⟨cs, ⟨(hb.block _ (lt_of_heap hh.row)).trans hh.row, hh.size, hh.fill⟩, a, b⟩
theorem infoApi2 : (Tryz.prog.info? 84).map (fun i => (i.zero, i.size, i.bytes)) = some (some (.agg #[.int .i64 0, .int .i64 0]), 2, 16) := by kernel_rfl
/-- What handed answers. -/
def HandSaid (w : World) (up ex : Int) (ls : List (Int × Int)) (e : Ending) (w' : World) : Prop := ∃ g, w.heap.size ≤ g ∧ e = .returned (.agg #[.int .i64 up, .int .i64 ex, .slice (some ⟨g, 0, none⟩) ls.length (ls.length + 2)]) ∧ Handed w' g ls ∧ Below w.heap.size w w'
set_option maxRecDepth 100000 in
set_option maxHeartbeats 3200000 in
theorem handed_any (up ex : Int) (tv : Value) (ls : List (Int × Int)) (w : World) (hT : Held w tv ls) (hn : ls.length ≤ 100000) :
    Calls Tryz.prog 43 #[.agg #[.int .i64 up, .int .i64 ex, tv]] w fun e w' => HandSaid w up ex ls e w' := by
  obtain ⟨i0, hi0, hz0, hz1, hz2⟩ := info_parts infoApi2
  obtain ⟨ta, tc, htv⟩ : ∃ ao c, tv = .slice ao ls.length c := by
    rcases hT with ⟨rfl, ao, c, rfl⟩ | ⟨_, g, c, rfl, _⟩
    · exact ⟨_, _, rfl⟩
    · exact ⟨_, _, rfl⟩
  have HT := hid' hT
  have B1 := hid' (((Below.refl w.heap.size w).alloc (Nat.le_refl _) (.cells #[.int .i64 up, .int .i64 ex, tv] 33)).alloc (by simp) (.cells #[.int .i64 0, .int .i64 0, .slice none 0 0] 78))
  have R1 := hid' (heap_alloc2_old w (.cells #[.int .i64 up, .int .i64 ex, tv] 33) (.cells #[.int .i64 0, .int .i64 0, .slice none 0 0] 78))
  have R2 := hid' (heap_alloc2_new w (.cells #[.int .i64 up, .int .i64 ex, tv] 33) (.cells #[.int .i64 0, .int .i64 0, .slice none 0 0] 78))
  have hsz : ((w.alloc (.cells #[.int .i64 up, .int .i64 ex, tv] 33)).alloc (.cells #[.int .i64 0, .int .i64 0, .slice none 0 0] 78)).heap.size = w.heap.size + 1 + 1 := by simp
  have HSZ := hid' hsz
  clear hT hsz
  subst htv
  generalize hk : ls.length = k at *
  go_enter Tryz.func43, Tryz.ntmps43
  go_wp2_with (first
    | (at_make; refine wpList_make_full _ rfl _ _ 76 rfl (w.heap.size + 1 + 1) 84 i0 (.agg #[.int .i64 0, .int .i64 0]) 2 Tryz.underlying76 hi0 hz0 hz1 .i64 .i64 _ _ (k + 2) rfl rfl (by simp) (by simp) (by rw [hz2]; omega) (by unfold maxLen; omega) (by rw [HSZ.out]; exact Nat.le_refl _) ?_; intro W hown hgr; have HOWN := hid' hown; have HGR := hid' hgr; clear hown hgr))
  have hH : ∃ cs, Hand W (w.heap.size + 1 + 1) k ls 0 cs := by
    rcases HOWN.out.2 with ⟨h, _⟩ | ⟨g, cap, cur, h, _, hh, _, _, hcs, _⟩
    · cases h
    · cases h
      rw [HSZ.out] at hh
      exact ⟨cur, hh, hcs, fun i hi _ => by omega⟩
  have RW1 := hid' ((HGR.out.block _ (lt_of_heap R1.out) (by simp)).trans R1.out)
  have RW2 := hid' ((HGR.out.block _ (lt_of_heap R2.out) (by simp)).trans R2.out)
  have BW := hid' (B1.out.grown HGR.out (by rw [HSZ.out]; omega) (fun k hk => by cases hk))
  have HHH := hid' hH
  clear hH HOWN HGR R1 R2 B1 HSZ hi0 hz0 hz1 hz2
  go_loopw [5] (fun i wr => ∃ (j : Nat) (cs : Array Value), j ≤ k ∧ i = .int .i64 j ∧ Hand wr (w.heap.size + 1 + 1) k ls j cs ∧ wr.heap[w.heap.size]? = some (.cells #[.int .i64 up, .int .i64 ex, .slice ta k tc] 33 (0, 0)) ∧ wr.heap[w.heap.size + 1]? = some (.cells #[.int .i64 0, .int .i64 0, .slice none 0 0] 78 (0, 0)) ∧ Below w.heap.size w wr) (fun i _ => k - (intOf i).toNat)
  case atStart =>
    obtain ⟨cs, h⟩ := HHH.out
    exact ⟨0, cs, by omega, rfl, h, RW1.out, RW2.out, BW.out⟩
  case round =>
    clear HHH RW1 RW2 BW
    obtain ⟨j, cs, hj, rfl, hh, r1, r2, bw⟩ := hrel
    have q0 := cell_of_row _ _ 0 _ _ _ r1
    have q1 := cell_of_row _ _ 1 _ _ _ r1
    have q2 := cell_of_row _ _ 2 _ _ _ r1
    simp at q0 q1 q2
    by_cases hlt : j < k
    · obtain ⟨gt, tcap, htv, htc, hgl, hli⟩ : ∃ g cap, Value.slice ta k tc = .slice (some ⟨g, 0, none⟩) ls.length cap ∧ ls.length ≤ cap ∧ g < w.heap.size ∧ Lies w g ls := by
        rcases HT.out with ⟨e, _⟩ | ⟨_, g, cap, e, a, b, c⟩
        · subst e; simp at hk; omega
        · exact ⟨g, cap, e, a, b, c⟩
      rw [hk] at htv
      obtain ⟨rfl, _, rfl⟩ := Value.slice.inj htv
      have hjl : j < ls.length := by omega
      have c0 := (bw.cell (p := ⟨gt, j * 2, none⟩) hgl).trans (hli j hjl).1
      have c1 := (bw.cell (p := ⟨gt, j * 2 + 1, none⟩) hgl).trans (hli j hjl).2
      obtain ⟨o0, p0⟩ := hh.cell (j * 2) (by omega)
      obtain ⟨o1, p1⟩ := hh.cell (j * 2 + 1) (by omega)
      have f0 := hh.free (j * 2)
      have f1 := hh.free (j * 2 + 1)
      have HPUT := hid' (hh.put hlt hjl)
      have hle : w.heap.size ≤ w.heap.size + 1 + 1 := by omega
      have bw2 := (bw.setCell (p := ⟨w.heap.size + 1 + 1, j * 2, none⟩) hle (.int .i64 ls[j].1)).setCell (p := ⟨w.heap.size + 1 + 1, j * 2 + 1, none⟩) hle (.int .i64 ls[j].2)
      have k1 := (bw2.cell (p := ⟨gt, j * 2, none⟩) hgl).trans (hli j hjl).1
      have k2 := (bw2.cell (p := ⟨gt, j * 2 + 1, none⟩) hgl).trans (hli j hjl).2
      have rr1 : ((wr.setCell ⟨w.heap.size + 1 + 1, j * 2, none⟩ (.int .i64 ls[j].1)).setCell ⟨w.heap.size + 1 + 1, j * 2 + 1, none⟩ (.int .i64 ls[j].2)).heap[w.heap.size]? = _ := (heap_setCell_other _ _ _ _ (by simp; try omega)).trans ((heap_setCell_other _ _ _ _ (by simp; try omega)).trans r1)
      have rr2 : ((wr.setCell ⟨w.heap.size + 1 + 1, j * 2, none⟩ (.int .i64 ls[j].1)).setCell ⟨w.heap.size + 1 + 1, j * 2 + 1, none⟩ (.int .i64 ls[j].2)).heap[w.heap.size + 1]? = _ := (heap_setCell_other _ _ _ _ (by simp; try omega)).trans ((heap_setCell_other _ _ _ _ (by simp; try omega)).trans r2)
      have k0 := cell_of_row _ _ 2 _ _ _ rr1
      simp at k0
      have R1 := hid' rr1
      have R2 := hid' rr2
      have BW := hid' bw2
      have ne1 : ¬ gt = w.heap.size + 1 + 1 := by omega
      have ne2 : ¬ w.heap.size = w.heap.size + 1 + 1 := by omega
      have z0 : (0 : Int) ≤ (j : Int) := by omega
      have z1 : (j : Int) < (k : Int) := by omega
      have z2 : (j : Int) < (k : Int) + 2 := by omega
      clear htv hli hh r1 r2 bw HT hle bw2 rr1 rr2
      generalize ls[j] = p at *
      obtain ⟨pa, po⟩ := p
      simp only at c0 c1 k0 k1 k2
      clear hjl
      go_wp2_with fail
      go_region_held3 (fun w' => w'.cell? ⟨w.heap.size, 2, none⟩ = some (.slice (some ⟨gt, 0, none⟩) k tc) ∧ w'.cell? ⟨gt, j * 2, none⟩ = some (.int .i64 pa) ∧ w'.cell? ⟨gt, j * 2 + 1, none⟩ = some (.int .i64 po)) (go_keep) (fail)
      all_goals
        go_wp2
        go_roundw
        case rel =>
          obtain ⟨cs', h'⟩ := HPUT.out
          exact ⟨j + 1, cs', by omega, by go_num, ⟨h'.row, h'.size, h'.fill⟩, R1.out, R2.out, BW.out.drew⟩
        case measure => simp [intOf]; omega
    · have ej : j = k := by omega
      have hnl : ¬ (j : Int) < (k : Int) := by omega
      obtain ⟨o0, p0⟩ := hh.cell (k * 2) (by omega)
      obtain ⟨o1, p1⟩ := hh.cell (k * 2 + 1) (by omega)
      obtain ⟨o2, p2⟩ := hh.cell ((k + 1) * 2) (by omega)
      obtain ⟨o3, p3⟩ := hh.cell ((k + 1) * 2 + 1) (by omega)
      have f0 := hh.free (k * 2)
      have f1 := hh.free (k * 2 + 1)
      have f2 := hh.free ((k + 1) * 2)
      have f3 := hh.free ((k + 1) * 2 + 1)
      have HE : Hid (∃ cs', ((((wr.setCell ⟨w.heap.size + 1 + 1, k * 2, none⟩ (.int .i64 (-7))).setCell ⟨w.heap.size + 1 + 1, k * 2 + 1, none⟩ (.int .i64 0)).setCell ⟨w.heap.size + 1 + 1, (k + 1) * 2, none⟩ (.int .i64 (-7))).setCell ⟨w.heap.size + 1 + 1, (k + 1) * 2 + 1, none⟩ (.int .i64 0)).heap[w.heap.size + 1 + 1]? = some (.cells cs' 84 (0, 0)) ∧ cs'.size = (k + 2) * 2 ∧ (∀ i (_ : i < k) (h : i < ls.length), cs'[i * 2]? = some (.int .i64 ls[i].1) ∧ cs'[i * 2 + 1]? = some (.int .i64 ls[i].2)) ∧ cs'[k * 2]? = some (.int .i64 (-7)) ∧ cs'[(k + 1) * 2]? = some (.int .i64 (-7))) := by
        have e1 := heap_setCell_same _ (w.heap.size + 1 + 1) (k * 2) _ _ (.int .i64 (-7)) hh.row
        have e2 := heap_setCell_same _ (w.heap.size + 1 + 1) (k * 2 + 1) _ _ (.int .i64 0) e1
        have e3 := heap_setCell_same _ (w.heap.size + 1 + 1) ((k + 1) * 2) _ _ (.int .i64 (-7)) e2
        have e4 := heap_setCell_same _ (w.heap.size + 1 + 1) ((k + 1) * 2 + 1) _ _ (.int .i64 0) e3
        have hz := hh.size
        refine ⟨_, e4, by simp [hz], fun i hi hil => ?_, ?_, ?_⟩
        · have := hh.fill i (by omega) hil
          exact ⟨by rw [set_other (by omega), set_other (by omega), set_other (by omega), set_other (by omega)]; exact this.1, by rw [set_other (by omega), set_other (by omega), set_other (by omega), set_other (by omega)]; exact this.2⟩
        · rw [set_other (by omega), set_other (by omega), set_other (by omega), set_same (by omega)]
        · rw [set_other (by omega), set_same (by simp; omega)]
      have hx1 : ((((wr.setCell ⟨w.heap.size + 1 + 1, k * 2, none⟩ (.int .i64 (-7))).setCell ⟨w.heap.size + 1 + 1, k * 2 + 1, none⟩ (.int .i64 0)).setCell ⟨w.heap.size + 1 + 1, (k + 1) * 2, none⟩ (.int .i64 (-7))).setCell ⟨w.heap.size + 1 + 1, (k + 1) * 2 + 1, none⟩ (.int .i64 0)).heap[w.heap.size]? = _ :=
        (heap_setCell_other _ _ _ _ (by simp; try omega)).trans ((heap_setCell_other _ _ _ _ (by simp; try omega)).trans ((heap_setCell_other _ _ _ _ (by simp; try omega)).trans ((heap_setCell_other _ _ _ _ (by simp; try omega)).trans r1)))
      have hx2 : ((((wr.setCell ⟨w.heap.size + 1 + 1, k * 2, none⟩ (.int .i64 (-7))).setCell ⟨w.heap.size + 1 + 1, k * 2 + 1, none⟩ (.int .i64 0)).setCell ⟨w.heap.size + 1 + 1, (k + 1) * 2, none⟩ (.int .i64 (-7))).setCell ⟨w.heap.size + 1 + 1, (k + 1) * 2 + 1, none⟩ (.int .i64 0)).heap[w.heap.size + 1]? = _ :=
        (heap_setCell_other _ _ _ _ (by simp; try omega)).trans ((heap_setCell_other _ _ _ _ (by simp; try omega)).trans ((heap_setCell_other _ _ _ _ (by simp; try omega)).trans ((heap_setCell_other _ _ _ _ (by simp; try omega)).trans r2)))
      have hle : w.heap.size ≤ w.heap.size + 1 + 1 := by omega
      have hx3 := (((bw.setCell (p := ⟨w.heap.size + 1 + 1, k * 2, none⟩) hle (.int .i64 (-7))).setCell (p := ⟨w.heap.size + 1 + 1, k * 2 + 1, none⟩) hle (.int .i64 0)).setCell (p := ⟨w.heap.size + 1 + 1, (k + 1) * 2, none⟩) hle (.int .i64 (-7))).setCell (p := ⟨w.heap.size + 1 + 1, (k + 1) * 2 + 1, none⟩) hle (.int .i64 0)
      have X1 := hid' hx1
      have X2 := hid' hx2
      have X3 := hid' hx3
      clear hx1 hx2 hx3 hle hh r1 r2 bw ej HT
      go_upto_region 9 with fail
      generalize (((wr.setCell ⟨w.heap.size + 1 + 1, k * 2, none⟩ (.int .i64 (-7))).setCell ⟨w.heap.size + 1 + 1, k * 2 + 1, none⟩ (.int .i64 0)).setCell ⟨w.heap.size + 1 + 1, (k + 1) * 2, none⟩ (.int .i64 (-7))).setCell ⟨w.heap.size + 1 + 1, (k + 1) * 2 + 1, none⟩ (.int .i64 0) = V at *
      clear q0 q1 q2 p0 p1 p2 p3 f0 f1 f2 f3
      have q0 := cell_of_row _ _ 0 _ _ _ X1.out
      have q1 := cell_of_row _ _ 1 _ _ _ X1.out
      have y0 := cell_of_row _ _ 0 _ _ _ X2.out
      have y1 := cell_of_row _ _ 1 _ _ _ X2.out
      have y2 := cell_of_row _ _ 2 _ _ _ X2.out
      simp at q0 q1 y0 y1 y2
      have x0 := frozen_of_row _ _ 0 _ _ X2.out
      have x1 := frozen_of_row _ _ 1 _ _ X2.out
      have x2 := frozen_of_row _ _ 2 _ _ X2.out
      have hsl := fun W => head_run (w.heap.size + 1 + 1) (k + 2) (k + 2) k (by omega) W
      go_region
      all_goals
        go_wp2
        have rowE := zero3_row (x := .int .i64 up) (y := .int .i64 ex) (z := .slice (some ⟨w.heap.size + 1 + 1, 0, none⟩) k (k + 2)) X2.out
        refine bodyPost_ret (results_cell_row rfl _ _ (w.heap.size + 1) 78 #[.int .i64 up, .int .i64 ex, .slice (some ⟨w.heap.size + 1 + 1, 0, none⟩) k (k + 2)] (0, 0) _ rfl rowE Tryz.underlying78 rfl (by kernel_rfl)) rfl ?_
        refine ⟨w.heap.size + 1 + 1, by omega, by rw [hk], ?_, (below3 X3.out (by omega)).drew⟩
        obtain ⟨cs', e1, e2, e3, e4, e5⟩ := HE.out
        refine ⟨cs', ⟨?_, by rw [hk]; exact e2, fun i hi hl => e3 i (by omega) hl⟩, by rw [hk]; exact e4, by rw [hk]; exact e5⟩
        exact (heap_setCell_other _ _ _ _ (by simp)).trans ((heap_setCell_other _ _ _ _ (by simp)).trans ((heap_setCell_other _ _ _ _ (by simp)).trans e1))
end Go.Proofs.YtmmkhodaljpjgaaGreatDoor
namespace Go.Proofs.YtmmkhodaljpjgaaGreatDoor
open Go.RowKit
set_option maxRecDepth 100000 in
set_option maxHeartbeats 3200000 in
theorem still_yes (B g : Nat) (up ex : Int) (tv : Value) (ls : List (Int × Int)) (w : World) (hg : B ≤ g) (hH : Handed w g ls) (hT : Held w tv ls) (hn : ls.length ≤ 100000) :
    Calls Tryz.prog 45 #[.agg #[.int .i64 up, .int .i64 ex, .slice (some ⟨g, 0, none⟩) ls.length (ls.length + 2)], .agg #[.int .i64 up, .int .i64 ex, tv]] w fun e w' => e = .returned (.bool true) ∧ Below B w w' := by
  obtain ⟨ta, tc, rfl⟩ : ∃ ao c, tv = .slice ao ls.length c := by
    rcases hT with ⟨rfl, ao, c, rfl⟩ | ⟨_, g, c, rfl, _⟩
    · exact ⟨_, _, rfl⟩
    · exact ⟨_, _, rfl⟩
  have hgl : g < w.heap.size := by obtain ⟨cs, hh, _⟩ := hH; exact lt_of_heap hh.row
  have B1 := hid' (((Below.refl w.heap.size w).alloc (Nat.le_refl _) (.cells #[.int .i64 up, .int .i64 ex, .slice (some ⟨g, 0, none⟩) ls.length (ls.length + 2)] 78)).alloc (by simp) (.cells #[.int .i64 up, .int .i64 ex, .slice ta ls.length tc] 33))
  have R1 := hid' (heap_alloc2_old w (.cells #[.int .i64 up, .int .i64 ex, .slice (some ⟨g, 0, none⟩) ls.length (ls.length + 2)] 78) (.cells #[.int .i64 up, .int .i64 ex, .slice ta ls.length tc] 33))
  have R2 := hid' (heap_alloc2_new w (.cells #[.int .i64 up, .int .i64 ex, .slice (some ⟨g, 0, none⟩) ls.length (ls.length + 2)] 78) (.cells #[.int .i64 up, .int .i64 ex, .slice ta ls.length tc] 33))
  have HSM := hid' (same_yes up ex _ _ ls _ (hH.held.below B1.out) (hT.below B1.out) hn)
  have HH := hid' (hH.below B1.out)
  clear hH hT
  generalize hk : ls.length = k at *
  go_enter Tryz.func45, Tryz.ntmps45
  go_wp2_with fail
  refine HSM.out.mono ?_
  rintro e W ⟨rfl, hb⟩
  obtain ⟨cs, hh, s1, s2⟩ := HH.out.below hb
  rw [hk] at hh s1 s2
  have r1 := (hb.block _ (lt_of_heap R1.out)).trans R1.out
  have bw := hid' (B1.out.trans (hb.mono B1.out.size))
  have q2 := cell_of_row _ _ 2 _ _ _ r1
  simp at q2
  have c0 : W.cell? ⟨g, k * 2, none⟩ = some (.int .i64 (-7)) := by rw [cell_of_row _ _ _ _ _ _ hh.row]; exact s1
  have c1 : W.cell? ⟨g, (k + 1) * 2, none⟩ = some (.int .i64 (-7)) := by rw [cell_of_row _ _ _ _ _ _ hh.row]; exact s2
  have HROW := hid' (⟨cs, hh.row, hh.size⟩ : ∃ cs, W.heap[g]? = some (.cells cs 84 (0, 0)) ∧ cs.size = (k + 2) * 2)
  have hsl := fun V => head_run g k (k + 2) (k + 2) (by omega) V
  have hk2 : (((k + 2 : Nat) : Int)) = (k : Int) + 2 := by omega
  rw [hk2] at hsl
  have BW := hid' (show Below B w W from bw.out.mono (by omega))
  clear hh s1 s2 r1 hb HH HSM R1 R2 B1 hk2 bw
  go_wp2_with fail
  go_loopw [9] (fun i wr => ∃ (j : Nat) (cs : Array Value), j ≤ k ∧ i = .int .i64 j ∧ wr.heap[g]? = some (.cells cs 84 (0, 0)) ∧ cs.size = (k + 2) * 2 ∧ Below B w wr) (fun i _ => k - (intOf i).toNat)
  case atStart =>
    obtain ⟨cs, h, hz⟩ := HROW.out
    exact ⟨0, cs, by omega, rfl, h, hz, BW.out⟩
  case round =>
    clear HROW BW c0 c1 q2
    obtain ⟨j, cs, hj, rfl, hrow, hz, hb⟩ := hrel
    by_cases hlt : j < k
    · obtain ⟨o0, p0⟩ : ∃ v, wr.cell? ⟨g, j * 2, none⟩ = some v := by rw [cell_of_row _ _ (j * 2) _ _ _ hrow, Array.getElem?_eq_getElem (by omega)]; exact ⟨_, rfl⟩
      obtain ⟨o1, p1⟩ : ∃ v, wr.cell? ⟨g, j * 2 + 1, none⟩ = some v := by rw [cell_of_row _ _ (j * 2 + 1) _ _ _ hrow, Array.getElem?_eq_getElem (by omega)]; exact ⟨_, rfl⟩
      have f0 := frozen_of_row _ _ (j * 2) _ _ hrow
      have f1 := frozen_of_row _ _ (j * 2 + 1) _ _ hrow
      have e1 := heap_setCell_same _ g (j * 2) _ _ (.int .i64 (-7)) hrow
      have e2 := hid' (heap_setCell_same _ g (j * 2 + 1) _ _ (.int .i64 0) e1)
      have hb2 := hid' ((hb.setCell (p := ⟨g, j * 2, none⟩) hg (.int .i64 (-7))).setCell (p := ⟨g, j * 2 + 1, none⟩) hg (.int .i64 0))
      have HZ := hid' hz
      clear hrow e1 hb hz
      go_wp2
      go_roundw
      case rel => exact ⟨j + 1, _, by omega, by go_num, e2.out, by simp [HZ.out], hb2.out⟩
      case measure => simp [intOf]; omega
    · have hnl : ¬ (j : Int) < (k : Int) := by omega
      have HB := hid' hb
      clear hrow hb
      go_wp2
      go_ret
      exact ⟨rfl, HB.out⟩
end Go.Proofs.YtmmkhodaljpjgaaGreatDoor
namespace Go.Proofs.YtmmkhodaljpjgaaGreatDoor
open Go.RowKit
/-- All that parsed holds. -/
structure PW (w : World) (up ex : Int) (av tv : Value) (ls : List (Int × Int)) (b4 b7 : Nat) (wx : World) : Prop where
  r : wx.heap[w.heap.size]? = some (.cells #[.int .i64 0, .int .i64 0, .slice none 0 0] 33 (0, 0))
  a : wx.heap[b4]? = some (.cells #[.int .i64 up, .int .i64 ex, av] 78 (0, 0))
  t : wx.heap[b7]? = some (.cells #[.int .i64 up, .int .i64 ex, tv] 33 (0, 0))
  own : wx.ownsRow w.heap.size 46 2 tv ls.length (flat ls)
  bel : Below w.heap.size w wx
theorem PW.below {w wx wy : World} {up ex : Int} {av tv : Value} {ls : List (Int × Int)} {b4 b7 : Nat} (h : PW w up ex av tv ls b4 b7 wx) (hb : Below wx.heap.size wx wy) : PW w up ex av tv ls b4 b7 wy :=
  ⟨(hb.block _ (lt_of_heap h.r)).trans h.r, (hb.block _ (lt_of_heap h.a)).trans h.a, (hb.block _ (lt_of_heap h.t)).trans h.t, own_down h.own hb, h.bel.trans (hb.mono h.bel.size)⟩
theorem PW.set {w wx : World} {up ex : Int} {av tv : Value} {ls : List (Int × Int)} {b4 b7 g : Nat} {cs : Array Value} (h : PW w up ex av tv ls b4 b7 wx) (hg : wx.heap[g]? = some (.cells cs 84 (0, 0))) (h0 : w.heap.size ≤ g) (j : Nat) (v : Value) :
    PW w up ex av tv ls b4 b7 (wx.setCell ⟨g, j, none⟩ v) := by
  have n1 : w.heap.size ≠ g := fun e => by have := h.r; rw [e, hg] at this; simp at this
  have n2 : b4 ≠ g := fun e => by have := h.a; rw [e, hg] at this; simp at this
  have n3 : b7 ≠ g := fun e => by have := h.t; rw [e, hg] at this; simp at this
  exact ⟨(heap_setCell_other _ _ _ _ n1).trans h.r, (heap_setCell_other _ _ _ _ n2).trans h.a, (heap_setCell_other _ _ _ _ n3).trans h.t, own_set (p := ⟨g, j, none⟩) h.own hg (by decide) v, h.bel.setCell (p := ⟨g, j, none⟩) h0 v⟩
end Go.Proofs.YtmmkhodaljpjgaaGreatDoor
namespace Go.Proofs.YtmmkhodaljpjgaaGreatDoor
open Go.RowKit
namespace Txt
/-- A number's digits, as bytes. -/
def db (n : Int) : ByteArray := ⟨(dec n.toNat).toArray⟩
theorem dec_ten (n : Nat) (k : Nat) (h : n < 10 ^ (k + 1)) : (dec n).length ≤ k + 1 := by
  induction k generalizing n with
  | zero => rw [dec_low n (by omega)]; simp
  | succ k ih =>
    by_cases c : 9 < n
    · rw [dec_up n c, List.length_append]
      have := ih (n / 10) (by rw [Nat.pow_succ] at h; omega)
      simp; omega
    · rw [dec_low n c]; simp
theorem db_size (n : Int) (h : n < 1000000000000) : (db n).size ≤ 12 := by
  have := dec_ten n.toNat 11 (by omega)
  show (dec n.toNat).toArray.size ≤ 12
  simpa using this
def head (u x : Int) : ByteArray := ⟨#[35, 36, 32]⟩ ++ db u ++ ⟨#[10, 35, 64, 32]⟩ ++ db x ++ ⟨#[10]⟩
/-- One entry's line. -/
def eline (p : Int × Int) : ByteArray := db p.1 ++ ⟨#[32]⟩ ++ db p.2 ++ ⟨#[10]⟩
def prTo (u x : Int) (ls : List (Int × Int)) : Nat → ByteArray
  | 0 => head u x
  | k + 1 => prTo u x ls k ++ eline (ls.getD k (0, 0))
def dgTo (u x : Int) (ls : List (Int × Int)) : Nat → ByteArray
  | 0 => db u ++ db x
  | k + 1 => dgTo u x ls k ++ (db (ls.getD k (0, 0)).1 ++ db (ls.getD k (0, 0)).2)
def hlTo (h : ByteArray) : Nat → ByteArray
  | 0 => ⟨#[35, 104]⟩
  | k + 1 => hlTo h k ++ (⟨#[32]⟩ ++ h.extract (k * 8) (k * 8 + 8))
def hl (h : ByteArray) : ByteArray := hlTo h 5 ++ ⟨#[10]⟩
/-- The digest of all that is printed of a table. -/
def dgst (u x : Int) (ls : List (Int × Int)) : ByteArray := ⟨(Sha.digest (dgTo u x ls ls.length)).toArray⟩
/-- The file. -/
def print (u x : Int) (ls : List (Int × Int)) : ByteArray := prTo u x ls ls.length ++ hl (dgst u x ls)
theorem digest_size (s : ByteArray) : (ByteArray.mk (Sha.digest s).toArray).size = 40 := by
  show (Sha.digest s).toArray.size = 40
  unfold Sha.digest
  simp [Sha.St.text_length]
theorem size_app (a b : ByteArray) : (a ++ b).size = a.size + b.size := ByteArray.size_append
theorem head_size {u x : Int} (hu : u < 1000000000000) (hx : x < 1000000000000) : (head u x).size ≤ 32 := by
  have a := db_size u hu
  have b := db_size x hx
  unfold head
  rw [size_app, size_app, size_app, size_app]
  have c1 : (ByteArray.mk #[35, 36, 32]).size = 3 := rfl
  have c2 : (ByteArray.mk #[10, 35, 64, 32]).size = 4 := rfl
  have c3 : (ByteArray.mk #[10]).size = 1 := rfl
  omega
theorem eline_size {p : Int × Int} (h1 : p.1 < 1000000000000) (h2 : p.2 < 1000000000000) : (eline p).size ≤ 26 := by
  have a := db_size _ h1
  have b := db_size _ h2
  unfold eline
  rw [size_app, size_app, size_app]
  have c1 : (ByteArray.mk #[32]).size = 1 := rfl
  have c3 : (ByteArray.mk #[10]).size = 1 := rfl
  omega
theorem prTo_size {u x : Int} {ls : List (Int × Int)} (hu : u < 1000000000000) (hx : x < 1000000000000) (hl : ∀ i, (ls.getD i (0, 0)).1 < 1000000000000 ∧ (ls.getD i (0, 0)).2 < 1000000000000) (k : Nat) : (prTo u x ls k).size ≤ 32 + 26 * k := by
  induction k with
  | zero => exact head_size hu hx
  | succ k ih => rw [prTo, size_app]; have := eline_size (hl k).1 (hl k).2; omega
theorem dgTo_size {u x : Int} {ls : List (Int × Int)} (hu : u < 1000000000000) (hx : x < 1000000000000) (hl : ∀ i, (ls.getD i (0, 0)).1 < 1000000000000 ∧ (ls.getD i (0, 0)).2 < 1000000000000) (k : Nat) : (dgTo u x ls k).size ≤ 24 + 24 * k := by
  induction k with
  | zero => rw [dgTo, size_app]; have := db_size u hu; have := db_size x hx; omega
  | succ k ih => rw [dgTo, size_app, size_app]; have := db_size _ (hl k).1; have := db_size _ (hl k).2; omega
theorem hlTo_size (h : ByteArray) (k : Nat) : (hlTo h k).size ≤ 2 + 9 * k := by
  induction k with
  | zero => exact Nat.le_refl _
  | succ k ih =>
    rw [hlTo, size_app, size_app, ByteArray.size_extract]
    have c1 : (ByteArray.mk #[32]).size = 1 := rfl
    omega
end Txt
end Go.Proofs.YtmmkhodaljpjgaaGreatDoor
namespace Go.Proofs
open Go.Shelf
shelf_lay LaysM.n171 Nm 171 at Tryz as Tryz.laysItoa
end Go.Proofs
namespace Go.Proofs.YtmmkhodaljpjgaaGreatDoor
open Go.RowKit
/-- The powers of ten, as they were laid. -/
def Pows (w : World) : Prop := Lib.TabIs Tryz.prog w "internal/strconv.uint64pow10" .u64 Lib.pow10Tab
theorem Pows.below {w w' : World} (h : Pows w) (hb : Below w.heap.size w w') : Pows w' := Lib.tabBelow_of_tabIs h w' hb
theorem dec_itoa (n : Nat) : Lib.decDigits n = Txt.dec n := by
  induction n using Nat.strongRecOn with
  | _ n ih =>
    rw [Lib.decDigits]
    by_cases h : n < 10
    · rw [dif_pos h, Txt.dec_low n (by omega)]
    · rw [dif_neg h, Txt.dec_up n (by omega), ih (n / 10) (by omega)]
theorem itoa_any (n : Nat) (w : World) (hn : n ≤ 1000000000000) (hP : Pows w) :
    Calls Tryz.prog 128 #[.int .i64 n] w fun e w' => e = .returned (.string ⟨(Txt.dec n).toArray⟩) ∧ Below w.heap.size w w' := by
  refine (Any.strconv_Itoa Tryz.laysItoa (n : Int) (by omega) (by omega) w hP).mono ?_
  rintro e w' ⟨rfl, k, os, rfl⟩
  refine ⟨?_, ?_⟩
  · have : Lib.itoa (n : Int) = Txt.dec n := by
      unfold Lib.itoa
      rw [if_neg (by omega), Int.toNat_natCast, dec_itoa]
    rw [this]
  · exact (below_drewN (Below.refl w.heap.size w) k).trans ⟨rfl, rfl, rfl, by simp, fun j hj => Sort.heap_grow_old _ _ hj⟩
end Go.Proofs.YtmmkhodaljpjgaaGreatDoor
namespace Go.Proofs.YtmmkhodaljpjgaaGreatDoor
open Go.RowKit
set_option maxRecDepth 100000 in
theorem hash_line (h : ByteArray) (w : World) (hs : h.size = 40) :
    Calls Tryz.prog 129 #[.string h] w fun e w' => e = .returned (.string (Txt.hl h)) ∧ w' = w := by
  have H : Hid (Txt.hl h = Txt.hlTo h 5 ++ ⟨#[10]⟩) := rfl
  go_enter Tryz.func129, Tryz.ntmps129
  go_wp2
  go_loop [3, 4] (fun l i => ∃ k : Nat, k ≤ 5 ∧ i = .int .i64 ((k * 8 : Nat) : Int) ∧ l = .string (Txt.hlTo h k)) (fun _ i => 40 - (intOf i).toNat)
  case atStart => exact ⟨0, by omega, rfl, rfl⟩
  case round =>
    obtain ⟨k, hk, rfl, rfl⟩ := hrel
    have hz := Txt.hlTo_size h k
    by_cases hlt : k < 5
    · obtain ⟨b, hb⟩ : ∃ b, k * 8 = b := ⟨_, rfl⟩
      have HK : Hid (Txt.hlTo h (k + 1) = Txt.hlTo h k ++ (⟨#[32]⟩ ++ h.extract b (b + 8))) := by show _ = _; rw [Txt.hlTo, hb]
      rw [hb]
      have HB := hid' hb
      have hb8 : b + 8 ≤ 40 := by omega
      have hx : (h.extract b (b + 8)).size ≤ 8 := by rw [ByteArray.size_extract]; omega
      clear hb
      generalize Txt.hlTo h k = l at *
      go_wp2
      exact ⟨⟨k + 1, by omega, by have := HB.out; go_num; try omega, by rw [HK.out]⟩, by simp [intOf]; omega⟩
    · have ek : k = 5 := by omega
      subst ek
      generalize Txt.hlTo h 5 = l at *
      go_wp2
      go_ret
      exact ⟨ret_str H.out.symm, rfl⟩
end Go.Proofs.YtmmkhodaljpjgaaGreatDoor
namespace Go.Proofs.YtmmkhodaljpjgaaGreatDoor
open Go.RowKit
theorem held_below {w w' : World} {lv : Value} {ls : List (Int × Int)} (h : Held w lv ls) (hb : Below w.heap.size w w') : Held w' lv ls := by
  rcases h with h | ⟨h3, g, cap, rfl, hcap, hgl, hlies⟩
  · exact .inl h
  · exact .inr ⟨h3, g, cap, rfl, hcap, by have := hb.size; omega, hlies.below hgl hb⟩
theorem itoa_int (n : Int) (w : World) (h0 : 0 ≤ n) (hn : n ≤ 1000000000000) (hP : Pows w) :
    Calls Tryz.prog 128 #[.int .i64 n] w fun e w' => e = .returned (.string (Txt.db n)) ∧ Below w.heap.size w w' := by
  obtain ⟨m, rfl⟩ := Int.eq_ofNat_of_zero_le h0
  exact itoa_any m w (by omega) hP
theorem Tab.whole_bd {up ex : Int} {ls : List (Int × Int)} (h : Tab.whole up ex ls = true) : 0 ≤ up ∧ up < ex ∧ ex ≤ 34000000000 := by
  unfold Tab.whole at h
  simp only [Bool.and_eq_true, decide_eq_true_eq] at h
  exact ⟨h.1, h.2.1, h.2.2.1⟩
theorem Fine.getD {ls : List (Int × Int)} (h : Fine ls) (i : Nat) : (0 ≤ (ls.getD i (0, 0)).1 ∧ (ls.getD i (0, 0)).1 ≤ 34712668800) ∧ (0 ≤ (ls.getD i (0, 0)).2 ∧ (ls.getD i (0, 0)).2 ≤ 200) := by
  by_cases c : i < ls.length
  · rw [getD_at i c]; exact h _ (List.getElem_mem c)
  · rw [List.getD_eq_getElem?_getD, List.getElem?_eq_none (by omega)]; simp
theorem ret_str_num {a b : ByteArray} {n : Int} (h : a = b) : Ending.returned (.tuple #[.string a, .int .i64 n]) = .returned (.tuple #[.string b, .int .i64 n]) := by rw [h]
set_option maxRecDepth 100000 in
set_option maxHeartbeats 1000000 in
theorem file_print_no (lv : Value) (ls : List (Int × Int)) (up ex : Int) (w : World) (wu : (Lit.int .i64 up).wf = true) (wx : (Lit.int .i64 ex).wf = true)
    (hv : Held w lv ls) (hn : ls.length ≤ 100000) (hwf : ∀ p ∈ ls, WfP p) (hwh : Tab.whole up ex ls = false) :
    Calls Tryz.prog 80 #[.agg #[.int .i64 up, .int .i64 ex, lv]] w fun e w' =>
      e = .returned (.tuple #[.string ⟨#[]⟩, .int .i64 8]) ∧ Below w.heap.size w w' := by
  have HBel := hid' ((Below.refl w.heap.size w).alloc (Nat.le_refl _) (.cells #[.int .i64 up, .int .i64 ex, lv] 78))
  have HW := hid' (is_table lv ls up ex (w.alloc (.cells #[.int .i64 up, .int .i64 ex, lv] 78)) wu wx (held_below hv HBel.out) hn hwf)
  rw [hwh] at HW
  clear hwh hv wu wx hwf hn
  go_enter Tryz.func80, Tryz.ntmps80
  go_wp2_with (go_at_call 127; refine HW.out.mono ?_; rintro e w1 ⟨rfl, hb1⟩; have HB1 := hid' hb1; clear hb1)
  go_ret2
  exact ⟨rfl, HBel.out.trans (HB1.out.mono HBel.out.size)⟩
set_option maxRecDepth 100000 in
set_option maxHeartbeats 2000000 in
theorem file_print_yes (lv : Value) (ls : List (Int × Int)) (up ex : Int) (w : World) (wu : (Lit.int .i64 up).wf = true) (wx : (Lit.int .i64 ex).wf = true)
    (hv : Held w lv ls) (hn : ls.length ≤ 100000) (hwf : ∀ p ∈ ls, WfP p) (hwh : Tab.whole up ex ls = true) (hT : Table w) (hP : Pows w) :
    Calls Tryz.prog 80 #[.agg #[.int .i64 up, .int .i64 ex, lv]] w fun e w' =>
      e = .returned (.tuple #[.string (Txt.print up ex ls), .int .i64 0]) ∧ Below w.heap.size w w' := by
  have HBel := hid' ((Below.refl w.heap.size w).alloc (Nat.le_refl _) (.cells #[.int .i64 up, .int .i64 ex, lv] 78))
  have HW := hid' (is_table lv ls up ex (w.alloc (.cells #[.int .i64 up, .int .i64 ex, lv] 78)) wu wx (held_below hv HBel.out) hn hwf)
  have HROW := hid' (heap_alloc_new w (.cells #[.int .i64 up, .int .i64 ex, lv] 78))
  rw [hwh] at HW
  have hG := Tab.good_of_whole hwh
  have hpos := hG.pos
  have hlen := hG.len
  obtain ⟨hu0, hux, hx0⟩ := Tab.whole_bd hwh
  have HF := hid' hG.fine.getD
  clear hwh hwf hG wu wx hn
  have HT := hid' hT
  have HP := hid' hP
  clear hT hP
  rcases hv with ⟨rfl, _⟩ | ⟨_, g, cap, rfl, hcap, hgl, hlies⟩
  · simp at hpos
  have HLies := hid' hlies
  clear hlies
  have hsu := Txt.db_size up (by omega)
  have hsx := Txt.db_size ex (by omega)
  have IU := hid' (fun w' h => itoa_int up w' hu0 (by omega) h)
  have IX := hid' (fun w' h => itoa_int ex w' (by omega) (by omega) h)
  have HH : Hid (Txt.head up ex = ⟨#[35, 36, 32]⟩ ++ Txt.db up ++ ⟨#[10, 35, 64, 32]⟩ ++ Txt.db ex ++ ⟨#[10]⟩) := rfl
  have HD0 : Hid (Txt.dgTo up ex ls 0 = Txt.db up ++ Txt.db ex) := rfl
  have HZ := hid' (fun k => Txt.prTo_size (u := up) (x := ex) (ls := ls) (by omega) (by omega) (fun i => by have := HF.out i; omega) k)
  have HZD := hid' (fun k => Txt.dgTo_size (u := up) (x := ex) (ls := ls) (by omega) (by omega) (fun i => by have := HF.out i; omega) k)
  generalize Txt.db up = su at *
  generalize Txt.db ex = sx at *
  go_enter Tryz.func80, Tryz.ntmps80
  go_wp2_with fail
  refine HW.out.mono ?_
  rintro e w1 ⟨rfl, hb1⟩
  have HB1 := hid' (HBel.out.trans (hb1.mono HBel.out.size))
  have HR1 := hid' ((hb1.block _ (lt_of_heap HROW.out)).trans HROW.out)
  clear hb1
  have t0 := cell_of_row _ _ 0 _ _ _ HR1.out
  simp at t0
  go_wp2_with fail
  refine (IU.out w1 (HP.out.below HB1.out)).mono ?_
  clear t0
  rintro e w2 ⟨rfl, hb2⟩
  have HB2 := hid' (HB1.out.trans (hb2.mono HB1.out.size))
  have HR2 := hid' ((hb2.block _ (lt_of_heap HR1.out)).trans HR1.out)
  clear hb2
  have t1 := cell_of_row _ _ 1 _ _ _ HR2.out
  simp at t1
  go_wp2_with fail
  refine (IX.out w2 (HP.out.below HB2.out)).mono ?_
  clear t1
  rintro e w3 ⟨rfl, hb3⟩
  have HB3 := hid' (HB2.out.trans (hb3.mono HB2.out.size))
  have HR3 := hid' ((hb3.block _ (lt_of_heap HR2.out)).trans HR2.out)
  clear hb3
  go_wp2
  go_loopw [6, 7, 8, 9, 10] (fun t d i _ _ wr => ∃ k : Nat, k ≤ ls.length ∧ i = .int .i64 k ∧ t = .string (Txt.prTo up ex ls k) ∧ d = .string (Txt.dgTo up ex ls k) ∧ Below w.heap.size w wr ∧ wr.heap[w.heap.size]? = some (.cells #[.int .i64 up, .int .i64 ex, .slice (some ⟨g, 0, none⟩) ls.length cap] 78 (0, 0))) (fun _ _ i _ _ _ => ls.length - (intOf i).toNat)
  case atStart => exact ⟨0, by omega, rfl, by rw [Txt.prTo, HH.out], by rw [HD0.out], HB3.out, HR3.out⟩
  case round =>
    obtain ⟨k, hk, rfl, rfl, rfl, hb, hr⟩ := hrel
    have HB := hid' hb
    have HR := hid' hr
    clear hb hr
    have hz := HZ.out k
    have hzd := HZD.out k
    have t2 := cell_of_row _ _ 2 _ _ _ HR.out
    simp at t2
    by_cases hlt : k < ls.length
    · have hcell := HLies.out k hlt
      have hf := HF.out k
      have HN : Hid (Txt.prTo up ex ls (k + 1) = Txt.prTo up ex ls k ++ (Txt.db ls[k].1 ++ ⟨#[32]⟩ ++ Txt.db ls[k].2 ++ ⟨#[10]⟩)) := by show _ = _; rw [Txt.prTo, getD_at k hlt]; rfl
      have HND : Hid (Txt.dgTo up ex ls (k + 1) = Txt.dgTo up ex ls k ++ (Txt.db ls[k].1 ++ Txt.db ls[k].2)) := by show _ = _; rw [Txt.dgTo, getD_at k hlt]
      rw [getD_at k hlt] at hf
      generalize ls[k] = p at *
      obtain ⟨pa, po⟩ := p
      simp only at hcell hf HN HND
      have hsa := Txt.db_size pa (by omega)
      have hso := Txt.db_size po (by omega)
      have IA := hid' (fun w' h => itoa_int pa w' hf.1.1 (by omega) h)
      have IO := hid' (fun w' h => itoa_int po w' hf.2.1 (by omega) h)
      generalize Txt.db pa = sa at *
      generalize Txt.db po = so at *
      generalize Txt.prTo up ex ls k = pt at *
      generalize Txt.dgTo up ex ls k = dt at *
      have HC := hid' hcell
      have hc := (HB.out.cell (p := ⟨g, k * 2, none⟩) hgl).trans hcell.1
      clear hcell
      go_wp2_with fail
      refine (IA.out _ (HP.out.below HB.out)).mono ?_
      clear hc t2
      rintro e w4 ⟨rfl, hb4⟩
      have HB4 := hid' (HB.out.trans (hb4.mono HB.out.size))
      have HR4 := hid' ((hb4.block _ (lt_of_heap HR.out)).trans HR.out)
      clear hb4
      have t2 := cell_of_row _ _ 2 _ _ _ HR4.out
      simp at t2
      have hc := (HB4.out.cell (p := ⟨g, k * 2 + 1, none⟩) hgl).trans HC.out.2
      go_wp2_with fail
      refine (IO.out _ (HP.out.below HB4.out)).mono ?_
      clear hc t2
      rintro e w5 ⟨rfl, hb5⟩
      have HB5 := hid' (HB4.out.trans (hb5.mono HB4.out.size))
      have HR5 := hid' ((hb5.block _ (lt_of_heap HR4.out)).trans HR4.out)
      clear hb5
      go_wp2
      go_roundw
      case rel => exact ⟨k + 1, by omega, by go_num, by rw [HN.out], by rw [HND.out], HB5.out, HR5.out⟩
      case measure => simp [intOf]; omega
    · have ek : k = ls.length := by omega
      subst ek
      have HPR : Hid (Txt.print up ex ls = Txt.prTo up ex ls ls.length ++ Txt.hl (Txt.dgst up ex ls)) := rfl
      have HDG : Hid (Txt.dgst up ex ls = ⟨(Sha.digest (Txt.dgTo up ex ls ls.length)).toArray⟩) := rfl
      have hds := Txt.digest_size (Txt.dgTo up ex ls ls.length)
      rw [← HDG.out] at hds
      have OFF := hid' (fun w' h => of_any (Txt.dgTo up ex ls ls.length) w' (by omega) h)
      rw [← HDG.out] at OFF
      have HLN := hid' (fun w' => hash_line (Txt.dgst up ex ls) w' hds)
      have hhl := Txt.hlTo_size (Txt.dgst up ex ls) 5
      have hhz : (Txt.hl (Txt.dgst up ex ls)).size ≤ 48 := by
        rw [Txt.hl, Txt.size_app]; have : (ByteArray.mk #[10]).size = 1 := rfl
        omega
      clear hhl HDG
      generalize Txt.prTo up ex ls ls.length = pt at *
      generalize Txt.dgTo up ex ls ls.length = dt at *
      generalize Txt.dgst up ex ls = dg at *
      generalize Txt.hl dg = hh at *
      go_wp2_with fail
      refine (OFF.out _ (HT.out.below HB.out)).mono ?_
      clear t2
      rintro e w4 ⟨rfl, hb4⟩
      have HB4 := hid' (HB.out.trans (hb4.mono HB.out.size))
      clear hb4
      go_wp2_with fail
      refine (HLN.out _).mono ?_
      rintro e w5 ⟨rfl, rfl⟩
      go_wp2
      go_ret2
      exact ⟨ret_str_num HPR.out.symm, HB4.out⟩
end Go.Proofs.YtmmkhodaljpjgaaGreatDoor
