import Derived.Test.YtmmkhodaljpjgabGreatDoorW20
namespace Go.Proofs.YtmmkhodaljpjgabGreatDoor
open Go.RowKit
attribute [local go_sem ↓] Go.wp_at_zero Go.wp_at_succ
set_option maxRecDepth 100000 in
set_option maxHeartbeats 6400000 in
theorem srv_hear (b : Nat) (s : Sv) (dv cv : Value) (op : Bool) (bs bf src leap : Int) (w : World) (h : PRow b s dv cv op bs bf w) (ho : Opn s op bs bf) (hI : s.Inv) :
    Calls Tryz.prog 36 #[.pointer (some ⟨b, 0, none⟩), .int .i64 src, .int .i64 leap] w fun e w' => e = .returned (.int .i64 (s.hear src leap).1) ∧ PPost b (pFoot b dv cv) w (s.hear src leap).2 w' := by
  have HP := hid' h
  have HO := hid' ho
  have HI := hid' hI
  have HH : Hid (s.hear src leap = if src < 0 ∨ (s.said.length : Int) ≤ src then (13, s) else if leap < 0 ∨ 3 < leap then (14, s) else (0, (s.says src.toNat leap).weigh)) := rfl
  have c2 := h.c2
  have sl := h.sl
  have VI := hid' (fun W => v_is leap W)
  generalize s.hear src leap = ad at *
  clear h ho hI
  by_cases a1 : src < 0
  · have H : Hid (ad = (13, s)) := by show _ = _; rw [HH.out, if_pos (.inl a1)]
    go_enter Tryz.func36, Tryz.ntmps36
    go_wp2
    go_ret
    rw [H.out]
    exact ⟨rfl, DueP.post ⟨dv, cv, op, bs, bf, HP.out, HO.out, Off.refl _ _, fun j q => .inl q⟩⟩
  · by_cases a2 : (s.said.length : Int) ≤ src
    · have H : Hid (ad = (13, s)) := by show _ = _; rw [HH.out, if_pos (.inr a2)]
      go_enter Tryz.func36, Tryz.ntmps36
      go_wp2
      go_ret
      rw [H.out]
      exact ⟨rfl, DueP.post ⟨dv, cv, op, bs, bf, HP.out, HO.out, Off.refl _ _, fun j q => .inl q⟩⟩
    · by_cases a3 : 0 ≤ leap ∧ leap ≤ 3
      · obtain ⟨k, rfl⟩ : ∃ k : Nat, src = (k : Int) := ⟨src.toNat, by omega⟩
        have hk : k < s.said.length := by omega
        have e1 : (decide (0 ≤ leap) && decide (leap ≤ 3)) = true := by rw [decide_eq_true a3.1, decide_eq_true a3.2]; rfl
        rw [e1] at VI
        have H : Hid (ad = (0, (s.says k leap).weigh)) := by show _ = _; rw [HH.out, if_neg (by omega), if_neg (by omega), Int.toNat_natCast]
        have VH := hid' (fun (W : World) (hb : Below w.heap.size w W) => v_hear b s dv cv op bs bf leap k W (HP.out.below hb) hk)
        have c4 := HP.out.c4
        have c5 := HP.out.c5
        have HSN := hid' (Sv.says_num HI.out.num k leap a3.1 a3.2)
        clear HH a1 a3 e1
        go_enter Tryz.func36, Tryz.ntmps36
        go_wp2_with fail
        refine (VI.out _).mono ?_
        rintro e w1 ⟨rfl, hw1⟩
        subst w1
        go_wp2_with fail
        go_region_with (go_at_call 54; refine (VH.out _ (by exact (Below.refl _ _).drew)).mono ?_; rintro e w2 ⟨rfl, pr2, of2⟩; have PR2 := hid' pr2; have OF2 := hid' ((Off.of_below (F := pFoot b dv cv) ((Below.refl w.heap.size w).drew)).trans of2 (fun _ _ q => q)); clear pr2 of2)
        all_goals
          have LA := hid' (look_around b (s.says k leap) dv cv op bs bf w2 PR2.out (HO.out.says k leap) HSN.out (fun e => Sv.says_mid (HI.out.mid e) k leap) (fun e => by have := HI.out.ex e; exact ⟨by show 0 ≤ s.ex; omega, by show s.ex ≤ _; omega⟩))
          clear c2 c4 c5
          go_wp2_with fail
          refine LA.out.mono ?_
          rintro e w3 ⟨rfl, F3, ps, of, ff⟩
          have PSH := hid' ps
          have OF := hid' of
          have FF := hid' ff
          clear ps of ff LA
          go_wp2
          go_ret
          rw [H.out]
          have sz := OF2.out.size
          refine ⟨rfl, F3, PSH.out, OF2.out.trans OF.out (fun _ _ q => q), fun j q => ?_⟩
          rcases FF.out j q with z | z
          · exact .inl z
          · exact .inr (by omega)
      · have e1 : (decide (0 ≤ leap) && decide (leap ≤ 3)) = false := by
          by_cases z : 0 ≤ leap
          · rw [decide_eq_false (show ¬ leap ≤ 3 from fun q => a3 ⟨z, q⟩), Bool.and_false]
          · rw [decide_eq_false z, Bool.false_and]
        rw [e1] at VI
        have H : Hid (ad = (14, s)) := by show _ = _; rw [HH.out, if_neg (by omega), if_pos (by omega)]
        clear HH a3 e1
        go_enter Tryz.func36, Tryz.ntmps36
        go_wp2_with fail
        refine (VI.out _).mono ?_
        rintro e w1 ⟨rfl, hw1⟩
        subst w1
        go_wp2
        go_ret
        rw [H.out]
        exact ⟨rfl, DueP.post ⟨dv, cv, op, bs, bf, HP.out, HO.out, Off.refl _ _, fun j q => .inl q⟩⟩
set_option maxRecDepth 100000 in
theorem p_hear (s : Sv) (src leap : Int) (hI : s.Inv) : PDoes PS 23 (fun q => #[.pointer (some ⟨q, 0, none⟩), .int .i64 src, .int .i64 leap]) s (s.hear src leap).2 (s.hear src leap).1 (fun _ => True) := by
  intro b F w hp _
  obtain ⟨dv, cv, op, bs, bf, r, o, f⟩ := hp
  have SA := hid' (fun (W : World) (hb : Below w.heap.size w W) => srv_hear b s dv cv op bs bf src leap W (r.below hb) o hI)
  have HF := hid' f
  clear r o f hI
  go_enter Tryz.func23, Tryz.ntmps23
  go_wp2_with fail
  refine (SA.out _ (Below.refl _ _)).mono ?_
  rintro e w1 ⟨rfl, F', ps, of, ff⟩
  have PSH := hid' ps
  have OF := hid' of
  have FF := hid' ff
  clear ps of ff
  go_wp2
  go_ret
  refine ⟨rfl, F', PSH.out, OF.out.mono (fun k _ e => (HF.out k).2 e), fun k e => ?_⟩
  rcases FF.out k e with z | z
  · exact .inl ((HF.out k).2 z)
  · exact .inr z
end Go.Proofs.YtmmkhodaljpjgabGreatDoor
namespace Go.Proofs.YtmmkhodaljpjgabGreatDoor
open Go.RowKit
attribute [local go_sem ↓] Go.wp_at_zero Go.wp_at_succ
set_option maxRecDepth 100000 in
set_option maxHeartbeats 6400000 in
theorem srv_advance (b : Nat) (s : Sv) (dv cv : Value) (op : Bool) (bs bf x y : Int) (w : World) (h : PRow b s dv cv op bs bf w) (ho : Opn s op bs bf) (hI : s.Inv) :
    Calls Tryz.prog 37 #[.pointer (some ⟨b, 0, none⟩), .agg #[.int .i64 x, .int .i64 y]] w fun e w' => e = .returned (.int .i64 (s.adv x y).1) ∧ PPost b (pFoot b dv cv) w (s.adv x y).2 w' := by
  have B0 := hid' ((Below.refl w.heap.size w).alloc (Nat.le_refl _) (.cells #[.int .i64 x, .int .i64 y] 33))
  have R0 := hid' (heap_alloc_new w (.cells #[.int .i64 x, .int .i64 y] 33))
  have P0 := hid' (h.below B0.out)
  have SU := hid' (fun W => clk_sum s.ns s.nf x y W hI.num.t)
  have HCS : Hid (clkSum s.ns s.nf x y = if isT x y = false then ((0, 0), false) else if isT (tSum s.ns s.nf x y).1 (tSum s.ns s.nf x y).2 = false then ((0, 0), false) else (tSum s.ns s.nf x y, true)) := rfl
  have HAD : Hid (s.adv x y = if isT x y = false then (9, s) else if isT (tSum s.ns s.nf x y).1 (tSum s.ns s.nf x y).2 = false then (9, s) else (0, (s.at' (tSum s.ns s.nf x y).1 (tSum s.ns s.nf x y).2).weigh)) := rfl
  have HLT := hid' (fun h => tSum_later (a := s.ns) (b := s.nf) (s := x) (f := y) h hI.num.t)
  have HI := hid' hI
  have HO := hid' ho
  have HP := hid' h
  generalize s.adv x y = ad at *
  generalize clkSum s.ns s.nf x y = cs at *
  obtain ⟨⟨c1, c2⟩, ok⟩ := cs
  simp only at SU
  clear h ho hI
  go_enter Tryz.func37, Tryz.ntmps37
  go_upto_region 1 with fail
  generalize hV : w.alloc (.cells #[.int .i64 x, .int .i64 y] 33) = V at *
  generalize hQ : w.heap.size = Q at *
  clear hV
  have q2 := P0.out.c4
  have q3 := P0.out.c5
  have d0 := cell_of_row _ _ 0 _ _ _ R0.out
  have d1 := cell_of_row _ _ 1 _ _ _ R0.out
  have lb := lt_of_heap P0.out.row
  have lq := lt_of_heap R0.out
  simp at d0 d1
  go_cut [5, 6] from 7 (fun s5 s6 wx => s6 = .bool ok ∧ ∃ q, s5 = .pointer (some ⟨q, 0, none⟩) ∧ Below V.heap.size V wx ∧ wx.heap[q]? = some (.cells #[.int .i64 c1, .int .i64 c2] 33 (0, 0)))
  case first =>
    go_region_with (go_at_call 55; refine (SU.out _).mono ?_; rintro e w1 ⟨rfl, hb1⟩; (try (have hrow := (hb1.block V.heap.size (by exact Nat.lt_of_lt_of_eq (Nat.lt_succ_self _) (alloc_sz V (.cells #[.int .i64 0, .int .i64 0] 33)).symm)).trans (heap_alloc_new V.drew (.cells #[.int .i64 0, .int .i64 0] 33)); have z0 := cell_of_row _ _ 0 _ _ _ hrow; have z1 := cell_of_row _ _ 1 _ _ _ hrow; have zf0 := frozen_of_row _ _ 0 _ _ hrow; have zf1 := frozen_of_row _ _ 1 _ _ hrow; simp at z0 z1; have HROW := hid' hrow; clear hrow)); have HB1 := hid' hb1; clear hb1)
    all_goals
      go_wp2_with fail
      go_meet
      case rel =>
        first
          | exact ⟨rfl, _, rfl, ((Below.refl _ _).drew.trans HB1.out).alloc (by exact HB1.out.size) _, by exact heap_alloc_new _ _⟩
          | exact ⟨rfl, _, rfl, ((((Below.refl V.heap.size V).drew.alloc (Nat.le_refl _) (.cells #[.int .i64 0, .int .i64 0] 33)).trans (HB1.out.mono (by exact Nat.le_of_lt (Nat.lt_of_lt_of_eq (Nat.lt_succ_self _) (alloc_sz V (.cells #[.int .i64 0, .int .i64 0] 33)).symm)))).setCell (p := ⟨V.heap.size, 0, none⟩) (Nat.le_refl _) _).setCell (p := ⟨V.heap.size, 1, none⟩) (Nat.le_refl _) _, by exact two_row HROW.out⟩
  case rest =>
    obtain ⟨rfl, q, rfl, bel, qrow⟩ := hcut
    rename World => W1
    have BW := hid' (B0.out.trans (bel.mono (by have := B0.out.size; omega)))
    have P1 := hid' (P0.out.below bel)
    have QR := hid' qrow
    clear bel q2 q3 d0 d1
    cases ok with
    | false =>
      have hne : Hid (ad = (9, s)) := by
        show _ = _
        rw [HAD.out]
        by_cases z1 : isT x y = false
        · rw [if_pos z1]
        · rw [if_neg z1]
          by_cases z2 : isT (tSum s.ns s.nf x y).1 (tSum s.ns s.nf x y).2 = false
          · rw [if_pos z2]
          · have := HCS.out
            rw [if_neg z1, if_neg z2] at this
            cases this
      clear qrow
      go_wp2
      go_ret
      rw [hne.out]
      exact ⟨rfl, pFoot b dv cv, ⟨dv, cv, op, bs, bf, P1.out, HO.out, fun k => Iff.rfl⟩, Off.of_below (by rw [hQ]; exact BW.out), fun k e => .inl e⟩
    | true =>
      have hyes : Hid (tLater s.ns s.nf c1 c2 = false ∧ isT c1 c2 = true ∧ ad = (0, (s.at' c1 c2).weigh)) := by
        show _ ∧ _
        by_cases z1 : isT x y = false
        · have := HCS.out
          rw [if_pos z1] at this
          cases this
        · by_cases z2 : isT (tSum s.ns s.nf x y).1 (tSum s.ns s.nf x y).2 = false
          · have := HCS.out
            rw [if_neg z1, if_pos z2] at this
            cases this
          · have e := HCS.out
            rw [if_neg z1, if_neg z2] at e
            have ea := HAD.out
            rw [if_neg z1, if_neg z2] at ea
            have l := HLT.out (by simpa using z1)
            have t := z2
            have e' : tSum s.ns s.nf x y = (c1, c2) := (Prod.mk.inj e).1.symm
            rw [e'] at ea l t
            exact ⟨l, by simpa using t, ea⟩
      have o0 := cell_of_row _ _ 0 _ _ _ qrow
      have o1 := cell_of_row _ _ 1 _ _ _ qrow
      have g2 := P1.out.c4
      have g3 := P1.out.c5
      have f2 := frozen_of_row _ _ 4 _ _ P1.out.row
      have f3 := frozen_of_row _ _ 5 _ _ P1.out.row
      simp at o0 o1
      have ne1 : q ≠ b := fun e => by
        have h1 := QR.out
        rw [e, P1.out.row] at h1
        simp at h1
      have ne2 : b ≠ q := fun e => ne1 e.symm
      have P2 := hid' (P1.out.putN c1 c2)
      have LA := hid' (look_around b (s.at' c1 c2) dv cv op bs bf _ P2.out (HO.out.at' hyes.out.1) (HI.out.num.at' hyes.out.2.1) (fun e => (HI.out.mid e).at' c1 c2 hyes.out.1) (fun e => by have := HI.out.ex e; exact ⟨by show 0 ≤ s.ex; omega, by show s.ex ≤ _; omega⟩))
      clear qrow
      go_wp2_with fail
      refine LA.out.mono ?_
      rintro e w5 ⟨rfl, F5, pr, of, ff⟩
      have PR := hid' pr
      have OF := hid' of
      have FF := hid' ff
      clear pr of ff LA
      go_wp2
      go_ret
      rw [hyes.out.2.2]
      have O1 : Off (pFoot b dv cv) w ((W1.setCell ⟨b, 4, none⟩ (.int .i64 c1)).setCell ⟨b, 5, none⟩ (.int .i64 c2)) := ((Off.of_below (by rw [hQ]; exact BW.out)).setCell (p := ⟨b, 4, none⟩) (fun _ => .inl rfl) _).setCell (p := ⟨b, 5, none⟩) (fun _ => .inl rfl) _
      have sz1 := O1.size
      refine ⟨rfl, F5, PR.out, O1.trans OF.out (fun k _ e => e), fun k e => ?_⟩
      rcases FF.out k e with z | z
      · exact .inl z
      · exact .inr (by omega)
set_option maxRecDepth 100000 in
theorem p_advance (s : Sv) (x y : Int) (hI : s.Inv) : PDoes PS 25 (fun q => #[.pointer (some ⟨q, 0, none⟩), .agg #[.int .i64 x, .int .i64 y]]) s (s.adv x y).2 (s.adv x y).1 (fun _ => True) := by
  intro b F w hp _
  obtain ⟨dv, cv, op, bs, bf, r, o, f⟩ := hp
  have B0 := hid' ((Below.refl w.heap.size w).alloc (Nat.le_refl _) (.cells #[.int .i64 x, .int .i64 y] 33))
  have SA := hid' (fun (W : World) (hb : Below (w.alloc (.cells #[.int .i64 x, .int .i64 y] 33)).heap.size (w.alloc (.cells #[.int .i64 x, .int .i64 y] 33)) W) => srv_advance b s dv cv op bs bf x y W ((r.below B0.out).below hb) o hI)
  have HF := hid' f
  clear r o f hI
  go_enter Tryz.func25, Tryz.ntmps25
  go_wp2_with fail
  go_region_with (go_at_call 37; refine (SA.out _ (by exact (Below.refl _ _).drew)).mono ?_; rintro e w1 ⟨rfl, F', ps, of, ff⟩; have PSH := hid' ps; have OF := hid' of; have FF := hid' ff; clear ps of ff)
  all_goals
    go_wp2
    go_ret
    have sz := B0.out.size
    refine ⟨rfl, F', PSH.out, (Off.of_below B0.out.drew).trans OF.out (fun k _ e => (HF.out k).2 e), fun k e => ?_⟩
    rcases FF.out k e with z | z
    · exact .inl ((HF.out k).2 z)
    · exact .inr (Nat.le_trans sz z)
end Go.Proofs.YtmmkhodaljpjgabGreatDoor
namespace Go.Proofs.YtmmkhodaljpjgabGreatDoor
open Go.RowKit
namespace Txt
theorem byte_list (l : List UInt8) (i : Nat) : byte ⟨l.toArray⟩ i = ((l.getD i 0).toNat : Int) := rfl
theorem numTo_same {s t : ByteArray} (k : Nat) (h : ∀ i, i < k → byte s i = byte t i) : numTo s k = numTo t k := by
  induction k with
  | zero => rfl
  | succ k ih => rw [numTo, numTo, ih (fun i hi => h i (by omega)), h k (by omega)]
theorem digit_byte (d : Nat) (h : d < 10) : ((UInt8.ofNat (48 + d)).toNat : Int) = 48 + d := by
  have : (UInt8.ofNat (48 + d)).toNat = 48 + d := by rw [UInt8.toNat_ofNat']; omega
  rw [this]; omega
theorem num_dec (n : Nat) : numTo ⟨(dec n).toArray⟩ (dec n).length = n ∧ Digits ⟨(dec n).toArray⟩ (dec n).length := by
  induction n using Nat.strongRecOn with
  | _ n ih =>
    by_cases h : 9 < n
    · obtain ⟨e, d⟩ := ih (n / 10) (by omega)
      have ex : dec n = dec (n / 10) ++ [UInt8.ofNat (48 + n % 10)] := by rw [dec_up n h]
      have old : ∀ i, i < (dec (n / 10)).length → byte ⟨(dec n).toArray⟩ i = byte ⟨(dec (n / 10)).toArray⟩ i := fun i hi => by
        rw [byte_list, byte_list, ex, List.getD_eq_getElem?_getD, List.getD_eq_getElem?_getD, List.getElem?_append_left hi]
      have new : byte ⟨(dec n).toArray⟩ (dec (n / 10)).length = 48 + ((n % 10 : Nat) : Int) := by
        rw [byte_list, ex, List.getD_eq_getElem?_getD, List.getElem?_append_right (Nat.le_refl _)]
        simp only [Nat.sub_self, List.getElem?_cons_zero, Option.getD_some]
        exact digit_byte _ (by omega)
      have len : (dec n).length = (dec (n / 10)).length + 1 := by rw [ex]; simp
      rw [len]
      refine ⟨?_, fun i hi => ?_⟩
      · rw [numTo, numTo_same _ old, e, new]; omega
      · by_cases c : i < (dec (n / 10)).length
        · rw [old i c]; exact d i c
        · have : i = (dec (n / 10)).length := by omega
          rw [this, new]; omega
    · have b : byte ⟨(dec n).toArray⟩ 0 = 48 + (n : Int) := by
        rw [byte_list, dec_low n h]; exact digit_byte n (by omega)
      have len : (dec n).length = 1 := by rw [dec_low n h]; rfl
      rw [len]
      refine ⟨?_, fun i hi => ?_⟩
      · rw [numTo, numTo, b]; omega
      · have : i = 0 := by omega
        rw [this, b]; omega
theorem dec_pos (n : Nat) : 0 < (dec n).length := by
  by_cases h : 9 < n
  · rw [dec_up n h]; simp
  · rw [dec_low n h]; simp
theorem db_len (n : Int) : (db n).size = (dec n.toNat).length := by show (dec n.toNat).toArray.size = _; simp
/-- A number's digits say that number. -/
theorem numTo_db (n : Int) (h : 0 ≤ n) : numTo (db n) (db n).size = n := by
  rw [db_len]; have := (num_dec n.toNat).1; unfold db; omega
theorem digits_db (n : Int) : Digits (db n) (db n).size := by rw [db_len]; exact (num_dec n.toNat).2
end Txt
namespace Txt
theorem app_nil (s : ByteArray) : s ++ (⟨#[]⟩ : ByteArray) = s := by
  have : (⟨#[]⟩ : ByteArray) = ByteArray.empty := rfl
  rw [this, ByteArray.append_empty]
theorem nil_app (s : ByteArray) : (⟨#[]⟩ : ByteArray) ++ s = s := by
  have : (⟨#[]⟩ : ByteArray) = ByteArray.empty := rfl
  rw [this, ByteArray.empty_append]
theorem ext_nil (s : ByteArray) (k : Nat) : s.extract k k = ⟨#[]⟩ := by
  have : (s.extract k k).size = 0 := by rw [ByteArray.size_extract]; omega
  exact ByteArray.size_eq_zero_iff.1 this
/-- Over the bytes of a word. -/
theorem scan_runs (s : ByteArray) (k m : Nat) (h : ∀ i, i < m → inWord s (k + i)) : scan s (k + m) = ((scan s k).1, (scan s k).2 ++ s.extract k (k + m)) := by
  induction m with
  | zero => rw [Nat.add_zero, ext_nil, app_nil]
  | succ m ih =>
    have e : scan s (k + (m + 1)) = ((scan s (k + m)).1, (scan s (k + m)).2 ++ s.extract (k + m) (k + m + 1)) := by
      show scan s (k + m + 1) = _
      rw [scan, if_pos (h m (by omega))]
    rw [e, ih (fun i hi => h i (by omega))]
    simp only
    rw [ByteArray.append_assoc, ByteArray.extract_append_extract, Nat.min_eq_left (by omega), Nat.max_eq_right (by omega)]
    rfl
/-- At a byte that is none of a word, behind one. -/
theorem scan_cut (s : ByteArray) (k : Nat) (h : ¬ inWord s k) (h2 : (scan s k).2 ≠ ⟨#[]⟩) : scan s (k + 1) = ((scan s k).1 ++ [(scan s k).2], ⟨#[]⟩) := by
  rw [scan, if_neg h, if_neg h2]
theorem scan_skip (s : ByteArray) (k : Nat) (h : ¬ inWord s k) (h2 : (scan s k).2 = ⟨#[]⟩) : scan s (k + 1) = scan s k := by
  rw [scan, if_neg h, if_pos h2]
/-- A word that ends at j. -/
theorem scan_wordly (s : ByteArray) (k m : Nat) (hm : 0 < m) (hs : k + m ≤ s.size) (h : ∀ i, i < m → inWord s (k + i)) (he : ¬ inWord s (k + m)) (h0 : (scan s k).2 = ⟨#[]⟩) :
    scan s (k + m + 1) = ((scan s k).1 ++ [s.extract k (k + m)], ⟨#[]⟩) := by
  have r := scan_runs s k m h
  rw [h0, nil_app] at r
  have ne : s.extract k (k + m) ≠ ⟨#[]⟩ := fun e => by
    have a : (s.extract k (k + m)).size = 0 := by rw [e]; rfl
    rw [ByteArray.size_extract] at a
    omega
  rw [scan_cut s (k + m) he (by rw [r]; exact ne), r]
end Txt
namespace Txt
theorem byte_left (a b : ByteArray) (i : Nat) (h : i < a.size) : byte (a ++ b) i = byte a i := by
  unfold byte
  have h' : i < a.data.toList.length := by simpa using h
  rw [ByteArray.data_append, Array.toList_append, List.getD_eq_getElem?_getD, List.getD_eq_getElem?_getD, List.getElem?_append_left h']
theorem byte_right (a b : ByteArray) (i : Nat) : byte (a ++ b) (a.size + i) = byte b i := by
  unfold byte
  have h' : a.data.toList.length = a.size := by simp
  rw [ByteArray.data_append, Array.toList_append, List.getD_eq_getElem?_getD, List.getD_eq_getElem?_getD, List.getElem?_append_right (by omega), h', Nat.add_sub_cancel_left]
/-- Bytes that make a word. -/
def Wordly (a : ByteArray) : Prop := 0 < a.size ∧ ∀ i, i < a.size → byte a i ≠ 32 ∧ byte a i ≠ 9
theorem wordly_db (n : Int) : Wordly (db n) := by
  refine ⟨by rw [db_len]; exact dec_pos _, fun i hi => ?_⟩
  have := digits_db n i hi
  omega
theorem ext_mid (p a q : ByteArray) : (p ++ a ++ q).extract p.size (p.size + a.size) = a := by
  rw [ByteArray.append_assoc]
  have e : (p ++ (a ++ q)).extract (p.size + 0) (p.size + a.size) = (a ++ q).extract 0 a.size := ByteArray.extract_append_size_add
  rw [Nat.add_zero] at e
  rw [e]
  exact ByteArray.extract_append_eq_left rfl
/-- One word more. -/
theorem scan_more (p a q : ByteArray) (ws : List ByteArray) (ha : Wordly a) (hq : q.size = 0 ∨ byte q 0 = 32) (h : scan (p ++ a ++ q) p.size = (ws, ⟨#[]⟩)) :
    scan (p ++ a ++ q) (p.size + a.size + 1) = (ws ++ [a], ⟨#[]⟩) := by
  have sz : (p ++ a ++ q).size = p.size + a.size + q.size := by rw [size_app, size_app]
  have hin : ∀ i, i < a.size → inWord (p ++ a ++ q) (p.size + i) := fun i hi => by
    have e : byte (p ++ a ++ q) (p.size + i) = byte a i := by
      rw [ByteArray.append_assoc, byte_right, byte_left _ _ _ hi]
    have := ha.2 i hi
    exact ⟨by omega, by rw [e]; exact this.1, by rw [e]; exact this.2⟩
  have hout : ¬ inWord (p ++ a ++ q) (p.size + a.size) := fun c => by
    rcases hq with hq | hq
    · have := c.1; omega
    · have e : byte (p ++ a ++ q) ((p ++ a).size + 0) = byte q 0 := byte_right _ _ _
      rw [size_app, Nat.add_zero] at e
      have := c.2.1
      rw [e, hq] at this
      exact this rfl
  rw [scan_wordly (p ++ a ++ q) p.size a.size ha.1 (by omega) hin hout (by rw [h]), h, ext_mid]
/-- An entry's two words. -/
theorem words_two (a b : ByteArray) (ha : Wordly a) (hb : Wordly b) : words (a ++ ⟨#[32]⟩ ++ b) = [a, b] := by
  have one : (⟨#[32]⟩ : ByteArray).size = 1 := rfl
  have s1 := scan_more ⟨#[]⟩ a (⟨#[32]⟩ ++ b) [] ha (.inr (by rw [byte_left _ _ _ (by omega)]; rfl)) rfl
  rw [nil_app, ← ByteArray.append_assoc] at s1
  have n0 : (⟨#[]⟩ : ByteArray).size = 0 := rfl
  rw [n0, Nat.zero_add] at s1
  have s2 := scan_more (a ++ ⟨#[32]⟩) b ⟨#[]⟩ ([] ++ [a]) hb (.inl rfl) (by rw [app_nil, size_app, one]; exact s1)
  rw [app_nil] at s2
  unfold words
  rw [size_app]
  rw [s2]; rfl
/-- One word behind a space. -/
theorem words_sp (a : ByteArray) (ha : Wordly a) : words (⟨#[32]⟩ ++ a) = [a] := by
  have one : (⟨#[32]⟩ : ByteArray).size = 1 := rfl
  have s0 : scan (⟨#[32]⟩ ++ a) 1 = ([], ⟨#[]⟩) := by
    rw [scan_skip _ 0 (fun c => by have := c.2.1; rw [byte_left _ _ _ (by omega)] at this; exact this rfl) rfl]; rfl
  have s2 := scan_more ⟨#[32]⟩ a ⟨#[]⟩ [] ha (.inl rfl) (by rw [app_nil]; exact s0)
  rw [app_nil] at s2
  unfold words
  rw [size_app]
  rw [s2]; rfl
end Txt
namespace Txt
abbrev nl : ByteArray := ⟨#[10]⟩
theorem nl_size : nl.size = 1 := rfl
/-- No newline among the bytes. -/
def Flat (a : ByteArray) : Prop := ∀ i, i < a.size → byte a i ≠ 10
/-- Lines, each with a newline behind it. -/
def join : List ByteArray → ByteArray
  | [] => em
  | l :: r => l ++ nl ++ join r
theorem join_app (l r : List ByteArray) : join (l ++ r) = join l ++ join r := by
  induction l with
  | nil => rw [List.nil_append, join, nil_app]
  | cons a l ih => rw [List.cons_append, join, join, ih, ByteArray.append_assoc, ByteArray.append_assoc, ByteArray.append_assoc]
theorem eol_line (p l q : ByteArray) (hl : Flat l) (hq : q.size = 0 ∨ byte q 0 = 10) : eol (p ++ l ++ q) p.size = p.size + l.size := by
  have sz : (p ++ l ++ q).size = p.size + l.size + q.size := by rw [size_app, size_app]
  have go : ∀ k, k ≤ l.size → eol (p ++ l ++ q) p.size = eol (p ++ l ++ q) (p.size + k) := by
    intro k
    induction k with
    | zero => intro _; rfl
    | succ k ih =>
      intro hk
      rw [ih (by omega)]
      refine eol_go (by omega) ?_
      rw [ByteArray.append_assoc, byte_right, byte_left _ _ _ (by omega)]
      exact hl k (by omega)
  rw [go l.size (Nat.le_refl _)]
  refine eol_stop fun h => ?_
  rcases hq with hq | hq
  · omega
  · have e : byte (p ++ l ++ q) ((p ++ l).size + 0) = byte q 0 := byte_right _ _ _
    rw [size_app, Nat.add_zero] at e
    exact h.2 (by rw [e]; exact hq)
/-- Lines that are read one behind the other. -/
def ReadsL : List ByteArray → St → St → Prop
  | [], a, b => a = b
  | l :: r, a, b => Flat l ∧ (line a l).1 = 0 ∧ ReadsL r (line a l).2 b
def Reads (a : St) (l : List ByteArray) (b : St) : Prop := ReadsL l a b
theorem Reads.nil (st : St) : Reads st [] st := rfl
theorem Reads.cons {st st' : St} {l : ByteArray} {r : List ByteArray} (hl : Flat l) (he : (line st l).1 = 0) (hr : Reads (line st l).2 r st') : Reads st (l :: r) st' := ⟨hl, he, hr⟩
theorem Reads.app {a b c : St} {l r : List ByteArray} (h : Reads a l b) (g : Reads b r c) : Reads a (l ++ r) c := by
  induction l generalizing a with
  | nil =>
    have e : a = b := h
    rw [e]; exact g
  | cons q s ih => exact Reads.cons h.1 h.2.1 (ih h.2.2)
theorem beg_em (p : ByteArray) (h : 0 < p.size) : beg em p = false := by
  unfold beg
  refine decide_eq_false fun c => ?_
  have : em.size = 0 := rfl
  omega
theorem line_em (st : St) : line st em = (0, st) := by
  unfold line
  rw [beg_em _ (by decide), beg_em _ (by decide), beg_em _ (by decide), beg_em _ (by decide)]
  rfl
theorem run_join {a b : St} {L : List ByteArray} (h : Reads a L b) : ∀ (p : ByteArray) (f n : Nat), L.length + 2 ≤ f → run (p ++ join L) f p.size n a = (0, 0, b) := by
  induction L generalizing a with
  | nil =>
    have st : a = b := h
    subst st
    intro p f n hf
    obtain ⟨g, rfl⟩ : ∃ g, f = g + 2 := ⟨f - 2, by simp at hf; omega⟩
    have e : p ++ join [] = p ++ em ++ em := by rw [join, app_nil, app_nil]
    have e1 : eol (p ++ join []) p.size = p.size := by
      rw [e, eol_line p em em (fun i hi => by simp [ByteArray.size] at hi) (.inl rfl)]; rfl
    have e2 : (p ++ join []).size = p.size := by rw [e, size_app, size_app]; rfl
    have e3 : (p ++ join []).extract p.size p.size = em := ext_nil _ _
    rw [run_go (by omega) (by rw [e1, e3, line_em]), e1, e3, line_em, run_end (by omega)]
  | cons l r ih0 =>
    obtain ⟨hl, he, hr⟩ := h
    have ih := ih0 hr
    intro p f n hf
    obtain ⟨g, rfl⟩ : ∃ g, f = g + 1 := ⟨f - 1, by simp at hf; omega⟩
    have e : p ++ join (l :: r) = p ++ l ++ (nl ++ join r) := by rw [join, ByteArray.append_assoc, ByteArray.append_assoc]
    have e1 : eol (p ++ join (l :: r)) p.size = p.size + l.size := by
      rw [e]; exact eol_line p l _ hl (.inr (by rw [byte_left _ _ _ (by decide)]; rfl))
    have e2 : (p ++ join (l :: r)).size = p.size + l.size + (nl ++ join r).size := by rw [e, size_app, size_app]
    have e3 : (p ++ join (l :: r)).extract p.size (p.size + l.size) = l := by rw [e]; exact ext_mid _ _ _
    rw [run_go (by omega) (by rw [e1, e3]; exact he), e1, e3]
    have e4 : p ++ join (l :: r) = (p ++ l ++ nl) ++ join r := by rw [e, ByteArray.append_assoc, ByteArray.append_assoc, ByteArray.append_assoc]
    have e5 : p.size + l.size + 1 = (p ++ l ++ nl).size := by rw [size_app, size_app, nl_size]
    rw [e4, e5]
    exact ih _ g (n + 1) (by simp at hf; omega)
theorem join_size (L : List ByteArray) : L.length ≤ (join L).size := by
  induction L with
  | nil => exact Nat.zero_le _
  | cons l r ih => rw [join, size_app, size_app, nl_size, List.length_cons]; omega
theorem parse_join {b : St} {L : List ByteArray} (h : Reads st0 L b) (hs : (join L).size ≤ 2000) : parse (join L) = done b := by
  have r := run_join h em ((join L).size + 2) 0 (by have := join_size L; omega)
  rw [nil_app] at r
  have z : em.size = 0 := rfl
  rw [z] at r
  unfold parse
  rw [if_neg (by omega), r]
  rfl
end Txt
namespace Txt
theorem beg_no {s p : ByteArray} (i : Nat) (hi : i < p.size) (h : byte s i ≠ byte p i) : beg s p = false := by
  unfold beg
  refine decide_eq_false fun c => h ?_
  have e : byte (s.extract 0 p.size) i = byte p i := by rw [c.2]
  rw [← e]
  have e2 : s = s.extract 0 p.size ++ s.extract p.size s.size := by
    rw [ByteArray.extract_append_extract, Nat.min_eq_left (by omega), Nat.max_eq_right (by omega)]; simp
  have hz : i < (s.extract 0 p.size).size := by rw [ByteArray.size_extract]; omega
  rw [← byte_left _ (s.extract p.size s.size) i hz, ← e2]
theorem beg_yes (p a : ByteArray) : beg (p ++ a) p = true := by
  unfold beg
  refine decide_eq_true ⟨by rw [size_app]; omega, ByteArray.extract_append_eq_left rfl⟩
theorem rest_of (p a : ByteArray) : (p ++ a).extract p.size (p ++ a).size = a := by
  have := ext_mid p a em
  rw [app_nil] at this
  rw [size_app]; exact this
theorem isNum_db (n : Int) (h : n < 100000000000) : isNum (db n) = true := by
  have a := dec_pos n.toNat
  have b := dec_ten n.toNat 10 (by omega)
  have l := db_len n
  exact isNum_yes (by omega) (digits_db n)
theorem flat_db (n : Int) : Flat (db n) := fun i hi => by have := digits_db n i hi; omega
theorem flat_app {a b : ByteArray} (ha : Flat a) (hb : Flat b) : Flat (a ++ b) := fun i hi => by
  by_cases c : i < a.size
  · rw [byte_left _ _ _ c]; exact ha i c
  · obtain ⟨j, rfl⟩ : ∃ j, i = a.size + j := ⟨i - a.size, by omega⟩
    rw [byte_right]; exact hb j (by rw [size_app] at hi; omega)
def lnU (u : Int) : ByteArray := ⟨#[35, 36]⟩ ++ (⟨#[32]⟩ ++ db u)
def lnX (x : Int) : ByteArray := ⟨#[35, 64]⟩ ++ (⟨#[32]⟩ ++ db x)
def lnE (p : Int × Int) : ByteArray := db p.1 ++ ⟨#[32]⟩ ++ db p.2
theorem flat2 {a b : UInt8} (ha : (a.toNat : Int) ≠ 10) (hb : (b.toNat : Int) ≠ 10) : Flat ⟨#[a, b]⟩ := fun i hi => by
  match i, hi with
  | 0, _ => exact ha
  | 1, _ => exact hb
theorem flat1 {a : UInt8} (ha : (a.toNat : Int) ≠ 10) : Flat ⟨#[a]⟩ := fun i hi => by
  match i, hi with
  | 0, _ => exact ha
theorem flat_U (u : Int) : Flat (lnU u) := flat_app (flat2 (by decide) (by decide)) (flat_app (flat1 (by decide)) (flat_db u))
theorem flat_X (u : Int) : Flat (lnX u) := flat_app (flat2 (by decide) (by decide)) (flat_app (flat1 (by decide)) (flat_db u))
theorem flat_E (p : Int × Int) : Flat (lnE p) := flat_app (flat_app (flat_db _) (flat1 (by decide))) (flat_db _)
theorem once_ok {a b : ByteArray} (ha : isNum a = true) (hb : b = em) : once [a] b = 0 := by
  unfold once
  rw [if_neg (by simp)]
  show (if isNum a = false then (3 : Int) else _) = 0
  rw [ha, if_neg (by simp), if_neg (by simpa using hb)]
theorem line_U (st : St) (u : Int) (hu : u < 100000000000) (h : st.u = em) : (line st (lnU u)).1 = 0 ∧ (line st (lnU u)).2 = { st with u := db u, dg := st.dg ++ db u } := by
  have e : line st (lnU u) = takeU st [db u] := by
    unfold line lnU
    rw [if_pos (beg_yes _ _)]
    have := rest_of ⟨#[35, 36]⟩ (⟨#[32]⟩ ++ db u)
    have z : (⟨#[35, 36]⟩ : ByteArray).size = 2 := rfl
    rw [z] at this
    rw [this, words_sp _ (wordly_db u)]
  rw [e]
  exact ⟨once_ok (isNum_db u hu) h, rfl⟩
theorem line_X (st : St) (x : Int) (hx : x < 100000000000) (h : st.x = em) : (line st (lnX x)).1 = 0 ∧ (line st (lnX x)).2 = { st with x := db x, dg := st.dg ++ db x } := by
  have e : line st (lnX x) = takeX st [db x] := by
    unfold line lnX
    rw [if_neg (by rw [beg_no 1 (by decide) (by rw [byte_left _ _ _ (by decide)]; decide)]; simp), if_pos (beg_yes _ _)]
    have := rest_of ⟨#[35, 64]⟩ (⟨#[32]⟩ ++ db x)
    have z : (⟨#[35, 64]⟩ : ByteArray).size = 2 := rfl
    rw [z] at this
    rw [this, words_sp _ (wordly_db x)]
  rw [e]
  exact ⟨once_ok (isNum_db x hx) h, rfl⟩
theorem line_E (st : St) (p : Int × Int) (h1 : 0 ≤ p.1) (h2 : p.1 < 100000000000) (h3 : 0 ≤ p.2) (h4 : p.2 < 100000000000) (hf : Tab.follows st.ls p.1 p.2 = true) :
    (line st (lnE p)).1 = 0 ∧ (line st (lnE p)).2 = { st with ls := st.ls ++ [p], dg := st.dg ++ (db p.1 ++ db p.2) } := by
  have hd : 48 ≤ byte (lnE p) 0 := by
    have a := dec_pos p.1.toNat
    have l := db_len p.1
    unfold lnE
    rw [ByteArray.append_assoc, byte_left _ _ _ (by omega)]
    exact (digits_db p.1 0 (by omega)).1
  have nb : ∀ q : ByteArray, 0 < q.size → byte q 0 = 35 → beg (lnE p) q = false := fun q hq e => beg_no 0 hq (by rw [e]; omega)
  have e : line st (lnE p) = takeE st [db p.1, db p.2] := by
    unfold line
    rw [nb _ (by decide) rfl, nb _ (by decide) rfl, nb _ (by decide) rfl, nb _ (by decide) rfl]
    simp only [Bool.false_eq_true, if_false]
    unfold lnE
    rw [words_two _ _ (wordly_db _) (wordly_db _)]
  have o : entryOf [db p.1, db p.2] = p := by
    show (numTo (db p.1) (db p.1).size, numTo (db p.2) (db p.2).size) = p
    rw [numTo_db _ h1, numTo_db _ h3]
  rw [e]
  refine ⟨?_, ?_⟩
  · show entryErr st.ls [db p.1, db p.2] = 0
    unfold entryErr
    rw [if_neg (by simp), if_neg (by simp)]
    show (if isNum (db p.1) = false then (3 : Int) else if isNum (db p.2) = false then 3 else _) = 0
    rw [isNum_db _ h2, isNum_db _ h4, if_neg (by simp), if_neg (by simp), if_neg (by simp)]
    show (if Tab.follows st.ls (entryOf [db p.1, db p.2]).1 (entryOf [db p.1, db p.2]).2 = false then (5 : Int) else 0) = 0
    rw [o, hf, if_neg (by simp)]
  · show (if [db p.1, db p.2].length = 0 then st else { st with ls := st.ls ++ [entryOf [db p.1, db p.2]], dg := st.dg ++ (db p.1 ++ db p.2) }) = _
    rw [if_neg (by simp), o]
end Txt
/-- A hexadecimal digit's byte. -/
def HexU (c : UInt8) : Prop := Txt.HexB (c.toNat : Int)
theorem hexU_hexd (v : Int) (h0 : 0 ≤ v) (h1 : v < 16) : HexU (Sha.hexd v) := by
  obtain ⟨n, rfl⟩ := Int.eq_ofNat_of_zero_le h0
  have hn : n < 16 := by omega
  match n, hn with
  | 0, _ | 1, _ | 2, _ | 3, _ | 4, _ | 5, _ | 6, _ | 7, _ | 8, _ | 9, _ | 10, _ | 11, _ | 12, _ | 13, _ | 14, _ | 15, _ => unfold HexU Txt.HexB; decide
theorem hexU_hexs (x : Int) (k : Nat) : ∀ c ∈ Sha.hexs x k, HexU c := by
  induction k with
  | zero => intro c h; simp [Sha.hexs] at h
  | succ k ih =>
    intro c h
    rw [Sha.hexs] at h
    rcases List.mem_append.1 h with h | h
    · exact ih c h
    · simp at h; subst h
      have a := Int.emod_nonneg (x * 16 ^ k) (show (4294967296 : Int) ≠ 0 by decide)
      have b := Int.emod_lt_of_pos (x * 16 ^ k) (show (0 : Int) < 4294967296 by decide)
      exact hexU_hexd _ (by omega) (by omega)
theorem hexU_text (x : Sha.St) (n : Nat) : ∀ c ∈ x.text n, HexU c := by
  induction n with
  | zero => intro c h; simp [Sha.St.text] at h
  | succ n ih =>
    intro c h
    rw [Sha.St.text] at h
    rcases List.mem_append.1 h with h | h
    · exact ih c h
    · exact hexU_hexs _ _ c h
namespace Txt
theorem hexes_digest (s : ByteArray) : Hexes ⟨(Sha.digest s).toArray⟩ 40 := fun i hi => by
  have hl : (Sha.digest s).length = 40 := by unfold Sha.digest; simp [Sha.St.text_length]
  rw [byte_list, List.getD_eq_getElem?_getD, List.getElem?_eq_getElem (by omega), Option.getD_some]
  have m : (Sha.digest s)[i]'(by omega) ∈ Sha.digest s := List.getElem_mem (by omega)
  exact hexU_text _ 5 _ m
theorem byte_ext (h : ByteArray) (a b i : Nat) (hb : b ≤ h.size) (hi : a + i < b) : byte (h.extract a b) i = byte h (a + i) := by
  have e : h = h.extract 0 a ++ (h.extract a b ++ h.extract b h.size) := by
    rw [ByteArray.extract_append_extract, Nat.min_eq_left (by omega), Nat.max_eq_right (by omega), ByteArray.extract_append_extract, Nat.min_eq_left (by omega), Nat.max_eq_right (by omega)]; simp
  have za : (h.extract 0 a).size = a := by rw [ByteArray.size_extract]; omega
  have zb : (h.extract a b).size = b - a := by rw [ByteArray.size_extract]; omega
  have q := byte_right (h.extract 0 a) (h.extract a b ++ h.extract b h.size) i
  rw [← e, za, byte_left _ _ _ (by omega)] at q
  exact q.symm
theorem ext_two (h : ByteArray) (a b c : Nat) (h1 : a ≤ b) (h2 : b ≤ c) : h.extract a b ++ h.extract b c = h.extract a c := by
  rw [ByteArray.extract_append_extract, Nat.min_eq_left h1, Nat.max_eq_right h2]
/-- Words, each with a blank ahead. -/
def sp : List ByteArray → ByteArray
  | [] => em
  | a :: r => ⟨#[32]⟩ ++ a ++ sp r
theorem sp_head (r : List ByteArray) : (sp r).size = 0 ∨ byte (sp r) 0 = 32 := by
  cases r with
  | nil => exact .inl rfl
  | cons a r => refine .inr ?_; rw [sp, ByteArray.append_assoc, byte_left _ _ _ (by decide)]; rfl
theorem words_sp_list : ∀ (r : List ByteArray) (p a : ByteArray) (ws : List ByteArray), Wordly a → (∀ b ∈ r, Wordly b) → scan (p ++ ⟨#[32]⟩ ++ a ++ sp r) (p.size + 1) = (ws, em) → words (p ++ ⟨#[32]⟩ ++ a ++ sp r) = ws ++ (a :: r) := by
  intro r
  induction r with
  | nil =>
    intro p a ws ha _ h
    have one : (⟨#[32]⟩ : ByteArray).size = 1 := rfl
    have s := scan_more (p ++ ⟨#[32]⟩) a (sp []) ws ha (.inl rfl) (by rw [size_app, one]; exact h)
    have z : (p ++ ⟨#[32]⟩ ++ a ++ sp []).size = (p ++ ⟨#[32]⟩).size + a.size := by rw [size_app, size_app]; rfl
    unfold words
    rw [z, s]
  | cons b r ih =>
    intro p a ws ha hr h
    have one : (⟨#[32]⟩ : ByteArray).size = 1 := rfl
    have s := scan_more (p ++ ⟨#[32]⟩) a (sp (b :: r)) ws ha (sp_head _) (by rw [size_app, one]; exact h)
    have e : p ++ ⟨#[32]⟩ ++ a ++ sp (b :: r) = (p ++ ⟨#[32]⟩ ++ a) ++ ⟨#[32]⟩ ++ b ++ sp r := by rw [sp]; simp only [ByteArray.append_assoc]
    have z : (p ++ ⟨#[32]⟩).size + a.size + 1 = (p ++ ⟨#[32]⟩ ++ a).size + 1 := by rw [size_app (p ++ ⟨#[32]⟩) a]
    rw [z, e] at s
    rw [e, ih (p ++ ⟨#[32]⟩ ++ a) b (ws ++ [a]) (hr b (by simp)) (fun c hc => hr c (by simp [hc])) s]
    simp
theorem words_sps (a : ByteArray) (r : List ByteArray) (ha : Wordly a) (hr : ∀ b ∈ r, Wordly b) : words (sp (a :: r)) = a :: r := by
  have s0 : scan (em ++ ⟨#[32]⟩ ++ a ++ sp r) (em.size + 1) = ([], em) := by
    have z : em.size = 0 := rfl
    rw [nil_app, z, scan_skip _ 0 (fun c => by have := c.2.1; rw [ByteArray.append_assoc, byte_left _ _ _ (by decide)] at this; exact this rfl) rfl]; rfl
  have := words_sp_list r em a [] ha hr s0
  rw [nil_app] at this
  rw [sp]; exact this
/-- The five words of a digest. -/
def five (h : ByteArray) : List ByteArray := [h.extract 0 8, h.extract 8 16, h.extract 16 24, h.extract 24 32, h.extract 32 40]
def lnH (h : ByteArray) : ByteArray := ⟨#[35, 104]⟩ ++ sp (five h)
theorem hl_ln (h : ByteArray) : hl h = lnH h ++ nl := by
  unfold hl lnH five
  simp only [hlTo, sp, app_nil, ByteArray.append_assoc, Nat.zero_mul, Nat.zero_add, Nat.one_mul, Nat.reduceMul, Nat.reduceAdd]
theorem five_mem {h e : ByteArray} (he : e ∈ five h) : ∃ k, k + 8 ≤ 40 ∧ e = h.extract k (k + 8) := by
  simp [five] at he
  rcases he with rfl | rfl | rfl | rfl | rfl
  · exact ⟨0, by omega, rfl⟩
  · exact ⟨8, by omega, rfl⟩
  · exact ⟨16, by omega, rfl⟩
  · exact ⟨24, by omega, rfl⟩
  · exact ⟨32, by omega, rfl⟩
theorem hex_ext {h : ByteArray} (hs : h.size = 40) (hh : Hexes h 40) (k : Nat) (hk : k + 8 ≤ 40) : (h.extract k (k + 8)).size = 8 ∧ Hexes (h.extract k (k + 8)) 8 := by
  refine ⟨by rw [ByteArray.size_extract]; omega, fun i hi => ?_⟩
  rw [byte_ext h k (k + 8) i (by omega) (by omega)]
  exact hh (k + i) (by omega)
theorem hexB_not {c : Int} (h : HexB c) : c ≠ 32 ∧ c ≠ 9 ∧ c ≠ 10 := by unfold HexB at h; omega
theorem flat_sp (r : List ByteArray) (h : ∀ b ∈ r, Flat b) : Flat (sp r) := by
  induction r with
  | nil => intro i hi; simp [sp, ByteArray.size] at hi
  | cons a r ih => rw [sp]; exact flat_app (flat_app (flat1 (by decide)) (h a (by simp))) (ih fun b hb => h b (by simp [hb]))
theorem flat_H {h : ByteArray} (hs : h.size = 40) (hh : Hexes h 40) : Flat (lnH h) :=
  flat_app (flat2 (by decide) (by decide)) (flat_sp _ fun b hb => by
    obtain ⟨k, hk, rfl⟩ := five_mem hb
    obtain ⟨z, x⟩ := hex_ext hs hh k hk
    intro i hi
    exact (hexB_not (x i (by omega))).2.2)
theorem line_H (st : St) {h : ByteArray} (hs : h.size = 40) (hh : Hexes h 40) (h0 : st.h = em) : (line st (lnH h)).1 = 0 ∧ (line st (lnH h)).2 = { st with h := h } := by
  have wd : ∀ b ∈ five h, Wordly b := fun b hb => by
    obtain ⟨k, hk, rfl⟩ := five_mem hb
    obtain ⟨z, x⟩ := hex_ext hs hh k hk
    exact ⟨by omega, fun i hi => ⟨(hexB_not (x i (by omega))).1, (hexB_not (x i (by omega))).2.1⟩⟩
  have e : line st (lnH h) = takeH st (five h) := by
    unfold line lnH
    rw [if_neg (by rw [beg_no 1 (by decide) (by rw [byte_left _ _ _ (by decide)]; decide)]; simp), if_neg (by rw [beg_no 1 (by decide) (by rw [byte_left _ _ _ (by decide)]; decide)]; simp), if_pos (beg_yes _ _)]
    have := rest_of ⟨#[35, 104]⟩ (sp (five h))
    have z : (⟨#[35, 104]⟩ : ByteArray).size = 2 := rfl
    rw [z] at this
    rw [this]
    have q := words_sps (h.extract 0 8) [h.extract 8 16, h.extract 16 24, h.extract 24 32, h.extract 32 40] (wd _ (by simp [five])) (fun b hb => wd b (by simp [five] at hb ⊢; exact .inr hb))
    show takeH st (words (sp (five h))) = _
    rw [show words (sp (five h)) = five h from q]
  have hx : ∀ k, k + 8 ≤ 40 → isHex (h.extract k (k + 8)) = true := fun k hk => by
    obtain ⟨z, x⟩ := hex_ext hs hh k hk
    exact isHex_yes (by omega) (by rw [z]; exact x)
  have hw : ∀ k, k + 8 ≤ 40 → word (h.extract k (k + 8)) = h.extract k (k + 8) := fun k hk => by
    obtain ⟨z, _⟩ := hex_ext hs hh k hk
    rw [word_of (hx k hk), z, ext_nil, nil_app]
  have all : Hexed (five h) 5 := fun i hi => by
    match i, hi with
    | 0, _ => exact hx 0 (by omega)
    | 1, _ => exact hx 8 (by omega)
    | 2, _ => exact hx 16 (by omega)
    | 3, _ => exact hx 24 (by omega)
    | 4, _ => exact hx 32 (by omega)
  have hex5 : hexTo (five h) 5 = h := by
    show em ++ word (h.extract 0 8) ++ word (h.extract 8 16) ++ word (h.extract 16 24) ++ word (h.extract 24 32) ++ word (h.extract 32 40) = h
    rw [hw 0 (by omega), hw 8 (by omega), hw 16 (by omega), hw 24 (by omega), hw 32 (by omega), nil_app]
    rw [ext_two h 0 8 16 (by omega) (by omega), ext_two h 0 16 24 (by omega) (by omega), ext_two h 0 24 32 (by omega) (by omega), ext_two h 0 32 40 (by omega) (by omega)]
    rw [← hs]; simp
  rw [e]
  refine ⟨?_, ?_⟩
  · show hashErr (five h) st.h = 0
    unfold hashErr
    rw [if_neg (by simp [five]), (hexedB_iff _ _).2 all, if_neg (by simp), if_neg (by simpa using h0)]
  · show ({ st with h := hexTo (five h) 5 } : St) = _
    rw [hex5]
end Txt
namespace Txt
/-- The lines of a table ahead of the digest's. -/
def lines (u x : Int) (ls : List (Int × Int)) (k : Nat) : List ByteArray := lnU u :: lnX x :: (ls.take k).map lnE
theorem eline_ln (p : Int × Int) : eline p = lnE p ++ nl := rfl
theorem head_ln (u x : Int) : head u x = join [lnU u, lnX x] := by
  unfold head join join join lnU lnX
  have e1 : (⟨#[35, 36, 32]⟩ : ByteArray) = ⟨#[35, 36]⟩ ++ ⟨#[32]⟩ := rfl
  have e2 : (⟨#[10, 35, 64, 32]⟩ : ByteArray) = nl ++ (⟨#[35, 64]⟩ ++ ⟨#[32]⟩) := rfl
  rw [e1, e2, app_nil]
  simp only [ByteArray.append_assoc]
theorem prTo_ln (u x : Int) (ls : List (Int × Int)) (k : Nat) (hk : k ≤ ls.length) : prTo u x ls k = join (lines u x ls k) := by
  induction k with
  | zero => rw [prTo, head_ln]; rfl
  | succ k ih =>
    have e : lines u x ls (k + 1) = lines u x ls k ++ [lnE (ls.getD k (0, 0))] := by
      unfold lines
      rw [List.take_succ_eq_append_getElem (by omega), List.map_append, List.getD_eq_getElem?_getD, List.getElem?_eq_getElem (by omega)]
      rfl
    rw [prTo, ih (by omega), e, join_app, eline_ln]
    show _ = join (lines u x ls k) ++ (lnE (ls.getD k (0, 0)) ++ nl ++ em)
    rw [app_nil]
theorem print_ln (u x : Int) (ls : List (Int × Int)) : print u x ls = join (lines u x ls ls.length ++ [lnH (dgst u x ls)]) := by
  unfold print
  rw [prTo_ln _ _ _ _ (Nat.le_refl _), hl_ln, join_app]
  show _ = _ ++ (lnH (dgst u x ls) ++ nl ++ em)
  rw [app_nil]
/-- What is read behind k entries. -/
def stE (u x : Int) (ls : List (Int × Int)) (k : Nat) : St := ⟨db u, db x, em, ls.take k, dgTo u x ls k⟩
structure Fair (u x : Int) (ls : List (Int × Int)) : Prop where
  u0 : 0 ≤ u
  u1 : u < 100000000000
  x0 : 0 ≤ x
  x1 : x < 100000000000
  e : ∀ i, 0 ≤ (ls.getD i (0, 0)).1 ∧ (ls.getD i (0, 0)).1 < 100000000000 ∧ 0 ≤ (ls.getD i (0, 0)).2 ∧ (ls.getD i (0, 0)).2 < 100000000000
  ok : Tab.okUpTo ls ls.length = true
theorem okUpTo_at {ls : List (Int × Int)} (n : Nat) (hn : n ≤ ls.length) (h : Tab.okUpTo ls n = true) (k : Nat) (hk : k < n) : Tab.follows (ls.take k) (ls.getD k (0, 0)).1 (ls.getD k (0, 0)).2 = true := by
  induction n with
  | zero => omega
  | succ n ih =>
    rw [Tab.okUpTo_succ _ _ (by omega), Bool.and_eq_true] at h
    by_cases c : k < n
    · exact ih (by omega) h.1 c
    · have : k = n := by omega
      subst this
      rw [List.getD_eq_getElem?_getD, List.getElem?_eq_getElem (by omega)]
      exact h.2
theorem reads_head {u x : Int} {ls : List (Int × Int)} (h : Fair u x ls) : Reads st0 [lnU u, lnX x] (stE u x ls 0) := by
  obtain ⟨a, b⟩ := line_U st0 u h.u1 rfl
  refine Reads.cons (flat_U u) a ?_
  rw [b]
  obtain ⟨c, d⟩ := line_X { st0 with u := db u, dg := st0.dg ++ db u } x h.x1 rfl
  refine Reads.cons (flat_X x) c ?_
  rw [d]
  have e : ({ { st0 with u := db u, dg := st0.dg ++ db u } with x := db x, dg := ({ st0 with u := db u, dg := st0.dg ++ db u } : St).dg ++ db x } : St) = stE u x ls 0 := by
    show (⟨db u, db x, em, [], em ++ db u ++ db x⟩ : St) = ⟨db u, db x, em, ls.take 0, db u ++ db x⟩
    rw [nil_app]; rfl
  rw [e]
  exact Reads.nil _
theorem reads_lines {u x : Int} {ls : List (Int × Int)} (h : Fair u x ls) (k : Nat) (hk : k ≤ ls.length) : Reads st0 (lines u x ls k) (stE u x ls k) := by
  induction k with
  | zero => exact reads_head h
  | succ k ih =>
    have e : lines u x ls (k + 1) = lines u x ls k ++ [lnE (ls.getD k (0, 0))] := by
      unfold lines
      rw [List.take_succ_eq_append_getElem (by omega), List.map_append, List.getD_eq_getElem?_getD, List.getElem?_eq_getElem (by omega)]
      rfl
    rw [e]
    refine (ih (by omega)).app ?_
    obtain ⟨a, b⟩ := line_E (stE u x ls k) (ls.getD k (0, 0)) (h.e k).1 (h.e k).2.1 (h.e k).2.2.1 (h.e k).2.2.2 (okUpTo_at _ (Nat.le_refl _) h.ok k (by omega))
    refine Reads.cons (flat_E _) a ?_
    rw [b]
    have e2 : ({ stE u x ls k with ls := (stE u x ls k).ls ++ [ls.getD k (0, 0)], dg := (stE u x ls k).dg ++ (db (ls.getD k (0, 0)).1 ++ db (ls.getD k (0, 0)).2) } : St) = stE u x ls (k + 1) := by
      show (⟨db u, db x, em, ls.take k ++ [ls.getD k (0, 0)], dgTo u x ls k ++ (db (ls.getD k (0, 0)).1 ++ db (ls.getD k (0, 0)).2)⟩ : St) = ⟨db u, db x, em, ls.take (k + 1), dgTo u x ls (k + 1)⟩
      have tk : ls.take (k + 1) = ls.take k ++ [ls.getD k (0, 0)] := by
        rw [List.take_succ_eq_append_getElem (by omega), List.getD_eq_getElem?_getD, List.getElem?_eq_getElem (by omega)]; rfl
      rw [tk]
      rfl
    rw [e2]
    exact Reads.nil _
def stH (u x : Int) (ls : List (Int × Int)) : St := { stE u x ls ls.length with h := dgst u x ls }
theorem reads_all {u x : Int} {ls : List (Int × Int)} (h : Fair u x ls) : Reads st0 (lines u x ls ls.length ++ [lnH (dgst u x ls)]) (stH u x ls) := by
  refine (reads_lines h _ (Nat.le_refl _)).app ?_
  have hs : (dgst u x ls).size = 40 := digest_size _
  have hh : Hexes (dgst u x ls) 40 := hexes_digest _
  obtain ⟨a, b⟩ := line_H (stE u x ls ls.length) hs hh rfl
  refine Reads.cons (flat_H hs hh) a ?_
  rw [b]
  exact Reads.nil _
theorem db_ne (n : Int) : db n ≠ em := fun e => by
  have a := dec_pos n.toNat
  have l := db_len n
  have z : em.size = 0 := rfl
  rw [e] at l
  omega
theorem done_all {u x : Int} {ls : List (Int × Int)} (h : Fair u x ls) (hp : 0 < ls.length) (hw : Tab.whole u x ls = true) : done (stH u x ls) = ⟨u, x, ls, 0, 0⟩ := by
  have hs : (dgst u x ls).size = 40 := digest_size _
  have hn : dgst u x ls ≠ em := fun e => by rw [e] at hs; exact absurd hs (by decide)
  have tk : (stH u x ls).ls = ls := List.take_length
  have f : fin (stH u x ls) = 0 := by
    unfold fin
    rw [if_neg (fun c => by
      rcases c with c | c | c | c
      · exact db_ne u c
      · exact db_ne x c
      · exact hn c
      · rw [tk] at c; omega)]
    show (if Tab.whole (numTo (db u) (db u).size) (numTo (db x) (db x).size) (stH u x ls).ls = false then (8 : Int) else _) = 0
    rw [numTo_db u h.u0, numTo_db x h.x0, tk, hw, if_neg (by simp)]
    exact if_neg (by intro c; exact c rfl)
  unfold done
  rw [if_pos f]
  show (⟨numTo (db u) (db u).size, numTo (db x) (db x).size, (stH u x ls).ls, 0, 0⟩ : Got) = _
  rw [numTo_db u h.u0, numTo_db x h.x0, tk]
theorem print_size {u x : Int} {ls : List (Int × Int)} (h : Fair u x ls) (hl : ls.length ≤ 40) : (print u x ls).size ≤ 1120 := by
  have a := prTo_size (u := u) (x := x) (ls := ls) (by have := h.u1; omega) (by have := h.x1; omega) (fun i => by have := h.e i; omega) ls.length
  have b := hlTo_size (dgst u x ls) 5
  have c : (ByteArray.mk #[10]).size = 1 := rfl
  unfold print Txt.hl
  rw [size_app, size_app]
  omega
/-- What is printed is parsed. -/
theorem round {u x : Int} {ls : List (Int × Int)} (h : Fair u x ls) (hp : 0 < ls.length) (hl : ls.length ≤ 40) (hw : Tab.whole u x ls = true) : parse (print u x ls) = ⟨u, x, ls, 0, 0⟩ := by
  have z := print_size h hl
  rw [print_ln] at z ⊢
  rw [parse_join (reads_all h) (by omega), done_all h hp hw]
end Txt
end Go.Proofs.YtmmkhodaljpjgabGreatDoor
