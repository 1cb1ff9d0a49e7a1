import Derived.Test.YtmmkhodaljpjgaaGreatDoorV26
import Derived.Deep.QuietTactic
import Derived.BigQuiet
namespace Go.Proofs.YtmmkhodaljpjgaaGreatDoor
open Go.RowKit
attribute [local go_sem ↓] Go.wp_at_zero Go.wp_at_succ
theorem RSrv.putN {b:Nat} {s:Sv} {dv bv cv hv:Value} {w:World} (h:RSrv b s dv bv cv hv w) (x y:Int):RSrv b (s.at' x y) dv bv cv hv ((w.setCell ⟨b,3,none⟩ (.int .i64 x)).setCell ⟨b,4,none⟩ (.int .i64 y)):=by
 have row:=heap_setCell_same _ _ 3 _ _ (.int .i64 x) h.row
 refine ⟨?_,own_set (p:=⟨b,4,none⟩) (own_set (p:=⟨b,3,none⟩) h.dd h.row (by decide) _) row (by decide) _,own_set (p:=⟨b,4,none⟩) (own_set (p:=⟨b,3,none⟩) h.bb h.row (by decide) _) row (by decide) _,own_set (p:=⟨b,4,none⟩) (own_set (p:=⟨b,3,none⟩) h.cc h.row (by decide) _) row (by decide) _,own_set (p:=⟨b,4,none⟩) (own_set (p:=⟨b,3,none⟩) h.ss h.row (by decide) _) row (by decide) _⟩
 rw [heap_setCell_same _ _ _ _ _ _ row];rfl
set_option maxRecDepth 100000 in
set_option maxHeartbeats 3200000 in
theorem ref_advance (b:Nat) (x:Sv) (dv bv cv hv:Value) (s f:Int) (w:World) (hr:RSrv b x dv bv cv hv w) (ht:isT x.ns x.nf = true) (h1:x.done.length + x.com.length ≤ 1000) (h2:x.began.length + x.com.length ≤ 1000)
  (hc:∀ a c,isT a c = true → x.ld = true → tLater x.ns x.nf a c = false → (x.at' a c).begun.Can) :
  Calls Tryz.prog 63 #[.pointer (some ⟨b,0,none⟩),.agg #[.int .i64 s,.int .i64 f]] w fun e w' => e = .returned (.int .i64 (x.adv s f).1) ∧ RPost b (rFoot b dv bv cv hv) w (x.adv s f).2 w':=by
 have HR:=hid' hr
 have B0:=hid' ((Below.refl w.heap.size w).alloc (Nat.le_refl _) (.cells #[.int .i64 s,.int .i64 f] 35))
 have IS:=hid' (fun W => ref_is s f W)
 by_cases c1:isT s f = false
 ·have H:Hid (x.adv s f = (9,x)):=by show _ = _;unfold Sv.adv;rw [if_pos c1]
  rw [c1] at IS
  clear c1 hc ht hr
  go_enter Tryz.func63,Tryz.ntmps63
  go_wp2_with fail
  refine (IS.out _).mono ?_
  rintro e w1 ⟨rfl,hb1⟩
  have B1:=hid' (B0.out.trans (hb1.mono B0.out.size))
  clear hb1
  go_wp2
  go_ret
  rw [H.out]
  exact ⟨rfl,HR.out.post.below B1.out⟩
 ·have c1':isT s f = true:=by simpa using c1
  obtain ⟨s0,s1,f0,f1⟩:=isT_bd c1'
  obtain ⟨n0,n1,m0,m1⟩:=isT_bd ht
  rw [c1'] at IS
  have HAD:Hid (x.adv s f = if isT (tSum x.ns x.nf s f).1 (tSum x.ns x.nf s f).2 = false then (9,x) else (0,(x.at' (tSum x.ns x.nf s f).1 (tSum x.ns x.nf s f).2).weigh)):=by show _ = _;unfold Sv.adv;rw [if_neg c1]
  have SU:=hid' (fun W => ref_sum x.ns x.nf s f W (by omega) (by omega) (by omega) (by omega) m0 (by omega) f0 (by omega))
  have LT:tLater x.ns x.nf (tSum x.ns x.nf s f).1 (tSum x.ns x.nf s f).2 = false:=by
   unfold tLater tSum
   refine decide_eq_false (fun h => ?_)
   simp only at h
   omega
  have q3:=cell_of_row _ _ 3 _ _ _ hr.row
  have q4:=cell_of_row _ _ 4 _ _ _ hr.row
  have lb:=lt_of_heap hr.row
  simp at q3 q4
  have IS2:=hid' (fun W => ref_is (tSum x.ns x.nf s f).1 (tSum x.ns x.nf s f).2 W)
  have HC:=hid' (fun h => hc (tSum x.ns x.nf s f).1 (tSum x.ns x.nf s f).2 h)
  have HLT:=hid' LT
  generalize x.adv s f = ad at *
  generalize tSum x.ns x.nf s f = tm at *
  obtain ⟨ts,tf⟩:=tm
  simp only at HAD SU IS2 HC HLT
  clear hc LT c1 c1' hr ht
  go_enter Tryz.func63,Tryz.ntmps63
  go_wp2_with fail
  refine (IS.out _).mono ?_
  rintro e w1 ⟨rfl,hb1⟩
  have B1:=hid' (B0.out.trans (hb1.mono B0.out.size))
  have trow:=(hb1.block _ (by simp)).trans (heap_alloc_new w (.cells #[.int .i64 s,.int .i64 f] 35))
  have t0:=cell_of_row _ _ 0 _ _ _ trow
  have t1:=cell_of_row _ _ 1 _ _ _ trow
  have p3:=(B1.out.cell (p:=⟨b,3,none⟩) lb).trans q3
  have p4:=(B1.out.cell (p:=⟨b,4,none⟩) lb).trans q4
  have lt1:=lt_of_heap trow
  have lb1:=Nat.lt_of_lt_of_le lb B1.out.size
  simp at t0 t1
  clear hb1 q3 q4 IS trow
  go_upto_region 4 with fail
  go_cut [6] from 7 (fun s6 wx => TimeAt w1 ts tf s6 wx)
  case first =>
   go_region_with (go_at_call 101;refine (SU.out _).mono ?_;rintro e w2 ⟨rfl,hb2⟩;have HB2:=hid' hb2;(try (have zr:=(hb2.block w1.heap.size (by simp <;> omega)).trans (heap_alloc_new w1 _);have HZR:=hid' zr;have y0:=cell_of_row _ _ 0 _ _ _ zr;have y1:=cell_of_row _ _ 1 _ _ _ zr;have g0:=frozen_of_row _ _ 0 _ _ zr;have g1:=frozen_of_row _ _ 1 _ _ zr;(simp at y0 y1);clear zr));clear hb2)
   all_goals
    go_wp2_with fail
    go_meet
    case rel =>
     refine ⟨_,rfl,?_,?_⟩
     ·first
       | exact ((Below.refl _ _).drew.trans HB2.out).alloc (by exact HB2.out.size) _
       | exact ((((Below.refl _ _).alloc (Nat.le_refl _) _).drew.trans (HB2.out.mono (by simp))).setCell (p:=⟨w1.heap.size,0,none⟩) (by simp) _).setCell (p:=⟨w1.heap.size,1,none⟩) (by simp) _
     ·first
       | exact heap_alloc_new _ _
       | exact two_row HZR.out
  case rest =>
   obtain ⟨tq,rfl,bel4,row4⟩:=hcut
   rename World => W2
   have B2:=hid' (B1.out.trans (bel4.mono B1.out.size))
   have RW4:=hid' row4
   have v0:=cell_of_row _ _ 0 _ _ _ row4
   have v1:=cell_of_row _ _ 1 _ _ _ row4
   simp at v0 v1
   clear bel4 row4 t0 t1 p3 p4 lt1 lb1 SU
   by_cases c2:isT ts tf = false
   ·rw [c2] at IS2
    have H:Hid (ad = (9,x)):=by show _ = _;rw [HAD.out,if_pos c2]
    clear c2
    go_wp2_with fail
    refine (IS2.out _).mono ?_
    rintro e w3 ⟨rfl,hb3⟩
    have B3:=hid' (B2.out.trans (hb3.mono B2.out.size))
    clear hb3 v0 v1
    go_wp2
    go_ret
    rw [H.out]
    exact ⟨rfl,HR.out.post.below B3.out⟩
   ·have c2':isT ts tf = true:=by simpa using c2
    have H:Hid (ad = (0,(x.at' ts tf).weigh)):=by show _ = _;rw [HAD.out,if_neg c2]
    rw [c2'] at IS2
    have HCN:=hid' (fun hl => HC.out c2' hl HLT.out)
    clear c2 c2'
    go_wp2_with fail
    refine (IS2.out _).mono ?_
    rintro e w3 ⟨rfl,hb3⟩
    have B3:=hid' (B2.out.trans (hb3.mono B2.out.size))
    have R3:=hid' (HR.out.below B3.out)
    have row3:=(hb3.block _ (lt_of_heap RW4.out)).trans RW4.out
    clear v0 v1 hb3
    have v0:=cell_of_row _ _ 0 _ _ _ row3
    have v1:=cell_of_row _ _ 1 _ _ _ row3
    have d3:=cell_of_row _ _ 3 _ _ _ R3.out.row
    have d4:=cell_of_row _ _ 4 _ _ _ R3.out.row
    have f3:=frozen_of_row _ _ 3 _ _ R3.out.row
    have f4:=frozen_of_row _ _ 4 _ _ R3.out.row
    simp at v0 v1 d3 d4
    have R4:=R3.out.putN ts tf
    have WG:=hid' (ref_weigh b (x.at' ts tf) dv bv cv hv _ R4 h1 h2 (fun hl => HCN.out hl))
    have O4:=hid' (((Off.of_below (F:=rFoot b dv bv cv hv) B3.out).setCell (p:=⟨b,3,none⟩) (fun _ => .inl rfl) (.int .i64 ts)).setCell (p:=⟨b,4,none⟩) (fun _ => .inl rfl) (.int .i64 tf))
    clear R4 row3
    go_wp2_with fail
    refine WG.out.mono ?_
    rintro e w5 ⟨rfl,p5⟩
    have P5:=hid' p5
    clear p5 WG
    go_wp2
    go_ret
    rw [H.out]
    exact ⟨rfl,rpost_then O4.out (fun _ e => .inl e) P5.out⟩
end Go.Proofs.YtmmkhodaljpjgaaGreatDoor
namespace Go.Proofs.YtmmkhodaljpjgaaGreatDoor
open Go.RowKit
attribute [local go_sem ↓] Go.wp_at_zero Go.wp_at_succ
theorem RSrv.putH {b:Nat} {s:Sv} {dv bv cv:Value} {g n cap:Nat} {w:World} (h:RSrv b s dv bv cv (.slice (some ⟨g,0,none⟩) n cap) w) (hn:s.said.length = n) (k:Nat) (leap:Int) :
  RSrv b (s.says k leap) dv bv cv (.slice (some ⟨g,0,none⟩) n cap) ((((w.setCell ⟨g,k * 4,none⟩ (.bool true)).setCell ⟨g,k * 4 + 1,none⟩ (.int .i64 leap)).setCell ⟨g,k * 4 + 2,none⟩ (.int .i64 s.ns)).setCell ⟨g,k * 4 + 3,none⟩ (.int .i64 s.nf)):=by
 have ss:=h.ss
 rw [hn] at ss
 have d1:=own_put ss (k * 4) (.bool true)
 have d2:=own_put d1 (k * 4 + 1) (.int .i64 leap)
 have d3:=own_put d2 (k * 4 + 2) (.int .i64 s.ns)
 have d4:=own_put d3 (k * 4 + 3) (.int .i64 s.nf)
 rw [← flatH_set s.said k ⟨true,leap,s.ns,s.nf⟩] at d4
 have row:∀ {W:World} {xs:List Value},W.ownsRow 0 160 4 (.slice (some ⟨g,0,none⟩) n cap) n xs → ∃ cur,W.heap[g]? = some (.cells cur 160 (0,0)):=fun h => by
  rcases h.2 with ⟨h0,_⟩ | ⟨g',cap',cur,hv,_,hg,_⟩
  ·cases h0
  ·cases hv;exact ⟨_,hg⟩
 obtain ⟨q1,r1⟩:=row ss
 obtain ⟨q2,r2⟩:=row d1
 obtain ⟨q3,r3⟩:=row d2
 obtain ⟨q4,r4⟩:=row d3
 have hK:∀ t,160 ≠ t → Keep t w _:=fun t ht => ((((Keep.refl t w).setCell (p:=⟨g,k * 4,none⟩) r1 ht (.bool true)).setCell (p:=⟨g,k * 4 + 1,none⟩) r2 ht (.int .i64 leap)).setCell (p:=⟨g,k * 4 + 2,none⟩) r3 ht (.int .i64 s.ns)).setCell (p:=⟨g,k * 4 + 3,none⟩) r4 ht (.int .i64 s.nf)
 refine ⟨hK _ (by decide) _ _ _ h.row,own_keep h.dd (hK _ (by decide)),own_keep h.bb (hK _ (by decide)),own_keep h.cc (hK _ (by decide)),?_⟩
 show World.ownsRow _ 0 _ 4 _ (s.said.set k ⟨true,leap,s.ns,s.nf⟩).length _
 rw [List.length_set,hn]
 exact d4
set_option maxRecDepth 100000 in
set_option maxHeartbeats 3200000 in
theorem ref_hear (b:Nat) (x:Sv) (dv bv cv hv:Value) (src leap:Int) (w:World) (hr:RSrv b x dv bv cv hv w) (hl:x.said.length ≤ 100) (h1:x.done.length + x.com.length ≤ 1000) (h2:x.began.length + x.com.length ≤ 1000)
  (hc:∀ k lp,x.ld = true → (x.says k lp).begun.Can) :
  Calls Tryz.prog 67 #[.pointer (some ⟨b,0,none⟩),.int .i64 src,.int .i64 leap] w fun e w' => e = .returned (.int .i64 (x.hear src leap).1) ∧ RPost b (rFoot b dv bv cv hv) w (x.hear src leap).2 w':=by
 have HR:=hid' hr
 have HH:Hid (x.hear src leap = if src < 0 ∨ (x.said.length:Int) ≤ src then (13,x) else if leap < 0 ∨ 3 < leap then (14,x) else (0,(x.says src.toNat leap).weigh)):=rfl
 generalize x.hear src leap = ad at *
 have q12:=cell_of_row _ _ 12 _ _ _ hr.row
 have q3:=cell_of_row _ _ 3 _ _ _ hr.row
 have q4:=cell_of_row _ _ 4 _ _ _ hr.row
 obtain ⟨ha,hcp,hhv⟩:=own_slice hr.ss
 subst hhv
 simp at q12 q3 q4
 by_cases c1:src < 0
 ·have H:Hid (ad = (13,x)):=by show _ = _;rw [HH.out,if_pos (.inl c1)]
  clear hr hc
  go_enter Tryz.func67,Tryz.ntmps67
  go_wp2
  go_ret
  rw [H.out];exact ⟨rfl,HR.out.post⟩
 ·by_cases c2:(x.said.length:Int) ≤ src
  ·have H:Hid (ad = (13,x)):=by show _ = _;rw [HH.out,if_pos (.inr c2)]
   clear hr hc
   go_enter Tryz.func67,Tryz.ntmps67
   go_wp2
   go_ret
   rw [H.out];exact ⟨rfl,HR.out.post⟩
  ·by_cases c3:leap < 0
   ·have H:Hid (ad = (14,x)):=by show _ = _;rw [HH.out,if_neg (by omega),if_pos (.inl c3)]
    clear hr hc
    go_enter Tryz.func67,Tryz.ntmps67
    go_wp2
    go_ret
    rw [H.out];exact ⟨rfl,HR.out.post⟩
   ·by_cases c4:3 < leap
    ·have H:Hid (ad = (14,x)):=by show _ = _;rw [HH.out,if_neg (by omega),if_pos (.inr c4)]
     clear hr hc
     go_enter Tryz.func67,Tryz.ntmps67
     go_wp2
     go_ret
     rw [H.out];exact ⟨rfl,HR.out.post⟩
    ·have H:Hid (ad = (0,(x.says src.toNat leap).weigh)):=by show _ = _;rw [HH.out,if_neg (by omega),if_neg (by omega)]
     obtain ⟨k,rfl⟩:=Int.eq_ofNat_of_zero_le (show 0 ≤ src by omega)
     have hkl:k < x.said.length:=by omega
     obtain ⟨g,cap',hg⟩:=own_some hr.ss (show 0 < x.said.length by omega)
     obtain ⟨rfl,-,rfl⟩:=Value.slice.inj hg
     have a0:=(hr.ss.cellAt (k * 4 + 0) (by omega)).trans (flatH_at x.said k hkl 0 (by omega))
     have a1:=(hr.ss.cellAt (k * 4 + 1) (by omega)).trans (flatH_at x.said k hkl 1 (by omega))
     have a2:=(hr.ss.cellAt (k * 4 + 2) (by omega)).trans (flatH_at x.said k hkl 2 (by omega))
     have a3:=(hr.ss.cellAt (k * 4 + 3) (by omega)).trans (flatH_at x.said k hkl 3 (by omega))
     simp at a0 a1 a2 a3
     have f0:=own_free hr.ss (k * 4)
     have f1:=own_free hr.ss (k * 4 + 1)
     have f2:=own_free hr.ss (k * 4 + 2)
     have f3:=own_free hr.ss (k * 4 + 3)
     have PH:=hr.putH rfl k leap
     have O4:=hid' ((((((Off.refl (rFoot b dv bv cv (.slice (some ⟨g,0,none⟩) x.said.length hcp)) w).setCell (p:=⟨g,k * 4,none⟩) (fun _ => .inr (.inr (.inr (.inr rfl)))) (.bool true)).setCell (p:=⟨g,k * 4 + 1,none⟩) (fun _ => .inr (.inr (.inr (.inr rfl)))) (.int .i64 leap)).setCell (p:=⟨g,k * 4 + 2,none⟩) (fun _ => .inr (.inr (.inr (.inr rfl)))) (.int .i64 x.ns)).setCell (p:=⟨g,k * 4 + 3,none⟩) (fun _ => .inr (.inr (.inr (.inr rfl)))) (.int .i64 x.nf)).drew)
     have WG:=hid' (ref_weigh b (x.says k leap) dv bv cv _ _ (PH.below ((Below.refl _ _).drew)) h1 h2 (fun h => hc k leap h))
     rw [Int.toNat_natCast] at H
     have z0:(0:Int) ≤ (k:Int):=by omega
     have z1:(k:Int) < (x.said.length:Int):=by omega
     clear hr hc PH hg
     go_enter Tryz.func67,Tryz.ntmps67
     go_wp2_with fail
     go_region
     all_goals
      go_wp2_with fail
      refine WG.out.mono ?_
      rintro e w5 ⟨rfl,p5⟩
      have P5:=hid' p5
      clear p5
      go_wp2
      go_ret
      rw [H.out]
      exact ⟨rfl,rpost_then O4.out (fun _ e => .inl e) P5.out⟩
end Go.Proofs.YtmmkhodaljpjgaaGreatDoor
namespace Go.Proofs.YtmmkhodaljpjgaaGreatDoor
open Go.RowKit
set_option maxRecDepth 100000 in
set_option maxHeartbeats 1000000 in
theorem ref_offset (B:Nat) (lv:Value) (ls:List (Int × Int)) (up ex sec:Int) (w:World) (wu:(Lit.int .i64 up).wf = true) (wx:(Lit.int .i64 ex).wf = true)
  (hv:w.ownsRow B 46 2 lv ls.length (flat ls)) (hn:ls.length ≤ 100000) (hwf:∀ p ∈ ls,WfP p) :
  Calls Tryz.prog 48 #[.agg #[.int .i64 up,.int .i64 ex,lv],.int .i64 sec] w fun e w' =>
   e = .returned (.tuple #[.int .i64 (Tab.offset up ex ls sec).1,.int .i64 (Tab.offset up ex ls sec).2]) ∧ Below w.heap.size w w':=by
 have HBel:=hid' ((Below.refl w.heap.size w).alloc (Nat.le_refl _) (.cells #[.int .i64 up,.int .i64 ex,lv] 33))
 have HW:=hid' (whole_any B lv ls up ex (w.alloc (.cells #[.int .i64 up,.int .i64 ex,lv] 33)) wu wx (hv.alloc _) hn hwf)
 have HROW:=hid' (heap_alloc_new w (.cells #[.int .i64 up,.int .i64 ex,lv] 33))
 clear wu wx hwf
 cases hwh:Tab.whole up ex ls with
 | false =>
  rw [hwh] at HW
  have H:Hid (Tab.offset up ex ls sec = (0,8)):=by show _ = _;unfold Tab.offset;rw [if_pos hwh]
  clear hwh hv
  go_enter Tryz.func48,Tryz.ntmps48
  go_wp2_with (go_at_call 79;refine HW.out.mono ?_;rintro e w1 ⟨rfl,hb1⟩;have HB1:=hid' hb1;clear hb1)
  go_ret2
  exact ⟨ret_pair (by rw [H.out]) (by rw [H.out]),HBel.out.trans (HB1.out.mono HBel.out.size)⟩
 | true =>
  rw [hwh] at HW
  obtain ⟨hok,hpos⟩:=Tab.whole_ok hwh
  have hfine:=Tab.fine_of_whole hwh
  have HFine:=hid' hfine
  clear hok hfine
  have HNW:=hid' (show ¬ Tab.whole up ex ls = false by rw [hwh];simp)
  clear hwh
  obtain ⟨g,cap,rfl⟩:=own_some hv hpos
  have hgl:=(hv.lt _ rfl).2
  have HLies:=hid' (lies_of_own hv)
  clear hv
  by_cases h1:34000000000 < sec
  ·have H:Hid (Tab.offset up ex ls sec = (0,9)):=by show _ = _;unfold Tab.offset;rw [if_neg HNW.out,if_pos h1]
   go_enter Tryz.func48,Tryz.ntmps48
   go_wp2_with (go_at_call 79;refine HW.out.mono ?_;rintro e w1 ⟨rfl,hb1⟩;have HB1:=hid' hb1;clear hb1)
   go_ret2
   exact ⟨ret_pair (by rw [H.out]) (by rw [H.out]),HBel.out.trans (HB1.out.mono HBel.out.size)⟩
  ·have hbd:=Tab.lastAt_bd ls sec ls.length
   by_cases h2:Tab.lastAt ls sec ls.length < 0
   ·have H:Hid (Tab.offset up ex ls sec = (0,9)):=by show _ = _;unfold Tab.offset;rw [if_neg HNW.out,if_neg h1,if_pos h2]
    have HAT:∀ w1,Lies w1 g ls → Hid (Calls Tryz.prog 83 #[.slice (some ⟨g,0,none⟩) ls.length cap,.int .i64 sec] w1 fun e w' => e = .returned (.int .i64 (Tab.lastAt ls sec ls.length)) ∧ w' = w1):=fun w1 h => ref_at g cap ls.length ls sec w1 rfl h HFine.out hn
    have HATH:=hid' HAT
    clear HAT
    generalize Tab.lastAt ls sec ls.length = k at *
    go_enter Tryz.func48,Tryz.ntmps48
    go_wp2_with (first
     | (go_at_call 79;refine HW.out.mono ?_;rintro e w1 ⟨rfl,hb1⟩;have HB1:=hid' (HBel.out.trans (hb1.mono HBel.out.size));have t2:=cell_of_row _ _ 2 _ _ _ ((hb1.block _ (lt_of_heap HROW.out)).trans HROW.out);(simp at t2);clear hb1)
     | (go_at_call 83;refine (HATH.out w1 (HLies.out.below hgl HB1.out)).out.mono ?_;rintro e w2 ⟨rfl,rfl⟩))
    go_ret2
    exact ⟨ret_pair (by rw [H.out]) (by rw [H.out]),HB1.out⟩
   ·obtain ⟨k,hk⟩:∃ k:Nat,Tab.lastAt ls sec ls.length = (k:Int):=⟨(Tab.lastAt ls sec ls.length).toNat,by omega⟩
    have hkl:k < ls.length:=by omega
    have H:Hid (Tab.offset up ex ls sec = (ls[k].2,0)):=by show _ = _;unfold Tab.offset;rw [if_neg HNW.out,if_neg h1,if_neg h2,hk,Int.toNat_natCast,getD_at k hkl]
    have HAT:∀ w1,Lies w1 g ls → Hid (Calls Tryz.prog 83 #[.slice (some ⟨g,0,none⟩) ls.length cap,.int .i64 sec] w1 fun e w' => e = .returned (.int .i64 (k:Int)) ∧ w' = w1):=fun w1 h => by rw [← hk];exact ref_at g cap ls.length ls sec w1 rfl h HFine.out hn
    have HATH:=hid' HAT
    have hcell:=(HLies.out k hkl).2
    clear HAT hk hbd h2
    generalize ls[k] = p at *
    obtain ⟨pa,po⟩:=p
    simp only at hcell
    go_enter Tryz.func48,Tryz.ntmps48
    go_wp2_with (first
     | (go_at_call 79;refine HW.out.mono ?_;rintro e w1 ⟨rfl,hb1⟩;have HB1:=hid' (HBel.out.trans (hb1.mono HBel.out.size));have t2:=cell_of_row _ _ 2 _ _ _ ((hb1.block _ (lt_of_heap HROW.out)).trans HROW.out);(simp at t2);have hc1:=(HB1.out.cell (p:=⟨g,k * 2 + 1,none⟩) hgl).trans hcell;clear hb1)
     | (go_at_call 83;refine (HATH.out w1 (HLies.out.below hgl HB1.out)).out.mono ?_;rintro e w2 ⟨rfl,rfl⟩))
    go_ret2
    exact ⟨ret_pair (by rw [H.out]) (by rw [H.out]),HB1.out⟩
set_option maxRecDepth 100000 in
theorem ref_begins (g cap n:Nat) (ls:List (Int × Int)) (d:Int) (w:World) (hn:ls.length = n) (hp:0 < n) (hl:Lies w g ls) (hf:Fine ls) (hb:n ≤ 100000) (d0:-10 ≤ d) (d1:d ≤ 500000) :
  Calls Tryz.prog 86 #[.slice (some ⟨g,0,none⟩) n cap,.int .i64 d] w fun e w' => e = .returned (.int .i64 (Tab.begins ls d)) ∧ w' = w:=by
 have c0:=hl 0 (by omega)
 have f0:=hf _ (List.getElem_mem (show 0 < ls.length by omega))
 have g0:=getD_at (ls:=ls) 0 (by omega)
 generalize hp0:ls[0]'(by omega) = p at *
 obtain ⟨pa,po⟩:=p
 obtain ⟨c1,c2⟩:=c0
 simp only [Nat.zero_mul,Nat.zero_add] at c1 c2
 simp only at f0
 have HL:=hid' hl
 have HF:=hid' hf
 have HN:=hid' hn
 have HG0:=hid' g0
 clear hl hf hn hp0 g0
 by_cases hlt0:d * 86400 < pa
 ·have H:Hid (Tab.begins ls d = -1):=by show _ = _;unfold Tab.begins;rw [HG0.out,if_pos hlt0]
  go_enter Tryz.func86,Tryz.ntmps86
  go_wp2
  go_ret
  exact ⟨ret_int H.out.symm,rfl⟩
 ·have H:Hid (Tab.begins ls d = d * 86400 + Tab.offAt ls (d * 86400) (n - 1)):=by show _ = _;unfold Tab.begins;rw [HG0.out,if_neg hlt0,HN.out]
  have H0:Hid (Tab.offAt ls (d * 86400) 0 = po):=by show _ = _;unfold Tab.offAt;rw [HG0.out]
  go_enter Tryz.func86,Tryz.ntmps86
  go_wp2
  go_loop [5,6] (fun o i => ∃ k:Nat,k + 1 ≤ n ∧ i = .int .i64 ((k:Int) + 1) ∧ o = .int .i64 (Tab.offAt ls (d * 86400) k)) (fun _ i => n - (intOf i).toNat)
  case atStart => exact ⟨0,by omega,rfl,by rw [H0.out]⟩
  case round =>
   obtain ⟨k,hk,rfl,rfl⟩:=hrel
   have hbd:=Tab.offAt_bd HF.out (d * 86400) k (by rw [HN.out];omega)
   by_cases hlt:k + 1 < n
   ·have hkl:k + 1 < ls.length:=by rw [HN.out];exact hlt
    obtain ⟨e1,e2⟩:=HL.out (k + 1) hkl
    have hgd:=getD_at (ls:=ls) (k + 1) hkl
    have hS:Hid (Tab.offAt ls (d * 86400) (k + 1) = if ls[k + 1].1 ≤ d * 86400 then ls[k + 1].2 else Tab.offAt ls (d * 86400) k):=by
     show _ = _;rw [Tab.offAt,hgd]
    have hfq:=HF.out _ (List.getElem_mem hkl)
    clear hgd
    generalize ls[k + 1] = q at *
    clear hkl
    obtain ⟨qa,qo⟩:=q
    simp only at e1 e2 hfq
    by_cases hle:qa ≤ d * 86400
    ·have H2:Hid (Tab.offAt ls (d * 86400) (k + 1) = qo):=by show _ = _;rw [hS.out];simp only;rw [if_pos hle]
     generalize Tab.offAt ls (d * 86400) k = v at *
     go_wp2
     exact ⟨⟨k + 1,by omega,by go_num,by rw [H2.out]⟩,by simp [intOf];omega⟩
    ·have H2:Hid (Tab.offAt ls (d * 86400) (k + 1) = Tab.offAt ls (d * 86400) k):=by show _ = _;rw [hS.out];simp only;rw [if_neg hle]
     generalize hv:Tab.offAt ls (d * 86400) k = v at *
     go_wp2
     exact ⟨⟨k + 1,by omega,by go_num,by rw [H2.out]⟩,by simp [intOf];omega⟩
   ·have HK:Hid (Tab.offAt ls (d * 86400) k = Tab.offAt ls (d * 86400) (n - 1)):=by show _ = _;rw [show k = n - 1 from by omega]
    go_wp2
    go_ret
    exact ⟨ret_int (by rw [H.out,HK.out]),rfl⟩
set_option maxRecDepth 100000 in
theorem ref_length (g cap n:Nat) (ls:List (Int × Int)) (d:Int) (w:World) (hn:ls.length = n) (hp:0 < n) (hl:Lies w g ls) (hf:Fine ls) (hb:n ≤ 100000) (d0:-10 ≤ d) (d1:d ≤ 500000) :
  Calls Tryz.prog 88 #[.slice (some ⟨g,0,none⟩) n cap,.int .i64 d] w fun e w' => e = .returned (.int .i64 (Tab.length ls d)) ∧ ∃ m,w' = w.drewN m:=by
 have HL:=hid' hl
 have HF:=hid' hf
 have HN:=hid' hn
 have H:Hid (Tab.length ls d = Tab.lenFrom ls ((d + 1) * 86400) 1 (n - 1)):=by show _ = _;unfold Tab.length;rw [hn]
 clear hl hf hn
 go_enter Tryz.func88,Tryz.ntmps88
 go_wp2
 go_loop [5] (fun i => ∃ k:Nat,k + 1 ≤ n ∧ i = .int .i64 ((k:Int) + 1) ∧ Tab.length ls d = Tab.lenFrom ls ((d + 1) * 86400) (k + 1) (n - (k + 1))) (fun i => n - (intOf i).toNat)
 case atStart => exact ⟨0,by omega,rfl,H.out⟩
 case round =>
  obtain ⟨k,hk,rfl,hrl⟩:=hrel
  have HRL:=hid' hrl
  clear hrl H
  by_cases hlt:k + 1 < n
  ·have hkl:k + 1 < ls.length:=by rw [HN.out];exact hlt
   obtain ⟨e1,e2⟩:=HL.out (k + 1) hkl
   obtain ⟨_,b2⟩:=HL.out k (by omega)
   have hfq:=HF.out _ (List.getElem_mem hkl)
   have hfp:=HF.out _ (List.getElem_mem (show k < ls.length by omega))
   have hS:Hid (Tab.length ls d = if ls[k + 1].1 = (d + 1) * 86400 then 86400 + ls[k + 1].2 - (ls[k]'(by omega)).2 else Tab.lenFrom ls ((d + 1) * 86400) (k + 1 + 1) (n - (k + 1 + 1))):=by
    show _ = _
    rw [HRL.out,show n - (k + 1) = n - (k + 1 + 1) + 1 from by omega,Tab.lenFrom,getD_at (k + 1) hkl,show k + 1 - 1 = k from rfl,getD_at k (by omega)]
   generalize ls[k + 1] = q at *
   generalize ls[k]'(by omega) = p at *
   clear hkl
   obtain ⟨qa,qo⟩:=q
   obtain ⟨pa,po⟩:=p
   simp only at e1 e2 hfq b2 hfp
   by_cases hle:qa = (d + 1) * 86400
   ·have H2:Hid (Tab.length ls d = 86400 + qo - po):=by show _ = _;rw [hS.out];simp only;rw [if_pos hle]
    have hbq:(qa == (d + 1) * 86400) = true:=by rw [beq_iff_eq];exact hle
    clear hle hS HRL
    have r0:IntKind.i64.wrap ((k:Int) + 1 - 1) = (k:Int):=by rw [IntKind.wrap_i64];omega
    have r1:IntKind.i64.wrap (86400 + qo) = 86400 + qo:=by rw [IntKind.wrap_i64];omega
    have r2:IntKind.i64.wrap (86400 + qo - po) = 86400 + qo - po:=by rw [IntKind.wrap_i64];omega
    have z0:(0:Int) ≤ (k:Int):=by omega
    have z1:(k:Int) < (n:Int):=by omega
    have z2:(0:Int) ≤ (k:Int) + 1:=by omega
    have z3:(k:Int) + 1 < (n:Int):=by omega
    have z4:((k:Int) + 1).toNat = k + 1:=by omega
    go_wp2_with fail
    go_quiet (fail)
    go_wp2
    go_ret
    exact ⟨ret_int H2.out.symm,nq,rfl⟩
   ·have H2:Hid (Tab.length ls d = Tab.lenFrom ls ((d + 1) * 86400) (k + 1 + 1) (n - (k + 1 + 1))):=by show _ = _;rw [hS.out];simp only;rw [if_neg hle]
    have hbq:(qa == (d + 1) * 86400) = false:=by rw [beq_eq_false_iff_ne];exact hle
    clear hle hS HRL
    go_wp2
    exact ⟨⟨k + 1,by omega,by go_num,H2.out⟩,by simp [intOf];omega⟩
  ·have H2:Hid (Tab.length ls d = 86400):=by show _ = _;rw [HRL.out,show n - (k + 1) = 0 from by omega];rfl
   go_wp2
   go_ret
   exact ⟨ret_int H2.out.symm,0,rfl⟩
set_option maxRecDepth 100000 in
set_option maxHeartbeats 1000000 in
theorem ref_second (B:Nat) (lv:Value) (ls:List (Int × Int)) (up ex d s:Int) (w:World) (wu:(Lit.int .i64 up).wf = true) (wx:(Lit.int .i64 ex).wf = true)
  (hv:w.ownsRow B 46 2 lv ls.length (flat ls)) (hn:ls.length ≤ 100000) (hwf:∀ p ∈ ls,WfP p) :
  Calls Tryz.prog 52 #[.agg #[.int .i64 up,.int .i64 ex,lv],.int .i64 d,.int .i64 s] w fun e w' =>
   e = .returned (.tuple #[.int .i64 (Tab.second up ex ls d s).1,.int .i64 (Tab.second up ex ls d s).2]) ∧ Below w.heap.size w w':=by
 have HBel:=hid' ((Below.refl w.heap.size w).alloc (Nat.le_refl _) (.cells #[.int .i64 up,.int .i64 ex,lv] 33))
 have HW:=hid' (whole_any B lv ls up ex (w.alloc (.cells #[.int .i64 up,.int .i64 ex,lv] 33)) wu wx (hv.alloc _) hn hwf)
 have HROW:=hid' (heap_alloc_new w (.cells #[.int .i64 up,.int .i64 ex,lv] 33))
 clear wu wx hwf
 cases hwh:Tab.whole up ex ls with
 | false =>
  rw [hwh] at HW
  have H:Hid (Tab.second up ex ls d s = (0,8)):=by show _ = _;unfold Tab.second;rw [if_pos hwh]
  clear hwh hv
  go_enter Tryz.func52,Tryz.ntmps52
  go_wp2_with (go_at_call 79;refine HW.out.mono ?_;rintro e w1 ⟨rfl,hb1⟩;have HB1:=hid' hb1;clear hb1)
  go_ret2
  exact ⟨ret_pair (by rw [H.out]) (by rw [H.out]),HBel.out.trans (HB1.out.mono HBel.out.size)⟩
 | true =>
  rw [hwh] at HW
  obtain ⟨hok,hpos⟩:=Tab.whole_ok hwh
  have hfine:=Tab.fine_of_whole hwh
  have HFine:=hid' hfine
  have hbb:=Tab.begins_bd hfine hpos d
  have hlb:=Tab.length_bd hfine hpos d
  clear hok hfine
  have HNW:=hid' (show ¬ Tab.whole up ex ls = false by rw [hwh];simp)
  clear hwh
  obtain ⟨g,cap,rfl⟩:=own_some hv hpos
  have hgl:=(hv.lt _ rfl).2
  have HLies:=hid' (lies_of_own hv)
  clear hv
  by_cases h1:d < 0
  ·have H:Hid (Tab.second up ex ls d s = (0,9)):=by show _ = _;unfold Tab.second;rw [if_neg HNW.out,if_pos (.inl h1)]
   clear hbb hlb
   go_enter Tryz.func52,Tryz.ntmps52
   go_wp2_with (go_at_call 79;refine HW.out.mono ?_;rintro e w1 ⟨rfl,hb1⟩;have HB1:=hid' (HBel.out.trans (hb1.mono HBel.out.size));have t2:=cell_of_row _ _ 2 _ _ _ ((hb1.block _ (lt_of_heap HROW.out)).trans HROW.out);(simp at t2);clear hb1)
   go_ret2
   exact ⟨ret_pair (by rw [H.out]) (by rw [H.out]),HB1.out⟩
  by_cases h2:401767 ≤ d
  ·have H:Hid (Tab.second up ex ls d s = (0,9)):=by show _ = _;unfold Tab.second;rw [if_neg HNW.out,if_pos (.inr h2)]
   clear hbb hlb
   go_enter Tryz.func52,Tryz.ntmps52
   go_wp2_with (go_at_call 79;refine HW.out.mono ?_;rintro e w1 ⟨rfl,hb1⟩;have HB1:=hid' (HBel.out.trans (hb1.mono HBel.out.size));have t2:=cell_of_row _ _ 2 _ _ _ ((hb1.block _ (lt_of_heap HROW.out)).trans HROW.out);(simp at t2);clear hb1)
   go_ret2
   exact ⟨ret_pair (by rw [H.out]) (by rw [H.out]),HB1.out⟩
  have hD:¬ (d < 0 ∨ 401767 ≤ d):=by omega
  have hbg:∀ w1,Lies w1 g ls → Calls Tryz.prog 86 #[.slice (some ⟨g,0,none⟩) ls.length cap,.int .i64 d] w1 fun e w' => e = .returned (.int .i64 (Tab.begins ls d)) ∧ w' = w1:=fun w1 h => ref_begins g cap ls.length ls d w1 rfl hpos h HFine.out hn (by omega) (by omega)
  have HBG:=hid' hbg
  have hln:∀ w1,Lies w1 g ls → Calls Tryz.prog 88 #[.slice (some ⟨g,0,none⟩) ls.length cap,.int .i64 d] w1 fun e w' => e = .returned (.int .i64 (Tab.length ls d)) ∧ ∃ m,w' = w1.drewN m:=fun w1 h => ref_length g cap ls.length ls d w1 rfl hpos h HFine.out hn (by omega) (by omega)
  have HLN:=hid' hln
  clear hbg hln
  by_cases h3:Tab.begins ls d < 0
  ·have hQ:Tab.begins ls d < 0 ∨ s < 0 ∨ Tab.length ls d ≤ s ∨ 34000000000 < Tab.begins ls d + s:=.inl h3
   have H:Hid (Tab.second up ex ls d s = (0,9)):=by show _ = _;unfold Tab.second;rw [if_neg HNW.out,if_neg hD,if_pos hQ]
   clear hQ
   generalize Tab.begins ls d = b at *
   generalize Tab.length ls d = n at *
   go_enter Tryz.func52,Tryz.ntmps52
   go_wp2_with (first
    | (go_at_call 79;refine HW.out.mono ?_;rintro e w1 ⟨rfl,hb1⟩;have HB1:=hid' (HBel.out.trans (hb1.mono HBel.out.size));have t2:=cell_of_row _ _ 2 _ _ _ ((hb1.block _ (lt_of_heap HROW.out)).trans HROW.out);(simp at t2);clear hb1)
    | (go_at_call 86;refine (HBG.out w1 (HLies.out.below hgl HB1.out)).mono ?_;rintro e w2 ⟨rfl,rfl⟩))
   go_ret2
   exact ⟨ret_pair (by rw [H.out]) (by rw [H.out]),HB1.out⟩
  by_cases h4:s < 0
  ·have hQ:Tab.begins ls d < 0 ∨ s < 0 ∨ Tab.length ls d ≤ s ∨ 34000000000 < Tab.begins ls d + s:=.inr (.inl h4)
   have H:Hid (Tab.second up ex ls d s = (0,9)):=by show _ = _;unfold Tab.second;rw [if_neg HNW.out,if_neg hD,if_pos hQ]
   clear hQ
   generalize Tab.begins ls d = b at *
   generalize Tab.length ls d = n at *
   go_enter Tryz.func52,Tryz.ntmps52
   go_wp2_with (first
    | (go_at_call 79;refine HW.out.mono ?_;rintro e w1 ⟨rfl,hb1⟩;have HB1:=hid' (HBel.out.trans (hb1.mono HBel.out.size));have t2:=cell_of_row _ _ 2 _ _ _ ((hb1.block _ (lt_of_heap HROW.out)).trans HROW.out);(simp at t2);clear hb1)
    | (go_at_call 86;refine (HBG.out w1 (HLies.out.below hgl HB1.out)).mono ?_;rintro e w2 ⟨rfl,rfl⟩))
   go_ret2
   exact ⟨ret_pair (by rw [H.out]) (by rw [H.out]),HB1.out⟩
  by_cases h5:Tab.length ls d ≤ s
  ·have hQ:Tab.begins ls d < 0 ∨ s < 0 ∨ Tab.length ls d ≤ s ∨ 34000000000 < Tab.begins ls d + s:=.inr (.inr (.inl h5))
   have H:Hid (Tab.second up ex ls d s = (0,9)):=by show _ = _;unfold Tab.second;rw [if_neg HNW.out,if_neg hD,if_pos hQ]
   clear hQ
   generalize Tab.begins ls d = b at *
   generalize Tab.length ls d = n at *
   go_enter Tryz.func52,Tryz.ntmps52
   go_wp2_with (first
    | (go_at_call 79;refine HW.out.mono ?_;rintro e w1 ⟨rfl,hb1⟩;have HB1:=hid' (HBel.out.trans (hb1.mono HBel.out.size));have t2:=cell_of_row _ _ 2 _ _ _ ((hb1.block _ (lt_of_heap HROW.out)).trans HROW.out);(simp at t2);clear hb1)
    | (go_at_call 86;refine (HBG.out w1 (HLies.out.below hgl HB1.out)).mono ?_;rintro e w2 ⟨rfl,rfl⟩)
    | (go_at_call 88;refine (HLN.out _ (HLies.out.below hgl HB1.out)).mono ?_;rintro e w2 ⟨rfl,m2,rfl⟩))
   go_ret2
   exact ⟨ret_pair (by rw [H.out]) (by rw [H.out]),below_drewN HB1.out m2⟩
  by_cases h6:34000000000 < Tab.begins ls d + s
  ·have hQ:Tab.begins ls d < 0 ∨ s < 0 ∨ Tab.length ls d ≤ s ∨ 34000000000 < Tab.begins ls d + s:=.inr (.inr (.inr h6))
   have H:Hid (Tab.second up ex ls d s = (0,9)):=by show _ = _;unfold Tab.second;rw [if_neg HNW.out,if_neg hD,if_pos hQ]
   clear hQ
   generalize Tab.begins ls d = b at *
   generalize Tab.length ls d = n at *
   go_enter Tryz.func52,Tryz.ntmps52
   go_wp2_with (first
    | (go_at_call 79;refine HW.out.mono ?_;rintro e w1 ⟨rfl,hb1⟩;have HB1:=hid' (HBel.out.trans (hb1.mono HBel.out.size));have t2:=cell_of_row _ _ 2 _ _ _ ((hb1.block _ (lt_of_heap HROW.out)).trans HROW.out);(simp at t2);clear hb1)
    | (go_at_call 86;refine (HBG.out w1 (HLies.out.below hgl HB1.out)).mono ?_;rintro e w2 ⟨rfl,rfl⟩)
    | (go_at_call 88;refine (HLN.out _ (HLies.out.below hgl HB1.out)).mono ?_;rintro e w2 ⟨rfl,m2,rfl⟩))
   go_ret2
   exact ⟨ret_pair (by rw [H.out]) (by rw [H.out]),below_drewN HB1.out m2⟩
  have hQ:¬ (Tab.begins ls d < 0 ∨ s < 0 ∨ Tab.length ls d ≤ s ∨ 34000000000 < Tab.begins ls d + s):=by omega
  have H:Hid (Tab.second up ex ls d s = (Tab.begins ls d + s,0)):=by show _ = _;unfold Tab.second;rw [if_neg HNW.out,if_neg hD,if_neg hQ]
  clear hQ
  generalize Tab.begins ls d = b at *
  generalize Tab.length ls d = n at *
  go_enter Tryz.func52,Tryz.ntmps52
  go_wp2_with (first
   | (go_at_call 79;refine HW.out.mono ?_;rintro e w1 ⟨rfl,hb1⟩;have HB1:=hid' (HBel.out.trans (hb1.mono HBel.out.size));have t2:=cell_of_row _ _ 2 _ _ _ ((hb1.block _ (lt_of_heap HROW.out)).trans HROW.out);(simp at t2);clear hb1)
   | (go_at_call 86;refine (HBG.out w1 (HLies.out.below hgl HB1.out)).mono ?_;rintro e w2 ⟨rfl,rfl⟩)
   | (go_at_call 88;refine (HLN.out _ (HLies.out.below hgl HB1.out)).mono ?_;rintro e w2 ⟨rfl,m2,rfl⟩))
  go_ret2
  exact ⟨ret_pair (by rw [H.out]) (by rw [H.out]),below_drewN HB1.out m2⟩
namespace Tab
end Tab
set_option maxRecDepth 100000 in
theorem ref_today (g cap n:Nat) (ls:List (Int × Int)) (sec e:Int) (w:World) (hn:ls.length = n) (hl:Lies w g ls) (hG:Tab.Good ls) (hD:Tab.Day ls sec e) (s1:sec ≤ 34000000000) :
  Calls Tryz.prog 85 #[.slice (some ⟨g,0,none⟩) n cap,.int .i64 sec] w fun q w' => q = .returned (.int .i64 e) ∧ ∃ m,w' = w.drewN m:=by
 have a0:=(hG.fine _ (List.getElem_mem hG.pos)).1
 rw [← getD_at 0 hG.pos] at a0
 have hbe:=hG.begins_ge e hD.from'
 have hlen:=Tab.length_bd hG.fine hG.pos e
 have d1:=hD.lo
 have d2:=hD.hi
 have d3:=hD.from'
 have hp:0 < n:=by rw [← hn];exact hG.pos
 have hb40:n ≤ 40:=by rw [← hn];exact hG.len
 have e0:0 ≤ e:=by omega
 have e1:e ≤ 400000:=by omega
 have hstart:86400 < sec → sec / 86400 - 1 ≤ e:=fun h => by omega
 have hs0:0 ≤ sec:=by omega
 have HST:=hid' hstart
 have HL:Hid (∀ m,Lies (w.drewN m) g ls):=fun m => hl
 have HG:=hid' hG
 have HD:=hid' hD
 have HN:=hid' hn
 clear hl hG hD hn hstart a0 hbe hlen d1 d2 d3
 go_enter Tryz.func85,Tryz.ntmps85
 by_cases hsec:86400 < sec
 ·have hst:=HST.out hsec
  go_wp2_with fail
  go_loopw [5,6,7] (fun d _ _ wr => ∃ (x:Int) (m:Nat),0 ≤ x ∧ x ≤ e ∧ d = .int .i64 x ∧ wr = w.drewN m) (fun d _ _ _ => (e - intOf d).toNat)
  case atStart => exact ⟨_,0,by omega,by omega,rfl,rfl⟩
  case round =>
   obtain ⟨x,m,x0,x1,rfl,rfl⟩:=hrel
   have HBG:=hid' (ref_begins g cap n ls x (w.drewN m) HN.out hp (HL.out m) HG.out.fine (by omega) (by omega) (by omega))
   have HLN:=hid' (ref_length g cap n ls x (w.drewN m) HN.out hp (HL.out m) HG.out.fine (by omega) (by omega) (by omega))
   have bb:=Tab.begins_bd HG.out.fine HG.out.pos x
   have lb:=Tab.length_bd HG.out.fine HG.out.pos x
   by_cases hx:x = e
   ·have HX:=hid' hx
    have f1:0 ≤ Tab.begins ls x:=by rw [hx];have:=HG.out.begins_ge e HD.out.from';omega
    have f2:sec < Tab.begins ls x + Tab.length ls x:=by rw [hx];exact HD.out.hi
    clear hx
    generalize Tab.begins ls x = b at *
    generalize Tab.length ls x = l at *
    generalize hV:w.drewN m = V at *
    have HV:=hid' hV
    clear hV
    go_wp2_with (first
     | (go_at_call 86;refine HBG.out.mono ?_;rintro q w2 ⟨rfl,rfl⟩)
     | (go_at_call 88;refine HLN.out.mono ?_;rintro q w2 ⟨rfl,m2,rfl⟩))
    go_ret
    exact ⟨ret_int HX.out,m + m2,by rw [← HV.out,World.drewN_drewN]⟩
   ·have hlt:x < e:=by omega
    clear hx
    by_cases hneg:Tab.begins ls x < 0
    ·generalize Tab.begins ls x = b at *
     generalize Tab.length ls x = l at *
     generalize hV:w.drewN m = V at *
     have HV:=hid' hV
     clear hV
     go_wp2_with (first
      | (go_at_call 86;refine HBG.out.mono ?_;rintro q w2 ⟨rfl,rfl⟩)
      | (go_at_call 88;refine HLN.out.mono ?_;rintro q w2 ⟨rfl,m2,rfl⟩))
     go_roundw
     case rel => exact ⟨x + 1,m + m2,by omega,by omega,by go_num,by rw [← HV.out,World.drewN_drewN]⟩
     case measure => simp [intOf];omega
    ·have hfx:(ls.getD 0 (0,0)).1 ≤ x * 86400:=by
      by_cases c:x * 86400 < (ls.getD 0 (0,0)).1
      ·exfalso;apply hneg;unfold Tab.begins;rw [if_pos c];omega
      ·omega
     have f2:Tab.begins ls x + Tab.length ls x ≤ sec:=by
      have a:=HG.out.next x hfx
      have b:=HG.out.le x e hfx hlt
      have c:=HD.out.lo
      omega
     clear hfx
     generalize Tab.begins ls x = b at *
     generalize Tab.length ls x = l at *
     generalize hV:w.drewN m = V at *
     have HV:=hid' hV
     clear hV
     go_wp2_with (first
      | (go_at_call 86;refine HBG.out.mono ?_;rintro q w2 ⟨rfl,rfl⟩)
      | (go_at_call 88;refine HLN.out.mono ?_;rintro q w2 ⟨rfl,m2,rfl⟩))
     go_roundw
     case rel => exact ⟨x + 1,m + m2,by omega,by omega,by go_num,by rw [← HV.out,World.drewN_drewN]⟩
     case measure => simp [intOf];omega
 ·go_wp2_with fail
  go_loopw [5,6,7] (fun d _ _ wr => ∃ (x:Int) (m:Nat),0 ≤ x ∧ x ≤ e ∧ d = .int .i64 x ∧ wr = w.drewN m) (fun d _ _ _ => (e - intOf d).toNat)
  case atStart => exact ⟨_,0,by omega,by omega,rfl,rfl⟩
  case round =>
   obtain ⟨x,m,x0,x1,rfl,rfl⟩:=hrel
   have HBG:=hid' (ref_begins g cap n ls x (w.drewN m) HN.out hp (HL.out m) HG.out.fine (by omega) (by omega) (by omega))
   have HLN:=hid' (ref_length g cap n ls x (w.drewN m) HN.out hp (HL.out m) HG.out.fine (by omega) (by omega) (by omega))
   have bb:=Tab.begins_bd HG.out.fine HG.out.pos x
   have lb:=Tab.length_bd HG.out.fine HG.out.pos x
   by_cases hx:x = e
   ·have HX:=hid' hx
    have f1:0 ≤ Tab.begins ls x:=by rw [hx];have:=HG.out.begins_ge e HD.out.from';omega
    have f2:sec < Tab.begins ls x + Tab.length ls x:=by rw [hx];exact HD.out.hi
    clear hx
    generalize Tab.begins ls x = b at *
    generalize Tab.length ls x = l at *
    generalize hV:w.drewN m = V at *
    have HV:=hid' hV
    clear hV
    go_wp2_with (first
     | (go_at_call 86;refine HBG.out.mono ?_;rintro q w2 ⟨rfl,rfl⟩)
     | (go_at_call 88;refine HLN.out.mono ?_;rintro q w2 ⟨rfl,m2,rfl⟩))
    go_ret
    exact ⟨ret_int HX.out,m + m2,by rw [← HV.out,World.drewN_drewN]⟩
   ·have hlt:x < e:=by omega
    clear hx
    by_cases hneg:Tab.begins ls x < 0
    ·generalize Tab.begins ls x = b at *
     generalize Tab.length ls x = l at *
     generalize hV:w.drewN m = V at *
     have HV:=hid' hV
     clear hV
     go_wp2_with (first
      | (go_at_call 86;refine HBG.out.mono ?_;rintro q w2 ⟨rfl,rfl⟩)
      | (go_at_call 88;refine HLN.out.mono ?_;rintro q w2 ⟨rfl,m2,rfl⟩))
     go_roundw
     case rel => exact ⟨x + 1,m + m2,by omega,by omega,by go_num,by rw [← HV.out,World.drewN_drewN]⟩
     case measure => simp [intOf];omega
    ·have hfx:(ls.getD 0 (0,0)).1 ≤ x * 86400:=by
      by_cases c:x * 86400 < (ls.getD 0 (0,0)).1
      ·exfalso;apply hneg;unfold Tab.begins;rw [if_pos c];omega
      ·omega
     have f2:Tab.begins ls x + Tab.length ls x ≤ sec:=by
      have a:=HG.out.next x hfx
      have b:=HG.out.le x e hfx hlt
      have c:=HD.out.lo
      omega
     clear hfx
     generalize Tab.begins ls x = b at *
     generalize Tab.length ls x = l at *
     generalize hV:w.drewN m = V at *
     have HV:=hid' hV
     clear hV
     go_wp2_with (first
      | (go_at_call 86;refine HBG.out.mono ?_;rintro q w2 ⟨rfl,rfl⟩)
      | (go_at_call 88;refine HLN.out.mono ?_;rintro q w2 ⟨rfl,m2,rfl⟩))
     go_roundw
     case rel => exact ⟨x + 1,m + m2,by omega,by omega,by go_num,by rw [← HV.out,World.drewN_drewN]⟩
     case measure => simp [intOf];omega
end Go.Proofs.YtmmkhodaljpjgaaGreatDoor
