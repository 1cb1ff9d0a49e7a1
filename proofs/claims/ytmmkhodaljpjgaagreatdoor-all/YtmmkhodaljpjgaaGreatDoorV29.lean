import Derived.Test.YtmmkhodaljpjgaaGreatDoorV26
import Derived.Test.YtmmkhodaljpjgaaGreatDoorV28
set_option maxRecDepth 100000
set_option maxHeartbeats 6400000
namespace Go.Proofs.YtmmkhodaljpjgaaGreatDoor
open Go.RowKit
attribute [local go_sem ↓] Go.wp_at_zero Go.wp_at_succ
theorem ref_window (b:Nat) (x:Sv) (dv bv cv hv:Value) (i:Int) (w:World) (hr:RSrv b x dv bv cv hv w) (hl:x.done.length ≤ 1000) (hb:x.BegOk) (hw:x.WinAt i) :
  Calls Tryz.prog 94 #[.pointer (some ⟨b,0,none⟩)] w fun e w' => e = .returned (.int .i64 i) ∧ Below w.heap.size w w':=by
 have HR:=hid' hr
 have HOK:=hid' hb.ok
 have hbl:=hb.len
 have w0:=hb.w0
 have w1:=hb.w1
 have HT:Hid (∀ i,x.till i = tLater (tSum (x.began.getD i (0,0)).1 (x.began.getD i (0,0)).2 x.win 0).1 (tSum (x.began.getD i (0,0)).1 (x.began.getD i (0,0)).2 x.win 0).2 x.ns x.nf):=fun _ => rfl
 have HW:Hid ((i = -1 ∧ ∀ j,1 ≤ j → j < x.done.length → x.till j = false) ∨ ∃ k:Nat,i = k ∧ 1 ≤ k ∧ k < x.done.length ∧ x.till k = true ∧ ∀ j,1 ≤ j → j < k → x.till j = false):=hw
 generalize htl:x.till = till at *
 clear htl hb hw
 obtain ⟨mode,win,fresh,ns,nf,ld,up,ex,done,began,com,ref,said⟩:=x
 simp only at hl hbl w0 w1 HT HW HOK
 obtain ⟨da,dcp,hdv⟩:=own_slice hr.dd
 obtain ⟨ba,bcp,hbv⟩:=own_slice hr.bb
 subst hdv hbv
 obtain ⟨L,hL⟩:∃ L,done.length = L:=⟨_,rfl⟩
 have HL:=hid' hL
 have HBL:=hid' (hbl.trans hL)
 have hl':L ≤ 1000:=by omega
 clear hr hL hbl hl
 rw [HL.out] at HW
 go_enter Tryz.func94,Tryz.ntmps94
 go_wp2_with fail
 go_loopw [3,4,5] (fun iv _ _ wr => ∃ k:Nat,1 ≤ k ∧ k ≤ max L 1 ∧ iv = .int .i64 k ∧ (∀ j,1 ≤ j → j < k → till j = false) ∧ Below w.heap.size w wr) (fun iv _ _ _ => L - (intOf iv).toNat)
 case atStart => exact ⟨1,by omega,by omega,rfl,fun j h1 h2 => by omega,Below.refl _ _⟩
 case round =>
  obtain ⟨k,hk1,hk,rfl,hz,hb⟩:=hrel
  have HZ:=hid' hz
  have HB:=hid' hb
  have rr:=HR.out.below hb
  have q8:=cell_of_row _ _ 8 _ _ _ rr.row
  have q9:=cell_of_row _ _ 9 _ _ _ rr.row
  have q1:=cell_of_row _ _ 1 _ _ _ rr.row
  have lb:=lt_of_heap rr.row
  simp at q8 q9 q1
  rw [HL.out] at q8
  rw [HBL.out] at q9
  by_cases hlt:k < L
  ·have hkb:k < began.length:=by rw [HBL.out];exact hlt
   obtain ⟨g,cap',hg⟩:=own_some rr.bb (show 0 < began.length by omega)
   obtain ⟨rfl,_,rfl⟩:=Value.slice.inj hg
   have a0:=(rr.bb.cellAt (k * 2) (by omega)).trans (flat_at0 began k hkb)
   have a1:=(rr.bb.cellAt (k * 2 + 1) (by omega)).trans (flat_at1 began k hkb)
   have lg:g < wr.heap.size:=(rr.bb.lt _ rfl).2
   have ne1:¬ b = wr.heap.size:=by omega
   have ne2:¬ g = wr.heap.size:=by omega
   have ne3:¬ wr.heap.size = b:=by omega
   have ne4:¬ wr.heap.size = g:=by omega
   have hO:=HOK.out _ (List.getElem_mem hkb)
   have eg:began.getD k (0,0) = began[k]:=getD_at k hkb
   have TT:=HT.out k
   rw [eg] at TT
   generalize began[k] = p at *
   obtain ⟨ps,pf⟩:=p
   simp only at a0 a1 hO TT
   have SU:=hid' (fun W => ref_sum ps pf win 0 W (by omega) (by omega) (by omega) (by omega) (by omega) (by omega) (by omega) (by omega))
   have LA:=hid' (fun W => ref_later (tSum ps pf win 0).1 (tSum ps pf win 0).2 ns nf W)
   have HTT:=hid' TT
   generalize tSum ps pf win 0 = tm at *
   obtain ⟨ts,tf⟩:=tm
   simp only at SU LA HTT
   generalize tLater ts tf ns nf = old at *
   have z0:(0:Int) ≤ (k:Int):=by omega
   have z1:(k:Int) < (L:Int):=by omega
   clear TT hg rr hb eg hz
   go_upto_region 4 with fail
   go_cut [4] from 6 to 35 (fun s4 wx => TimeAt wr ts tf s4 wx)
   case first =>
    go_region_held3 (fun w' => w'.cell? ⟨b,9,none⟩ = some (.slice (some ⟨g,0,none⟩) L bcp) ∧ w'.cell? ⟨g,k * 2,none⟩ = some (.int .i64 ps) ∧ w'.cell? ⟨g,k * 2 + 1,none⟩ = some (.int .i64 pf) ∧ w'.cell? ⟨b,1,none⟩ = some (.int .i64 win)) (go_keep)
     (first | (go_at_call 101;refine (SU.out _).mono ?_;rintro e w1 ⟨rfl,hb1⟩;have HB1:=hid' hb1;have n1:w1.cell? ⟨b,1,none⟩ = some (.int .i64 win):=(hb1.cell (p:=⟨b,1,none⟩) (by simp <;> omega)).trans (by go_simp);have n9:w1.cell? ⟨b,9,none⟩ = some (.slice (some ⟨g,0,none⟩) L bcp):=(hb1.cell (p:=⟨b,9,none⟩) (by simp <;> omega)).trans (by go_simp);have m0:w1.cell? ⟨g,k * 2,none⟩ = some (.int .i64 ps):=(hb1.cell (p:=⟨g,k * 2,none⟩) (by simp <;> omega)).trans (by go_simp);have m1:w1.cell? ⟨g,k * 2 + 1,none⟩ = some (.int .i64 pf):=(hb1.cell (p:=⟨g,k * 2 + 1,none⟩) (by simp <;> omega)).trans (by go_simp);(try (have zr:=(hb1.block wr.heap.size (by simp <;> omega)).trans (heap_alloc_new wr _);have HZR:=hid' zr;have y0:=cell_of_row _ _ 0 _ _ _ zr;have y1:=cell_of_row _ _ 1 _ _ _ zr;have g0:=frozen_of_row _ _ 0 _ _ zr;have g1:=frozen_of_row _ _ 1 _ _ zr;(simp at y0 y1);clear zr));clear hb1))
    all_goals
     go_wp2_with fail
     go_meet
     case rel =>
      refine ⟨_,rfl,?_,?_⟩
      ·first
        | exact ((Below.refl _ _).drew.trans HB1.out).alloc (by exact HB1.out.size) _
        | exact ((((Below.refl _ _).alloc (Nat.le_refl _) _).drew.trans (HB1.out.mono (by simp))).setCell (p:=⟨wr.heap.size,0,none⟩) (by simp) _).setCell (p:=⟨wr.heap.size,1,none⟩) (by simp) _
      ·first
        | exact heap_alloc_new _ _
        | exact two_row HZR.out
   case rest =>
    obtain ⟨tq,rfl,bel,row⟩:=hcut
    rename World => W1
    have BN:=hid' (HB.out.trans (bel.mono HB.out.size))
    have RS:=hid' (HR.out.below BN.out)
    have RW:=hid' row
    clear q8 q9 q1 a0 a1 lg bel row ne1 ne2 ne3 ne4
    have q3:=cell_of_row _ _ 3 _ _ _ RS.out.row
    have q4:=cell_of_row _ _ 4 _ _ _ RS.out.row
    have t0:=cell_of_row _ _ 0 _ _ _ RW.out
    have t1:=cell_of_row _ _ 1 _ _ _ RW.out
    simp at q3 q4 t0 t1
    go_upto_region 5 with fail
    go_cut [4,5] from 6 to 35 (fun s4 s5 wx => s5 = .bool old ∧ Below W1.heap.size W1 wx)
    case first =>
     go_region_with (go_at_call 140;refine (LA.out _).mono ?_;rintro e w1 ⟨rfl,hb1⟩;have HB1:=hid' hb1;clear hb1)
     all_goals
      go_wp2_with fail
      go_meet
      case rel => exact ⟨rfl,(Below.refl _ _).drew.trans HB1.out⟩
    case rest =>
     obtain ⟨rfl,bel9⟩:=hcut
     rename World => W2
     have B2:=hid' (BN.out.trans (bel9.mono BN.out.size))
     clear q3 q4 t0 t1 bel9 SU LA
     cases old with
     | true =>
      have H:Hid (i = k):=by
       rcases HW.out with ⟨_,h⟩ | ⟨j,rfl,h1,h2,h3,h4⟩
       ·have:=h k hk1 hlt;rw [HTT.out] at this;cases this
       ·rcases Nat.lt_trichotomy j k with c | c | c
        ·have:=HZ.out j h1 c;rw [h3] at this;cases this
        ·rw [c];rfl
        ·have:=h4 k hk1 c;rw [HTT.out] at this;cases this
      clear HW
      go_wp2
      go_ret
      exact ⟨ret_int H.out.symm,B2.out⟩
     | false =>
      clear HW
      go_wp2
      go_roundw
      case rel =>
       refine ⟨k + 1,by omega,by omega,by go_num,fun j h1 h2 => ?_,B2.out⟩
       by_cases c:j = k
       ·subst c;exact HTT.out
       ·exact HZ.out j h1 (by omega)
      case measure => simp [intOf];omega
  ·have hnl:¬ (k:Int) < (L:Int):=by omega
   have H:Hid (i = -1):=by
    rcases HW.out with ⟨h,_⟩ | ⟨j,rfl,h1,h2,h3,h4⟩
    ·exact h
    ·have:=HZ.out j h1 (by omega);rw [h3] at this;cases this
   clear rr hb hz HW
   go_wp2
   go_ret
   exact ⟨ret_int H.out.symm,HB.out⟩
end Go.Proofs.YtmmkhodaljpjgaaGreatDoor
namespace Go.Proofs.YtmmkhodaljpjgaaGreatDoor
open Go.RowKit
theorem inv_turn {P:Nat → Sv → (Nat → Prop) → World → Prop} (hP:PLaw P) {B bW n m:Nat} {w w':World} {tv lv xv:Value} {F:Nat → Prop} {ts:List ByteArray} {ls:List (Int × Int)} {up ex se fr:Int} {L:List Rc} (le:B ≤ bW) (hb:Blk bW tv up ex lv se fr xv w) (ht:w.ownsRow B 9 1 tv ts.length (ts.map Value.string))
  (hl:w.ownsRow B 46 2 lv ls.length (flat ls)) (h1:ts.length ≤ n) (h2:ls.length ≤ n + 40) (h3:Nums ts ls up ex se fr) (h4:Many P B n F xv L w) (h5:∀ k,F k → lv.ownBlock ≠ some k) (i:Nat) (hi:i < L.length) (hp:RcPost P m L[i] w w') (hm:n ≤ m) (hB:B ≤ w.heap.size) :
  Inv (srvXs P hP B) B bW m w' ∧ Below B w w':=by
 obtain ⟨F',L',mn,ff⟩:=h4.turn hP i hi hp hm hB
 obtain ⟨r',_,_,off,_⟩:=hp
 have sub:∀ k,L[i].F k → F k:=fun k e => (h4.all k).2 (.inr ⟨i,hi,e⟩)
 have nw:∀ k,L[i].F k → ∀ cs e f,w.heap[k]? = some (.cells cs e f) → 38 ≠ e ∧ 9 ≠ e:=fun k q cs e f hh => by
  obtain ⟨cs',e',f',hh',a,b⟩:=h4.typ hP k (sub k q)
  rw [hh] at hh'
  cases hh'
  exact ⟨a,b⟩
 refine ⟨⟨le,tv,lv,xv,F',ts,ls,up,ex,se,fr,?_,?_,?_,by omega,by omega,h3,⟨⟨L',mn⟩,fun k e q => ?_⟩⟩,off.below (fun k e => h4.lo k (sub k e)) hB⟩
 ·exact off.heap hb (fun q => (nw bW q _ _ _ hb).1 rfl)
 ·refine off.own ht (fun k e q => ?_)
  obtain ⟨cs,f,hh⟩:=own_typ ht e
  exact (nw k q _ _ _ hh).2 rfl
 ·exact off.own hl (fun k e q => h5 k (sub k q) e)
 ·obtain ⟨cs,f,hh⟩:=own_typ hl q
  have:=lt_of_heap hh
  rcases ff k e with a | a
  ·exact h5 k a q
  ·omega
theorem step_srv {P:Nat → Sv → (Nat → Prop) → World → Prop} (hP:PLaw P) (B bW n:Nat) (o:Op) (w:World) (ho:o.Ok) (hn:n ≤ 90000) (hk:17 ≤ o.kind) (hk2:o.kind ≤ 22) (hI:Inv (srvXs P hP B) B bW n w) (hB:B ≤ w.heap.size)
  (hD:∀ r W t,Rc.Ok P n r W → (∀ k,r.F k → B ≤ k) → Below B w W → t.size ≤ 16384 → Calls Tryz.prog 20 #[.pointer (some ⟨r.bc,0,none⟩),.agg #[.int .i64 o.kind,.int .i64 o.x,.int .i64 o.a,.int .i64 o.b,.int .i64 o.c,.int .i64 o.d,.string o.s],.string t] W fun e w' => e = .returned (.bool true) ∧ RcPost P (n + 1) r W w') :
  Calls Tryz.prog 15 #[.pointer (some ⟨bW,0,none⟩),.agg #[.int .i64 o.kind,.int .i64 o.x,.int .i64 o.a,.int .i64 o.b,.int .i64 o.c,.int .i64 o.d,.string o.s]] w fun e w' => e = .returned (.bool true) ∧ Inv (srvXs P hP B) B bW (n + 1) w' ∧ Below B w w':=by
 have hOw:=owner_no B bW n o (w.alloc (.cells #[.int .i64 o.kind,.int .i64 o.x,.int .i64 o.a,.int .i64 o.b,.int .i64 o.c,.int .i64 o.d,.string o.s] 27)) (.inr (by omega)) (inv_alloc hI _) (by simp;omega)
 have HOw:=hid' hOw
 have HD:=hid' hD
 have HO:=hid' ho
 clear hOw hI hD ho
 obtain ⟨k,x,a,b,c,d,s⟩:=o
 simp only at *
 have z17:¬ k < 17:=by omega
 have z22:¬ 22 < k:=by omega
 have B0:=hid' ((Below.refl B w).alloc hB (.cells #[.int .i64 k,.int .i64 x,.int .i64 a,.int .i64 b,.int .i64 c,.int .i64 d,.string s] 27))
 go_enter Tryz.func15,Tryz.ntmps15
 go_wp2_with fail
 refine HOw.out.mono ?_
 rintro e w1 ⟨rfl,hI1,hk1,hb1⟩
 have hrow:=hk1.op _ _ _ (heap_alloc_new w (.cells #[.int .i64 k,.int .i64 x,.int .i64 a,.int .i64 b,.int .i64 c,.int .i64 d,.string s] 27))
 have B1:=hid' (B0.out.trans hb1)
 have HI1:=hid' hI1
 have lo:=lt_of_heap hrow
 obtain ⟨le,tv,lv,xv,F,ts,ls,up,ex,se,fr,hb,ht,hl,h1,h2,h3,⟨L,h4⟩,h5⟩:=hI1
 have c6:=hb.cell 6
 have lW:=hb.lt
 simp at c6
 have HTX:=hid' (fun m:Nat => text_any B bW n a (w1.drewN m) HO.out.a (by omega) (HI1.out.below (below_drewN (Below.refl _ _) m)))
 have HPK:=hid' (fun (l:Int) (W:World) => pick_val x l W HO.out.x)
 have p0:=cell_of_row _ _ 0 _ _ _ hrow
 have p1:=cell_of_row _ _ 1 _ _ _ hrow
 have p2:=cell_of_row _ _ 2 _ _ _ hrow
 have p3:=cell_of_row _ _ 3 _ _ _ hrow
 have p4:=cell_of_row _ _ 4 _ _ _ hrow
 have p5:=cell_of_row _ _ 5 _ _ _ hrow
 have p6:=cell_of_row _ _ 6 _ _ _ hrow
 simp at p0 p1 p2 p3 p4 p5 p6
 have HROW:=hid' hrow
 have HB:=hid' hb
 have HT:=hid' ht
 have HL:=hid' hl
 have H4:=hid' h4
 have H5:=hid' h5
 have hs1:=B1.out.size
 clear hk1 hb1 hrow HOw hb ht hl h4 h5
 by_cases hz:L.length = 0
 ·obtain ⟨ao,cap,hxv⟩:=own_slice H4.out.own
  rw [hz] at hxv
  rw [hxv] at c6
  clear hxv hz
  go_wp2
  go_ret
  exact ⟨rfl,HI1.out.up (Nat.le_succ _),B1.out⟩
 ·obtain ⟨g,cap,hxv,_,_⟩:=H4.out.own.form (by omega)
  rw [hxv] at c6
  have hp:=pk_bd x L.length (by omega)
  obtain ⟨q,hq⟩:=Int.eq_ofNat_of_zero_le hp.1
  have hq1:q < L.length:=by omega
  have hlen:=H4.out.len
  have hcell:w1.cell? ⟨g,q,none⟩ = some (.pointer (some ⟨L[q].bc,0,none⟩)):=by
   have ow:=H4.out.own
   rw [hxv] at ow
   rw [ow.cellAt q (by omega)];simp [hq1,Rc.ptr]
  have HP:∀ wx,Hid (Calls Tryz.prog 18 #[.int .i64 x,.int .i64 L.length] wx fun e w' => e = .returned (.int .i64 q) ∧ w' = wx):=by
   intro wx
   have:=HPK.out L.length wx (by omega) (by omega)
   rw [hq] at this
   exact this
  have RQ:=hid' (H4.out.ok q hq1)
  have RLO:=hid' (fun k e => H4.out.lo k ((H4.out.all k).2 (.inr ⟨q,hq1,e⟩)))
  have IT:=hid' (fun (m:Nat) (W w':World) (hw:W = w1.drewN m) (hp:RcPost P (n + 1) L[q] W w') => by
   rw [hw] at hp
   exact inv_turn hP le (HB.out) HT.out HL.out h1 h2 h3 H4.out H5.out q hq1 (hp.from (below_drewN (Below.refl _ _) m)) (Nat.le_succ n) (by omega))
  generalize hbc:L[q] = r at *
  have hqi:(q:Int) < (L.length:Int):=by omega
  have hq0:(0:Int) ≤ (q:Int):=by omega
  have hlz:((L.length:Int) == 0) = false:=by rw [beq_eq_false_iff_ne];omega
  clear hxv hp hq hbc hz HB HT HL H4 H5
  generalize L.length = len at *
  go_wp2_with fail
  go_quiet ((go_at_call 18;exact Calls.quiet_of_same (HP _).out))
  go_wp2_with fail
  refine (HTX.out _).mono ?_
  rintro e w3 ⟨t,m3,rfl,hts,hw3⟩
  have W3:=hid' (show w3 = w1.drewN (nq + m3) by rw [hw3,World.drewN_drewN])
  have BB:=hid' (show Below w1.heap.size w1 w3 by rw [W3.out];exact below_drewN (Below.refl _ _) _)
  have q0:=(BB.out.cell (p:=⟨w.heap.size,0,none⟩) lo).trans p0
  have q1:=(BB.out.cell (p:=⟨w.heap.size,1,none⟩) lo).trans p1
  have q2:=(BB.out.cell (p:=⟨w.heap.size,2,none⟩) lo).trans p2
  have q3:=(BB.out.cell (p:=⟨w.heap.size,3,none⟩) lo).trans p3
  have q4:=(BB.out.cell (p:=⟨w.heap.size,4,none⟩) lo).trans p4
  have q5:=(BB.out.cell (p:=⟨w.heap.size,5,none⟩) lo).trans p5
  have q6:=(BB.out.cell (p:=⟨w.heap.size,6,none⟩) lo).trans p6
  clear hw3 p0 p1 p2 p3 p4 p5 p6
  go_wp2_with fail
  refine (HD.out r w3 t (RQ.out.keep hP (fun k e => BB.out.block k (RQ.out.low hP k e))) RLO.out (B1.out.trans (BB.out.mono (Nat.le_trans hB hs1))) hts).mono ?_
  rintro e w4 ⟨rfl,hp4⟩
  have HI4:=hid' (IT.out _ w3 w4 W3.out hp4)
  clear hp4
  go_wp2
  go_ret
  exact ⟨rfl,HI4.out.1,B1.out.trans HI4.out.2⟩
theorem does_srv {P:Nat → Sv → (Nat → Prop) → World → Prop} (hP:PLaw P) {B n:Nat} {o:Op} {w:World} (ho:o.Ok) (hn:n ≤ 90000) (hk:17 ≤ o.kind) (hk2:o.kind ≤ 22)
  (hD:∀ r W t,Rc.Ok P n r W → (∀ k,r.F k → B ≤ k) → Below B w W → t.size ≤ 16384 → Calls Tryz.prog 20 #[.pointer (some ⟨r.bc,0,none⟩),.agg #[.int .i64 o.kind,.int .i64 o.x,.int .i64 o.a,.int .i64 o.b,.int .i64 o.c,.int .i64 o.d,.string o.s],.string t] W fun e w' => e = .returned (.bool true) ∧ RcPost P (n + 1) r W w'):Does (srvXs P hP B) B B n o w:=by
 intro w1 hI hB hb
 exact step_srv hP B B n o w1 ho hn hk hk2 hI hB (fun r W t a z b c => hD r W t a z (hb.trans b) c)
theorem three_at (w:World) (a b c:Array Value) (t:TypeId):(((w.alloc (.cells a t)).alloc (.cells b t)).alloc (.cells c t)).heap[w.heap.size]? = some (.cells a t (0,0)) ∧ (((w.alloc (.cells a t)).alloc (.cells b t)).alloc (.cells c t)).heap[w.heap.size + 1]? = some (.cells b t (0,0)) ∧ (((w.alloc (.cells a t)).alloc (.cells b t)).alloc (.cells c t)).heap[w.heap.size + 1 + 1]? = some (.cells c t (0,0)):=by
 refine ⟨?_,?_,?_⟩
 ·rw [Below.heap_alloc _ _ _ (by simp;omega)]
  exact heap_alloc2_old w _ _
 ·rw [Below.heap_alloc _ _ _ (by simp)]
  exact heap_alloc2_new w _ _
 ·have:=heap_alloc_new ((w.alloc (.cells a t)).alloc (.cells b t)) (.cells c t)
  rw [show ((w.alloc (.cells a t)).alloc (.cells b t)).heap.size = w.heap.size + 1 + 1 from by simp] at this
  exact this
theorem clk_gone (s f z g:Int) (w:World) (s0:-1000000000000 ≤ s) (s1:s ≤ 1000000000000) (z0:-1000000000000 ≤ z) (z1:z ≤ 1000000000000) (f0:0 ≤ f) (f1:f < 4294967296) (g0:0 ≤ g) (g1:g < 4294967296) :
  Calls Tryz.prog 176 #[.agg #[.int .i64 s,.int .i64 f],.agg #[.int .i64 z,.int .i64 g]] w fun e w' => e = .returned (.agg #[.int .i64 (gone s f z g).1,.int .i64 (gone s f z g).2]) ∧ Below w.heap.size w w':=by
 have HG:Hid (gone s f z g = if f - g < 0 then (s - z - 1,f - g + 4294967296) else (s - z,f - g)):=rfl
 generalize gone s f z g = gg at *
 have B0:=hid' (three_rows w (.cells #[.int .i64 s,.int .i64 f] 98) (.cells #[.int .i64 z,.int .i64 g] 98) (.cells #[.int .i64 0,.int .i64 0] 98))
 have RR:=hid' (three_at w #[.int .i64 s,.int .i64 f] #[.int .i64 z,.int .i64 g] #[.int .i64 0,.int .i64 0] 98)
 go_enter Tryz.func176,Tryz.ntmps176
 go_upto_region 1 with fail
 generalize hV:((w.alloc (.cells #[.int .i64 s,.int .i64 f] 98)).alloc (.cells #[.int .i64 z,.int .i64 g] 98)).alloc (.cells #[.int .i64 0,.int .i64 0] 98) = V at *
 clear hV
 have a0:=cell_of_row _ _ 0 _ _ _ RR.out.1
 have a1:=cell_of_row _ _ 1 _ _ _ RR.out.1
 have b0:=cell_of_row _ _ 0 _ _ _ RR.out.2.1
 have b1:=cell_of_row _ _ 1 _ _ _ RR.out.2.1
 have c0:=cell_of_row _ _ 0 _ _ _ RR.out.2.2
 have c1:=cell_of_row _ _ 1 _ _ _ RR.out.2.2
 have fc0:=frozen_of_row _ _ 0 _ _ RR.out.2.2
 have fc1:=frozen_of_row _ _ 1 _ _ RR.out.2.2
 have lc:=lt_of_heap RR.out.2.2
 have sv:=B0.out.2
 simp at a0 a1 b0 b1 c0 c1
 by_cases c:f - g < 0
 ·have H:Hid (gg = (s - z - 1,f - g + 4294967296)):=by show _ = _;rw [HG.out,if_pos c]
  clear HG
  go_wp2
  try simp only [Exit.inBlock,Exit.then]
  refine bodyPost_ret (results_cell_row rfl _ _ (w.heap.size + 1 + 1) 98 #[.int .i64 (s - z - 1),.int .i64 (f - g + 4294967296)] (0,0) _ rfl ((Below.heap_alloc _ _ _ (by simp <;> omega)).trans (two_row RR.out.2.2)) Tryz.underlying98 rfl (by kernel_rfl)) rfl ?_
  exact ⟨ret_agg2 (by rw [H.out]) (by rw [H.out]),((B0.out.1.setCell (p:=⟨w.heap.size + 1 + 1,0,none⟩) (by simp only;omega) _).setCell (p:=⟨w.heap.size + 1 + 1,1,none⟩) (by simp only;omega) _).alloc (by simp;omega) _⟩
 ·have H:Hid (gg = (s - z,f - g)):=by show _ = _;rw [HG.out,if_neg c]
  clear HG
  go_wp2
  try simp only [Exit.inBlock,Exit.then]
  refine bodyPost_ret (results_cell_row rfl _ _ (w.heap.size + 1 + 1) 98 #[.int .i64 (s - z),.int .i64 (f - g)] (0,0) _ rfl ((Below.heap_alloc _ _ _ (by simp <;> omega)).trans (two_row RR.out.2.2)) Tryz.underlying98 rfl (by kernel_rfl)) rfl ?_
  exact ⟨ret_agg2 (by rw [H.out]) (by rw [H.out]),((B0.out.1.setCell (p:=⟨w.heap.size + 1 + 1,0,none⟩) (by simp only;omega) _).setCell (p:=⟨w.heap.size + 1 + 1,1,none⟩) (by simp only;omega) _).alloc (by simp;omega) _⟩
theorem clk_moved (s f p:Int) (w:World) (s0:-1000000000000 ≤ s) (s1:s ≤ 1000000000000) (f0:0 ≤ f) (f1:f < 4294967296) (p0:-4294967296 ≤ p) (p1:p ≤ 4294967296) :
  Calls Tryz.prog 177 #[.agg #[.int .i64 s,.int .i64 f],.int .i64 p] w fun e w' => e = .returned (.agg #[.int .i64 (moved s f p).1,.int .i64 (moved s f p).2]) ∧ Below w.heap.size w w':=by
 have HG:Hid (moved s f p = if f + p < 0 then (s - 1,f + p + 4294967296) else if 4294967296 ≤ f + p then (s + 1,f + p - 4294967296) else (s,f + p)):=rfl
 generalize moved s f p = gg at *
 have B0:=hid' (((Below.refl w.heap.size w).alloc (Nat.le_refl _) (.cells #[.int .i64 s,.int .i64 f] 98)).alloc (by simp) (.cells #[.int .i64 0,.int .i64 0] 98))
 have R0:=hid' (heap_alloc2_old w (.cells #[.int .i64 s,.int .i64 f] 98) (.cells #[.int .i64 0,.int .i64 0] 98))
 have R1:=hid' (heap_alloc2_new w (.cells #[.int .i64 s,.int .i64 f] 98) (.cells #[.int .i64 0,.int .i64 0] 98))
 go_enter Tryz.func177,Tryz.ntmps177
 go_upto_region 1 with fail
 generalize hV:(w.alloc (.cells #[.int .i64 s,.int .i64 f] 98)).alloc (.cells #[.int .i64 0,.int .i64 0] 98) = V at *
 clear hV
 have a0:=cell_of_row _ _ 0 _ _ _ R0.out
 have a1:=cell_of_row _ _ 1 _ _ _ R0.out
 have c0:=cell_of_row _ _ 0 _ _ _ R1.out
 have c1:=cell_of_row _ _ 1 _ _ _ R1.out
 have fc0:=frozen_of_row _ _ 0 _ _ R1.out
 have fc1:=frozen_of_row _ _ 1 _ _ R1.out
 have lc:=lt_of_heap R1.out
 simp at a0 a1 c0 c1
 by_cases c:f + p < 0
 ·have H:Hid (gg = (s - 1,f + p + 4294967296)):=by show _ = _;rw [HG.out,if_pos c]
  clear HG
  go_wp2
  try simp only [Exit.inBlock,Exit.then]
  refine bodyPost_ret (results_cell_row rfl _ _ (w.heap.size + 1) 98 #[.int .i64 (s - 1),.int .i64 (f + p + 4294967296)] (0,0) _ rfl ((Below.heap_alloc _ _ _ (by simp <;> omega)).trans (two_row R1.out)) Tryz.underlying98 rfl (by kernel_rfl)) rfl ?_
  exact ⟨ret_agg2 (by rw [H.out]) (by rw [H.out]),((B0.out.setCell (p:=⟨w.heap.size + 1,0,none⟩) (by simp only;omega) _).setCell (p:=⟨w.heap.size + 1,1,none⟩) (by simp only;omega) _).alloc (by simp;omega) _⟩
 ·by_cases d:4294967296 ≤ f + p
  ·have H:Hid (gg = (s + 1,f + p - 4294967296)):=by show _ = _;rw [HG.out,if_neg c,if_pos d]
   clear HG
   go_wp2
   try simp only [Exit.inBlock,Exit.then]
   refine bodyPost_ret (results_cell_row rfl _ _ (w.heap.size + 1) 98 #[.int .i64 (s + 1),.int .i64 (f + p - 4294967296)] (0,0) _ rfl ((Below.heap_alloc _ _ _ (by simp <;> omega)).trans (two_row R1.out)) Tryz.underlying98 rfl (by kernel_rfl)) rfl ?_
   exact ⟨ret_agg2 (by rw [H.out]) (by rw [H.out]),((B0.out.setCell (p:=⟨w.heap.size + 1,0,none⟩) (by simp only;omega) _).setCell (p:=⟨w.heap.size + 1,1,none⟩) (by simp only;omega) _).alloc (by simp;omega) _⟩
  ·have H:Hid (gg = (s,f + p)):=by show _ = _;rw [HG.out,if_neg c,if_neg d]
   clear HG
   go_wp2
   try simp only [Exit.inBlock,Exit.then]
   refine bodyPost_ret (results_cell_row rfl _ _ (w.heap.size + 1) 98 #[.int .i64 s,.int .i64 (f + p)] (0,0) _ rfl ((Below.heap_alloc _ _ _ (by simp <;> omega)).trans (two_row R1.out)) Tryz.underlying98 rfl (by kernel_rfl)) rfl ?_
   exact ⟨ret_agg2 (by rw [H.out]) (by rw [H.out]),((B0.out.setCell (p:=⟨w.heap.size + 1,0,none⟩) (by simp only;omega) _).setCell (p:=⟨w.heap.size + 1,1,none⟩) (by simp only;omega) _).alloc (by simp;omega) _⟩
end Go.Proofs.YtmmkhodaljpjgaaGreatDoor
