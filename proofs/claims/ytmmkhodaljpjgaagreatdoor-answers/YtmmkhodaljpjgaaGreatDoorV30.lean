import Derived.Test.YtmmkhodaljpjgaaGreatDoorV29
namespace Go.Proofs.YtmmkhodaljpjgaaGreatDoor
open Go.RowKit
attribute [local go_sem ↓] Go.wp_at_zero Go.wp_at_succ
theorem Sv.tk_len (x:Sv) (ls:List (Int × Int)) (k:Nat):(x.tk ls k).1.length ≤ x.done.length + k ∧ (x.tk ls k).2.length ≤ x.began.length + k:=by
 induction k with
 | zero => exact ⟨Nat.le_refl _,Nat.le_refl _⟩
 | succ k ih =>
  unfold Sv.tk
  split
  ·simp;omega
  ·omega
set_option linter.unusedSimpArgs false in
set_option maxRecDepth 100000 in
set_option maxHeartbeats 12800000 in
theorem ref_load_yes (b:Nat) (x:Sv) (dv bv cv hv:Value) (t:ByteArray) (w:World) (hr:RSrv b x dv bv cv hv w) (ht:t.size ≤ 1000000) (hI:x.Inv) (h0:x.loadErr (Txt.parse t) = 0) :
  Calls Tryz.prog 65 #[.pointer (some ⟨b,0,none⟩),.string t] w fun e w' => e = .returned (.tuple #[.int .i64 0,.int .i64 0]) ∧ RPost b (rFoot b dv bv cv hv) w (x.taken (Txt.parse t).up (Txt.parse t).ex (Txt.parse t).ls).weigh w':=by
 have HR:=hid' hr
 have HP:=hid' (ref_parse t w ht)
 obtain ⟨hw,hag,hnum,herr,hnu⟩:=Sv.loadErr_ok h0
 have hfit:=Tab.fit_of_whole hw
 have HCL:=hid' (hI.canLoad (Txt.parse t).up (Txt.parse t).ex hfit hag)
 have HTM:=hid' (hI.takenMid (Txt.parse t).up (Txt.parse t).ex hfit hag)
 have hd:=hI.lens
 have HML:Hid ((x.begun1 (Txt.parse t).ls).done.length ≤ (Txt.parse t).ls.length ∧ (x.begun1 (Txt.parse t).ls).began.length = (x.begun1 (Txt.parse t).ls).done.length ∧ (x.begun1 (Txt.parse t).ls).win = x.win):=by
  obtain ⟨m,h1,_,h2,h3,_,_,_,h4⟩:=hI.mid1 hfit hag
  refine ⟨by rw [h2,List.length_take];omega,by rw [h2,List.length_take,h3];omega,by rw [h4]⟩
 have hG:=Tab.good_of_whole hw
 generalize Txt.parse t = gt at *
 obtain ⟨gu,gx,gl,ge,gn⟩:=gt
 simp only at HP hw hag hnum herr hnu hfit HCL HTM HML hG ⊢
 subst hnum herr
 have HG:=hid' hG
 have HFT:=hid' hfit
 have gpos:=hG.pos
 have glen:=hG.len
 have HNO:=hid' hI.no
 have HNM:=hid' hI.num
 clear hr h0 hw hfit hI hG
 have HF0:Hid (∀ k,rFoot b dv bv cv hv k → rFoot b dv bv cv hv k):=fun _ e => e
 generalize hF:rFoot b dv bv cv hv = F at HF0 ⊢
 have HFF:Hid (∀ k,rFoot b dv bv cv hv k → F k):=fun k e => by rw [← hF];exact e
 clear hF HF0
 go_enter Tryz.func65,Tryz.ntmps65
 go_wp2_with fail
 refine HP.out.mono ?_
 rintro e w1 ⟨lv,rfl,own1,hb1⟩
 simp only at own1
 obtain ⟨la,lcp,hlv⟩:=own_slice own1
 subst hlv
 have a1:=(Below.refl w1.heap.size w1).alloc (Nat.le_refl _) (.cells #[.int .i64 gu,.int .i64 gx,.slice la gl.length lcp] 33)
 have BA:=hid' (hb1.trans (a1.mono hb1.size))
 have TR:=hid' (heap_alloc_new w1 (.cells #[.int .i64 gu,.int .i64 gx,.slice la gl.length lcp] 33))
 have OA:=hid' (own_down own1 a1)
 clear own1 hb1 a1 HP
 go_upto_region 2 with fail
 generalize hV:w1.alloc (.cells #[.int .i64 gu,.int .i64 gx,.slice la gl.length lcp] 33) = V at *
 generalize hq:w1.heap.size = tb at *
 clear hV hq
 have RV:=hid' (HR.out.below BA.out)
 have q5:=cell_of_row _ _ 5 _ _ _ RV.out.row
 have q6:=cell_of_row _ _ 6 _ _ _ RV.out.row
 have t0:=cell_of_row _ _ 0 _ _ _ TR.out
 have t2:=cell_of_row _ _ 2 _ _ _ TR.out
 simp at q5 q6 t0 t2
 have AG:=hid' (fun m:Nat => ref_agrees b w.heap.size x dv bv cv hv _ gl (V.drewN m) (RV.out.below (below_drewN (Below.refl _ _) m)) (own_down OA.out (below_drewN (Below.refl _ _) m)) gpos (by omega) (by omega) HG.out.fine)
 rw [hag] at AG
 go_cut [21,22,23,24,25,26,27,28,29,30,31,32,33,34,35,36,37] from 38 (fun _ _ _ _ _ _ _ _ _ _ _ _ _ _ _ _ s37 wx => s37 = .bool false ∧ ∃ m,wx = V.drewN m)
 case first =>
  cases hl:x.ld with
  | false =>
   rw [hl] at q5
   clear hnu hl
   go_quiet (fail)
   go_wp2_with fail
   go_meet
   case rel => exact ⟨rfl,_,rfl⟩
  | true =>
   rw [hl] at q5
   have hu:¬ gu < x.up:=fun h => hnu ⟨hl,h⟩
   clear hnu hl
   go_quiet (fail)
   go_wp2_with fail
   go_meet
   case rel => exact ⟨rfl,_,rfl⟩
 case rest =>
  obtain ⟨rfl,m1,rfl⟩:=hcut
  clear q5 q6 t0 hnu
  go_wp2_with fail
  refine (AG.out _).mono ?_
  rintro e w3 ⟨rfl,m3,hw3⟩
  have LD0:Hid (LdAt b F w tb gu gx (.slice la gl.length lcp) gl x w3):=by
   have bV:Below V.heap.size V w3:=by rw [hw3,World.drewN_drewN];exact below_drewN (Below.refl _ _) _
   have b3:Below w.heap.size w w3:=BA.out.trans (bV.mono BA.out.size)
   refine ⟨dv,bv,cv,hv,HR.out.below b3,Off.of_below b3,fun k e => .inl (HFF.out k e),(bV.block _ (lt_of_heap TR.out)).trans TR.out,own_down OA.out bV,fun k e q => ?_⟩
   have h1:=(OA.out.lt k e).1
   have h2:=(HR.out.dd.lt k q).2
   omega
  clear AG hw3 t2 RV TR OA BA HR HFF
  obtain ⟨dv1,bv1,cv1,hv1,ld1⟩:=LD0.out
  have q5:=cell_of_row _ _ 5 _ _ _ ld1.r.row
  simp at q5
  clear ld1
  go_upto_if 62 with fail
  go_cut [10,11] from 12 (fun _ _ wx => LdAt b F w tb gu gx (.slice la gl.length lcp) gl (x.begun1 gl) wx)
  case first =>
   cases hl:x.ld with
   | true =>
    rw [hl] at q5
    have e1:x.begun1 gl = x:=by unfold Sv.begun1;rw [hl];rfl
    have E1:=hid' e1
    clear hl e1
    go_wp2_with fail
    go_meet
    case rel => rw [E1.out];exact LD0.out
   | false =>
    rw [hl] at q5
    obtain ⟨n1,n2,n3,n4⟩:=HNO.out hl
    clear n4
    have e1:x.begun1 gl = { x with done:=(x.tk gl gl.length).1,began:=(x.tk gl gl.length).2 }:=by unfold Sv.begun1;rw [hl];rfl
    have E1:=hid' e1
    have L1:Hid (LdAt b F w tb gu gx (.slice la gl.length lcp) gl { x with done:=(x.tk gl 0).1,began:=(x.tk gl 0).2 } w3):=LD0.out
    have TL:=hid' (fun k => x.tk_len gl k)
    rw [n1,n2] at TL
    have TS:Hid (∀ k,x.tk gl (k + 1) = if Tab.when gl k ≤ x.ns then ((x.tk gl k).1 ++ [gl.getD k (0,0)],(x.tk gl k).2 ++ [(Tab.when gl k - x.win,0)]) else x.tk gl k):=fun _ => rfl
    clear hl e1 n1 n2 n3 LD0 HCL HTM HML
    generalize x.tk gl = tk at *
    obtain ⟨n,hn⟩:∃ n,gl.length = n:=⟨_,rfl⟩
    have HN:=hid' hn
    rw [hn] at L1 E1 gpos glen
    rw [hn]
    clear hn
    go_wp2_with fail
    go_loopw [10,11] (fun iv _ wr => ∃ k:Nat,k ≤ n ∧ iv = .int .i64 k ∧ LdAt b F w tb gu gx (.slice la n lcp) gl { x with done:=(tk k).1,began:=(tk k).2 } wr) (fun iv _ _ => n - (intOf iv).toNat)
    case atStart => exact ⟨0,by omega,rfl,L1.out⟩
    case round =>
     clear L1 q5
     obtain ⟨k,hk,rfl,dv2,bv2,cv2,hv2,ldv⟩:=hrel
     have LD:=hid' ldv
     have t2:=cell_of_row _ _ 2 _ _ _ ldv.row
     have q3:=cell_of_row _ _ 3 _ _ _ ldv.r.row
     simp at t2 q3
     by_cases hlt:k < n
     ·obtain ⟨g,lcp',hg⟩:=own_some ldv.own (show 0 < gl.length by rw [HN.out];omega)
      rw [HN.out] at hg
      obtain ⟨rfl,_,rfl⟩:=Value.slice.inj hg
      have hkl:k < gl.length:=by rw [HN.out];exact hlt
      have oo:=ldv.own
      rw [HN.out] at oo
      have HLI:=hid' (lies_of oo HN.out)
      have WH:=hid' (fun W (h:Lies W g gl) => ref_when g lcp k n gl W HN.out hlt h HG.out.fine (by omega))
      have bd1:=HFT.out.when_bd k hkl
      have bd2:=HFT.out.bd k hkl
      have TK:=TS.out k
      have wn:=HNM.out.win
      have ek:gl.getD k (0,0) = gl[k]:=getD_at k hkl
      have a0:=(HLI.out k hkl).1
      have a1:=(HLI.out k hkl).2
      have tl:=TL.out k
      simp only [List.length_nil,Nat.zero_add] at tl
      rw [ek] at TK bd1 bd2
      obtain ⟨T,hT⟩:∃ T,Tab.when gl k = T:=⟨_,rfl⟩
      rw [hT] at WH bd1 TK
      have tb0:0 ≤ T ∧ T ≤ 40000000000:=by omega
      have LG:=hid' (oo.lt _ rfl)
      have zk0:(0:Int) ≤ (k:Int):=by omega
      have zk1:(k:Int) < (n:Int):=by omega
      generalize gl[k] = p at *
      obtain ⟨pa,po⟩:=p
      simp only at a0 a1 TK
      clear hT bd1 bd2 ek hkl ldv oo hg
      go_wp2_with fail
      refine (WH.out _ HLI.out).mono ?_
      rintro e wq ⟨rfl,hwq⟩
      rw [hwq]
      clear hwq wq WH
      have htw:IntKind.i64.wrap (T - x.win) = T - x.win:=by rw [IntKind.wrap_i64];omega
      by_cases cT:T ≤ x.ns
      ·rw [if_pos cT] at TK
       have HTK:=hid' TK
       clear TK
       generalize hpr:tk k = pr at *
       obtain ⟨D0,B0⟩:=pr
       simp only at HTK LD tl
       clear hpr
       have r0:=LD.out.r
       obtain ⟨i0,hi0,hz0,hz1,hz2⟩:=info_parts infoLeap
       have q8:=cell_of_row _ _ 8 _ _ _ r0.row
       have f8:=frozen_of_row _ _ 8 _ _ r0.row
       have lb1:=lt_of_heap r0.row
       have lt1:=lt_of_heap LD.out.row
       have lg1:=LG.out.2
       have sz:=LD.out.off.size
       simp at q8 lg1
       have fz:∀ o,(wr.alloc o).frozen? ⟨b,8,none⟩ = false:=fun o => frozen_of_row _ _ 8 _ _ ((Keep.refl _ wr).alloc o _ _ _ LD.out.r.row)
       obtain ⟨da,dcp,hdv⟩:=own_slice r0.dd
       subst hdv
       simp only at q8
       clear r0
       go_upto_region 17 with fail
       go_cut [11] from 63 to 110 (fun s11 wx => s11 = .int .i64 T ∧ LdAt b F w tb gu gx (.slice (some ⟨g,0,none⟩) n lcp) gl { x with done:=D0 ++ [(pa,po)],began:=B0 } wx)
       case first =>
        go_region_law ((refine step_append_lies _ ?_ (.tmp 85) (.tmp 91) 31 ?_ 0 46 i0 (.agg #[.int .i64 0,.int .i64 0]) 2 16 Tryz.underlying31 hi0 hz0 hz1 hz2 rfl (by decide) (.slice da D0.length dcp) D0.length (flat D0) ?_ ?_ ⟨wr.heap.size,0,none⟩ 1 1 [.int .i64 pa,.int .i64 po] ?_ ?_ ?_ ?_ ?_ ?_ ?_ ?_ (wr.heap.size + 1) ?_ ?_;exact rfl;exact rfl;exact rfl;exact (LD.out.r.dd.alloc _).drew;exact rfl;exact rfl;exact (World.news_of_block (cs:=#[.int .i64 pa,.int .i64 po]) (t:=46) (fr:=(0,0)) (heap_alloc_new wr _));(simp [Value.oneCell']);decide;(unfold maxLen;omega);omega;omega;(simp);intro gg cap6 w6 own6 hg6 hat6 hlt6;have S6:=hid' (grown_heap (w:=(wr.alloc (.cells #[.int .i64 pa,.int .i64 po] 46)).drew) (t:=119) hg6 (LD.out.r.dd.alloc _).drew ((Keep.refl _ wr).alloc _ _ _ _ LD.out.r.row) (by decide));have c68:=cell_of_row _ _ 8 _ _ _ S6.out;have f68:=frozen_of_row _ _ 8 _ _ S6.out;(simp at c68);have OWN6:=hid' own6;have HG6:=hid' hg6;have HAT6:=hid' hat6;clear own6 hg6 hat6))
        all_goals
         go_wp2_with fail
         go_meet
         case rel =>
          refine ⟨rfl,LdV.putD (W:=(wr.alloc (.cells #[.int .i64 pa,.int .i64 po] 46)).drew) (LD.out.below ((Below.refl _ _).alloc (Nat.le_refl _) _).drew) HG6.out (by rw [flat_append,List.length_append];exact OWN6.out) (fun k e => ?_)⟩
          obtain rfl:gg = k:=by simpa [Value.ownBlock] using e
          rcases HAT6.out with h | h
          ·exact .inl h
          ·exact .inr (Nat.le_of_eq (by simpa using h.symm))
       case rest =>
        obtain ⟨rfl,dv4,bv4,cv4,hv4,ld4⟩:=hcut
        rename World => W2
        have L4:=hid' ld4
        have r4:=ld4.r
        obtain ⟨j0,hj0,hy0,hy1,hy2⟩:=info_parts infoRTime
        clear q8 f8 fz lb1 lt1 lg1 q3 t2 a0 a1
        have q9:=cell_of_row _ _ 9 _ _ _ r4.row
        have q1:=cell_of_row _ _ 1 _ _ _ r4.row
        have f9:=frozen_of_row _ _ 9 _ _ r4.row
        have lb1:=lt_of_heap r4.row
        have sz4:=ld4.off.size
        simp at q9 q1
        have fz:∀ o,(W2.alloc o).frozen? ⟨b,9,none⟩ = false:=fun o => frozen_of_row _ _ 9 _ _ ((Keep.refl _ W2).alloc o _ _ _ L4.out.r.row)
        obtain ⟨ba,bcp,hbv⟩:=own_slice r4.bb
        subst hbv
        simp only at q9
        clear r4 ld4
        go_upto_region 18 with fail
        go_region_law ((refine step_append_lies _ ?_ (.tmp 99) (.tmp 107) 115 ?_ 0 35 j0 (.agg #[.int .i64 0,.int .i64 0]) 2 16 Tryz.underlying115 hj0 hy0 hy1 hy2 rfl (by decide) (.slice ba B0.length bcp) B0.length (flat B0) ?_ ?_ ⟨W2.heap.size,0,none⟩ 1 1 [.int .i64 (T - x.win),.int .i64 0] ?_ ?_ ?_ ?_ ?_ ?_ ?_ ?_ (W2.heap.size + 1) ?_ ?_;exact rfl;exact rfl;exact rfl;exact (L4.out.r.bb.alloc _).drew;exact rfl;exact rfl;exact (World.news_of_block (cs:=#[.int .i64 (T - x.win),.int .i64 0]) (t:=35) (fr:=(0,0)) (heap_alloc_new W2 _));(simp [Value.oneCell']);decide;(unfold maxLen;omega);omega;omega;(simp);intro gg cap6 w6 own6 hg6 hat6 hlt6;have S6:=hid' (grown_heap (w:=(W2.alloc (.cells #[.int .i64 (T - x.win),.int .i64 0] 35)).drew) (t:=119) hg6 (L4.out.r.bb.alloc _).drew ((Keep.refl _ W2).alloc _ _ _ _ L4.out.r.row) (by decide));have c69:=cell_of_row _ _ 9 _ _ _ S6.out;have f69:=frozen_of_row _ _ 9 _ _ S6.out;(simp at c69);have OWN6:=hid' own6;have HG6:=hid' hg6;have HAT6:=hid' hat6;clear own6 hg6 hat6))
        all_goals
         have LF:Hid (LdAt b F w tb gu gx (.slice (some ⟨g,0,none⟩) n lcp) gl { x with done:=D0 ++ [(pa,po)],began:=B0 ++ [(T - x.win,0)] } (w6.setCell ⟨b,9,none⟩ (.slice (some ⟨gg,0,none⟩) (B0.length + 1) cap6))):=by
          refine LdV.putB (W:=(W2.alloc (.cells #[.int .i64 (T - x.win),.int .i64 0] 35)).drew) (L4.out.below ((Below.refl _ _).alloc (Nat.le_refl _) _).drew) HG6.out (by rw [flat_append,List.length_append];exact OWN6.out) (fun k e => ?_)
          obtain rfl:gg = k:=by simpa [Value.ownBlock] using e
          rcases HAT6.out with h | h
          ·exact .inl h
          ·exact .inr (Nat.le_of_eq (by simpa using h.symm))
         clear q9 q1 f9 fz lb1
         go_wp2
         go_roundw
         case rel =>
          first
           | exact ⟨k + 1,by omega,by go_num,by rw [HTK.out];exact LF.out⟩
           | (refine ⟨_,_,_,_,_,_,_,_,_,_,_,_,_,_,_,_,_,_,_,_,_,_,_,_,_,_,_,_,_,_,_,_,_,_,_,_,_,_,_,_,_,_,_,_,_,_,_,_,_,_,⟨k + 1,by omega,?_,?_⟩,rfl⟩
              ·go_num
              ·rw [HTK.out];exact LF.out)
         case measure => simp [intOf];omega
      ·rw [if_neg cT] at TK
       have HTK:=hid' TK
       clear TK
       go_wp2
       go_roundw
       case rel =>
        first
         | exact ⟨k + 1,by omega,by go_num,by rw [HTK.out];exact ⟨dv2,bv2,cv2,hv2,LD.out⟩⟩
         | (refine ⟨_,_,_,_,_,_,_,_,_,_,_,_,_,_,_,_,_,_,_,_,_,_,_,_,_,_,_,_,_,_,_,_,_,_,_,_,_,_,_,_,_,_,_,_,_,_,_,_,_,_,⟨k + 1,by omega,?_,?_⟩,rfl⟩
            ·go_num
            ·rw [HTK.out];exact ⟨dv2,bv2,cv2,hv2,LD.out⟩)
       case measure => simp [intOf];omega
     ·have ek:k = n:=by omega
      subst ek
      clear ldv
      go_wp2_with fail
      go_meet
      case rel => rw [E1.out,HN.out];exact ⟨dv2,bv2,cv2,hv2,LD.out⟩
  case rest =>
   clear q5 LD0 HNO
   have HC1:=hid' hcut
   rename World => WA
   obtain ⟨dvA,bvA,cvA,hvA,ldA⟩:=hcut
   have TT:Hid (x.taken gu gx gl = ((x.begun1 gl).stamp gu gx).comes gl (gl.length - (x.begun1 gl).done.length)):=rfl
   have HDL:Hid ((x.begun1 gl).done.length ≤ gl.length ∧ (x.begun1 gl).began.length = (x.begun1 gl).done.length ∧ (x.begun1 gl).win = x.win):=HML.out
   generalize x.begun1 gl = x1 at *
   have LT:=hid' ldA.putT
   have q5:=cell_of_row _ _ 5 _ _ _ ldA.r.row
   have q6:=cell_of_row _ _ 6 _ _ _ ldA.r.row
   have q7:=cell_of_row _ _ 7 _ _ _ ldA.r.row
   have q8:=cell_of_row _ _ 8 _ _ _ ldA.r.row
   have q10:=cell_of_row _ _ 10 _ _ _ ldA.r.row
   have f5:=frozen_of_row _ _ 5 _ _ ldA.r.row
   have f6:=frozen_of_row _ _ 6 _ _ ldA.r.row
   have f7:=frozen_of_row _ _ 7 _ _ ldA.r.row
   have f10:=frozen_of_row _ _ 10 _ _ ldA.r.row
   have t0:=cell_of_row _ _ 0 _ _ _ ldA.row
   have t1:=cell_of_row _ _ 1 _ _ _ ldA.row
   have lb:=lt_of_heap ldA.r.row
   have ltb:=lt_of_heap ldA.row
   have nbt:¬ b = tb:=by
    intro e;subst e
    have:=ldA.r.row.symm.trans ldA.row;simp at this
   have ntb:¬ tb = b:=fun e => nbt e.symm
   simp at q5 q6 q7 q8 q10 t0 t1
   obtain ⟨m,hm⟩:∃ m,x1.done.length = m:=⟨_,rfl⟩
   obtain ⟨n,hn⟩:∃ n,gl.length = n:=⟨_,rfl⟩
   have HM:=hid' hm
   have HN:=hid' hn
   obtain ⟨da,dcp,hdv⟩:=own_slice ldA.r.dd
   subst hdv
   simp only [hm] at q8
   rw [hm,hn] at TT HDL
   rw [hn] at LT gpos glen
   have hmn:m ≤ n:=HDL.out.1
   clear ldA hm hn HC1 HML
   go_wp2_with fail
   have LT0:Hid (LdAt b F w tb gu gx (.slice la n lcp) gl ((x1.stamp gu gx).comes gl 0) ((((WA.setCell ⟨b,5,none⟩ (.bool true)).setCell ⟨b,6,none⟩ (.int .i64 gu)).setCell ⟨b,7,none⟩ (.int .i64 gx)).setCell ⟨b,10,none⟩ (.slice none 0 0))):=LT.out
   clear LT q5 q6 q7 q8 q10 f5 f6 f7 f10 t0 t1 lb ltb
   generalize (((WA.setCell ⟨b,5,none⟩ (.bool true)).setCell ⟨b,6,none⟩ (.int .i64 gu)).setCell ⟨b,7,none⟩ (.int .i64 gx)).setCell ⟨b,10,none⟩ (.slice none 0 0) = WB at *
   have CS:Hid (∀ k,((x1.stamp gu gx).comes gl (k + 1)) = { (x1.stamp gu gx).comes gl k with com:=((x1.stamp gu gx).comes gl k).com ++ [(x1.stamp gu gx).cmAt gl (m + k)] }):=fun k => by rw [← HM.out];rfl
   have CL:Hid (∀ k,((x1.stamp gu gx).comes gl k).com.length = k):=fun k => Sv.cms_length _ _ _ _
   have CW:Hid (∀ k,((x1.stamp gu gx).comes gl k).win = x.win ∧ ((x1.stamp gu gx).comes gl k).opens = (x1.stamp gu gx).opens):=fun k => ⟨HDL.out.2.2,rfl⟩
   have CA:Hid (∀ i,(x1.stamp gu gx).cmAt gl i = ⟨(gl.getD i (0,0)).1,(gl.getD i (0,0)).2,((x1.stamp gu gx).opens (Tab.when gl i)).1,((x1.stamp gu gx).opens (Tab.when gl i)).2,false⟩):=fun i => rfl
   have CN:Hid (∀ k,((x1.stamp gu gx).comes gl k).done.length = m ∧ ((x1.stamp gu gx).comes gl k).began.length = m):=fun k => ⟨HM.out,HDL.out.2.1⟩
   generalize (x1.stamp gu gx).comes gl = cms at *
   go_loopw [12,13,14] (fun iv _ _ wr => ∃ i k:Nat,i = m + k ∧ i ≤ n ∧ iv = .int .i64 i ∧ LdAt b F w tb gu gx (.slice la n lcp) gl (cms k) wr) (fun iv _ _ _ => n - (intOf iv).toNat)
   case atStart => exact ⟨m,0,rfl,hmn,rfl,LT0.out⟩
   case round =>
    clear LT0
    obtain ⟨i,k,hik,hin,rfl,dv2,bv2,cv2,hv2,ldv⟩:=hrel
    have LD:=hid' ldv
    have t2:=cell_of_row _ _ 2 _ _ _ ldv.row
    simp at t2
    by_cases hlt:i < n
    ·obtain ⟨g,lcp',hg⟩:=own_some ldv.own (show 0 < gl.length by rw [HN.out];omega)
     rw [HN.out] at hg
     obtain ⟨rfl,_,rfl⟩:=Value.slice.inj hg
     have hil:i < gl.length:=by rw [HN.out];exact hlt
     have oo:=ldv.own
     rw [HN.out] at oo
     have HLI:=hid' (lies_of oo HN.out)
     have WH:=hid' (fun W (h:Lies W g gl) => ref_when g lcp i n gl W HN.out hlt h HG.out.fine (by omega))
     have bd1:=HFT.out.when_bd i hil
     have bd2:=HFT.out.bd i hil
     have wn:=HNM.out.win
     have cw:=CW.out k
     have cl:=CL.out k
     have ei:gl.getD i (0,0) = gl[i]:=getD_at i hil
     have CK:=CS.out k
     have ca:=CA.out i
     rw [← hik,ca,ei] at CK
     have HIK:=hid' hik
     have hk40:k ≤ 40:=by omega
     clear hik
     have a0:=(HLI.out i hil).1
     have a1:=(HLI.out i hil).2
     rw [ei] at bd1 bd2
     have OP:=hid' (fun (W:World) hW => ref_opens b (cms k) dv2 bv2 cv2 hv2 (Tab.when gl i) W hW (by rw [cw.1];omega) (by rw [cw.1];omega) (by omega) (by omega))
     rw [cw.2] at OP
     obtain ⟨T,hT⟩:∃ T,Tab.when gl i = T:=⟨_,rfl⟩
     rw [hT] at WH CK
     simp only [hT] at OP
     generalize (x1.stamp gu gx).opens T = op at *
     obtain ⟨os,of⟩:=op
     have LG:=hid' (oo.lt _ rfl)
     have zk0:(0:Int) ≤ (i:Int):=by omega
     have zk1:(i:Int) < (n:Int):=by omega
     generalize gl[i] = p at *
     obtain ⟨pa,po⟩:=p
     simp only at a0 a1 CK OP
     have HCK:=hid' CK
     have HCLk:=hid' cl
     clear hT bd1 bd2 ei hil ldv oo hg ca CK cw cl
     go_wp2_with fail
     refine (WH.out _ HLI.out).mono ?_
     rintro e wq ⟨rfl,hwq⟩
     rw [hwq]
     clear hwq wq WH
     go_wp2_with fail
     refine (OP.out _ LD.out.r).mono ?_
     rintro e w5 ⟨rfl,b5⟩
     have aT:=(Below.refl w5.heap.size w5).alloc (Nat.le_refl _) (.cells #[.int .i64 os,.int .i64 of] 35)
     have L5:=hid' (LD.out.below (b5.trans (aT.mono b5.size)))
     have RT:=hid' (heap_alloc_new w5 (.cells #[.int .i64 os,.int .i64 of] 35))
     have sz5:=b5.size
     have A0:=hid' (((b5.trans (aT.mono b5.size)).cell (p:=⟨g,i * 2,none⟩) LG.out.2).trans a0)
     have A1:=hid' (((b5.trans (aT.mono b5.size)).cell (p:=⟨g,i * 2 + 1,none⟩) LG.out.2).trans a1)
     clear b5 aT OP t2 a0 a1 LD HLI
     go_upto_region 28 with fail
     generalize hV5:w5.alloc (.cells #[.int .i64 os,.int .i64 of] 35) = V5 at *
     generalize hQ5:w5.heap.size = Q5 at *
     clear hV5 hQ5
     have r5:=L5.out.r
     have oo:=L5.out.own
     rw [HN.out] at oo
     obtain ⟨k0,hk0,hx0,hx1,hx2⟩:=info_parts infoRComing
     have q10:=cell_of_row _ _ 10 _ _ _ r5.row
     have t2:=cell_of_row _ _ 2 _ _ _ L5.out.row
     have y0:=cell_of_row _ _ 0 _ _ _ RT.out
     have y1:=cell_of_row _ _ 1 _ _ _ RT.out
     have f10:=frozen_of_row _ _ 10 _ _ r5.row
     have a0:=A0.out
     have a1:=A1.out
     have hcl:=HCLk.out
     have fz:∀ o,(V5.alloc o).frozen? ⟨b,10,none⟩ = false:=fun o => frozen_of_row _ _ 10 _ _ ((Keep.refl _ V5).alloc o _ _ _ L5.out.r.row)
     have lb1:=lt_of_heap r5.row
     have lt1:=lt_of_heap L5.out.row
     have lq1:=lt_of_heap RT.out
     have lg1:g < V5.heap.size:=(oo.lt _ rfl).2
     have sz:=L5.out.off.size
     obtain ⟨ca,ccp,hcv⟩:=own_slice r5.cc
     rw [hcl] at hcv
     subst hcv
     have OC:=r5.cc
     rw [hcl] at OC
     have HOC:=hid' OC
     simp at q10 t2 y0 y1
     clear r5 oo A0 A1 hcl OC sz5
     generalize hC0:(cms k).com = C0 at *
     clear hC0
     have ROWL:=(show ∃ cs fr,V5.heap[g]? = some (.cells cs 46 fr) from own_typ L5.out.own rfl)
     obtain ⟨lcs,lfr,hrl⟩:=ROWL
     have nbg:¬ b = g:=by
      intro e;subst e
      have:=L5.out.r.row.symm.trans hrl;simp at this
     have ngb:¬ g = b:=fun e => nbg e.symm
     have nbq:¬ b = Q5:=by
      intro e;subst e
      have:=L5.out.r.row.symm.trans RT.out;simp at this
     have nqb:¬ Q5 = b:=fun e => nbq e.symm
     have NT:Hid (some tb ≠ (Value.slice ca k ccp).ownBlock):=fun e => own_ne HOC.out L5.out.row (by decide) e.symm
     have NG:Hid (some g ≠ (Value.slice ca k ccp).ownBlock):=fun e => own_ne HOC.out hrl (by decide) e.symm
     have NQ:Hid (some Q5 ≠ (Value.slice ca k ccp).ownBlock):=fun e => own_ne HOC.out RT.out (by decide) e.symm
     have BV:=(Below.refl V5.heap.size V5).alloc (Nat.le_refl _) (.cells #[.int .i64 pa,.int .i64 po,.int .i64 os,.int .i64 of,.bool false] 123)
     have mt:(V5.alloc (.cells #[.int .i64 pa,.int .i64 po,.int .i64 os,.int .i64 of,.bool false] 123)).cell? ⟨tb,2,none⟩ = some (.slice (some ⟨g,0,none⟩) n lcp):=(BV.cell (p:=⟨tb,2,none⟩) lt1).trans t2
     have ma:(V5.alloc (.cells #[.int .i64 pa,.int .i64 po,.int .i64 os,.int .i64 of,.bool false] 123)).cell? ⟨g,i * 2,none⟩ = some (.int .i64 pa):=(BV.cell (p:=⟨g,i * 2,none⟩) lg1).trans a0
     have mb:(V5.alloc (.cells #[.int .i64 pa,.int .i64 po,.int .i64 os,.int .i64 of,.bool false] 123)).cell? ⟨g,i * 2 + 1,none⟩ = some (.int .i64 po):=(BV.cell (p:=⟨g,i * 2 + 1,none⟩) lg1).trans a1
     have mc:(V5.alloc (.cells #[.int .i64 pa,.int .i64 po,.int .i64 os,.int .i64 of,.bool false] 123)).cell? ⟨Q5,0,none⟩ = some (.int .i64 os):=(BV.cell (p:=⟨Q5,0,none⟩) lq1).trans y0
     have md:(V5.alloc (.cells #[.int .i64 pa,.int .i64 po,.int .i64 os,.int .i64 of,.bool false] 123)).cell? ⟨Q5,1,none⟩ = some (.int .i64 of):=(BV.cell (p:=⟨Q5,1,none⟩) lq1).trans y1
     clear BV hrl
     refine wp_region_held_drew (S:=(fun w' => w'.cell? ⟨tb,2,none⟩ = some (.slice (some ⟨g,0,none⟩) n lcp) ∧ w'.cell? ⟨g,i * 2,none⟩ = some (.int .i64 pa) ∧ w'.cell? ⟨g,i * 2 + 1,none⟩ = some (.int .i64 po) ∧ w'.cell? ⟨Q5,0,none⟩ = some (.int .i64 os) ∧ w'.cell? ⟨Q5,1,none⟩ = some (.int .i64 of))) (by kernel_rfl) (by (try dsimp only);go_keep) (fun hHeld => ?_)
     refine wpAnyH_take (i:=0) (v:=?vq0) rfl (by kernel_rfl) (by kernel_rfl) (by kernel_rfl) (fun _ _ _ h => h) (Or.inl ⟨by rfl,?hq0⟩) (by assumption) ?_
     case hq0 => (intro w hSw;(try dsimp only at hSw);go_simp;try (with_reducible rfl))
     (try simp only [Act.put,List.setIfInBounds_toArray,List.set_cons_zero,List.set_cons_succ])
     refine wpAnyH_take (i:=1) (v:=?vq1) rfl (by kernel_rfl) (by kernel_rfl) (by kernel_rfl) (fun _ _ _ h => h) (Or.inl ⟨by rfl,?hq1⟩) (by assumption) ?_
     case hq1 => (intro w hSw;(try dsimp only at hSw);go_simp;try (with_reducible rfl))
     (try simp only [Act.put,List.setIfInBounds_toArray,List.set_cons_zero,List.set_cons_succ])
     refine wpAnyH_take (i:=2) (v:=?vq2) rfl (by kernel_rfl) (by kernel_rfl) (by kernel_rfl) (fun _ _ _ h => h) (Or.inl ⟨by rfl,?hq2⟩) (by assumption) ?_
     case hq2 => (intro w hSw;(try dsimp only at hSw);go_simp;try (with_reducible rfl))
     (try simp only [Act.put,List.setIfInBounds_toArray,List.set_cons_zero,List.set_cons_succ])
     refine wpAnyH_take (i:=3) (v:=?vq3) rfl (by kernel_rfl) (by kernel_rfl) (by kernel_rfl) (fun _ _ _ h => h) (Or.inl ⟨by rfl,?hq3⟩) (by assumption) ?_
     case hq3 => (intro w hSw;(try dsimp only at hSw);go_simp;try (with_reducible rfl))
     (try simp only [Act.put,List.setIfInBounds_toArray,List.set_cons_zero,List.set_cons_succ])
     refine wpAnyH_take (i:=5) (v:=?vq5) rfl (by kernel_rfl) (by kernel_rfl) (by kernel_rfl) (fun _ _ _ h => h) (Or.inl ⟨by rfl,?hq5⟩) (by assumption) ?_
     case hq5 => (intro w hSw;(try dsimp only at hSw);go_simp;try (with_reducible rfl))
     (try simp only [Act.put,List.setIfInBounds_toArray,List.set_cons_zero,List.set_cons_succ])
     refine wpAnyH_take (i:=6) (v:=?vq6) rfl (by kernel_rfl) (by kernel_rfl) (by kernel_rfl) (fun _ _ _ h => h) (Or.inl ⟨by rfl,?hq6⟩) (by assumption) ?_
     case hq6 => (intro w hSw;(try dsimp only at hSw);go_simp;try (with_reducible rfl))
     (try simp only [Act.put,List.setIfInBounds_toArray,List.set_cons_zero,List.set_cons_succ])
     refine wpAnyH_take (i:=7) (v:=?vq7) rfl (by kernel_rfl) (by kernel_rfl) (by kernel_rfl) (fun _ _ _ h => h) (Or.inl ⟨by rfl,?hq7⟩) (by assumption) ?_
     case hq7 => (intro w hSw;(try dsimp only at hSw);go_simp;try (with_reducible rfl))
     (try simp only [Act.put,List.setIfInBounds_toArray,List.set_cons_zero,List.set_cons_succ])
     refine wpAnyH_take (i:=8) (v:=?vq8) rfl (by kernel_rfl) (by kernel_rfl) (by kernel_rfl) (fun _ _ _ h => h) (Or.inl ⟨by rfl,?hq8⟩) (by assumption) ?_
     case hq8 => (intro w hSw;(try dsimp only at hSw);go_simp;try (with_reducible rfl))
     (try simp only [Act.put,List.setIfInBounds_toArray,List.set_cons_zero,List.set_cons_succ])
     refine wpAnyH_take (i:=9) (v:=?vq9) rfl (by kernel_rfl) (by kernel_rfl) (by kernel_rfl) (fun _ _ _ h => h) (Or.inl ⟨by rfl,?hq9⟩) (by assumption) ?_
     case hq9 => (intro w hSw;(try dsimp only at hSw);go_simp;try (with_reducible rfl))
     (try simp only [Act.put,List.setIfInBounds_toArray,List.set_cons_zero,List.set_cons_succ])
     refine wpAnyH_take (i:=10) (v:=?vq10) rfl (by kernel_rfl) (by kernel_rfl) (by kernel_rfl) (fun _ _ _ h => h) (Or.inl ⟨by rfl,?hq10⟩) (by assumption) ?_
     case hq10 => (intro w hSw;(try dsimp only at hSw);go_simp;try (with_reducible rfl))
     (try simp only [Act.put,List.setIfInBounds_toArray,List.set_cons_zero,List.set_cons_succ])
     refine wpAnyH_take (i:=11) (v:=?vq11) rfl (by kernel_rfl) (by kernel_rfl) (by kernel_rfl) (fun _ _ _ h => h) (Or.inl ⟨by rfl,?hq11⟩) (by assumption) ?_
     case hq11 => (intro w hSw;(try dsimp only at hSw);go_simp;try (with_reducible rfl))
     (try simp only [Act.put,List.setIfInBounds_toArray,List.set_cons_zero,List.set_cons_succ])
     refine wpAnyH_take (i:=12) (v:=?vq12) rfl (by kernel_rfl) (by kernel_rfl) (by kernel_rfl) (fun _ _ _ h => h) (Or.inl ⟨by rfl,?hq12⟩) (by assumption) ?_
     case hq12 => (intro w hSw;(try dsimp only at hSw);go_simp;try (with_reducible rfl))
     (try simp only [Act.put,List.setIfInBounds_toArray,List.set_cons_zero,List.set_cons_succ])
     refine wpAnyH_take (i:=13) (v:=?vq13) rfl (by kernel_rfl) (by kernel_rfl) (by kernel_rfl) (fun _ _ _ h => h) (Or.inl ⟨by rfl,?hq13⟩) (by assumption) ?_
     case hq13 => (intro w hSw;(try dsimp only at hSw);go_simp;try (with_reducible rfl))
     (try simp only [Act.put,List.setIfInBounds_toArray,List.set_cons_zero,List.set_cons_succ])
     refine wpAnyH_take (i:=14) (v:=?vq14) rfl (by kernel_rfl) (by kernel_rfl) (by kernel_rfl) (fun _ _ _ h => h) (Or.inl ⟨by rfl,?hq14⟩) (by assumption) ?_
     case hq14 => (intro w hSw;(try dsimp only at hSw);go_simp;try (with_reducible rfl))
     (try simp only [Act.put,List.setIfInBounds_toArray,List.set_cons_zero,List.set_cons_succ])
     refine wpAnyH_take (i:=15) (v:=?vq15) rfl (by kernel_rfl) (by kernel_rfl) (by kernel_rfl) (fun _ _ _ h => h) (Or.inl ⟨by rfl,?hq15⟩) (by assumption) ?_
     case hq15 => (intro w hSw;(try dsimp only at hSw);go_simp;try (with_reducible rfl))
     (try simp only [Act.put,List.setIfInBounds_toArray,List.set_cons_zero,List.set_cons_succ])
     refine wpAnyH_take (i:=16) (v:=?vq16) rfl (by kernel_rfl) (by kernel_rfl) (by kernel_rfl) (fun _ _ _ h => h) (Or.inl ⟨by rfl,?hq16⟩) (by assumption) ?_
     case hq16 => (intro w hSw;(try dsimp only at hSw);go_simp;try (with_reducible rfl))
     (try simp only [Act.put,List.setIfInBounds_toArray,List.set_cons_zero,List.set_cons_succ])
     refine wpAnyH_take (i:=17) (v:=?vq17) rfl (by kernel_rfl) (by kernel_rfl) (by kernel_rfl) (fun _ _ _ h => h) (Or.inl ⟨by rfl,?hq17⟩) (by assumption) ?_
     case hq17 => (intro w hSw;(try dsimp only at hSw);go_simp;try (with_reducible rfl))
     (try simp only [Act.put,List.setIfInBounds_toArray,List.set_cons_zero,List.set_cons_succ])
     refine wpAnyH_take (i:=18) (v:=?vq18) rfl (by kernel_rfl) (by kernel_rfl) (by kernel_rfl) (fun _ _ _ h => h) (Or.inl ⟨by rfl,?hq18⟩) (by assumption) ?_
     case hq18 => (intro w hSw;(try dsimp only at hSw);go_simp;try (with_reducible rfl))
     (try simp only [Act.put,List.setIfInBounds_toArray,List.set_cons_zero,List.set_cons_succ])
     refine wpAnyH_ready (rs:=[4,19]) (by kernel_rfl) (by simp) ?_
     refine AllReadyH.cons rfl (fun K hK => ?_) (AllReadyH.cons rfl (fun K hK => ?_) AllReadyH.nil)
     ·go_simp
      refine hK.out _ _ ?_ (fun hHeld2 => ?_)
      ·((try dsimp only);go_keep)
      clear hK K
      (try simp only [Act.put,List.setIfInBounds_toArray,List.set_cons_zero,List.set_cons_succ])
      refine wpAnyH_ready (rs:=[19]) (by kernel_rfl) (by simp) ?_
      refine AllReadyH.cons rfl (fun K hK => ?_) AllReadyH.nil
      go_simp
      refine hK.out _ _ ?_ (fun hHeld3 => ?_)
      ·((try dsimp only);go_keep)
      clear hK K
      (try simp only [Act.put,List.setIfInBounds_toArray,List.set_cons_zero,List.set_cons_succ])
      refine wpAnyH_ready (rs:=[20]) (by kernel_rfl) (by simp) ?_
      refine AllReadyH.cons rfl (fun K hK => ?_) AllReadyH.nil
      (refine step_append_lies _ ?_ (.tmp 150) (.tmp 165) 116 ?_ 0 123 k0 (.agg #[.int .i64 0,.int .i64 0,.int .i64 0,.int .i64 0,.bool false]) 5 40 Tryz.underlying116 hk0 hx0 hx1 hx2 rfl (by decide) (.slice ca k ccp) k (flatC C0) ?_ ?_ ⟨V5.heap.size,0,none⟩ 1 1 [.int .i64 pa,.int .i64 po,.int .i64 os,.int .i64 of,.bool false] ?_ ?_ ?_ ?_ ?_ ?_ ?_ ?_ (V5.heap.size + 1) ?_ ?_;exact rfl;exact rfl;exact rfl;exact (HOC.out.alloc _).drew;exact rfl;exact rfl;exact (World.news_of_block (cs:=#[.int .i64 pa,.int .i64 po,.int .i64 os,.int .i64 of,.bool false]) (t:=123) (fr:=(0,0)) (heap_alloc_new V5 _));(simp [Value.oneCell']);decide;(unfold maxLen;omega);omega;omega;(simp);intro gg cap6 w6 own6 hg6 hat6 hlt6;have S6:=hid' (grown_heap (w:=(V5.alloc (.cells #[.int .i64 pa,.int .i64 po,.int .i64 os,.int .i64 of,.bool false] 123)).drew) (t:=119) hg6 (HOC.out.alloc _).drew ((Keep.refl _ V5).alloc _ _ _ _ L5.out.r.row) (by decide));have c60:=cell_of_row _ _ 10 _ _ _ S6.out;have f60:=frozen_of_row _ _ 10 _ _ S6.out;(simp at c60);have kt:=(hg6.cell (a:=⟨tb,2,none⟩) (v:=.slice (some ⟨g,0,none⟩) n lcp) (by exact mt) NT.out);have ka:=(hg6.cell (a:=⟨g,i * 2,none⟩) (v:=.int .i64 pa) (by exact ma) NG.out);have kb:=(hg6.cell (a:=⟨g,i * 2 + 1,none⟩) (v:=.int .i64 po) (by exact mb) NG.out);have kc:=(hg6.cell (a:=⟨Q5,0,none⟩) (v:=.int .i64 os) (by exact mc) NQ.out);have kd:=(hg6.cell (a:=⟨Q5,1,none⟩) (v:=.int .i64 of) (by exact md) NQ.out);have OWN6:=hid' own6;have HG6:=hid' hg6;have HAT6:=hid' hat6;clear own6 hg6 hat6)
      refine hK.out _ _ ?_ (fun hHeld4 => ?_)
      ·((try dsimp only);go_keep)
      clear hK K
      (try simp only [Act.put,List.setIfInBounds_toArray,List.set_cons_zero,List.set_cons_succ])
      refine wpAnyH_take (i:=21) (v:=?vr21a) rfl (by kernel_rfl) (by kernel_rfl) (by kernel_rfl) (fun _ _ _ h => h) (Or.inl ⟨by rfl,?hr21a⟩) (by assumption) ?_
      case hr21a => (intro w hSw;(try dsimp only at hSw);go_simp;try (with_reducible rfl))
      (try simp only [Act.put,List.setIfInBounds_toArray,List.set_cons_zero,List.set_cons_succ])
      refine wpAnyH_take (i:=22) (v:=?vr22a) rfl (by kernel_rfl) (by kernel_rfl) (by kernel_rfl) (fun _ _ _ h => h) (Or.inl ⟨by rfl,?hr22a⟩) (by assumption) ?_
      case hr22a => (intro w hSw;(try dsimp only at hSw);go_simp;try (with_reducible rfl))
      (try simp only [Act.put,List.setIfInBounds_toArray,List.set_cons_zero,List.set_cons_succ])
      refine wpAnyH_ready (rs:=[23]) (by kernel_rfl) (by simp) ?_
      refine AllReadyH.cons rfl (fun K hK => ?_) AllReadyH.nil
      go_simp
      refine hK.out _ _ ?_ (fun hHeld5 => ?_)
      ·((try dsimp only);go_keep)
      clear hK K
      (try simp only [Act.put,List.setIfInBounds_toArray,List.set_cons_zero,List.set_cons_succ])
      refine wpAnyH_done (by kernel_rfl) ?_ _
      have LF:Hid (LdAt b F w tb gu gx (.slice (some ⟨g,0,none⟩) n lcp) gl (cms (k + 1)) (w6.setCell ⟨b,10,none⟩ (.slice (some ⟨gg,0,none⟩) (k + 1) cap6))):=by
       rw [HCK.out]
       refine LdV.putC (W:=(V5.alloc (.cells #[.int .i64 pa,.int .i64 po,.int .i64 os,.int .i64 of,.bool false] 123)).drew) (L5.out.below ((Below.refl _ _).alloc (Nat.le_refl _) _).drew) HG6.out (by rw [flatC_append,List.length_append,HCLk.out];exact OWN6.out) (fun k e => ?_)
       obtain rfl:gg = k:=by simpa [Value.ownBlock] using e
       rcases HAT6.out with h | h
       ·exact .inl h
       ·exact .inr (Nat.le_of_eq (by simpa using h.symm))
      clear q10 t2 y0 y1 f10 a0 a1 fz
      go_wp2
      go_roundw
      case rel => exact ⟨i + 1,k + 1,by have:=HIK.out;omega,by omega,by go_num,LF.out⟩
      case measure => simp [intOf];omega
     ·go_simp
      refine hK.out _ _ ?_ (fun hHeld2 => ?_)
      ·((try dsimp only);go_keep)
      clear hK K
      (try simp only [Act.put,List.setIfInBounds_toArray,List.set_cons_zero,List.set_cons_succ])
      refine wpAnyH_ready (rs:=[4]) (by kernel_rfl) (by simp) ?_
      refine AllReadyH.cons rfl (fun K hK => ?_) AllReadyH.nil
      go_simp
      refine hK.out _ _ ?_ (fun hHeld3 => ?_)
      ·((try dsimp only);go_keep)
      clear hK K
      (try simp only [Act.put,List.setIfInBounds_toArray,List.set_cons_zero,List.set_cons_succ])
      refine wpAnyH_ready (rs:=[20]) (by kernel_rfl) (by simp) ?_
      refine AllReadyH.cons rfl (fun K hK => ?_) AllReadyH.nil
      (refine step_append_lies _ ?_ (.tmp 150) (.tmp 165) 116 ?_ 0 123 k0 (.agg #[.int .i64 0,.int .i64 0,.int .i64 0,.int .i64 0,.bool false]) 5 40 Tryz.underlying116 hk0 hx0 hx1 hx2 rfl (by decide) (.slice ca k ccp) k (flatC C0) ?_ ?_ ⟨V5.heap.size,0,none⟩ 1 1 [.int .i64 pa,.int .i64 po,.int .i64 os,.int .i64 of,.bool false] ?_ ?_ ?_ ?_ ?_ ?_ ?_ ?_ (V5.heap.size + 1) ?_ ?_;exact rfl;exact rfl;exact rfl;exact (HOC.out.alloc _).drew;exact rfl;exact rfl;exact (World.news_of_block (cs:=#[.int .i64 pa,.int .i64 po,.int .i64 os,.int .i64 of,.bool false]) (t:=123) (fr:=(0,0)) (heap_alloc_new V5 _));(simp [Value.oneCell']);decide;(unfold maxLen;omega);omega;omega;(simp);intro gg cap6 w6 own6 hg6 hat6 hlt6;have S6:=hid' (grown_heap (w:=(V5.alloc (.cells #[.int .i64 pa,.int .i64 po,.int .i64 os,.int .i64 of,.bool false] 123)).drew) (t:=119) hg6 (HOC.out.alloc _).drew ((Keep.refl _ V5).alloc _ _ _ _ L5.out.r.row) (by decide));have c60:=cell_of_row _ _ 10 _ _ _ S6.out;have f60:=frozen_of_row _ _ 10 _ _ S6.out;(simp at c60);have kt:=(hg6.cell (a:=⟨tb,2,none⟩) (v:=.slice (some ⟨g,0,none⟩) n lcp) (by exact mt) NT.out);have ka:=(hg6.cell (a:=⟨g,i * 2,none⟩) (v:=.int .i64 pa) (by exact ma) NG.out);have kb:=(hg6.cell (a:=⟨g,i * 2 + 1,none⟩) (v:=.int .i64 po) (by exact mb) NG.out);have kc:=(hg6.cell (a:=⟨Q5,0,none⟩) (v:=.int .i64 os) (by exact mc) NQ.out);have kd:=(hg6.cell (a:=⟨Q5,1,none⟩) (v:=.int .i64 of) (by exact md) NQ.out);have OWN6:=hid' own6;have HG6:=hid' hg6;have HAT6:=hid' hat6;clear own6 hg6 hat6)
      refine hK.out _ _ ?_ (fun hHeld4 => ?_)
      ·((try dsimp only);go_keep)
      clear hK K
      (try simp only [Act.put,List.setIfInBounds_toArray,List.set_cons_zero,List.set_cons_succ])
      refine wpAnyH_take (i:=21) (v:=?vr21b) rfl (by kernel_rfl) (by kernel_rfl) (by kernel_rfl) (fun _ _ _ h => h) (Or.inl ⟨by rfl,?hr21b⟩) (by assumption) ?_
      case hr21b => (intro w hSw;(try dsimp only at hSw);go_simp;try (with_reducible rfl))
      (try simp only [Act.put,List.setIfInBounds_toArray,List.set_cons_zero,List.set_cons_succ])
      refine wpAnyH_take (i:=22) (v:=?vr22b) rfl (by kernel_rfl) (by kernel_rfl) (by kernel_rfl) (fun _ _ _ h => h) (Or.inl ⟨by rfl,?hr22b⟩) (by assumption) ?_
      case hr22b => (intro w hSw;(try dsimp only at hSw);go_simp;try (with_reducible rfl))
      (try simp only [Act.put,List.setIfInBounds_toArray,List.set_cons_zero,List.set_cons_succ])
      refine wpAnyH_ready (rs:=[23]) (by kernel_rfl) (by simp) ?_
      refine AllReadyH.cons rfl (fun K hK => ?_) AllReadyH.nil
      go_simp
      refine hK.out _ _ ?_ (fun hHeld5 => ?_)
      ·((try dsimp only);go_keep)
      clear hK K
      (try simp only [Act.put,List.setIfInBounds_toArray,List.set_cons_zero,List.set_cons_succ])
      refine wpAnyH_done (by kernel_rfl) ?_ _
      have LF:Hid (LdAt b F w tb gu gx (.slice (some ⟨g,0,none⟩) n lcp) gl (cms (k + 1)) (w6.setCell ⟨b,10,none⟩ (.slice (some ⟨gg,0,none⟩) (k + 1) cap6))):=by
       rw [HCK.out]
       refine LdV.putC (W:=(V5.alloc (.cells #[.int .i64 pa,.int .i64 po,.int .i64 os,.int .i64 of,.bool false] 123)).drew) (L5.out.below ((Below.refl _ _).alloc (Nat.le_refl _) _).drew) HG6.out (by rw [flatC_append,List.length_append,HCLk.out];exact OWN6.out) (fun k e => ?_)
       obtain rfl:gg = k:=by simpa [Value.ownBlock] using e
       rcases HAT6.out with h | h
       ·exact .inl h
       ·exact .inr (Nat.le_of_eq (by simpa using h.symm))
      clear q10 t2 y0 y1 f10 a0 a1 fz
      go_wp2
      go_roundw
      case rel => exact ⟨i + 1,k + 1,by have:=HIK.out;omega,by omega,by go_num,LF.out⟩
      case measure => simp [intOf];omega
    ·have ei:i = n:=by omega
     have ek:k = n - m:=by omega
     have HEK:=hid' ek
     have TK:Hid (x.taken gu gx gl = cms k):=by show _ = _;rw [TT.out,ek]
     rw [TK.out] at HCL
     have cn:=CN.out k
     have cl:=CL.out k
     have WG:=hid' (ref_weigh b (cms k) dv2 bv2 cv2 hv2 wr ldv.r (by rw [cn.1,cl];omega) (by rw [cn.2,cl];omega) (fun _ => HCL.out))
     clear ldv hik ek ei cn cl
     go_wp2_with fail
     refine WG.out.mono ?_
     rintro e w5 ⟨rfl,p5⟩
     have P5:=hid' p5
     clear p5 WG
     go_wp2
     go_ret2
     rw [TK.out]
     exact ⟨rfl,rpost_then LD.out.off LD.out.foot P5.out⟩
end Go.Proofs.YtmmkhodaljpjgaaGreatDoor
