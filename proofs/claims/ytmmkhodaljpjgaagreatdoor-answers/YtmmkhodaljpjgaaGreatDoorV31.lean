import Derived.Test.YtmmkhodaljpjgaaGreatDoorV26
set_option maxRecDepth 100000
set_option maxHeartbeats 6400000
namespace Go.Proofs.YtmmkhodaljpjgaaGreatDoor
open Go.RowKit
attribute [local go_sem ↓] Go.wp_at_zero Go.wp_at_succ
theorem infoHeard:(Tryz.prog.info? 160).map (fun i => (i.zero,i.size,i.bytes)) = some (some (.agg #[.bool false,.int .i64 0,.int .i64 0,.int .i64 0]),4,32):=by kernel_rfl
theorem RSrv.putS {b:Nat} {s:Sv} {dv bv cv hv hv':Value} {w w1:World} {L:List Hd} (h:RSrv b s dv bv cv hv w) (hg:w.grownBy w1 hv.ownBlock) (ho:w1.ownsRow 0 160 4 hv' L.length (flatH L)) :
  RSrv b { s with said:=L } dv bv cv hv' (w1.setCell ⟨b,12,none⟩ hv'):=by
 have row:=grown_heap (t:=119) hg h.ss h.row (by decide)
 have kd:=own_grown h.dd hg h.ss (by decide)
 have kb:=own_grown h.bb hg h.ss (by decide)
 have kc:=own_grown h.cc hg h.ss (by decide)
 refine ⟨?_,own_set (p:=⟨b,12,none⟩) kd row (by decide) _,own_set (p:=⟨b,12,none⟩) kb row (by decide) _,own_set (p:=⟨b,12,none⟩) kc row (by decide) _,own_set (p:=⟨b,12,none⟩) ho row (by decide) _⟩
 rw [heap_setCell_same _ _ _ _ _ _ row];rfl
def Fresh (w:World) (b:Nat) (s:Sv) (w':World):Prop:=∃ hv,RSrv b s (.slice none 0 0) (.slice none 0 0) (.slice none 0 0) hv w' ∧ w.heap.size ≤ b ∧ (∀ k,hv.ownBlock = some k → w.heap.size ≤ k) ∧ Below w.heap.size w w'
def NewP (cf:Bool) (s:Sv) (w:World) (e:Ending) (w':World):Prop :=
 (cf = false → e = .returned (.tuple #[.pointer none,.int .i64 10]) ∧ Below w.heap.size w w') ∧ (cf = true → ∃ b,e = .returned (.tuple #[.pointer (some ⟨b,0,none⟩),.int .i64 0]) ∧ Fresh w b s w')
theorem init_row {w:World} {mode win fresh s f:Int}:RSrv w.heap.size (Sv.init mode win fresh s f 0) (.slice none 0 0) (.slice none 0 0) (.slice none 0 0) (.slice none 0 0)
  (w.alloc (.cells #[.int .i64 mode,.int .i64 win,.int .i64 fresh,.int .i64 s,.int .i64 f,.bool false,.int .i64 0,.int .i64 0,.slice none 0 0,.slice none 0 0,.slice none 0 0,.int .i64 0,.slice none 0 0] 119)) :=
 ⟨heap_alloc_new _ _,World.ownsRow_nil _ _ _ _,World.ownsRow_nil _ _ _ _,World.ownsRow_nil _ _ _ _,World.ownsRow_nil _ _ _ _⟩
theorem ref_new (mode win src fresh s f:Int) (w:World) (ww:(Lit.int .i64 win).wf = true) :
  Calls Tryz.prog 54 #[.int .i64 mode,.int .i64 win,.int .i64 src,.int .i64 fresh,.agg #[.int .i64 s,.int .i64 f]] w fun e w' =>
   NewP (cfgB mode win src fresh s f) (Sv.init mode win fresh s f src.toNat) w e w':=by
 have bw:=bounds_i64 ww
 have B0:=hid' ((Below.refl w.heap.size w).alloc (Nat.le_refl _) (.cells #[.int .i64 s,.int .i64 f] 35))
 have R0:=hid' (heap_alloc_new w (.cells #[.int .i64 s,.int .i64 f] 35))
 have IS:=hid' (fun W => ref_is s f W)
 have HCF:Hid (cfgB mode win src fresh s f = ((stepB mode win || smearB mode win) && decide (0 ≤ src ∧ src ≤ 8 ∧ 1 ≤ fresh ∧ fresh ≤ 604800) && isT s f)):=rfl
 have HST:Hid (stepB mode win = decide (mode = 0 ∧ win = 0)):=rfl
 have HSM:Hid (smearB mode win = decide ((mode = 1 ∨ mode = 2) ∧ 3600 ≤ win ∧ win ≤ 604800 ∧ win.tmod 2 = 0)):=rfl
 generalize cfgB mode win src fresh s f = cf at *
 generalize stepB mode win = st at *
 generalize smearB mode win = sm at *
 generalize isT s f = it at *
 clear ww
 go_enter Tryz.func54,Tryz.ntmps54
 go_upto_region 1 with fail
 go_cut [12] from 17 (fun s12 wx => s12 = .bool st ∧ wx = w.alloc (.cells #[.int .i64 s,.int .i64 f] 35))
 case first =>
  by_cases c1:mode = 0
  ·have e1:(mode == 0) = true:=by rw [c1];rfl
   by_cases c2:win = 0
   ·obtain rfl:st = true:=by rw [HST.out];exact decide_eq_true ⟨c1,c2⟩
    have e2:(win == 0) = true:=by rw [c2];rfl
    clear c1 c2
    go_wp2_with fail
    go_meet
    case rel => exact ⟨rfl,rfl⟩
   ·obtain rfl:st = false:=by rw [HST.out];exact decide_eq_false (fun h => c2 h.2)
    have e2:(win == 0) = false:=by rw [beq_eq_false_iff_ne];exact c2
    clear c1 c2
    go_wp2_with fail
    go_meet
    case rel => exact ⟨rfl,rfl⟩
  ·obtain rfl:st = false:=by rw [HST.out];exact decide_eq_false (fun h => c1 h.1)
   have e1:(mode == 0) = false:=by rw [beq_eq_false_iff_ne];exact c1
   clear c1
   go_wp2_with fail
   go_meet
   case rel => exact ⟨rfl,rfl⟩
 case rest =>
  obtain ⟨rfl,rfl⟩:=hcut
  go_upto_region 2 with fail
  go_cut [13] from 17 (fun s13 wx => s13 = .bool sm ∧ wx = w.alloc (.cells #[.int .i64 s,.int .i64 f] 35))
  case first =>
   have NO:∀ (h:¬ ((mode = 1 ∨ mode = 2) ∧ 3600 ≤ win ∧ win ≤ 604800 ∧ win.tmod 2 = 0)),sm = false:=fun h => by rw [HSM.out];exact decide_eq_false h
   have HNO:=hid' NO
   clear NO
   by_cases c0:mode = 1 ∨ mode = 2
   ·have e12:((mode == 1) = true) ∨ ((mode == 1) = false ∧ (mode == 2) = true):=by
     rcases c0 with c | c
     ·exact .inl (by rw [c];rfl)
     ·exact .inr ⟨by rw [c];rfl,by rw [c];rfl⟩
    by_cases c1:3600 ≤ win
    ·by_cases c2:win ≤ 604800
     ·by_cases c3:win.tmod 2 = 0
      ·obtain rfl:sm = true:=by rw [HSM.out];exact decide_eq_true ⟨c0,c1,c2,c3⟩
       have e3:(win % 2 == 0) = true:=by rw [Int.tmod_eq_emod_of_nonneg (by omega)] at c3;rw [c3];rfl
       have z:0 ≤ win:=by omega
       clear c0 c3
       rcases e12 with e1 | ⟨e1,e2⟩
       all_goals
        go_wp2_with fail
        go_meet
        case rel => exact ⟨rfl,rfl⟩
      ·obtain rfl:sm = false:=HNO.out (fun h => c3 h.2.2.2)
       have e3:(win % 2 == 0) = false:=by rw [Int.tmod_eq_emod_of_nonneg (by omega)] at c3;rw [beq_eq_false_iff_ne];exact c3
       have z:0 ≤ win:=by omega
       clear c0 c3
       rcases e12 with e1 | ⟨e1,e2⟩
       all_goals
        go_wp2_with fail
        go_meet
        case rel => exact ⟨rfl,rfl⟩
     ·obtain rfl:sm = false:=HNO.out (fun h => c2 h.2.2.1)
      clear c0
      rcases e12 with e1 | ⟨e1,e2⟩
      all_goals
       go_wp2_with fail
       go_meet
       case rel => exact ⟨rfl,rfl⟩
    ·obtain rfl:sm = false:=HNO.out (fun h => c1 h.2.1)
     clear c0
     rcases e12 with e1 | ⟨e1,e2⟩
     all_goals
      go_wp2_with fail
      go_meet
      case rel => exact ⟨rfl,rfl⟩
   ·obtain rfl:sm = false:=HNO.out (fun h => c0 h.1)
    have e1:(mode == 1) = false:=by rw [beq_eq_false_iff_ne];omega
    have e2:(mode == 2) = false:=by rw [beq_eq_false_iff_ne];omega
    clear c0
    go_wp2_with fail
    go_meet
    case rel => exact ⟨rfl,rfl⟩
  case rest =>
   obtain ⟨rfl,rfl⟩:=hcut
   go_wp2_with fail
   refine (IS.out _).mono ?_
   rintro e w1 ⟨rfl,hb1⟩
   have B1:=hid' (B0.out.trans (hb1.mono B0.out.size))
   have R1:=hid' ((hb1.block _ (by simp)).trans R0.out)
   clear hb1 IS
   go_upto_region 4 with fail
   go_cut [69] from 17 (fun s69 wx => s69 = .bool (!cf) ∧ wx = w1)
   case first =>
    have NO:∀ (h:¬ (0 ≤ src ∧ src ≤ 8 ∧ 1 ≤ fresh ∧ fresh ≤ 604800)),cf = false:=fun h => by rw [HCF.out,decide_eq_false h];simp
    have HNO:=hid' NO
    have H00:Hid (st = false → sm = false → cf = false):=fun h1 h2 => by rw [HCF.out,h1,h2];rfl
    have HYES:Hid ((st || sm) = true → (0 ≤ src ∧ src ≤ 8 ∧ 1 ≤ fresh ∧ fresh ≤ 604800) → cf = it):=fun h1 h2 => by rw [HCF.out,h1,decide_eq_true h2];rfl
    clear NO
    by_cases cz:st = false ∧ sm = false
    ·obtain rfl:cf = false:=H00.out cz.1 cz.2
     obtain ⟨rfl,rfl⟩:=cz
     go_wp2_with fail
     go_meet
     case rel => exact ⟨rfl,rfl⟩
    ·have oo:(st || sm) = true:=by
      cases st with
      | true => rfl
      | false =>
       cases sm with
       | true => rfl
       | false => exact absurd ⟨rfl,rfl⟩ cz
     by_cases d1:src < 0
     ·obtain rfl:cf = false:=HNO.out (by omega)
      cases st <;> cases sm <;> first
       | (exact absurd ⟨rfl,rfl⟩ cz)
       | (clear cz oo;go_wp2_with fail;go_meet;case rel => exact ⟨rfl,rfl⟩)
     ·by_cases d2:8 < src
      ·obtain rfl:cf = false:=HNO.out (by omega)
       cases st <;> cases sm <;> first
        | (exact absurd ⟨rfl,rfl⟩ cz)
        | (clear cz oo;go_wp2_with fail;go_meet;case rel => exact ⟨rfl,rfl⟩)
      ·by_cases d3:fresh < 1
       ·obtain rfl:cf = false:=HNO.out (by omega)
        cases st <;> cases sm <;> first
         | (exact absurd ⟨rfl,rfl⟩ cz)
         | (clear cz oo;go_wp2_with fail;go_meet;case rel => exact ⟨rfl,rfl⟩)
       ·by_cases d4:604800 < fresh
        ·obtain rfl:cf = false:=HNO.out (by omega)
         cases st <;> cases sm <;> first
          | (exact absurd ⟨rfl,rfl⟩ cz)
          | (clear cz oo;go_wp2_with fail;go_meet;case rel => exact ⟨rfl,rfl⟩)
        ·obtain rfl:cf = it:=HYES.out oo (by omega)
         cases cf <;> cases st <;> cases sm <;> first
          | (exact absurd ⟨rfl,rfl⟩ cz)
          | (clear cz oo;go_wp2_with fail;go_meet;case rel => exact ⟨rfl,rfl⟩)
   case rest =>
    obtain ⟨rfl,rfl⟩:=hcut
    rename World => W1
    cases cf with
    | false =>
     go_wp2
     go_ret2
     exact ⟨fun _ => ⟨rfl,B1.out⟩,fun h => by cases h⟩
    | true =>
     obtain ⟨hs0,hs8⟩:0 ≤ src ∧ src ≤ 8:=by
      by_cases c:0 ≤ src ∧ src ≤ 8 ∧ 1 ≤ fresh ∧ fresh ≤ 604800
      ·exact ⟨c.1,c.2.1⟩
      ·have:=HCF.out;rw [decide_eq_false c] at this;simp at this
     obtain ⟨n,rfl⟩:=Int.eq_ofNat_of_zero_le hs0
     have t0:=cell_of_row _ _ 0 _ _ _ R1.out
     have t1:=cell_of_row _ _ 1 _ _ _ R1.out
     simp at t0 t1
     obtain ⟨i0,hi0,hz0,hz1,hz2⟩:=info_parts infoHeard
     have I0:=hid' (init_row (w:=W1) (mode:=mode) (win:=win) (fresh:=fresh) (s:=s) (f:=f))
     have BA:=hid' (B1.out.alloc B1.out.size (.cells #[.int .i64 mode,.int .i64 win,.int .i64 fresh,.int .i64 s,.int .i64 f,.bool false,.int .i64 0,.int .i64 0,.slice none 0 0,.slice none 0 0,.slice none 0 0,.int .i64 0,.slice none 0 0] 119))
     have HW1:=hid' B1.out.size
     go_wp2_with fail
     go_loopw [16] (fun i wr => ∃ k:Nat,k ≤ n ∧ i = .int .i64 k ∧ Fresh w W1.heap.size (Sv.init mode win fresh s f k) wr) (fun i _ => n - (intOf i).toNat)
     case atStart => exact ⟨0,by omega,rfl,_,I0.out,HW1.out,fun k e => by simp [Value.ownBlock] at e,BA.out⟩
     case round =>
      obtain ⟨k,hk,rfl,hv,hr,hge,hvg,hbel⟩:=hrel
      have R2:=hid' hr
      have B2:=hid' hbel
      have HVG:=hid' hvg
      have q12:=cell_of_row _ _ 12 _ _ _ hr.row
      have f12:=frozen_of_row _ _ 12 _ _ hr.row
      have lb:=lt_of_heap hr.row
      obtain ⟨ha,hcp,hhv⟩:=own_slice hr.ss
      have hln:(Sv.init mode win fresh s f k).said.length = k:=by simp [Sv.init]
      rw [hln] at hhv
      subst hhv
      simp at q12
      clear hr hbel hvg
      by_cases hlt:k < n
      ·have z1:(k:Int) < (n:Int):=by omega
       have fz:∀ o,(wr.alloc o).frozen? ⟨W1.heap.size,12,none⟩ = false:=fun o => frozen_of_row _ _ 12 _ _ ((Keep.refl _ wr).alloc o _ _ _ R2.out.row)
       go_wp2_with (at_builtin;refine wpList_append_lies _ (by rfl) (.tmp 85) (.tmp 87) 117 (by rfl) 0 160 i0 (.agg #[.bool false,.int .i64 0,.int .i64 0,.int .i64 0]) 4 32 Tryz.underlying117 hi0 hz0 hz1 hz2 rfl (by decide) (.slice ha k hcp) k (flatH (List.replicate k noHd)) (by rfl) (by have:=R2.out.ss;rw [hln] at this;exact this.alloc _) ⟨wr.heap.size,0,none⟩ 1 1 [.bool false,.int .i64 0,.int .i64 0,.int .i64 0] (by rfl) (by rfl) (World.news_of_block (cs:=#[.bool false,.int .i64 0,.int .i64 0,.int .i64 0]) (heap_alloc_new wr _)) (by simp [Value.oneCell']) (by decide) (by unfold maxLen;omega) (by omega) (by omega) (wr.heap.size + 1) (by simp) ?_;intro gg cap6 w6 own6 hg6 hat6 hlt6;have S6:=hid' (grown_heap (t:=119) hg6 (by have:=R2.out.ss;rw [hln] at this;exact this.alloc _) ((Keep.refl _ wr).alloc _ _ _ _ R2.out.row) (by decide));have c612:=cell_of_row _ _ 12 _ _ _ S6.out;have f612:=frozen_of_row _ _ 12 _ _ S6.out;(simp at c612);have OWN6:=hid' own6;have HG6:=hid' hg6;have HAT6:=hid' hat6;clear own6 hg6 hat6)
       go_roundw
       case rel =>
        refine ⟨_,_,_,_,_,_,_,_,_,_,_,_,_,_,_,_,⟨k + 1,by omega,?_,.slice (some ⟨gg,0,none⟩) (k + 1) cap6,?_,hge,fun q e => ?_,?_⟩,rfl⟩
        ·go_num
        ·have o6:=OWN6.out
         have e:flatH (List.replicate k noHd) ++ [.bool false,.int .i64 0,.int .i64 0,.int .i64 0] = flatH (List.replicate (k + 1) noHd):=by
          rw [← rep_succ,flatH_append];rfl
         rw [e] at o6
         have ra:RSrv W1.heap.size (Sv.init mode win fresh s f k) (.slice none 0 0) (.slice none 0 0) (.slice none 0 0) (.slice ha k hcp) (wr.alloc (.cells #[.bool false,.int .i64 0,.int .i64 0,.int .i64 0] 160)):=R2.out.below ((Below.refl _ _).alloc (Nat.le_refl _) _)
         exact ra.putS (L:=List.replicate (k + 1) noHd) HG6.out (by rw [List.length_replicate];exact o6)
        ·obtain rfl:gg = q:=by simpa [Value.ownBlock] using e
         have:=B2.out.size
         rcases HAT6.out with h | h
         ·exact HVG.out _ h
         ·omega
        ·exact ((B2.out.alloc B2.out.size _).grown HG6.out (by have:=B2.out.size;simp;omega) HVG.out).setCell (p:=⟨W1.heap.size,12,none⟩) hge _
       case measure => simp [intOf];omega
      ·have ek:k = n:=by omega
       have z1:¬ (k:Int) < (n:Int):=by omega
       go_wp2
       go_ret2
       refine ⟨fun h => (by cases h),fun _ => ⟨W1.heap.size,rfl,?_⟩⟩
       first | rw [Int.toNat_natCast,← ek] | rw [← ek]
       exact ⟨_,R2.out,hge,HVG.out,B2.out⟩
end Go.Proofs.YtmmkhodaljpjgaaGreatDoor
