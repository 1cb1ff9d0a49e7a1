import Derived.Test.YtmmkhodaljpjgaaGreatDoorV24
import Derived.Test.YtmmkhodaljpjgaaGreatDoorV27
import Derived.Test.YtmmkhodaljpjgaaGreatDoorV25
set_option maxRecDepth 100000
set_option maxHeartbeats 6400000
namespace Go.Proofs.YtmmkhodaljpjgaaGreatDoor
open Go.RowKit
theorem clk_is (s f:Int) (w:World) :
  Calls Tryz.prog 173 #[.agg #[.int .i64 s,.int .i64 f]] w fun e w' => e = .returned (.bool (isT s f)) ∧ Below w.heap.size w w':=by
 have B0:=hid' ((Below.refl w.heap.size w).alloc (Nat.le_refl _) (.cells #[.int .i64 s,.int .i64 f] 98))
 have no:¬ (0 ≤ s ∧ s ≤ 34000000000 ∧ 0 ≤ f ∧ f < 4294967296) → isT s f = false:=fun h => decide_eq_false h
 have HNO:=hid' no
 clear no
 by_cases h1:0 ≤ s
 ·by_cases h2:s ≤ 34000000000
  ·by_cases h3:0 ≤ f
   ·by_cases h4:f < 4294967296
    ·have H:Hid (isT s f = true):=decide_eq_true ⟨h1,h2,h3,h4⟩
     go_enter Tryz.func173,Tryz.ntmps173
     go_wp2
     go_ret
     exact ⟨ret_bool H.out.symm,B0.out⟩
    ·have H:=hid' (HNO.out (fun h => h4 h.2.2.2))
     go_enter Tryz.func173,Tryz.ntmps173
     go_wp2
     go_ret
     exact ⟨ret_bool H.out.symm,B0.out⟩
   ·have H:=hid' (HNO.out (fun h => h3 h.2.2.1))
    go_enter Tryz.func173,Tryz.ntmps173
    go_wp2
    go_ret
    exact ⟨ret_bool H.out.symm,B0.out⟩
  ·have H:=hid' (HNO.out (fun h => h2 h.2.1))
   go_enter Tryz.func173,Tryz.ntmps173
   go_wp2
   go_ret
   exact ⟨ret_bool H.out.symm,B0.out⟩
 ·have H:=hid' (HNO.out (fun h => h1 h.1))
  go_enter Tryz.func173,Tryz.ntmps173
  go_wp2
  go_ret
  exact ⟨ret_bool H.out.symm,B0.out⟩
theorem clk_earlier (s f z g:Int) (w:World) :
  Calls Tryz.prog 196 #[.agg #[.int .i64 s,.int .i64 f],.agg #[.int .i64 z,.int .i64 g]] w fun e w' => e = .returned (.bool (tLater z g s f)) ∧ Below w.heap.size w w':=by
 have B0:=hid' (((Below.refl w.heap.size w).alloc (Nat.le_refl _) (.cells #[.int .i64 s,.int .i64 f] 98)).alloc (by simp) (.cells #[.int .i64 z,.int .i64 g] 98))
 by_cases h1:s = z
 ·subst h1
  have e1:(s != s) = false:=by simp
  by_cases h3:f < g
  ·have H:Hid (tLater s g s f = true):=decide_eq_true (.inr ⟨rfl,h3⟩)
   go_enter Tryz.func196,Tryz.ntmps196
   go_wp2
   go_ret
   exact ⟨ret_bool H.out.symm,B0.out⟩
  ·have H:Hid (tLater s g s f = false):=decide_eq_false (by omega)
   go_enter Tryz.func196,Tryz.ntmps196
   go_wp2
   go_ret
   exact ⟨ret_bool H.out.symm,B0.out⟩
 ·have e1:(s != z) = true:=bne_iff_ne.2 h1
  by_cases h3:s < z
  ·have H:Hid (tLater z g s f = true):=decide_eq_true (.inl h3)
   clear h1
   go_enter Tryz.func196,Tryz.ntmps196
   go_wp2
   go_ret
   exact ⟨ret_bool H.out.symm,B0.out⟩
  ·have H:Hid (tLater z g s f = false):=decide_eq_false (by omega)
   clear h1
   go_enter Tryz.func196,Tryz.ntmps196
   go_wp2
   go_ret
   exact ⟨ret_bool H.out.symm,B0.out⟩
theorem load_ptime {w:World} {g:Nat} {cs:Array Value} (hg:w.heap[g]? = some (.cells cs 98 (0,0))) (hs:cs.size = 2):(loadVar 98 ⟨g,0,none⟩).run Tryz.prog w = .ok (.agg cs) w :=
 run_loadVar_row (P:=Tryz.prog) w g 98 98 cs (0,0) _ hg Tryz.underlying98 rfl (by rw [hs];kernel_rfl)
def clkSum (s f z g:Int):(Int × Int) × Bool:=if isT z g = false then ((0,0),false) else if isT (tSum s f z g).1 (tSum s f z g).2 = false then ((0,0),false) else (tSum s f z g,true)
theorem three_rows (w:World) (a b c:Obj):Below w.heap.size w (((w.alloc a).alloc b).alloc c) ∧ (((w.alloc a).alloc b).alloc c).heap.size = w.heap.size + 3:=by
 refine ⟨(((Below.refl _ _).alloc (Nat.le_refl _) a).alloc (by simp) b).alloc (by simp;omega) c,by simp⟩
theorem clk_sum (s f z g:Int) (w:World) (ht:isT s f = true) :
  Calls Tryz.prog 147 #[.agg #[.int .i64 s,.int .i64 f],.agg #[.int .i64 z,.int .i64 g]] w fun e w' => e = .returned (.tuple #[.agg #[.int .i64 (clkSum s f z g).1.1,.int .i64 (clkSum s f z g).1.2],.bool (clkSum s f z g).2]) ∧ Below w.heap.size w w':=by
 have ISA:=hid' (fun W => clk_is s f W)
 rw [ht] at ISA
 have ISB:=hid' (fun W => clk_is z g W)
 have ISS:=hid' (fun W => clk_is (tSum s f z g).1 (tSum s f z g).2 W)
 have HCS:Hid (clkSum s f z g = if isT z g = false then ((0,0),false) else if isT (tSum s f z g).1 (tSum s f z g).2 = false then ((0,0),false) else (tSum s f z g,true)):=rfl
 obtain ⟨n0,n1,m0,m1⟩:=isT_bd ht
 have B0:=hid' (three_rows w (.cells #[.int .i64 s,.int .i64 f] 98) (.cells #[.int .i64 z,.int .i64 g] 98) (.cells #[.int .i64 0,.int .i64 0] 98))
 have RA:Hid ((((w.alloc (.cells #[.int .i64 s,.int .i64 f] 98)).alloc (.cells #[.int .i64 z,.int .i64 g] 98)).alloc (.cells #[.int .i64 0,.int .i64 0] 98)).heap[w.heap.size]? = some (.cells #[.int .i64 s,.int .i64 f] 98 (0,0))):=by
  show _ = _
  rw [Below.heap_alloc _ _ _ (by simp;omega)]
  exact heap_alloc2_old w _ _
 have RB:Hid ((((w.alloc (.cells #[.int .i64 s,.int .i64 f] 98)).alloc (.cells #[.int .i64 z,.int .i64 g] 98)).alloc (.cells #[.int .i64 0,.int .i64 0] 98)).heap[w.heap.size + 1]? = some (.cells #[.int .i64 z,.int .i64 g] 98 (0,0))):=by
  show _ = _
  rw [Below.heap_alloc _ _ _ (by simp)]
  exact heap_alloc2_new w _ _
 have RC:Hid ((((w.alloc (.cells #[.int .i64 s,.int .i64 f] 98)).alloc (.cells #[.int .i64 z,.int .i64 g] 98)).alloc (.cells #[.int .i64 0,.int .i64 0] 98)).heap[w.heap.size + 1 + 1]? = some (.cells #[.int .i64 0,.int .i64 0] 98 (0,0))):=by
  have:=heap_alloc_new ((w.alloc (.cells #[.int .i64 s,.int .i64 f] 98)).alloc (.cells #[.int .i64 z,.int .i64 g] 98)) (.cells #[.int .i64 0,.int .i64 0] 98)
  rw [show ((w.alloc (.cells #[.int .i64 s,.int .i64 f] 98)).alloc (.cells #[.int .i64 z,.int .i64 g] 98)).heap.size = w.heap.size + 1 + 1 from by simp] at this
  exact this
 clear ht
 go_enter Tryz.func147,Tryz.ntmps147
 go_upto_region 1 with fail
 generalize hV:((w.alloc (.cells #[.int .i64 s,.int .i64 f] 98)).alloc (.cells #[.int .i64 z,.int .i64 g] 98)).alloc (.cells #[.int .i64 0,.int .i64 0] 98) = V at *
 clear hV
 have a0:=cell_of_row _ _ 0 _ _ _ RA.out
 have a1:=cell_of_row _ _ 1 _ _ _ RA.out
 simp at a0 a1
 have sv:=B0.out.2
 go_wp2_with fail
 refine (ISA.out _).mono ?_
 rintro e w1 ⟨rfl,hb1⟩
 have B1:=hid' (B0.out.1.trans (hb1.mono (by omega)))
 have RB1:=hid' ((hb1.block _ (lt_of_heap RB.out)).trans RB.out)
 have RA1:=hid' ((hb1.block _ (lt_of_heap RA.out)).trans RA.out)
 have RC1:=hid' ((hb1.block _ (lt_of_heap RC.out)).trans RC.out)
 have b0:=cell_of_row _ _ 0 _ _ _ RB1.out
 have b1:=cell_of_row _ _ 1 _ _ _ RB1.out
 simp at b0 b1
 clear hb1 a0 a1 RA RB RC ISA
 go_wp2_with fail
 refine (ISB.out _).mono ?_
 rintro e w2 ⟨rfl,hb2⟩
 have B2:=hid' (B1.out.trans (hb2.mono B1.out.size))
 have RB2:=hid' ((hb2.block _ (lt_of_heap RB1.out)).trans RB1.out)
 have RA2:=hid' ((hb2.block _ (lt_of_heap RA1.out)).trans RA1.out)
 have RC2:=hid' ((hb2.block _ (lt_of_heap RC1.out)).trans RC1.out)
 have b0:=cell_of_row _ _ 0 _ _ _ RB2.out
 have b1:=cell_of_row _ _ 1 _ _ _ RB2.out
 have a0:=cell_of_row _ _ 0 _ _ _ RA2.out
 have a1:=cell_of_row _ _ 1 _ _ _ RA2.out
 have c0:=cell_of_row _ _ 0 _ _ _ RC2.out
 have c1:=cell_of_row _ _ 1 _ _ _ RC2.out
 have fc0:=frozen_of_row _ _ 0 _ _ RC2.out
 have fc1:=frozen_of_row _ _ 1 _ _ RC2.out
 have lc:=lt_of_heap RC2.out
 simp at b0 b1 a0 a1 c0 c1
 clear hb2 RA1 RB1 RC1 ISB
 cases hzt:isT z g with
 | false =>
  have H:Hid (clkSum s f z g = ((0,0),false)):=by show _ = _;rw [HCS.out,if_pos hzt]
  clear hzt
  go_wp2
  try simp only [Exit.inBlock,Exit.then]
  refine bodyPost_ret (results_row_tmp (p:=4) (u:=5) rfl _ _ (w.heap.size + 1 + 1) #[.int .i64 0,.int .i64 0] rfl (load_ptime (two_row RC2.out) rfl)) rfl ?_
  rw [H.out]
  exact ⟨rfl,(B2.out.setCell (p:=⟨w.heap.size + 1 + 1,0,none⟩) (by simp only;omega) _).setCell (p:=⟨w.heap.size + 1 + 1,1,none⟩) (by simp only;omega) _⟩
 | true =>
  obtain ⟨y0,y1,y2,y3⟩:=isT_bd hzt
  have HCS2:Hid (clkSum s f z g = if isT (tSum s f z g).1 (tSum s f z g).2 = false then ((0,0),false) else (tSum s f z g,true)):=by show _ = _;rw [HCS.out,if_neg (by rw [hzt];simp)]
  have HTS:Hid (tSum s f z g = (s + z + (f + g) / 4294967296,(f + g) % 4294967296)):=rfl
  clear hzt HCS
  have BN:=hid' ((Below.refl w2.heap.size w2).alloc (Nat.le_refl _) (.cells #[.int .i64 (s + z),.int .i64 (f + g)] 98))
  have RN:=hid' (heap_alloc_new w2 (.cells #[.int .i64 (s + z),.int .i64 (f + g)] 98))
  have ne:w2.heap.size ≠ w.heap.size + 1 + 1:=by omega
  have s2:=B2.out.size
  by_cases hc:4294967296 ≤ f + g
  ·have HTS2:Hid (tSum s f z g = (s + z + 1,f + g - 4294967296)):=by
    show _ = _
    rw [HTS.out]
    exact Prod.ext (by simp only;omega) (by simp only;omega)
   rw [HTS2.out] at ISS
   have BN2:=(Below.refl w2.heap.size w2).alloc (Nat.le_refl _) (.cells #[.int .i64 (s + z + 1),.int .i64 (f + g - 4294967296)] 98)
   have B3:=hid' (B2.out.trans (BN2.mono s2))
   have RD3:=hid' (heap_alloc_new w2 (.cells #[.int .i64 (s + z + 1),.int .i64 (f + g - 4294967296)] 98))
   have RC3:=hid' ((BN2.block _ lc).trans RC2.out)
   clear BN2
   go_wp2_with fail
   refine (ISS.out _).mono ?_
   rintro e w4 ⟨rfl,hb4⟩
   have RD4:=hid' ((hb4.block _ (lt_of_heap RD3.out)).trans RD3.out)
   have RC4:=hid' ((hb4.block _ (lt_of_heap RC3.out)).trans RC3.out)
   have B4:=hid' (B3.out.trans (hb4.mono B3.out.size))
   have d0:=cell_of_row _ _ 0 _ _ _ RD4.out
   have d1:=cell_of_row _ _ 1 _ _ _ RD4.out
   have c0:=cell_of_row _ _ 0 _ _ _ RC4.out
   have c1:=cell_of_row _ _ 1 _ _ _ RC4.out
   have fc0:=frozen_of_row _ _ 0 _ _ RC4.out
   have fc1:=frozen_of_row _ _ 1 _ _ RC4.out
   have lc:=lt_of_heap RC4.out
   simp at d0 d1 c0 c1
   clear hb4
   cases hst:isT (s + z + 1) (f + g - 4294967296) with
   | false =>
    have H:Hid (clkSum s f z g = ((0,0),false)):=by show _ = _;rw [HCS2.out,if_pos (by rw [HTS2.out];exact hst)]
    clear hst
    go_wp2
    try simp only [Exit.inBlock,Exit.then]
    refine bodyPost_ret (results_row_tmp (p:=4) (u:=5) rfl _ _ (w.heap.size + 1 + 1) #[.int .i64 0,.int .i64 0] rfl (load_ptime (two_row RC4.out) rfl)) rfl ?_
    rw [H.out]
    exact ⟨rfl,(B4.out.setCell (p:=⟨w.heap.size + 1 + 1,0,none⟩) (by simp only;omega) _).setCell (p:=⟨w.heap.size + 1 + 1,1,none⟩) (by simp only;omega) _⟩
   | true =>
    have H:Hid (clkSum s f z g = ((s + z + 1,f + g - 4294967296),true)):=by show _ = _;rw [HCS2.out,if_neg (by rw [HTS2.out];simp [hst]),HTS2.out]
    clear hst
    go_wp2
    try simp only [Exit.inBlock,Exit.then]
    refine bodyPost_ret (results_row_tmp (p:=4) (u:=5) rfl _ _ (w.heap.size + 1 + 1) #[.int .i64 (s + z + 1),.int .i64 (f + g - 4294967296)] rfl (load_ptime (two_row RC4.out) rfl)) rfl ?_
    rw [H.out]
    exact ⟨rfl,(B4.out.setCell (p:=⟨w.heap.size + 1 + 1,0,none⟩) (by simp only;omega) _).setCell (p:=⟨w.heap.size + 1 + 1,1,none⟩) (by simp only;omega) _⟩
  ·have HTS2:Hid (tSum s f z g = (s + z,f + g)):=by
    show _ = _
    rw [HTS.out]
    exact Prod.ext (by simp only;omega) (by simp only;omega)
   rw [HTS2.out] at ISS
   have B3:=hid' (B2.out.trans (BN.out.mono s2))
   have RD3:=hid' RN.out
   have RC3:=hid' ((BN.out.block _ lc).trans RC2.out)
   go_wp2_with fail
   refine (ISS.out _).mono ?_
   rintro e w4 ⟨rfl,hb4⟩
   have RD4:=hid' ((hb4.block _ (lt_of_heap RD3.out)).trans RD3.out)
   have RC4:=hid' ((hb4.block _ (lt_of_heap RC3.out)).trans RC3.out)
   have B4:=hid' (B3.out.trans (hb4.mono B3.out.size))
   have d0:=cell_of_row _ _ 0 _ _ _ RD4.out
   have d1:=cell_of_row _ _ 1 _ _ _ RD4.out
   have c0:=cell_of_row _ _ 0 _ _ _ RC4.out
   have c1:=cell_of_row _ _ 1 _ _ _ RC4.out
   have fc0:=frozen_of_row _ _ 0 _ _ RC4.out
   have fc1:=frozen_of_row _ _ 1 _ _ RC4.out
   have lc:=lt_of_heap RC4.out
   simp at d0 d1 c0 c1
   clear hb4
   cases hst:isT (s + z) (f + g) with
   | false =>
    have H:Hid (clkSum s f z g = ((0,0),false)):=by show _ = _;rw [HCS2.out,if_pos (by rw [HTS2.out];exact hst)]
    clear hst
    go_wp2
    try simp only [Exit.inBlock,Exit.then]
    refine bodyPost_ret (results_row_tmp (p:=4) (u:=5) rfl _ _ (w.heap.size + 1 + 1) #[.int .i64 0,.int .i64 0] rfl (load_ptime (two_row RC4.out) rfl)) rfl ?_
    rw [H.out]
    exact ⟨rfl,(B4.out.setCell (p:=⟨w.heap.size + 1 + 1,0,none⟩) (by simp only;omega) _).setCell (p:=⟨w.heap.size + 1 + 1,1,none⟩) (by simp only;omega) _⟩
   | true =>
    have H:Hid (clkSum s f z g = ((s + z,f + g),true)):=by show _ = _;rw [HCS2.out,if_neg (by rw [HTS2.out];simp [hst]),HTS2.out]
    clear hst
    go_wp2
    try simp only [Exit.inBlock,Exit.then]
    refine bodyPost_ret (results_row_tmp (p:=4) (u:=5) rfl _ _ (w.heap.size + 1 + 1) #[.int .i64 (s + z),.int .i64 (f + g)] rfl (load_ptime (two_row RC4.out) rfl)) rfl ?_
    rw [H.out]
    exact ⟨rfl,(B4.out.setCell (p:=⟨w.heap.size + 1 + 1,0,none⟩) (by simp only;omega) _).setCell (p:=⟨w.heap.size + 1 + 1,1,none⟩) (by simp only;omega) _⟩
theorem TurnP.from {P:Nat → Sv → (Nat → Prop) → World → Prop} {bc bx by' br n:Nat} {m:Int} {s':Sv} {A:Nat → Prop} {w V w':World} (h:TurnP P bc bx by' br n m s' A V w') (hb:Below w.heap.size w V):TurnP P bc bx by' br n m s' A w w':=by
 obtain ⟨hv,hs,Fx,Fy,Fr,Fv,c,l,o,f⟩:=h
 have sz:=hb.size
 refine ⟨hv,hs,Fx,Fy,Fr,Fv,c,l,(Off.of_below hb).trans o (fun k _ e => e),fun k e => ?_⟩
 rcases f k e with q | q
 ·exact .inl q
 ·exact .inr (by omega)
theorem does_adv {P:Nat → Sv → (Nat → Prop) → World → Prop} (hP:PLaw P) (bc bx by' br:Nat) (hv:Value) (m:Int) (hs:List Vw) (s s':Sv) (Fx Fy Fr Fv:Nat → Prop) (x a b c d ev:Int) (so t:ByteArray) (w:World)
  (h:CS P bc bx by' br hv m hs s s s Fx Fy Fr Fv w) (hx:PDoes P 62 (fun q => #[.pointer (some ⟨q,0,none⟩),.agg #[.int .i64 a,.int .i64 b]]) s s' ev (fun _ => True))
  (hrf:∀ dv bv cv rh W,RSrv br s dv bv cv rh W → Calls Tryz.prog 63 #[.pointer (some ⟨br,0,none⟩),.agg #[.int .i64 a,.int .i64 b]] W fun e w' => e = .returned (.int .i64 ev) ∧ RPost br (rFoot br dv bv cv rh) W s' w')
  (hsee:∀ F W,P bx s' F W → Shows bx s' W) (l1:s'.done.length ≤ 900) (l2:s'.com.length ≤ 900) (l3:hs.length ≤ 900000) (m0:0 ≤ m) (m1:m ≤ 10000000000) :
  Calls Tryz.prog 20 #[.pointer (some ⟨bc,0,none⟩),.agg #[.int .i64 17,.int .i64 x,.int .i64 a,.int .i64 b,.int .i64 c,.int .i64 d,.string so],.string t] w fun e w' => e = .returned (.bool true) ∧ TurnP P bc bx by' br hs.length m s' (AllF Fx Fy Fr Fv) w w':=by
 have B0:=hid' ((Below.refl w.heap.size w).alloc (Nat.le_refl _) (.cells #[.int .i64 17,.int .i64 x,.int .i64 a,.int .i64 b,.int .i64 c,.int .i64 d,.string so] 27))
 have T:=hid' (turns_adv hP bc bx by' br hv m hs s s' Fx Fy Fr Fv x a b c d ev so t _ (h.below hP B0.out) hx hrf hsee l1 l2 l3 m0 m1)
 clear h hx hrf hsee
 go_enter Tryz.func20,Tryz.ntmps20
 go_wp2_with fail
 refine T.out.mono ?_
 rintro e w1 ⟨rfl,p1⟩
 have P1:=hid' p1
 clear p1 T
 go_wp2
 go_ret
 exact ⟨rfl,P1.out.from B0.out⟩
structure Rc where
 bc:Nat
 bx:Nat
 by':Nat
 br:Nat
 hv:Value
 hs:List Vw
 s:Sv
 Fx:Nat → Prop
 Fy:Nat → Prop
 Fr:Nat → Prop
 Fv:Nat → Prop
def Rc.F (r:Rc) (k:Nat):Prop:=AllF r.Fx r.Fy r.Fr r.Fv k
def Rc.ptr (r:Rc):Value:=.pointer (some ⟨r.bc,0,none⟩)
structure Rc.Ok (P:Nat → Sv → (Nat → Prop) → World → Prop) (n:Nat) (r:Rc) (w:World):Prop where
 cs:CS P r.bc r.bx r.by' r.br r.hv (1000 * (r.hs.length:Int)) r.hs r.s r.s r.s r.Fx r.Fy r.Fr r.Fv w
 hn:r.hs.length ≤ 2 * n + 2
 inv:r.s.Inv
 rf:r.s.ref ≤ (n:Int)
theorem CS.keep {P:Nat → Sv → (Nat → Prop) → World → Prop} {bc bx by' br:Nat} {hv:Value} {m:Int} {hs:List Vw} {sx sy sr:Sv} {Fx Fy Fr Fv:Nat → Prop} {w w':World} (hP:PLaw P) (h:CS P bc bx by' br hv m hs sx sy sr Fx Fy Fr Fv w) (hk:∀ k,AllF Fx Fy Fr Fv k → w'.heap[k]? = w.heap[k]?):CS P bc bx by' br hv m hs sx sy sr Fx Fy Fr Fv w':=by
 obtain ⟨c1,c2,c3⟩:=h.own (fun k e => hk k (.inr (.inr (.inr e))))
 obtain ⟨dv,bv,cv,rh,r,e⟩:=h.r
 exact ⟨c1,c2,c3,hP.keep h.x (fun k e => hk k (.inl e)),hP.keep h.y (fun k e => hk k (.inr (.inl e))),⟨dv,bv,cv,rh,r.keep (fun k q => hk k (.inr (.inr (.inl ((e k).1 q))))),e⟩,h.fv,h.xy,h.xr,h.xv,h.yr,h.yv,h.rv⟩
theorem CS.typ {P:Nat → Sv → (Nat → Prop) → World → Prop} {bc bx by' br:Nat} {hv:Value} {m:Int} {hs:List Vw} {sx sy sr:Sv} {Fx Fy Fr Fv:Nat → Prop} {w:World} (hP:PLaw P) (h:CS P bc bx by' br hv m hs sx sy sr Fx Fy Fr Fv w) (k:Nat) (hk:AllF Fx Fy Fr Fv k):∃ cs e fr,w.heap[k]? = some (.cells cs e fr) ∧ 38 ≠ e ∧ 9 ≠ e:=by
 rcases hk with e | e | e | e
 ·exact hP.low h.x k e
 ·exact hP.low h.y k e
 ·obtain ⟨dv,bv,cv,rh,r,q⟩:=h.r
  exact r.typ ((q k).2 e)
 ·rcases (h.fv k).1 e with rfl | e | ⟨v,hv,e⟩
  ·exact ⟨_,_,_,h.c,by decide,by decide⟩
  ·obtain ⟨cs,fr,hh⟩:=own_typ h.hh e;exact ⟨_,_,_,hh,by decide,by decide⟩
  ·rcases (h.ok v hv).typ e with ⟨cs,fr,hh⟩ | ⟨cs,fr,hh⟩
   ·exact ⟨_,_,_,hh,by decide,by decide⟩
   ·exact ⟨_,_,_,hh,by decide,by decide⟩
theorem Rc.Ok.keep {P:Nat → Sv → (Nat → Prop) → World → Prop} {n:Nat} {r:Rc} {w w':World} (hP:PLaw P) (h:r.Ok P n w) (hk:∀ k,r.F k → w'.heap[k]? = w.heap[k]?):r.Ok P n w':=⟨h.cs.keep hP hk,h.hn,h.inv,h.rf⟩
theorem Rc.Ok.up {P:Nat → Sv → (Nat → Prop) → World → Prop} {n m:Nat} {r:Rc} {w:World} (h:r.Ok P n w) (hm:n ≤ m):r.Ok P m w:=⟨h.cs,by have:=h.hn;omega,h.inv,by have:=h.rf;omega⟩
theorem Rc.Ok.low {P:Nat → Sv → (Nat → Prop) → World → Prop} {n:Nat} {r:Rc} {w:World} (hP:PLaw P) (h:r.Ok P n w) (k:Nat) (hk:r.F k):k < w.heap.size:=by
 obtain ⟨_,_,_,hh,_⟩:=h.cs.typ hP k hk
 exact lt_of_heap hh
structure Many (P:Nat → Sv → (Nat → Prop) → World → Prop) (B n:Nat) (F:Nat → Prop) (v:Value) (L:List Rc) (w:World):Prop where
 own:w.ownsRow B 40 1 v L.length (L.map Rc.ptr)
 len:L.length ≤ n
 ok:∀ i (h:i < L.length),L[i].Ok P n w
 ap:∀ i j (hi:i < L.length) (hj:j < L.length),i ≠ j → Apart L[i].F L[j].F
 vo:∀ i (h:i < L.length) k,L[i].F k → v.ownBlock ≠ some k
 all:∀ k,F k ↔ v.ownBlock = some k ∨ ∃ i,∃ h:i < L.length,L[i].F k
 lo:∀ k,F k → B ≤ k
theorem Many.up {P:Nat → Sv → (Nat → Prop) → World → Prop} {B n m:Nat} {F:Nat → Prop} {v:Value} {L:List Rc} {w:World} (h:Many P B n F v L w) (hm:n ≤ m):Many P B m F v L w :=
 ⟨h.own,by have:=h.len;omega,fun i hi => (h.ok i hi).up hm,h.ap,h.vo,h.all,h.lo⟩
theorem Many.keep {P:Nat → Sv → (Nat → Prop) → World → Prop} {B n:Nat} {F:Nat → Prop} {v:Value} {L:List Rc} {w w':World} (hP:PLaw P) (h:Many P B n F v L w) (hk:∀ k,F k → w'.heap[k]? = w.heap[k]?):Many P B n F v L w' :=
 ⟨own_same h.own (fun k e => hk k ((h.all k).2 (.inl e))),h.len,fun i hi => (h.ok i hi).keep hP (fun k e => hk k ((h.all k).2 (.inr ⟨i,hi,e⟩))),h.ap,h.vo,h.all,h.lo⟩
theorem Many.typ {P:Nat → Sv → (Nat → Prop) → World → Prop} {B n:Nat} {F:Nat → Prop} {v:Value} {L:List Rc} {w:World} (hP:PLaw P) (h:Many P B n F v L w) (k:Nat) (hk:F k):∃ cs e fr,w.heap[k]? = some (.cells cs e fr) ∧ 38 ≠ e ∧ 9 ≠ e:=by
 rcases (h.all k).1 hk with e | ⟨i,hi,e⟩
 ·obtain ⟨cs,fr,hh⟩:=own_typ h.own e;exact ⟨_,_,_,hh,by decide,by decide⟩
 ·exact (h.ok i hi).cs.typ hP k e
def srvXs (P:Nat → Sv → (Nat → Prop) → World → Prop) (hP:PLaw P) (B:Nat):Xs where
 P n F v w:=∃ L,Many P B n F v L w
 up:=fun ⟨L,h⟩ hm => ⟨L,h.up hm⟩
 keep:=fun ⟨L,h⟩ hk => ⟨L,h.keep hP hk⟩
 typ:=fun ⟨_,h⟩ k hk => h.typ hP k hk
theorem many_none {P:Nat → Sv → (Nat → Prop) → World → Prop} {B:Nat} {w:World}:Many P B 0 (fun _ => False) (.slice none 0 0) [] w :=
 ⟨World.ownsRow_nil _ _ _ _,by simp,fun i h => by simp at h,fun i j h => by simp at h,fun i h => by simp at h,fun k => ⟨fun h => h.elim,fun h => by
  rcases h with h | ⟨i,h,_⟩
  ·simp [Value.ownBlock] at h
  ·simp at h⟩,fun k h => h.elim⟩
def RcPost (P:Nat → Sv → (Nat → Prop) → World → Prop) (n:Nat) (r:Rc) (w w':World):Prop:=∃ r',Rc.Ok P n r' w' ∧ r'.bc = r.bc ∧ Off r.F w w' ∧ ∀ k,r'.F k → r.F k ∨ w.heap.size ≤ k
theorem RcPost.from {P:Nat → Sv → (Nat → Prop) → World → Prop} {n:Nat} {r:Rc} {w V w':World} (h:RcPost P n r V w') (hb:Below w.heap.size w V):RcPost P n r w w':=by
 obtain ⟨r',a,b,c,d⟩:=h
 have sz:=hb.size
 refine ⟨r',a,b,(Off.of_below hb).trans c (fun k _ e => e),fun k e => ?_⟩
 rcases d k e with q | q
 ·exact .inl q
 ·exact .inr (by omega)
theorem RcPost.of_below {P:Nat → Sv → (Nat → Prop) → World → Prop} {n m:Nat} {r:Rc} {w w':World} (hP:PLaw P) (h:r.Ok P n w) (hb:Below w.heap.size w w') (hm:n ≤ m):RcPost P m r w w' :=
 ⟨r,(h.keep hP (fun k e => hb.block k (h.low hP k e))).up hm,rfl,Off.of_below hb,fun _ e => .inl e⟩
theorem Many.turn {P:Nat → Sv → (Nat → Prop) → World → Prop} {B n m:Nat} {F:Nat → Prop} {v:Value} {L:List Rc} {w w':World} (hP:PLaw P) (h:Many P B n F v L w) (i:Nat) (hi:i < L.length) (hp:RcPost P m L[i] w w') (hm:n ≤ m) (hB:B ≤ w.heap.size) :
  ∃ F' L',Many P B m F' v L' w' ∧ ∀ k,F' k → F k ∨ w.heap.size ≤ k:=by
 obtain ⟨r',ok',bc',off,ff⟩:=hp
 have sz:=off.size
 have hlen:(L.set i r').length = L.length:=List.length_set
 have at1:∀ j (hj:j < (L.set i r').length),j ≠ i → (L.set i r')[j] = L[j]'(by omega):=fun j hj e => by
  rw [List.getElem_set_ne (by omega)]
 have at2:∀ (hj:i < (L.set i r').length),(L.set i r')[i] = r':=fun hj => by simp
 have vlo:∀ k,v.ownBlock = some k → k < w.heap.size:=fun k e => by obtain ⟨_,_,hh⟩:=own_typ h.own e;exact lt_of_heap hh
 have key:∀ k,(v.ownBlock = some k ∨ ∃ j,∃ hj:j < (L.set i r').length,(L.set i r')[j].F k) → F k ∨ w.heap.size ≤ k:=fun k e => by
  rcases e with e | ⟨j,hj,e⟩
  ·exact .inl ((h.all k).2 (.inl e))
  ·by_cases c:j = i
   ·subst c
    rw [at2] at e
    rcases ff k e with q | q
    ·exact .inl ((h.all k).2 (.inr ⟨j,hi,q⟩))
    ·exact .inr q
   ·rw [at1 j hj c] at e
    exact .inl ((h.all k).2 (.inr ⟨j,by omega,e⟩))
 refine ⟨fun k => v.ownBlock = some k ∨ ∃ j,∃ hj:j < (L.set i r').length,(L.set i r')[j].F k,L.set i r',⟨?_,by rw [hlen];have:=h.len;omega,fun j hj => ?_,fun j l hj hl e => ?_,fun j hj k e => ?_,fun k => Iff.rfl,fun k e => ?_⟩,key⟩
 ·have e1:(L.set i r').map Rc.ptr = L.map Rc.ptr:=by
   rw [List.map_set]
   have:r'.ptr = (L.map Rc.ptr)[i]'(by simpa using hi):=by simp [Rc.ptr,bc']
   rw [this,List.set_getElem_self]
  rw [e1,hlen]
  exact off.own h.own (fun k e q => h.vo i hi k q e)
 ·by_cases c:j = i
  ·subst c;rw [at2];exact ok'
  ·rw [at1 j hj c]
   refine ((h.ok j (by omega)).keep hP (fun k e => off.block k ((h.ok j (by omega)).low hP k e) (fun q => h.ap j i (by omega) hi c k e q))).up hm
 ·by_cases c:j = i
  ·subst c
   by_cases d:l = j
   ·exact absurd d.symm e
   ·rw [at2,at1 l hl d]
    intro k a b
    rcases ff k a with q | q
    ·exact h.ap j l hi (by omega) e k q b
    ·have:=(h.ok l (by omega)).low hP k b;omega
  ·rw [at1 j hj c]
   by_cases d:l = i
   ·subst d
    rw [at2]
    intro k a b
    rcases ff k b with q | q
    ·exact h.ap j l (by omega) hi c k a q
    ·have:=(h.ok j (by omega)).low hP k a;omega
   ·rw [at1 l hl d];exact h.ap j l (by omega) (by omega) e
 ·by_cases c:j = i
  ·subst c
   rw [at2] at e
   intro q
   rcases ff k e with a | a
   ·exact h.vo j hi k a q
   ·have:=vlo k q;omega
  ·rw [at1 j hj c] at e
   exact h.vo j (by omega) k e
 ·rcases key k e with q | q
  ·exact h.lo k q
  ·omega
theorem Many.add {P:Nat → Sv → (Nat → Prop) → World → Prop} {B n m:Nat} {F:Nat → Prop} {v v':Value} {L:List Rc} {r:Rc} {w w1 w':World} (hP:PLaw P) (h:Many P B n F v L w) (hb:Below w.heap.size w w1) (hr:r.Ok P m w1) (hf:∀ k,r.F k → w.heap.size ≤ k) (hg:w1.grownBy w' v.ownBlock) (ho:w'.ownsRow B 40 1 v' (L.length + 1) (L.map Rc.ptr ++ [r.ptr])) (hv:∀ k,v'.ownBlock = some k → v.ownBlock = some k ∨ w1.heap.size ≤ k) (hm:n < m) (hB:B ≤ w.heap.size) :
  ∃ F' L',Many P B m F' v' L' w' ∧ ∀ k,F' k → F k ∨ w.heap.size ≤ k:=by
 have sz:=hb.size
 have sz2:=hg.size
 have vlo:∀ k,v.ownBlock = some k → k < w.heap.size:=fun k e => by obtain ⟨_,_,hh⟩:=own_typ h.own e;exact lt_of_heap hh
 have hlen:(L ++ [r]).length = L.length + 1:=by simp
 have at1:∀ j (hj:j < (L ++ [r]).length) (q:j < L.length),(L ++ [r])[j] = L[j]:=fun j hj q => List.getElem_append_left q
 have at2:∀ j (hj:j < (L ++ [r]).length),¬ j < L.length → (L ++ [r])[j] = r:=fun j hj q => by
  have:j = L.length:=by omega
  subst this;simp
 have key:∀ k,(v'.ownBlock = some k ∨ ∃ j,∃ hj:j < (L ++ [r]).length,(L ++ [r])[j].F k) → F k ∨ w.heap.size ≤ k:=fun k e => by
  rcases e with e | ⟨j,hj,e⟩
  ·rcases hv k e with q | q
   ·exact .inl ((h.all k).2 (.inl q))
   ·exact .inr (by omega)
  ·by_cases c:j < L.length
   ·rw [at1 j hj c] at e
    exact .inl ((h.all k).2 (.inr ⟨j,c,e⟩))
   ·rw [at2 j hj c] at e
    exact .inr (hf k e)
 refine ⟨fun k => v'.ownBlock = some k ∨ ∃ j,∃ hj:j < (L ++ [r]).length,(L ++ [r])[j].F k,L ++ [r],⟨?_,by rw [hlen];have:=h.len;omega,fun j hj => ?_,fun j l hj hl e => ?_,fun j hj k e => ?_,fun k => Iff.rfl,fun k e => ?_⟩,key⟩
 ·rw [List.map_append,hlen];exact ho
 ·by_cases c:j < L.length
  ·rw [at1 j hj c]
   refine ((h.ok j c).keep hP (fun k e => ?_)).up (by omega)
   have lk:=(h.ok j c).low hP k e
   exact (hg.block k (by omega) (fun q => h.vo j c k e q.symm)).trans (hb.block k lk)
  ·rw [at2 j hj c]
   refine hr.keep hP (fun k e => ?_)
   have lk:=hr.low hP k e
   have:=hf k e
   exact hg.block k lk (fun q => by have:=vlo k q.symm;omega)
 ·by_cases c:j < L.length
  ·rw [at1 j hj c]
   by_cases d:l < L.length
   ·rw [at1 l hl d];exact h.ap j l c d e
   ·rw [at2 l hl d]
    intro k a b
    have:=hf k b
    have:=(h.ok j c).low hP k a
    omega
  ·rw [at2 j hj c]
   by_cases d:l < L.length
   ·rw [at1 l hl d]
    intro k a b
    have:=hf k a
    have:=(h.ok l d).low hP k b
    omega
   ·omega
 ·intro q
  by_cases c:j < L.length
  ·rw [at1 j hj c] at e
   rcases hv k q with a | a
   ·exact h.vo j c k e a
   ·have:=(h.ok j c).low hP k e;omega
  ·rw [at2 j hj c] at e
   have:=hf k e
   rcases hv k q with a | a
   ·have:=vlo k a;omega
   ·have:=hr.low hP k e;omega
 ·rcases key k e with q | q
  ·exact h.lo k q
  ·omega
theorem TurnP.post {P:Nat → Sv → (Nat → Prop) → World → Prop} {n:Nat} {r:Rc} {s':Sv} {w w':World} (h:TurnP P r.bc r.bx r.by' r.br r.hs.length (1000 * (r.hs.length:Int)) s' r.F w w') (hi:s'.Inv) (hr:s'.ref ≤ (n + 1:Nat)) (hn:r.hs.length ≤ 2 * n + 2):RcPost P (n + 1) r w w':=by
 obtain ⟨hv,hs,Fx,Fy,Fr,Fv,c,l,o,f⟩:=h
 refine ⟨⟨r.bc,r.bx,r.by',r.br,hv,hs,s',Fx,Fy,Fr,Fv⟩,⟨?_,by show hs.length ≤ _;omega,hi,hr⟩,rfl,o,f⟩
 have e:1000 * (r.hs.length:Int) + 2000 = 1000 * (hs.length:Int):=by rw [l];omega
 rw [e] at c
 exact c
def Read (w:World) (ao:Option Addr) (ls:List (Int × Int)):Prop:=0 < ls.length → ∃ g,ao = some ⟨g,0,none⟩ ∧ g < w.heap.size ∧ Lies w g ls
theorem Read.below {w w':World} {ao:Option Addr} {ls:List (Int × Int)} (h:Read w ao ls) (hb:Below w.heap.size w w'):Read w' ao ls:=fun hp => by
 obtain ⟨g,e,lg,hl⟩:=h hp
 exact ⟨g,e,by have:=hb.size;omega,hl.below lg hb⟩
theorem read_of {w:World} {B e n cap:Nat} {ao:Option Addr} {ls:List (Int × Int)} (h:w.ownsRow B e 2 (.slice ao n cap) n (flat ls)) (hl:ls.length = n):Read w ao ls:=fun hp => by
 obtain ⟨g,cap',hg⟩:=own_some h (by omega)
 obtain ⟨rfl,_,rfl⟩:=Value.slice.inj hg
 exact ⟨g,rfl,(h.lt _ rfl).2,lies_of h hl⟩
theorem copy_of (ao:Option Addr) (n cap:Nat) (ls:List (Int × Int)) (w:World) (hr:Read w ao ls) (hl:ls.length = n) (hn:n ≤ 1000) :
  Calls Tryz.prog 146 #[.slice ao n cap] w fun e w' => ∃ v,e = .returned v ∧ w'.ownsRow w.heap.size 84 2 v n (flat ls) ∧ Below w.heap.size w w':=by
 obtain ⟨i0,hi0,hz0,hz1,hz2⟩:=info_parts infoALeap
 have HR:=hid' hr
 clear hr
 go_enter Tryz.func146,Tryz.ntmps146
 go_wp2
 go_loopw [3,4] (fun v i wr => ∃ k:Nat,k ≤ n ∧ i = .int .i64 k ∧ wr.ownsRow w.heap.size 84 2 v k (flat (ls.take k)) ∧ Below w.heap.size w wr) (fun _ i _ => n - (intOf i).toNat)
 case atStart => exact ⟨0,by omega,rfl,World.ownsRow_nil _ _ _ _,Below.refl _ _⟩
 case round =>
  obtain ⟨k,hk,rfl,own,hb⟩:=hrel
  have OWN:=hid' own
  have HB:=hid' hb
  have hsz:=hb.size
  by_cases hlt:k < n
  ·obtain ⟨g,rfl,lg,hlies⟩:=HR.out (by omega)
   have a0:=(hb.cell (p:=⟨g,k * 2,none⟩) lg).trans (hlies k (by omega)).1
   have a1:=(hb.cell (p:=⟨g,k * 2 + 1,none⟩) lg).trans (hlies k (by omega)).2
   have htk:ls.take (k + 1) = ls.take k ++ [ls[k]'(by omega)]:=List.take_succ_eq_append_getElem (by omega)
   have HTK:=hid' htk
   generalize ls[k]'(by omega) = p at *
   obtain ⟨pa,po⟩:=p
   simp only at a0 a1
   have hli:(k:Int) < (n:Int):=by omega
   obtain ⟨va,vcp,hv⟩:=own_slice own
   subst hv
   clear own hb htk hlies
   go_wp2_with (at_builtin;refine wpList_append_lies _ (by rfl) (.tmp 11) (.tmp 16) 76 (by rfl) w.heap.size 84 i0 (.agg #[.int .i64 0,.int .i64 0]) 2 16 Tryz.underlying76 hi0 hz0 hz1 hz2 rfl (by decide) (.slice va k vcp) k (flat (ls.take k)) (by rfl) (OWN.out.alloc _) ⟨wr.heap.size,0,none⟩ 1 1 [.int .i64 pa,.int .i64 po] (by rfl) (by rfl) (World.news_of_block (cs:=#[.int .i64 pa,.int .i64 po]) (t:=84) (fr:=(0,0)) (heap_alloc_new wr _)) (by simp [Value.oneCell']) (by decide) (by unfold maxLen;omega) (by omega) (by simp <;> omega) (wr.heap.size + 1) (by simp) ?_;intro g3 cap3 w3 own3 hg3 hat3 hlt3;have OWN3:=hid' own3;have HG3:=hid' hg3;clear own3 hg3 hat3)
   go_roundw
   case rel =>
    refine ⟨k + 1,by omega,by go_num,by rw [HTK.out,flat_append];exact OWN3.out,?_⟩
    exact (HB.out.alloc hsz _).grown HG3.out (by simp;omega) (own_ge OWN.out)
   case measure => simp [intOf];omega
  ·have hnl:¬ (k:Int) < (n:Int):=by omega
   obtain rfl:k = n:=by omega
   clear own hb
   go_wp2
   go_ret
   refine ⟨_,rfl,?_,HB.out⟩
   have:=OWN.out
   rw [List.take_of_length_le (by omega)] at this
   exact this
def pCells (s:Sv) (dv cv:Value) (op:Bool) (bs bf:Int):Array Value:=#[.int .i64 s.mode,.int .i64 s.win,.int .i64 s.said.length,.int .i64 s.fresh,.int .i64 s.ns,.int .i64 s.nf,.bool s.ld,.int .i64 s.up,.int .i64 s.ex,dv,cv,.int .i64 s.ref,
 .bool (s.hd 0).said,.int .i64 (s.hd 0).leap,.int .i64 (s.hd 0).ws,.int .i64 (s.hd 0).wf,.bool (s.hd 1).said,.int .i64 (s.hd 1).leap,.int .i64 (s.hd 1).ws,.int .i64 (s.hd 1).wf,
 .bool (s.hd 2).said,.int .i64 (s.hd 2).leap,.int .i64 (s.hd 2).ws,.int .i64 (s.hd 2).wf,.bool (s.hd 3).said,.int .i64 (s.hd 3).leap,.int .i64 (s.hd 3).ws,.int .i64 (s.hd 3).wf,
 .bool (s.hd 4).said,.int .i64 (s.hd 4).leap,.int .i64 (s.hd 4).ws,.int .i64 (s.hd 4).wf,.bool (s.hd 5).said,.int .i64 (s.hd 5).leap,.int .i64 (s.hd 5).ws,.int .i64 (s.hd 5).wf,
 .bool (s.hd 6).said,.int .i64 (s.hd 6).leap,.int .i64 (s.hd 6).ws,.int .i64 (s.hd 6).wf,.bool (s.hd 7).said,.int .i64 (s.hd 7).leap,.int .i64 (s.hd 7).ws,.int .i64 (s.hd 7).wf,
 .bool op,.int .i64 bs,.int .i64 bf]
structure PRow (b:Nat) (s:Sv) (dv cv:Value) (op:Bool) (bs bf:Int) (w:World):Prop where
 row:w.heap[b]? = some (.cells (pCells s dv cv op bs bf) 157 (0,0))
 dd:w.ownsRow 0 84 2 dv s.done.length (flat s.done)
 cc:w.ownsRow 0 121 5 cv s.com.length (flatC s.com)
 sl:s.said.length ≤ 8
def pFoot (b:Nat) (dv cv:Value) (k:Nat):Prop:=k = b ∨ dv.ownBlock = some k ∨ cv.ownBlock = some k
theorem PRow.keep {b:Nat} {s:Sv} {dv cv:Value} {op:Bool} {bs bf:Int} {w w':World} (h:PRow b s dv cv op bs bf w) (hk:∀ k,pFoot b dv cv k → w'.heap[k]? = w.heap[k]?):PRow b s dv cv op bs bf w' :=
 ⟨(hk b (.inl rfl)).trans h.row,own_same h.dd (fun k e => hk k (.inr (.inl e))),own_same h.cc (fun k e => hk k (.inr (.inr e))),h.sl⟩
theorem PRow.typ {b:Nat} {s:Sv} {dv cv:Value} {op:Bool} {bs bf:Int} {w:World} (h:PRow b s dv cv op bs bf w) {k:Nat} (hk:pFoot b dv cv k):∃ cs e fr,w.heap[k]? = some (.cells cs e fr) ∧ (e = 157 ∨ e = 84 ∨ e = 121):=by
 rcases hk with rfl | e | e
 ·exact ⟨_,_,_,h.row,.inl rfl⟩
 ·obtain ⟨cs,fr,hh⟩:=own_typ h.dd e;exact ⟨_,_,_,hh,.inr (.inl rfl)⟩
 ·obtain ⟨cs,fr,hh⟩:=own_typ h.cc e;exact ⟨_,_,_,hh,.inr (.inr rfl)⟩
theorem PRow.below {b:Nat} {s:Sv} {dv cv:Value} {op:Bool} {bs bf:Int} {w w':World} (h:PRow b s dv cv op bs bf w) (hb:Below w.heap.size w w'):PRow b s dv cv op bs bf w' :=
 h.keep fun k hk => by obtain ⟨cs,e,fr,hh,_⟩:=h.typ hk;exact hb.block k (lt_of_heap hh)
theorem PRow.c0 {b:Nat} {s:Sv} {dv cv:Value} {op:Bool} {bs bf:Int} {w:World} (h:PRow b s dv cv op bs bf w):w.cell? ⟨b,0,none⟩ = some (.int .i64 s.mode):=cell_of_row _ _ _ _ _ _ h.row
theorem PRow.c1 {b:Nat} {s:Sv} {dv cv:Value} {op:Bool} {bs bf:Int} {w:World} (h:PRow b s dv cv op bs bf w):w.cell? ⟨b,1,none⟩ = some (.int .i64 s.win):=cell_of_row _ _ _ _ _ _ h.row
theorem PRow.c2 {b:Nat} {s:Sv} {dv cv:Value} {op:Bool} {bs bf:Int} {w:World} (h:PRow b s dv cv op bs bf w):w.cell? ⟨b,2,none⟩ = some (.int .i64 s.said.length):=cell_of_row _ _ _ _ _ _ h.row
theorem PRow.c3 {b:Nat} {s:Sv} {dv cv:Value} {op:Bool} {bs bf:Int} {w:World} (h:PRow b s dv cv op bs bf w):w.cell? ⟨b,3,none⟩ = some (.int .i64 s.fresh):=cell_of_row _ _ _ _ _ _ h.row
theorem PRow.c4 {b:Nat} {s:Sv} {dv cv:Value} {op:Bool} {bs bf:Int} {w:World} (h:PRow b s dv cv op bs bf w):w.cell? ⟨b,4,none⟩ = some (.int .i64 s.ns):=cell_of_row _ _ _ _ _ _ h.row
theorem PRow.c5 {b:Nat} {s:Sv} {dv cv:Value} {op:Bool} {bs bf:Int} {w:World} (h:PRow b s dv cv op bs bf w):w.cell? ⟨b,5,none⟩ = some (.int .i64 s.nf):=cell_of_row _ _ _ _ _ _ h.row
theorem PRow.c6 {b:Nat} {s:Sv} {dv cv:Value} {op:Bool} {bs bf:Int} {w:World} (h:PRow b s dv cv op bs bf w):w.cell? ⟨b,6,none⟩ = some (.bool s.ld):=cell_of_row _ _ _ _ _ _ h.row
theorem PRow.c7 {b:Nat} {s:Sv} {dv cv:Value} {op:Bool} {bs bf:Int} {w:World} (h:PRow b s dv cv op bs bf w):w.cell? ⟨b,7,none⟩ = some (.int .i64 s.up):=cell_of_row _ _ _ _ _ _ h.row
theorem PRow.c8 {b:Nat} {s:Sv} {dv cv:Value} {op:Bool} {bs bf:Int} {w:World} (h:PRow b s dv cv op bs bf w):w.cell? ⟨b,8,none⟩ = some (.int .i64 s.ex):=cell_of_row _ _ _ _ _ _ h.row
theorem PRow.c9 {b:Nat} {s:Sv} {dv cv:Value} {op:Bool} {bs bf:Int} {w:World} (h:PRow b s dv cv op bs bf w):w.cell? ⟨b,9,none⟩ = some (dv):=cell_of_row _ _ _ _ _ _ h.row
theorem PRow.c10 {b:Nat} {s:Sv} {dv cv:Value} {op:Bool} {bs bf:Int} {w:World} (h:PRow b s dv cv op bs bf w):w.cell? ⟨b,10,none⟩ = some (cv):=cell_of_row _ _ _ _ _ _ h.row
theorem PRow.c11 {b:Nat} {s:Sv} {dv cv:Value} {op:Bool} {bs bf:Int} {w:World} (h:PRow b s dv cv op bs bf w):w.cell? ⟨b,11,none⟩ = some (.int .i64 s.ref):=cell_of_row _ _ _ _ _ _ h.row
theorem PRow.c44 {b:Nat} {s:Sv} {dv cv:Value} {op:Bool} {bs bf:Int} {w:World} (h:PRow b s dv cv op bs bf w):w.cell? ⟨b,44,none⟩ = some (.bool op):=cell_of_row _ _ _ _ _ _ h.row
theorem PRow.c45 {b:Nat} {s:Sv} {dv cv:Value} {op:Bool} {bs bf:Int} {w:World} (h:PRow b s dv cv op bs bf w):w.cell? ⟨b,45,none⟩ = some (.int .i64 bs):=cell_of_row _ _ _ _ _ _ h.row
theorem PRow.c46 {b:Nat} {s:Sv} {dv cv:Value} {op:Bool} {bs bf:Int} {w:World} (h:PRow b s dv cv op bs bf w):w.cell? ⟨b,46,none⟩ = some (.int .i64 bf):=cell_of_row _ _ _ _ _ _ h.row
theorem PRow.lt {b:Nat} {s:Sv} {dv cv:Value} {op:Bool} {bs bf:Int} {w:World} (h:PRow b s dv cv op bs bf w):b < w.heap.size:=lt_of_heap h.row
theorem PRow.fr {b:Nat} {s:Sv} {dv cv:Value} {op:Bool} {bs bf:Int} {w:World} (h:PRow b s dv cv op bs bf w) (k:Nat):w.frozen? ⟨b,k,none⟩ = false:=frozen_of_row _ _ k _ _ h.row
theorem PRow.put {b:Nat} {s s':Sv} {dv cv:Value} {op op':Bool} {bs bf bs' bf':Int} {w:World} (h:PRow b s dv cv op bs bf w) (k:Nat) (v:Value) (e:(pCells s dv cv op bs bf).setIfInBounds k v = pCells s' dv cv op' bs' bf') (hd:s'.done = s.done) (hc:s'.com = s.com) (hs:s'.said.length = s.said.length):PRow b s' dv cv op' bs' bf' (w.setCell ⟨b,k,none⟩ v):=by
 refine ⟨?_,by rw [hd];exact own_set (p:=⟨b,k,none⟩) h.dd h.row (by decide) _,by rw [hc];exact own_set (p:=⟨b,k,none⟩) h.cc h.row (by decide) _,by rw [hs];exact h.sl⟩
 rw [heap_setCell_same _ _ _ _ _ _ h.row,← e]
theorem PRow.hdAt {b:Nat} {s:Sv} {dv cv:Value} {op:Bool} {bs bf:Int} {w:World} (h:PRow b s dv cv op bs bf w) (i:Nat) (hi:i < 8) :
  w.cell? ⟨b,12 + i * 4,none⟩ = some (.bool (s.hd i).said) ∧ w.cell? ⟨b,12 + i * 4 + 1,none⟩ = some (.int .i64 (s.hd i).leap) ∧ w.cell? ⟨b,12 + i * 4 + 2,none⟩ = some (.int .i64 (s.hd i).ws) ∧ w.cell? ⟨b,12 + i * 4 + 3,none⟩ = some (.int .i64 (s.hd i).wf):=by
 have r:=h.row
 match i,hi with
 | 0,_ | 1,_ | 2,_ | 3,_ | 4,_ | 5,_ | 6,_ | 7,_ => exact ⟨cell_of_row _ _ _ _ _ _ r,cell_of_row _ _ _ _ _ _ r,cell_of_row _ _ _ _ _ _ r,cell_of_row _ _ _ _ _ _ r⟩
theorem Sv.hd_says (s:Sv) (k:Nat) (leap:Int) (hk:k < s.said.length) (i:Nat):(s.says k leap).hd i = if i = k then ⟨true,leap,s.ns,s.nf⟩ else s.hd i:=by
 unfold Sv.hd Sv.says
 simp only [List.getD_eq_getElem?_getD,List.getElem?_set]
 split
 ·rename_i e;subst e;rw [if_pos rfl];simp
 ·rename_i e;rw [if_neg (fun q => e q.symm)]
theorem PRow.putH {b:Nat} {s:Sv} {dv cv:Value} {op:Bool} {bs bf:Int} {w:World} (h:PRow b s dv cv op bs bf w) (k:Nat) (leap:Int) (hk:k < s.said.length) :
  PRow b (s.says k leap) dv cv op bs bf ((((w.setCell ⟨b,12 + k * 4,none⟩ (.bool true)).setCell ⟨b,12 + k * 4 + 1,none⟩ (.int .i64 leap)).setCell ⟨b,12 + k * 4 + 2,none⟩ (.int .i64 s.ns)).setCell ⟨b,12 + k * 4 + 3,none⟩ (.int .i64 s.nf)):=by
 have r0:=h.row
 have r1:=heap_setCell_same _ _ (12 + k * 4) _ _ (.bool true) r0
 have r2:=heap_setCell_same _ _ (12 + k * 4 + 1) _ _ (.int .i64 leap) r1
 have r3:=heap_setCell_same _ _ (12 + k * 4 + 2) _ _ (.int .i64 s.ns) r2
 have r4:=heap_setCell_same _ _ (12 + k * 4 + 3) _ _ (.int .i64 s.nf) r3
 have ow:∀ {B e size n:Nat} {v:Value} {xs:List Value},w.ownsRow B e size v n xs → 157 ≠ e → ((((w.setCell ⟨b,12 + k * 4,none⟩ (.bool true)).setCell ⟨b,12 + k * 4 + 1,none⟩ (.int .i64 leap)).setCell ⟨b,12 + k * 4 + 2,none⟩ (.int .i64 s.ns)).setCell ⟨b,12 + k * 4 + 3,none⟩ (.int .i64 s.nf)).ownsRow B e size v n xs:=fun o he =>
  own_set (p:=⟨b,12 + k * 4 + 3,none⟩) (own_set (p:=⟨b,12 + k * 4 + 2,none⟩) (own_set (p:=⟨b,12 + k * 4 + 1,none⟩) (own_set (p:=⟨b,12 + k * 4,none⟩) o r0 he _) r1 he _) r2 he _) r3 he _
 have sl:=h.sl
 have len:(s.says k leap).said.length = s.said.length:=List.length_set
 refine ⟨?_,ow h.dd (by decide),ow h.cc (by decide),by rw [len];exact sl⟩
 rw [r4]
 have hh:=fun i => s.hd_says k leap hk i
 have k8:k < 8:=by omega
 have e:((((pCells s dv cv op bs bf).setIfInBounds (12 + k * 4) (.bool true)).setIfInBounds (12 + k * 4 + 1) (.int .i64 leap)).setIfInBounds (12 + k * 4 + 2) (.int .i64 s.ns)).setIfInBounds (12 + k * 4 + 3) (.int .i64 s.nf) = pCells (s.says k leap) dv cv op bs bf:=by
  unfold pCells
  rw [len]
  clear r0 r1 r2 r3 r4 ow
  have ymode:(s.says k leap).mode = s.mode:=rfl
  have ywin:(s.says k leap).win = s.win:=rfl
  have yfresh:(s.says k leap).fresh = s.fresh:=rfl
  have yns:(s.says k leap).ns = s.ns:=rfl
  have ynf:(s.says k leap).nf = s.nf:=rfl
  have yld:(s.says k leap).ld = s.ld:=rfl
  have yup:(s.says k leap).up = s.up:=rfl
  have yex:(s.says k leap).ex = s.ex:=rfl
  have yref:(s.says k leap).ref = s.ref:=rfl
  clear h
  generalize s.says k leap = y at *
  simp only [hh,ymode,ywin,yfresh,yns,ynf,yld,yup,yex,yref]
  clear hh len hk ymode ywin yfresh yns ynf yld yup yex yref
  match k,k8 with
  | 0,_ => simp
  | 1,_ => simp
  | 2,_ => simp
  | 3,_ => simp
  | 4,_ => simp
  | 5,_ => simp
  | 6,_ => simp
  | 7,_ => simp
 rw [e]
def PS (b:Nat) (s:Sv) (F:Nat → Prop) (w:World):Prop:=∃ dv cv op bs bf,PRow b s dv cv op bs bf w ∧ Opn s op bs bf ∧ ∀ k,F k ↔ pFoot b dv cv k
theorem does_look {P:Nat → Sv → (Nat → Prop) → World → Prop} (hP:PLaw P) (bc bx by' br:Nat) (hv:Value) (m:Int) (hs:List Vw) (s:Sv) (Fx Fy Fr Fv:Nat → Prop) (x a b c d ts tf li er ae:Int) (so t sv:ByteArray) (w:World)
  (h:CS P bc bx by' br hv m hs s s s Fx Fy Fr Fv w) (hsee:∀ F W,P by' s F W → Shows by' s W)
  (hN:∀ F W,P by' s F W → Tells 55 by' ts tf li er W) (hS:∀ dv bv cv rh W,RSrv br s dv bv cv rh W → Tells 56 br ts tf li er W)
  (hA:∀ F W,P by' s F W → Ans 57 by' t sv ae W) (hR:∀ dv bv cv rh W,RSrv br s dv bv cv rh W → Ans 58 br t sv ae W)
  (l1:s.done.length ≤ 900) (l2:s.com.length ≤ 900) (l3:hs.length ≤ 900000) (m0:0 ≤ m) (m1:m ≤ 10000000000) :
  Calls Tryz.prog 20 #[.pointer (some ⟨bc,0,none⟩),.agg #[.int .i64 22,.int .i64 x,.int .i64 a,.int .i64 b,.int .i64 c,.int .i64 d,.string so],.string t] w fun e w' => e = .returned (.bool true) ∧ TurnP P bc bx by' br hs.length m s (AllF Fx Fy Fr Fv) w w':=by
 have B0:=hid' ((Below.refl w.heap.size w).alloc (Nat.le_refl _) (.cells #[.int .i64 22,.int .i64 x,.int .i64 a,.int .i64 b,.int .i64 c,.int .i64 d,.string so] 27))
 have H0:=h.below hP B0.out
 have CS0:=hid' H0
 obtain ⟨dv,bv,cv,rh,r0,re⟩:=H0.r
 have RD:=hid' (reads_any bc bx by' br by' hv dv bv cv rh m hs s _ H0.c H0.hh H0.ok r0 (hsee _ _ H0.y) l1 l2 l3 m0 m1)
 have c1:=cell_of_row _ _ 1 _ _ _ h.c
 have lc:=lt_of_heap h.c
 simp at c1
 have HN:=hid' hN
 have HS:=hid' hS
 have HA:=hid' hA
 have HR:=hid' hR
 clear h hsee hN hS hA hR H0 r0 re
 go_enter Tryz.func20,Tryz.ntmps20
 go_wp2_with fail
 refine RD.out.mono ?_
 rintro e w1 ⟨rfl,rp⟩
 obtain ⟨hv',v1,v2,F',cs5,of5,ff5⟩:=CS0.out.read hP rp
 have CS5:=hid' cs5
 have OF5:=hid' of5
 have FF5:=hid' ff5
 have SV:=hid' (served_yes bc bx by' br by' hv' (m + 2000) ts tf li er w1 cs5.c (HN.out _ _ cs5.y) (fun W hb => by
  obtain ⟨_,_,_,_,r,_⟩:=(cs5.below hP hb).r
  exact HS.out _ _ _ _ _ r))
 have d1:=cell_of_row _ _ 1 _ _ _ cs5.c
 have ld:=lt_of_heap cs5.c
 simp at d1
 clear rp RD c1 lc cs5 of5 ff5
 go_wp2_with fail
 refine SV.out.mono ?_
 rintro e w2 ⟨rfl,b2⟩
 have cs6:=CS5.out.below hP b2
 have CS6:=hid' cs6
 have B2:=hid' b2
 have AN:=hid' (answered_yes bc bx by' br by' hv' (m + 2000) ae t sv w2 cs6.c (HA.out _ _ cs6.y) (fun W hb => by
  obtain ⟨_,_,_,_,r,_⟩:=(cs6.below hP hb).r
  exact HR.out _ _ _ _ _ r))
 have d2:=cell_of_row _ _ 1 _ _ _ cs6.c
 have ld2:=lt_of_heap cs6.c
 simp at d2
 clear SV b2 cs6 d1 ld
 go_wp2_with fail
 refine AN.out.mono ?_
 rintro e w3 ⟨rfl,b3⟩
 have B3:=hid' b3
 clear AN b3 d2 ld2
 go_wp2
 go_ret
 refine ⟨rfl,TurnP.from (V:=w.alloc (.cells #[.int .i64 22,.int .i64 x,.int .i64 a,.int .i64 b,.int .i64 c,.int .i64 d,.string so] 27)) ?_ B0.out⟩
 refine ⟨hv',hs ++ [v1,v2],Fx,Fy,Fr,F',CS6.out.below hP B3.out,by simp,((OF5.out.then B2.out).then B3.out).mono (fun k _ e => .inr (.inr (.inr e))),fun k e => ?_⟩
 rcases e with e | e | e | e
 ·exact .inl (.inl e)
 ·exact .inl (.inr (.inl e))
 ·exact .inl (.inr (.inr (.inl e)))
 ·rcases FF5.out k e with c | c
  ·exact .inl (.inr (.inr (.inr c)))
  ·exact .inr c
theorem ps_law:PLaw PS where
 keep:=fun ⟨dv,cv,op,bs,bf,r,o,f⟩ hk => ⟨dv,cv,op,bs,bf,r.keep (fun k e => hk k ((f k).2 e)),o,f⟩
 low:=fun ⟨_,_,_,_,_,r,_,f⟩ k hk => by
  obtain ⟨cs,e,fr,hh,he⟩:=r.typ ((f k).1 hk)
  refine ⟨cs,e,fr,hh,?_,?_⟩
  ·rcases he with rfl | rfl | rfl <;> decide
  ·rcases he with rfl | rfl | rfl <;> decide
end Go.Proofs.YtmmkhodaljpjgaaGreatDoor
namespace Go.Proofs.YtmmkhodaljpjgaaGreatDoor
open Go.RowKit
attribute [local go_sem ↓] Go.wp_at_zero Go.wp_at_succ
theorem turns_load {P:Nat → Sv → (Nat → Prop) → World → Prop} (hP:PLaw P) (bc bx by' br:Nat) (hv:Value) (m:Int) (hs:List Vw) (s s':Sv) (Fx Fy Fr Fv:Nat → Prop) (x a b c d ev nv:Int) (so t:ByteArray) (w:World) (G:World → Prop)
  (h:CS P bc bx by' br hv m hs s s s Fx Fy Fr Fv w) (hx:PLoads P t s s' ev nv G) (hg:∀ W,Off (AllF Fx Fy Fr Fv) w W → G W)
  (hrf:∀ dv bv cv rh W,RSrv br s dv bv cv rh W → Calls Tryz.prog 65 #[.pointer (some ⟨br,0,none⟩),.string t] W fun e w' => e = .returned (.tuple #[.int .i64 ev,.int .i64 nv]) ∧ RPost br (rFoot br dv bv cv rh) W s' w')
  (hsee:∀ F W,P bx s' F W → Shows bx s' W) (l1:s'.done.length ≤ 900) (l2:s'.com.length ≤ 900) (l3:hs.length ≤ 900000) (m0:0 ≤ m) (m1:m ≤ 10000000000) :
  Calls Tryz.prog 31 #[.pointer (some ⟨bc,0,none⟩),.agg #[.int .i64 18,.int .i64 x,.int .i64 a,.int .i64 b,.int .i64 c,.int .i64 d,.string so],.string t] w fun e w' => e = .returned (.bool true) ∧ TurnP P bc bx by' br hs.length m s' (AllF Fx Fy Fr Fv) w w':=by
 have B0:=hid' ((Below.refl w.heap.size w).alloc (Nat.le_refl _) (.cells #[.int .i64 18,.int .i64 x,.int .i64 a,.int .i64 b,.int .i64 c,.int .i64 d,.string so] 27))
 have R0:=hid' (heap_alloc_new w (.cells #[.int .i64 18,.int .i64 x,.int .i64 a,.int .i64 b,.int .i64 c,.int .i64 d,.string so] 27))
 have H0:=hid' (h.below hP B0.out)
 have LX:Hid (∀ k,Fx k ∨ Fy k ∨ Fr k → (AllF Fx Fy Fr Fv k ∨ w.heap.size ≤ k) ∧ k ≠ w.heap.size):=fun k e => by
  rcases e with e | e | e
  ·obtain ⟨_,_,_,hh,_⟩:=hP.low h.x k e;have:=lt_of_heap hh;exact ⟨.inl (.inl e),by omega⟩
  ·obtain ⟨_,_,_,hh,_⟩:=hP.low h.y k e;have:=lt_of_heap hh;exact ⟨.inl (.inr (.inl e)),by omega⟩
  ·have:=h.rlow k e;exact ⟨.inl (.inr (.inr (.inl e))),by omega⟩
 have HX:=hid' hx
 have HG:=hid' hg
 have HRF:=hid' hrf
 have HSEE:=hid' hsee
 clear h hx hrf hsee hg
 go_enter Tryz.func31,Tryz.ntmps31
 go_upto_region 13 with fail
 generalize hV:w.alloc (.cells #[.int .i64 18,.int .i64 x,.int .i64 a,.int .i64 b,.int .i64 c,.int .i64 d,.string so] 27) = V at *
 clear hV
 have c0:=cell_of_row _ _ 0 _ _ _ H0.out.c
 simp at c0
 go_wp2_with fail
 refine (HX.out bx Fx _ H0.out.x (HG.out _ (Off.of_below B0.out))).mono ?_
 rintro e w1 ⟨rfl,F1,p1,o1,f1⟩
 have M1:=hid' (mid_x hP H0.out R0.out (Off.of_below B0.out) LX.out p1 o1 f1)
 clear p1 o1 f1 c0
 obtain ⟨Fx1,Fy1,Fr1,cs1,op1,of1,ff1⟩:=M1.out
 have CS1:=hid' cs1
 have OP1:=hid' op1
 have OF1:=hid' of1
 have FF1:=hid' ff1
 have c1:=cell_of_row _ _ 1 _ _ _ cs1.c
 simp at c1
 clear cs1 op1 of1 ff1 M1
 go_wp2_with fail
 refine (HX.out by' Fy1 _ CS1.out.y (HG.out _ OF1.out)).mono ?_
 rintro e w2 ⟨rfl,F2,p1,o1,f1⟩
 have M2:=hid' (mid_y hP CS1.out OP1.out OF1.out FF1.out p1 o1 f1)
 clear p1 o1 f1 c1
 obtain ⟨Fx2,Fy2,Fr2,cs2,op2,of2,ff2⟩:=M2.out
 have CS2:=hid' cs2
 have OP2:=hid' op2
 have OF2:=hid' of2
 have FF2:=hid' ff2
 have c2:=cell_of_row _ _ 2 _ _ _ cs2.c
 simp at c2
 obtain ⟨rdv,rbv,rcv,rrh,rr2,re2⟩:=cs2.r
 have RR2:=hid' rr2
 clear cs2 op2 of2 ff2 M2 rr2 re2
 go_wp2_with fail
 refine (HRF.out rdv rbv rcv rrh _ RR2.out).mono ?_
 rintro e W3 ⟨rfl,p1⟩
 have P1:=hid' p1
 clear p1 c2
 have M3:Mid3 P bc bx by' br w.heap.size hv m hs s' s' s' (AllF Fx Fy Fr Fv) Fv #[.int .i64 18,.int .i64 x,.int .i64 a,.int .i64 b,.int .i64 c,.int .i64 d,.string so] w W3:=mid_r hP CS2.out OP2.out OF2.out FF2.out (fun dv bv cv rh q => by
  obtain ⟨rfl,rfl,rfl,rfl⟩:=q.uniq RR2.out
  exact P1.out)
 obtain ⟨Fx3,Fy3,Fr3,cs3,op3,of3,ff3⟩:=M3
 have CS3:=hid' cs3
 have OF3:=hid' of3
 have FF3:=hid' ff3
 have c3:=cell_of_row _ _ 0 _ _ _ cs3.c
 simp at c3
 obtain ⟨sdv,sbv,scv,srh,sr3,se3⟩:=cs3.r
 have RD:=hid' (reads_any bc bx by' br bx hv sdv sbv scv srh m hs s' W3 cs3.c cs3.hh cs3.ok sr3 (HSEE.out _ _ cs3.x) l1 l2 l3 m0 m1)
 clear cs3 op3 of3 ff3 sr3 se3
 have e1:(ev == ev) = true:=by simp
 have e0:(nv == nv) = true:=by simp
 go_wp2_with fail
 refine RD.out.mono ?_
 rintro e w5 ⟨rfl,rp⟩
 have RP:=hid' rp
 clear rp RD c3
 go_wp2_with (go_at_call 34;refine (num_any _ _).mono ?_;rintro e w6 ⟨rfl,rfl⟩)
 go_ret
 obtain ⟨hv',v1,v2,F',cs5,of5,ff5⟩:=CS3.out.read hP RP.out
 have sz3:=OF3.out.size
 refine ⟨rfl,hv',hs ++ [v1,v2],Fx3,Fy3,Fr3,F',cs5,by simp,OF3.out.trans of5 (fun k hk e => .inr (.inr (.inr e))),fun k e => ?_⟩
 rcases e with e | e | e | e
 ·exact (FF3.out k (.inl e)).1
 ·exact (FF3.out k (.inr (.inl e))).1
 ·exact (FF3.out k (.inr (.inr e))).1
 ·rcases ff5 k e with c | c
  ·exact .inl (.inr (.inr (.inr c)))
  ·exact .inr (by omega)
theorem does_load {P:Nat → Sv → (Nat → Prop) → World → Prop} (hP:PLaw P) (bc bx by' br:Nat) (hv:Value) (m:Int) (hs:List Vw) (s s':Sv) (Fx Fy Fr Fv:Nat → Prop) (x a b c d ev nv:Int) (so t:ByteArray) (w:World) (G:World → Prop)
  (h:CS P bc bx by' br hv m hs s s s Fx Fy Fr Fv w) (hx:PLoads P t s s' ev nv G) (hg:∀ W,Off (AllF Fx Fy Fr Fv) w W → G W)
  (hrf:∀ dv bv cv rh W,RSrv br s dv bv cv rh W → Calls Tryz.prog 65 #[.pointer (some ⟨br,0,none⟩),.string t] W fun e w' => e = .returned (.tuple #[.int .i64 ev,.int .i64 nv]) ∧ RPost br (rFoot br dv bv cv rh) W s' w')
  (hsee:∀ F W,P bx s' F W → Shows bx s' W) (l1:s'.done.length ≤ 900) (l2:s'.com.length ≤ 900) (l3:hs.length ≤ 900000) (m0:0 ≤ m) (m1:m ≤ 10000000000) :
  Calls Tryz.prog 20 #[.pointer (some ⟨bc,0,none⟩),.agg #[.int .i64 18,.int .i64 x,.int .i64 a,.int .i64 b,.int .i64 c,.int .i64 d,.string so],.string t] w fun e w' => e = .returned (.bool true) ∧ TurnP P bc bx by' br hs.length m s' (AllF Fx Fy Fr Fv) w w':=by
 have B0:=hid' ((Below.refl w.heap.size w).alloc (Nat.le_refl _) (.cells #[.int .i64 18,.int .i64 x,.int .i64 a,.int .i64 b,.int .i64 c,.int .i64 d,.string so] 27))
 have T:=hid' (turns_load hP bc bx by' br hv m hs s s' Fx Fy Fr Fv x a b c d ev nv so t _ G (h.below hP B0.out) hx (fun W o => hg W ((Off.of_below B0.out).trans o (fun _ _ e => e))) hrf hsee l1 l2 l3 m0 m1)
 clear h hx hrf hsee hg
 go_enter Tryz.func20,Tryz.ntmps20
 go_wp2_with fail
 refine T.out.mono ?_
 rintro e w1 ⟨rfl,p1⟩
 have P1:=hid' p1
 clear p1 T
 go_wp2
 go_ret
 exact ⟨rfl,P1.out.from B0.out⟩
end Go.Proofs.YtmmkhodaljpjgaaGreatDoor
namespace Go.Proofs.YtmmkhodaljpjgaaGreatDoor
open Go.RowKit
theorem ref_line_u (bF:Nat) (st:Txt.St) (s:ByteArray) (w:World) (n:Nat) (hR:Rf w bF st) (hO:Txt.Ok st n) (hn:n ≤ 100000) (hs:s.size ≤ 90000) (hb:Txt.beg s ⟨#[35,36]⟩ = true) (hL:Txt.line st s = Txt.takeU st (Txt.words (s.extract 2 s.size))) :
  Calls Tryz.prog 78 #[.pointer (some ⟨bF,0,none⟩),.string s] w fun e w' => e = .returned (.int .i64 (Txt.line st s).1) ∧ ((Txt.line st s).1 = 0 → Rf w' bF (Txt.line st s).2) ∧ Below bF w w':=by
 have hbF:=rf_lt hR
 have HO:=hid' hO
 have HR:=hid' hR
 have HL:=hid' hL
 obtain ⟨h2,e0,e1⟩:=(Txt.beg_two s 35 36).1 hb
 have g0:=Txt.byte_at s 0 (by omega)
 have g1:=Txt.byte_at s 1 (by omega)
 have k0:((s[0]'(by omega)).toNat:Int) = 35:=by rw [← g0,e0];rfl
 have k1:((s[1]'(by omega)).toNat:Int) = 36:=by rw [← g1,e1];rfl
 have q0:(((s[0]'(by omega)).toNat:Int) == 35) = true:=by rw [beq_iff_eq];exact k0
 have q1:(((s[1]'(by omega)).toNat:Int) == 36) = true:=by rw [beq_iff_eq];exact k1
 have hx:(s.extract 2 s.size).size ≤ 90000:=by rw [ByteArray.size_extract];omega
 have HWX:=hid' (ref_words (s.extract 2 s.size) w (by omega))
 have hK:Value.int .u8 36 = Value.int .u8 ((s[1]'(by omega)).toNat:Int):=by rw [k1]
 have HK:=hid' hK
 clear hO hR hL hb e0 e1 g0 g1 k0 k1 hK
 go_enter Tryz.func78,Tryz.ntmps78
 go_wp2_with fail
 refine HWX.out.mono ?_
 rintro e w2 ⟨v,rfl,hown,hbel⟩
 have hWs:=ws_of hx hown
 have R2:=rf_down HR.out hbel
 have hsp:=ref_special_u bF st v _ w2 n R2 HO.out hn hWs
 rw [HK.out] at hsp
 have HSP:=hid' hsp
 have B2:=hid' (show Below bF w w2 from hbel.mono (by omega))
 clear hWs hown hbel HWX R2 hsp
 go_wp2_with fail
 refine HSP.out.mono ?_
 rintro e w3 ⟨rfl,hrd,hbel3⟩
 have A:=hid' hrd
 have B:=hid' (B2.out.trans hbel3)
 clear hrd hbel3
 go_wp2
 go_ret
 rw [HL.out]
 exact ⟨rfl,A.out,B.out⟩
theorem ref_line_x (bF:Nat) (st:Txt.St) (s:ByteArray) (w:World) (n:Nat) (hR:Rf w bF st) (hO:Txt.Ok st n) (hn:n ≤ 100000) (hs:s.size ≤ 90000) (hb:Txt.beg s ⟨#[35,64]⟩ = true) (hL:Txt.line st s = Txt.takeX st (Txt.words (s.extract 2 s.size))) :
  Calls Tryz.prog 78 #[.pointer (some ⟨bF,0,none⟩),.string s] w fun e w' => e = .returned (.int .i64 (Txt.line st s).1) ∧ ((Txt.line st s).1 = 0 → Rf w' bF (Txt.line st s).2) ∧ Below bF w w':=by
 have hbF:=rf_lt hR
 have HO:=hid' hO
 have HR:=hid' hR
 have HL:=hid' hL
 obtain ⟨h2,e0,e1⟩:=(Txt.beg_two s 35 64).1 hb
 have g0:=Txt.byte_at s 0 (by omega)
 have g1:=Txt.byte_at s 1 (by omega)
 have k0:((s[0]'(by omega)).toNat:Int) = 35:=by rw [← g0,e0];rfl
 have k1:((s[1]'(by omega)).toNat:Int) = 64:=by rw [← g1,e1];rfl
 have q0:(((s[0]'(by omega)).toNat:Int) == 35) = true:=by rw [beq_iff_eq];exact k0
 have q1:(((s[1]'(by omega)).toNat:Int) == 36) = false:=by rw [beq_eq_false_iff_ne];omega
 have q2:(((s[1]'(by omega)).toNat:Int) == 64) = true:=by rw [beq_iff_eq];exact k1
 have hx:(s.extract 2 s.size).size ≤ 90000:=by rw [ByteArray.size_extract];omega
 have HWX:=hid' (ref_words (s.extract 2 s.size) w (by omega))
 have hK:Value.int .u8 64 = Value.int .u8 ((s[1]'(by omega)).toNat:Int):=by rw [k1]
 have HK:=hid' hK
 clear hO hR hL hb e0 e1 g0 g1 k0 k1 hK
 go_enter Tryz.func78,Tryz.ntmps78
 go_wp2_with fail
 refine HWX.out.mono ?_
 rintro e w2 ⟨v,rfl,hown,hbel⟩
 have hWs:=ws_of hx hown
 have R2:=rf_down HR.out hbel
 have hsp:=ref_special_x bF st v _ w2 n R2 HO.out hn hWs
 rw [HK.out] at hsp
 have HSP:=hid' hsp
 have B2:=hid' (show Below bF w w2 from hbel.mono (by omega))
 clear hWs hown hbel HWX R2 hsp
 go_wp2_with fail
 refine HSP.out.mono ?_
 rintro e w3 ⟨rfl,hrd,hbel3⟩
 have A:=hid' hrd
 have B:=hid' (B2.out.trans hbel3)
 clear hrd hbel3
 go_wp2
 go_ret
 rw [HL.out]
 exact ⟨rfl,A.out,B.out⟩
theorem ref_line_h (bF:Nat) (st:Txt.St) (s:ByteArray) (w:World) (hR:Rf w bF st) (hs:s.size ≤ 90000) (hb:Txt.beg s ⟨#[35,104]⟩ = true) (hL:Txt.line st s = Txt.takeH st (Txt.words (s.extract 2 s.size))) :
  Calls Tryz.prog 78 #[.pointer (some ⟨bF,0,none⟩),.string s] w fun e w' => e = .returned (.int .i64 (Txt.line st s).1) ∧ ((Txt.line st s).1 = 0 → Rf w' bF (Txt.line st s).2) ∧ Below bF w w':=by
 have hbF:=rf_lt hR
 have HR:=hid' hR
 have HL:=hid' hL
 obtain ⟨h2,e0,e1⟩:=(Txt.beg_two s 35 104).1 hb
 have g0:=Txt.byte_at s 0 (by omega)
 have g1:=Txt.byte_at s 1 (by omega)
 have k0:((s[0]'(by omega)).toNat:Int) = 35:=by rw [← g0,e0];rfl
 have k1:((s[1]'(by omega)).toNat:Int) = 104:=by rw [← g1,e1];rfl
 have q0:(((s[0]'(by omega)).toNat:Int) == 35) = true:=by rw [beq_iff_eq];exact k0
 have q1:(((s[1]'(by omega)).toNat:Int) == 36) = false:=by rw [beq_eq_false_iff_ne];omega
 have q2:(((s[1]'(by omega)).toNat:Int) == 64) = false:=by rw [beq_eq_false_iff_ne];omega
 have q3:(((s[1]'(by omega)).toNat:Int) == 104) = true:=by rw [beq_iff_eq];exact k1
 have hx:(s.extract 2 s.size).size ≤ 90000:=by rw [ByteArray.size_extract];omega
 have HWX:=hid' (ref_words (s.extract 2 s.size) w (by omega))
 have hK:Value.int .u8 104 = Value.int .u8 ((s[1]'(by omega)).toNat:Int):=by rw [k1]
 have HK:=hid' hK
 clear hR hL hb e0 e1 g0 g1 k0 k1 hK
 go_enter Tryz.func78,Tryz.ntmps78
 go_wp2_with fail
 refine HWX.out.mono ?_
 rintro e w2 ⟨v,rfl,hown,hbel⟩
 have hWs:=ws_of hx hown
 have R2:=rf_down HR.out hbel
 have hsp:=ref_special_h bF st v _ w2 R2 hWs
 rw [HK.out] at hsp
 have HSP:=hid' hsp
 have B2:=hid' (show Below bF w w2 from hbel.mono (by omega))
 clear hWs hown hbel HWX R2 hsp
 go_wp2_with fail
 refine HSP.out.mono ?_
 rintro e w3 ⟨rfl,hrd,hbel3⟩
 have A:=hid' hrd
 have B:=hid' (B2.out.trans hbel3)
 clear hrd hbel3
 go_wp2
 go_ret
 rw [HL.out]
 exact ⟨rfl,A.out,B.out⟩
theorem ref_line (bF:Nat) (st:Txt.St) (s:ByteArray) (w:World) (n:Nat) (hR:Rf w bF st) (hO:Txt.Ok st n) (hn:n ≤ 100000) (hs:s.size ≤ 90000) :
  Calls Tryz.prog 78 #[.pointer (some ⟨bF,0,none⟩),.string s] w fun e w' => e = .returned (.int .i64 (Txt.line st s).1) ∧ ((Txt.line st s).1 = 0 → Rf w' bF (Txt.line st s).2) ∧ Below bF w w':=by
 cases b1:Txt.beg s ⟨#[35,36]⟩ with
 | true => exact ref_line_u bF st s w n hR hO hn hs b1 (by unfold Txt.line;rw [if_pos b1])
 | false =>
  cases b2:Txt.beg s ⟨#[35,64]⟩ with
  | true => exact ref_line_x bF st s w n hR hO hn hs b2 (by unfold Txt.line;rw [if_neg (by rw [b1];decide),if_pos b2])
  | false =>
   cases b3:Txt.beg s ⟨#[35,104]⟩ with
   | true => exact ref_line_h bF st s w hR hs b3 (by unfold Txt.line;rw [if_neg (by rw [b1];decide),if_neg (by rw [b2];decide),if_pos b3])
   | false => exact ref_line_plain bF st s w n hR hO hn hs (by unfold isSpec;rw [b1,b2,b3];rfl)
end Go.Proofs.YtmmkhodaljpjgaaGreatDoor
