import Derived.Test.YtmmkhodaljpjgaaGreatDoorV35
import Derived.Test.YtmmkhodaljpjgaaGreatDoorV25
namespace Go.Proofs.YtmmkhodaljpjgaaGreatDoor
open Go.RowKit
theorem TurnP.from {P:Nat → Sv → (Nat → Prop) → World → Prop} {bc bx by' br n:Nat} {m:Int} {s':Sv} {A:Nat → Prop} {w V w':World} (h:TurnP P bc bx by' br n m s' A V w') (hb:Below w.heap.size w V):TurnP P bc bx by' br n m s' A w w':=by
 obtain ⟨hv,hs,Fx,Fy,Fr,Fv,c,l,o,f⟩:=h
 have sz:=hb.size
 refine ⟨hv,hs,Fx,Fy,Fr,Fv,c,l,(Off.of_below hb).trans o (fun k _ e => e),fun k e => ?_⟩
 rcases f k e with q | q
 ·exact .inl q
 ·exact .inr (by omega)
set_option maxRecDepth 100000 in
set_option maxHeartbeats 1600000 in
theorem does_adv {P:Nat → Sv → (Nat → Prop) → World → Prop} (hP:PLaw P) (bc bx by' br:Nat) (hv:Value) (m:Int) (hs:List Vw) (s s':Sv) (Fx Fy Fr Fv:Nat → Prop) (x a b c d ev:Int) (so t:ByteArray) (w:World)
  (h:CS P bc bx by' br hv m hs s s s Fx Fy Fr Fv w) (hx:PDoes P 62 (fun q => #[.pointer (some ⟨q,0,none⟩),.agg #[.int .i64 a,.int .i64 b]]) s s' ev (fun _ => True))
  (hrf:∀ dv bv cv rh W,RSrv br s dv bv cv rh W → Calls Tryz.prog 63 #[.pointer (some ⟨br,0,none⟩),.agg #[.int .i64 a,.int .i64 b]] W fun e w' => e = .returned (.int .i64 ev) ∧ RPost br (rFoot br dv bv cv rh) W s' w')
  (hsee:∀ F W,P bx s' F W → Shows bx s' W) (l1:s'.done.length ≤ 900) (l2:s'.com.length ≤ 900) (l3:hs.length ≤ 900000) (m0:0 ≤ m) (m1:m ≤ 10000000000) :
  Calls Tryz.prog 20 #[.pointer (some ⟨bc,0,none⟩),.agg #[.int .i64 17,.int .i64 x,.int .i64 a,.int .i64 b,.int .i64 c,.int .i64 d,.string so],.string t] w fun e w' => e = .returned (.bool true) ∧ TurnP P bc bx by' br hs.length m s' (AllF Fx Fy Fr Fv) w w':=by
 have B0:=hid' ((Below.refl w.heap.size w).alloc (Nat.le_refl _) (.cells #[.int .i64 17,.int .i64 x,.int .i64 a,.int .i64 b,.int .i64 c,.int .i64 d,.string so] 27))
 have T:=hid' (turns_adv hP bc bx by' br hv m hs s s' Fx Fy Fr Fv x a b c d ev so t _ (h.below hP B0.out) hx hrf hsee l1 l2 l3 m0 m1)
 clear h hx hrf hsee
 go_enter Tryz.func20,Tryz.ntmps20
 go_wp2_with fail
 refine T.out.mono ?_
 rintro e w1 ⟨rfl,p1⟩
 have P1:=hid' p1
 clear p1 T
 go_wp2
 go_ret
 exact ⟨rfl,P1.out.from B0.out⟩
structure Rc where
 bc:Nat
 bx:Nat
 by':Nat
 br:Nat
 hv:Value
 hs:List Vw
 s:Sv
 Fx:Nat → Prop
 Fy:Nat → Prop
 Fr:Nat → Prop
 Fv:Nat → Prop
def Rc.F (r:Rc) (k:Nat):Prop:=AllF r.Fx r.Fy r.Fr r.Fv k
def Rc.ptr (r:Rc):Value:=.pointer (some ⟨r.bc,0,none⟩)
structure Rc.Ok (P:Nat → Sv → (Nat → Prop) → World → Prop) (n:Nat) (r:Rc) (w:World):Prop where
 cs:CS P r.bc r.bx r.by' r.br r.hv (1000 * (r.hs.length:Int)) r.hs r.s r.s r.s r.Fx r.Fy r.Fr r.Fv w
 hn:r.hs.length ≤ 2 * n + 2
 inv:r.s.Inv
 rf:r.s.ref ≤ (n:Int)
theorem CS.keep {P:Nat → Sv → (Nat → Prop) → World → Prop} {bc bx by' br:Nat} {hv:Value} {m:Int} {hs:List Vw} {sx sy sr:Sv} {Fx Fy Fr Fv:Nat → Prop} {w w':World} (hP:PLaw P) (h:CS P bc bx by' br hv m hs sx sy sr Fx Fy Fr Fv w) (hk:∀ k,AllF Fx Fy Fr Fv k → w'.heap[k]? = w.heap[k]?):CS P bc bx by' br hv m hs sx sy sr Fx Fy Fr Fv w':=by
 obtain ⟨c1,c2,c3⟩:=h.own (fun k e => hk k (.inr (.inr (.inr e))))
 obtain ⟨dv,bv,cv,rh,r,e⟩:=h.r
 exact ⟨c1,c2,c3,hP.keep h.x (fun k e => hk k (.inl e)),hP.keep h.y (fun k e => hk k (.inr (.inl e))),⟨dv,bv,cv,rh,r.keep (fun k q => hk k (.inr (.inr (.inl ((e k).1 q))))),e⟩,h.fv,h.xy,h.xr,h.xv,h.yr,h.yv,h.rv⟩
theorem CS.typ {P:Nat → Sv → (Nat → Prop) → World → Prop} {bc bx by' br:Nat} {hv:Value} {m:Int} {hs:List Vw} {sx sy sr:Sv} {Fx Fy Fr Fv:Nat → Prop} {w:World} (hP:PLaw P) (h:CS P bc bx by' br hv m hs sx sy sr Fx Fy Fr Fv w) (k:Nat) (hk:AllF Fx Fy Fr Fv k):∃ cs e fr,w.heap[k]? = some (.cells cs e fr) ∧ 38 ≠ e ∧ 9 ≠ e:=by
 rcases hk with e | e | e | e
 ·exact hP.low h.x k e
 ·exact hP.low h.y k e
 ·obtain ⟨dv,bv,cv,rh,r,q⟩:=h.r
  exact r.typ ((q k).2 e)
 ·rcases (h.fv k).1 e with rfl | e | ⟨v,hv,e⟩
  ·exact ⟨_,_,_,h.c,by decide,by decide⟩
  ·obtain ⟨cs,fr,hh⟩:=own_typ h.hh e;exact ⟨_,_,_,hh,by decide,by decide⟩
  ·rcases (h.ok v hv).typ e with ⟨cs,fr,hh⟩ | ⟨cs,fr,hh⟩
   ·exact ⟨_,_,_,hh,by decide,by decide⟩
   ·exact ⟨_,_,_,hh,by decide,by decide⟩
theorem Rc.Ok.keep {P:Nat → Sv → (Nat → Prop) → World → Prop} {n:Nat} {r:Rc} {w w':World} (hP:PLaw P) (h:r.Ok P n w) (hk:∀ k,r.F k → w'.heap[k]? = w.heap[k]?):r.Ok P n w':=⟨h.cs.keep hP hk,h.hn,h.inv,h.rf⟩
theorem Rc.Ok.up {P:Nat → Sv → (Nat → Prop) → World → Prop} {n m:Nat} {r:Rc} {w:World} (h:r.Ok P n w) (hm:n ≤ m):r.Ok P m w:=⟨h.cs,by have:=h.hn;omega,h.inv,by have:=h.rf;omega⟩
theorem Rc.Ok.low {P:Nat → Sv → (Nat → Prop) → World → Prop} {n:Nat} {r:Rc} {w:World} (hP:PLaw P) (h:r.Ok P n w) (k:Nat) (hk:r.F k):k < w.heap.size:=by
 obtain ⟨_,_,_,hh,_⟩:=h.cs.typ hP k hk
 exact lt_of_heap hh
structure Many (P:Nat → Sv → (Nat → Prop) → World → Prop) (B n:Nat) (F:Nat → Prop) (v:Value) (L:List Rc) (w:World):Prop where
 own:w.ownsRow B 40 1 v L.length (L.map Rc.ptr)
 len:L.length ≤ n
 ok:∀ i (h:i < L.length),L[i].Ok P n w
 ap:∀ i j (hi:i < L.length) (hj:j < L.length),i ≠ j → Apart L[i].F L[j].F
 vo:∀ i (h:i < L.length) k,L[i].F k → v.ownBlock ≠ some k
 all:∀ k,F k ↔ v.ownBlock = some k ∨ ∃ i,∃ h:i < L.length,L[i].F k
 lo:∀ k,F k → B ≤ k
theorem Many.up {P:Nat → Sv → (Nat → Prop) → World → Prop} {B n m:Nat} {F:Nat → Prop} {v:Value} {L:List Rc} {w:World} (h:Many P B n F v L w) (hm:n ≤ m):Many P B m F v L w :=
 ⟨h.own,by have:=h.len;omega,fun i hi => (h.ok i hi).up hm,h.ap,h.vo,h.all,h.lo⟩
theorem Many.keep {P:Nat → Sv → (Nat → Prop) → World → Prop} {B n:Nat} {F:Nat → Prop} {v:Value} {L:List Rc} {w w':World} (hP:PLaw P) (h:Many P B n F v L w) (hk:∀ k,F k → w'.heap[k]? = w.heap[k]?):Many P B n F v L w' :=
 ⟨own_same h.own (fun k e => hk k ((h.all k).2 (.inl e))),h.len,fun i hi => (h.ok i hi).keep hP (fun k e => hk k ((h.all k).2 (.inr ⟨i,hi,e⟩))),h.ap,h.vo,h.all,h.lo⟩
theorem Many.typ {P:Nat → Sv → (Nat → Prop) → World → Prop} {B n:Nat} {F:Nat → Prop} {v:Value} {L:List Rc} {w:World} (hP:PLaw P) (h:Many P B n F v L w) (k:Nat) (hk:F k):∃ cs e fr,w.heap[k]? = some (.cells cs e fr) ∧ 38 ≠ e ∧ 9 ≠ e:=by
 rcases (h.all k).1 hk with e | ⟨i,hi,e⟩
 ·obtain ⟨cs,fr,hh⟩:=own_typ h.own e;exact ⟨_,_,_,hh,by decide,by decide⟩
 ·exact (h.ok i hi).cs.typ hP k e
def srvXs (P:Nat → Sv → (Nat → Prop) → World → Prop) (hP:PLaw P) (B:Nat):Xs where
 P n F v w:=∃ L,Many P B n F v L w
 up:=fun ⟨L,h⟩ hm => ⟨L,h.up hm⟩
 keep:=fun ⟨L,h⟩ hk => ⟨L,h.keep hP hk⟩
 typ:=fun ⟨_,h⟩ k hk => h.typ hP k hk
theorem many_none {P:Nat → Sv → (Nat → Prop) → World → Prop} {B:Nat} {w:World}:Many P B 0 (fun _ => False) (.slice none 0 0) [] w :=
 ⟨World.ownsRow_nil _ _ _ _,by simp,fun i h => by simp at h,fun i j h => by simp at h,fun i h => by simp at h,fun k => ⟨fun h => h.elim,fun h => by
  rcases h with h | ⟨i,h,_⟩
  ·simp [Value.ownBlock] at h
  ·simp at h⟩,fun k h => h.elim⟩
def RcPost (P:Nat → Sv → (Nat → Prop) → World → Prop) (n:Nat) (r:Rc) (w w':World):Prop:=∃ r',Rc.Ok P n r' w' ∧ r'.bc = r.bc ∧ Off r.F w w' ∧ ∀ k,r'.F k → r.F k ∨ w.heap.size ≤ k
theorem RcPost.from {P:Nat → Sv → (Nat → Prop) → World → Prop} {n:Nat} {r:Rc} {w V w':World} (h:RcPost P n r V w') (hb:Below w.heap.size w V):RcPost P n r w w':=by
 obtain ⟨r',a,b,c,d⟩:=h
 have sz:=hb.size
 refine ⟨r',a,b,(Off.of_below hb).trans c (fun k _ e => e),fun k e => ?_⟩
 rcases d k e with q | q
 ·exact .inl q
 ·exact .inr (by omega)
theorem RcPost.of_below {P:Nat → Sv → (Nat → Prop) → World → Prop} {n m:Nat} {r:Rc} {w w':World} (hP:PLaw P) (h:r.Ok P n w) (hb:Below w.heap.size w w') (hm:n ≤ m):RcPost P m r w w' :=
 ⟨r,(h.keep hP (fun k e => hb.block k (h.low hP k e))).up hm,rfl,Off.of_below hb,fun _ e => .inl e⟩
theorem Many.turn {P:Nat → Sv → (Nat → Prop) → World → Prop} {B n m:Nat} {F:Nat → Prop} {v:Value} {L:List Rc} {w w':World} (hP:PLaw P) (h:Many P B n F v L w) (i:Nat) (hi:i < L.length) (hp:RcPost P m L[i] w w') (hm:n ≤ m) (hB:B ≤ w.heap.size) :
  ∃ F' L',Many P B m F' v L' w' ∧ ∀ k,F' k → F k ∨ w.heap.size ≤ k:=by
 obtain ⟨r',ok',bc',off,ff⟩:=hp
 have sz:=off.size
 have hlen:(L.set i r').length = L.length:=List.length_set
 have at1:∀ j (hj:j < (L.set i r').length),j ≠ i → (L.set i r')[j] = L[j]'(by omega):=fun j hj e => by
  rw [List.getElem_set_ne (by omega)]
 have at2:∀ (hj:i < (L.set i r').length),(L.set i r')[i] = r':=fun hj => by simp
 have vlo:∀ k,v.ownBlock = some k → k < w.heap.size:=fun k e => by obtain ⟨_,_,hh⟩:=own_typ h.own e;exact lt_of_heap hh
 have key:∀ k,(v.ownBlock = some k ∨ ∃ j,∃ hj:j < (L.set i r').length,(L.set i r')[j].F k) → F k ∨ w.heap.size ≤ k:=fun k e => by
  rcases e with e | ⟨j,hj,e⟩
  ·exact .inl ((h.all k).2 (.inl e))
  ·by_cases c:j = i
   ·subst c
    rw [at2] at e
    rcases ff k e with q | q
    ·exact .inl ((h.all k).2 (.inr ⟨j,hi,q⟩))
    ·exact .inr q
   ·rw [at1 j hj c] at e
    exact .inl ((h.all k).2 (.inr ⟨j,by omega,e⟩))
 refine ⟨fun k => v.ownBlock = some k ∨ ∃ j,∃ hj:j < (L.set i r').length,(L.set i r')[j].F k,L.set i r',⟨?_,by rw [hlen];have:=h.len;omega,fun j hj => ?_,fun j l hj hl e => ?_,fun j hj k e => ?_,fun k => Iff.rfl,fun k e => ?_⟩,key⟩
 ·have e1:(L.set i r').map Rc.ptr = L.map Rc.ptr:=by
   rw [List.map_set]
   have:r'.ptr = (L.map Rc.ptr)[i]'(by simpa using hi):=by simp [Rc.ptr,bc']
   rw [this,List.set_getElem_self]
  rw [e1,hlen]
  exact off.own h.own (fun k e q => h.vo i hi k q e)
 ·by_cases c:j = i
  ·subst c;rw [at2];exact ok'
  ·rw [at1 j hj c]
   refine ((h.ok j (by omega)).keep hP (fun k e => off.block k ((h.ok j (by omega)).low hP k e) (fun q => h.ap j i (by omega) hi c k e q))).up hm
 ·by_cases c:j = i
  ·subst c
   by_cases d:l = j
   ·exact absurd d.symm e
   ·rw [at2,at1 l hl d]
    intro k a b
    rcases ff k a with q | q
    ·exact h.ap j l hi (by omega) e k q b
    ·have:=(h.ok l (by omega)).low hP k b;omega
  ·rw [at1 j hj c]
   by_cases d:l = i
   ·subst d
    rw [at2]
    intro k a b
    rcases ff k b with q | q
    ·exact h.ap j l (by omega) hi c k a q
    ·have:=(h.ok j (by omega)).low hP k a;omega
   ·rw [at1 l hl d];exact h.ap j l (by omega) (by omega) e
 ·by_cases c:j = i
  ·subst c
   rw [at2] at e
   intro q
   rcases ff k e with a | a
   ·exact h.vo j hi k a q
   ·have:=vlo k q;omega
  ·rw [at1 j hj c] at e
   exact h.vo j (by omega) k e
 ·rcases key k e with q | q
  ·exact h.lo k q
  ·omega
theorem Many.add {P:Nat → Sv → (Nat → Prop) → World → Prop} {B n m:Nat} {F:Nat → Prop} {v v':Value} {L:List Rc} {r:Rc} {w w1 w':World} (hP:PLaw P) (h:Many P B n F v L w) (hb:Below w.heap.size w w1) (hr:r.Ok P m w1) (hf:∀ k,r.F k → w.heap.size ≤ k) (hg:w1.grownBy w' v.ownBlock) (ho:w'.ownsRow B 40 1 v' (L.length + 1) (L.map Rc.ptr ++ [r.ptr])) (hv:∀ k,v'.ownBlock = some k → v.ownBlock = some k ∨ w1.heap.size ≤ k) (hm:n < m) (hB:B ≤ w.heap.size) :
  ∃ F' L',Many P B m F' v' L' w' ∧ ∀ k,F' k → F k ∨ w.heap.size ≤ k:=by
 have sz:=hb.size
 have sz2:=hg.size
 have vlo:∀ k,v.ownBlock = some k → k < w.heap.size:=fun k e => by obtain ⟨_,_,hh⟩:=own_typ h.own e;exact lt_of_heap hh
 have hlen:(L ++ [r]).length = L.length + 1:=by simp
 have at1:∀ j (hj:j < (L ++ [r]).length) (q:j < L.length),(L ++ [r])[j] = L[j]:=fun j hj q => List.getElem_append_left q
 have at2:∀ j (hj:j < (L ++ [r]).length),¬ j < L.length → (L ++ [r])[j] = r:=fun j hj q => by
  have:j = L.length:=by omega
  subst this;simp
 have key:∀ k,(v'.ownBlock = some k ∨ ∃ j,∃ hj:j < (L ++ [r]).length,(L ++ [r])[j].F k) → F k ∨ w.heap.size ≤ k:=fun k e => by
  rcases e with e | ⟨j,hj,e⟩
  ·rcases hv k e with q | q
   ·exact .inl ((h.all k).2 (.inl q))
   ·exact .inr (by omega)
  ·by_cases c:j < L.length
   ·rw [at1 j hj c] at e
    exact .inl ((h.all k).2 (.inr ⟨j,c,e⟩))
   ·rw [at2 j hj c] at e
    exact .inr (hf k e)
 refine ⟨fun k => v'.ownBlock = some k ∨ ∃ j,∃ hj:j < (L ++ [r]).length,(L ++ [r])[j].F k,L ++ [r],⟨?_,by rw [hlen];have:=h.len;omega,fun j hj => ?_,fun j l hj hl e => ?_,fun j hj k e => ?_,fun k => Iff.rfl,fun k e => ?_⟩,key⟩
 ·rw [List.map_append,hlen];exact ho
 ·by_cases c:j < L.length
  ·rw [at1 j hj c]
   refine ((h.ok j c).keep hP (fun k e => ?_)).up (by omega)
   have lk:=(h.ok j c).low hP k e
   exact (hg.block k (by omega) (fun q => h.vo j c k e q.symm)).trans (hb.block k lk)
  ·rw [at2 j hj c]
   refine hr.keep hP (fun k e => ?_)
   have lk:=hr.low hP k e
   have:=hf k e
   exact hg.block k lk (fun q => by have:=vlo k q.symm;omega)
 ·by_cases c:j < L.length
  ·rw [at1 j hj c]
   by_cases d:l < L.length
   ·rw [at1 l hl d];exact h.ap j l c d e
   ·rw [at2 l hl d]
    intro k a b
    have:=hf k b
    have:=(h.ok j c).low hP k a
    omega
  ·rw [at2 j hj c]
   by_cases d:l < L.length
   ·rw [at1 l hl d]
    intro k a b
    have:=hf k a
    have:=(h.ok l d).low hP k b
    omega
   ·omega
 ·intro q
  by_cases c:j < L.length
  ·rw [at1 j hj c] at e
   rcases hv k q with a | a
   ·exact h.vo j c k e a
   ·have:=(h.ok j c).low hP k e;omega
  ·rw [at2 j hj c] at e
   have:=hf k e
   rcases hv k q with a | a
   ·have:=vlo k a;omega
   ·have:=hr.low hP k e;omega
 ·rcases key k e with q | q
  ·exact h.lo k q
  ·omega
theorem TurnP.post {P:Nat → Sv → (Nat → Prop) → World → Prop} {n:Nat} {r:Rc} {s':Sv} {w w':World} (h:TurnP P r.bc r.bx r.by' r.br r.hs.length (1000 * (r.hs.length:Int)) s' r.F w w') (hi:s'.Inv) (hr:s'.ref ≤ (n + 1:Nat)) (hn:r.hs.length ≤ 2 * n + 2):RcPost P (n + 1) r w w':=by
 obtain ⟨hv,hs,Fx,Fy,Fr,Fv,c,l,o,f⟩:=h
 refine ⟨⟨r.bc,r.bx,r.by',r.br,hv,hs,s',Fx,Fy,Fr,Fv⟩,⟨?_,by show hs.length ≤ _;omega,hi,hr⟩,rfl,o,f⟩
 have e:1000 * (r.hs.length:Int) + 2000 = 1000 * (hs.length:Int):=by rw [l];omega
 rw [e] at c
 exact c
theorem inv_turn {P:Nat → Sv → (Nat → Prop) → World → Prop} (hP:PLaw P) {B bW n m:Nat} {w w':World} {tv lv xv:Value} {F:Nat → Prop} {ts:List ByteArray} {ls:List (Int × Int)} {up ex se fr:Int} {L:List Rc} (le:B ≤ bW) (hb:Blk bW tv up ex lv se fr xv w) (ht:w.ownsRow B 9 1 tv ts.length (ts.map Value.string))
  (hl:w.ownsRow B 46 2 lv ls.length (flat ls)) (h1:ts.length ≤ n) (h2:ls.length ≤ n + 40) (h3:Nums ts ls up ex se fr) (h4:Many P B n F xv L w) (h5:∀ k,F k → lv.ownBlock ≠ some k) (i:Nat) (hi:i < L.length) (hp:RcPost P m L[i] w w') (hm:n ≤ m) (hB:B ≤ w.heap.size) :
  Inv (srvXs P hP B) B bW m w' ∧ Below B w w':=by
 obtain ⟨F',L',mn,ff⟩:=h4.turn hP i hi hp hm hB
 obtain ⟨r',_,_,off,_⟩:=hp
 have sub:∀ k,L[i].F k → F k:=fun k e => (h4.all k).2 (.inr ⟨i,hi,e⟩)
 have nw:∀ k,L[i].F k → ∀ cs e f,w.heap[k]? = some (.cells cs e f) → 38 ≠ e ∧ 9 ≠ e:=fun k q cs e f hh => by
  obtain ⟨cs',e',f',hh',a,b⟩:=h4.typ hP k (sub k q)
  rw [hh] at hh'
  cases hh'
  exact ⟨a,b⟩
 refine ⟨⟨le,tv,lv,xv,F',ts,ls,up,ex,se,fr,?_,?_,?_,by omega,by omega,h3,⟨⟨L',mn⟩,fun k e q => ?_⟩⟩,off.below (fun k e => h4.lo k (sub k e)) hB⟩
 ·exact off.heap hb (fun q => (nw bW q _ _ _ hb).1 rfl)
 ·refine off.own ht (fun k e q => ?_)
  obtain ⟨cs,f,hh⟩:=own_typ ht e
  exact (nw k q _ _ _ hh).2 rfl
 ·exact off.own hl (fun k e q => h5 k (sub k q) e)
 ·obtain ⟨cs,f,hh⟩:=own_typ hl q
  have:=lt_of_heap hh
  rcases ff k e with a | a
  ·exact h5 k a q
  ·omega
set_option maxRecDepth 100000 in
set_option maxHeartbeats 3200000 in
theorem step_srv {P:Nat → Sv → (Nat → Prop) → World → Prop} (hP:PLaw P) (B bW n:Nat) (o:Op) (w:World) (ho:o.Ok) (hn:n ≤ 90000) (hk:17 ≤ o.kind) (hk2:o.kind ≤ 22) (hI:Inv (srvXs P hP B) B bW n w) (hB:B ≤ w.heap.size)
  (hD:∀ r W t,Rc.Ok P n r W → (∀ k,r.F k → B ≤ k) → Below B w W → t.size ≤ 16384 → Calls Tryz.prog 20 #[.pointer (some ⟨r.bc,0,none⟩),.agg #[.int .i64 o.kind,.int .i64 o.x,.int .i64 o.a,.int .i64 o.b,.int .i64 o.c,.int .i64 o.d,.string o.s],.string t] W fun e w' => e = .returned (.bool true) ∧ RcPost P (n + 1) r W w') :
  Calls Tryz.prog 15 #[.pointer (some ⟨bW,0,none⟩),.agg #[.int .i64 o.kind,.int .i64 o.x,.int .i64 o.a,.int .i64 o.b,.int .i64 o.c,.int .i64 o.d,.string o.s]] w fun e w' => e = .returned (.bool true) ∧ Inv (srvXs P hP B) B bW (n + 1) w' ∧ Below B w w':=by
 have hOw:=owner_no B bW n o (w.alloc (.cells #[.int .i64 o.kind,.int .i64 o.x,.int .i64 o.a,.int .i64 o.b,.int .i64 o.c,.int .i64 o.d,.string o.s] 27)) (.inr (by omega)) (inv_alloc hI _) (by simp;omega)
 have HOw:=hid' hOw
 have HD:=hid' hD
 have HO:=hid' ho
 clear hOw hI hD ho
 obtain ⟨k,x,a,b,c,d,s⟩:=o
 simp only at *
 have z17:¬ k < 17:=by omega
 have z22:¬ 22 < k:=by omega
 have B0:=hid' ((Below.refl B w).alloc hB (.cells #[.int .i64 k,.int .i64 x,.int .i64 a,.int .i64 b,.int .i64 c,.int .i64 d,.string s] 27))
 go_enter Tryz.func15,Tryz.ntmps15
 go_wp2_with fail
 refine HOw.out.mono ?_
 rintro e w1 ⟨rfl,hI1,hk1,hb1⟩
 have hrow:=hk1.op _ _ _ (heap_alloc_new w (.cells #[.int .i64 k,.int .i64 x,.int .i64 a,.int .i64 b,.int .i64 c,.int .i64 d,.string s] 27))
 have B1:=hid' (B0.out.trans hb1)
 have HI1:=hid' hI1
 have lo:=lt_of_heap hrow
 obtain ⟨le,tv,lv,xv,F,ts,ls,up,ex,se,fr,hb,ht,hl,h1,h2,h3,⟨L,h4⟩,h5⟩:=hI1
 have c6:=hb.cell 6
 have lW:=hb.lt
 simp at c6
 have HTX:=hid' (fun m:Nat => text_any B bW n a (w1.drewN m) HO.out.a (by omega) (HI1.out.below (below_drewN (Below.refl _ _) m)))
 have HPK:=hid' (fun (l:Int) (W:World) => pick_val x l W HO.out.x)
 have p0:=cell_of_row _ _ 0 _ _ _ hrow
 have p1:=cell_of_row _ _ 1 _ _ _ hrow
 have p2:=cell_of_row _ _ 2 _ _ _ hrow
 have p3:=cell_of_row _ _ 3 _ _ _ hrow
 have p4:=cell_of_row _ _ 4 _ _ _ hrow
 have p5:=cell_of_row _ _ 5 _ _ _ hrow
 have p6:=cell_of_row _ _ 6 _ _ _ hrow
 simp at p0 p1 p2 p3 p4 p5 p6
 have HROW:=hid' hrow
 have HB:=hid' hb
 have HT:=hid' ht
 have HL:=hid' hl
 have H4:=hid' h4
 have H5:=hid' h5
 have hs1:=B1.out.size
 clear hk1 hb1 hrow HOw hb ht hl h4 h5
 by_cases hz:L.length = 0
 ·obtain ⟨ao,cap,hxv⟩:=own_slice H4.out.own
  rw [hz] at hxv
  rw [hxv] at c6
  clear hxv hz
  go_wp2
  go_ret
  exact ⟨rfl,HI1.out.up (Nat.le_succ _),B1.out⟩
 ·obtain ⟨g,cap,hxv,_,_⟩:=H4.out.own.form (by omega)
  rw [hxv] at c6
  have hp:=pk_bd x L.length (by omega)
  obtain ⟨q,hq⟩:=Int.eq_ofNat_of_zero_le hp.1
  have hq1:q < L.length:=by omega
  have hlen:=H4.out.len
  have hcell:w1.cell? ⟨g,q,none⟩ = some (.pointer (some ⟨L[q].bc,0,none⟩)):=by
   have ow:=H4.out.own
   rw [hxv] at ow
   rw [ow.cellAt q (by omega)];simp [hq1,Rc.ptr]
  have HP:∀ wx,Hid (Calls Tryz.prog 18 #[.int .i64 x,.int .i64 L.length] wx fun e w' => e = .returned (.int .i64 q) ∧ w' = wx):=by
   intro wx
   have:=HPK.out L.length wx (by omega) (by omega)
   rw [hq] at this
   exact this
  have RQ:=hid' (H4.out.ok q hq1)
  have RLO:=hid' (fun k e => H4.out.lo k ((H4.out.all k).2 (.inr ⟨q,hq1,e⟩)))
  have IT:=hid' (fun (m:Nat) (W w':World) (hw:W = w1.drewN m) (hp:RcPost P (n + 1) L[q] W w') => by
   rw [hw] at hp
   exact inv_turn hP le (HB.out) HT.out HL.out h1 h2 h3 H4.out H5.out q hq1 (hp.from (below_drewN (Below.refl _ _) m)) (Nat.le_succ n) (by omega))
  generalize hbc:L[q] = r at *
  have hqi:(q:Int) < (L.length:Int):=by omega
  have hq0:(0:Int) ≤ (q:Int):=by omega
  have hlz:((L.length:Int) == 0) = false:=by rw [beq_eq_false_iff_ne];omega
  clear hxv hp hq hbc hz HB HT HL H4 H5
  generalize L.length = len at *
  go_wp2_with fail
  go_quiet ((go_at_call 18;exact Calls.quiet_of_same (HP _).out))
  go_wp2_with fail
  refine (HTX.out _).mono ?_
  rintro e w3 ⟨t,m3,rfl,hts,hw3⟩
  have W3:=hid' (show w3 = w1.drewN (nq + m3) by rw [hw3,World.drewN_drewN])
  have BB:=hid' (show Below w1.heap.size w1 w3 by rw [W3.out];exact below_drewN (Below.refl _ _) _)
  have q0:=(BB.out.cell (p:=⟨w.heap.size,0,none⟩) lo).trans p0
  have q1:=(BB.out.cell (p:=⟨w.heap.size,1,none⟩) lo).trans p1
  have q2:=(BB.out.cell (p:=⟨w.heap.size,2,none⟩) lo).trans p2
  have q3:=(BB.out.cell (p:=⟨w.heap.size,3,none⟩) lo).trans p3
  have q4:=(BB.out.cell (p:=⟨w.heap.size,4,none⟩) lo).trans p4
  have q5:=(BB.out.cell (p:=⟨w.heap.size,5,none⟩) lo).trans p5
  have q6:=(BB.out.cell (p:=⟨w.heap.size,6,none⟩) lo).trans p6
  clear hw3 p0 p1 p2 p3 p4 p5 p6
  go_wp2_with fail
  refine (HD.out r w3 t (RQ.out.keep hP (fun k e => BB.out.block k (RQ.out.low hP k e))) RLO.out (B1.out.trans (BB.out.mono (Nat.le_trans hB hs1))) hts).mono ?_
  rintro e w4 ⟨rfl,hp4⟩
  have HI4:=hid' (IT.out _ w3 w4 W3.out hp4)
  clear hp4
  go_wp2
  go_ret
  exact ⟨rfl,HI4.out.1,B1.out.trans HI4.out.2⟩
theorem does_srv {P:Nat → Sv → (Nat → Prop) → World → Prop} (hP:PLaw P) {B n:Nat} {o:Op} {w:World} (ho:o.Ok) (hn:n ≤ 90000) (hk:17 ≤ o.kind) (hk2:o.kind ≤ 22)
  (hD:∀ r W t,Rc.Ok P n r W → (∀ k,r.F k → B ≤ k) → Below B w W → t.size ≤ 16384 → Calls Tryz.prog 20 #[.pointer (some ⟨r.bc,0,none⟩),.agg #[.int .i64 o.kind,.int .i64 o.x,.int .i64 o.a,.int .i64 o.b,.int .i64 o.c,.int .i64 o.d,.string o.s],.string t] W fun e w' => e = .returned (.bool true) ∧ RcPost P (n + 1) r W w'):Does (srvXs P hP B) B B n o w:=by
 intro w1 hI hB hb
 exact step_srv hP B B n o w1 ho hn hk hk2 hI hB (fun r W t a z b c => hD r W t a z (hb.trans b) c)
end Go.Proofs.YtmmkhodaljpjgaaGreatDoor
namespace Go.Proofs.YtmmkhodaljpjgaaGreatDoor
open Go.RowKit
attribute [local go_sem ↓] Go.wp_at_zero Go.wp_at_succ
theorem infoHeard:(Tryz.prog.info? 160).map (fun i => (i.zero,i.size,i.bytes)) = some (some (.agg #[.bool false,.int .i64 0,.int .i64 0,.int .i64 0]),4,32):=by kernel_rfl
theorem RSrv.putS {b:Nat} {s:Sv} {dv bv cv hv hv':Value} {w w1:World} {L:List Hd} (h:RSrv b s dv bv cv hv w) (hg:w.grownBy w1 hv.ownBlock) (ho:w1.ownsRow 0 160 4 hv' L.length (flatH L)) :
  RSrv b { s with said:=L } dv bv cv hv' (w1.setCell ⟨b,12,none⟩ hv'):=by
 have row:=grown_heap (t:=119) hg h.ss h.row (by decide)
 have kd:=own_grown h.dd hg h.ss (by decide)
 have kb:=own_grown h.bb hg h.ss (by decide)
 have kc:=own_grown h.cc hg h.ss (by decide)
 refine ⟨?_,own_set (p:=⟨b,12,none⟩) kd row (by decide) _,own_set (p:=⟨b,12,none⟩) kb row (by decide) _,own_set (p:=⟨b,12,none⟩) kc row (by decide) _,own_set (p:=⟨b,12,none⟩) ho row (by decide) _⟩
 rw [heap_setCell_same _ _ _ _ _ _ row];rfl
def Fresh (w:World) (b:Nat) (s:Sv) (w':World):Prop:=∃ hv,RSrv b s (.slice none 0 0) (.slice none 0 0) (.slice none 0 0) hv w' ∧ w.heap.size ≤ b ∧ (∀ k,hv.ownBlock = some k → w.heap.size ≤ k) ∧ Below w.heap.size w w'
def NewP (cf:Bool) (s:Sv) (w:World) (e:Ending) (w':World):Prop :=
 (cf = false → e = .returned (.tuple #[.pointer none,.int .i64 10]) ∧ Below w.heap.size w w') ∧ (cf = true → ∃ b,e = .returned (.tuple #[.pointer (some ⟨b,0,none⟩),.int .i64 0]) ∧ Fresh w b s w')
theorem init_row {w:World} {mode win fresh s f:Int}:RSrv w.heap.size (Sv.init mode win fresh s f 0) (.slice none 0 0) (.slice none 0 0) (.slice none 0 0) (.slice none 0 0)
  (w.alloc (.cells #[.int .i64 mode,.int .i64 win,.int .i64 fresh,.int .i64 s,.int .i64 f,.bool false,.int .i64 0,.int .i64 0,.slice none 0 0,.slice none 0 0,.slice none 0 0,.int .i64 0,.slice none 0 0] 119)) :=
 ⟨heap_alloc_new _ _,World.ownsRow_nil _ _ _ _,World.ownsRow_nil _ _ _ _,World.ownsRow_nil _ _ _ _,World.ownsRow_nil _ _ _ _⟩
set_option maxRecDepth 100000 in
set_option maxHeartbeats 6400000 in
theorem ref_new (mode win src fresh s f:Int) (w:World) (ww:(Lit.int .i64 win).wf = true) :
  Calls Tryz.prog 54 #[.int .i64 mode,.int .i64 win,.int .i64 src,.int .i64 fresh,.agg #[.int .i64 s,.int .i64 f]] w fun e w' =>
   NewP (cfgB mode win src fresh s f) (Sv.init mode win fresh s f src.toNat) w e w':=by
 have bw:=bounds_i64 ww
 have B0:=hid' ((Below.refl w.heap.size w).alloc (Nat.le_refl _) (.cells #[.int .i64 s,.int .i64 f] 35))
 have R0:=hid' (heap_alloc_new w (.cells #[.int .i64 s,.int .i64 f] 35))
 have IS:=hid' (fun W => ref_is s f W)
 have HCF:Hid (cfgB mode win src fresh s f = ((stepB mode win || smearB mode win) && decide (0 ≤ src ∧ src ≤ 8 ∧ 1 ≤ fresh ∧ fresh ≤ 604800) && isT s f)):=rfl
 have HST:Hid (stepB mode win = decide (mode = 0 ∧ win = 0)):=rfl
 have HSM:Hid (smearB mode win = decide ((mode = 1 ∨ mode = 2) ∧ 3600 ≤ win ∧ win ≤ 604800 ∧ win.tmod 2 = 0)):=rfl
 generalize cfgB mode win src fresh s f = cf at *
 generalize stepB mode win = st at *
 generalize smearB mode win = sm at *
 generalize isT s f = it at *
 clear ww
 go_enter Tryz.func54,Tryz.ntmps54
 go_upto_region 1 with fail
 go_cut [12] from 17 (fun s12 wx => s12 = .bool st ∧ wx = w.alloc (.cells #[.int .i64 s,.int .i64 f] 35))
 case first =>
  by_cases c1:mode = 0
  ·have e1:(mode == 0) = true:=by rw [c1];rfl
   by_cases c2:win = 0
   ·obtain rfl:st = true:=by rw [HST.out];exact decide_eq_true ⟨c1,c2⟩
    have e2:(win == 0) = true:=by rw [c2];rfl
    clear c1 c2
    go_wp2_with fail
    go_meet
    case rel => exact ⟨rfl,rfl⟩
   ·obtain rfl:st = false:=by rw [HST.out];exact decide_eq_false (fun h => c2 h.2)
    have e2:(win == 0) = false:=by rw [beq_eq_false_iff_ne];exact c2
    clear c1 c2
    go_wp2_with fail
    go_meet
    case rel => exact ⟨rfl,rfl⟩
  ·obtain rfl:st = false:=by rw [HST.out];exact decide_eq_false (fun h => c1 h.1)
   have e1:(mode == 0) = false:=by rw [beq_eq_false_iff_ne];exact c1
   clear c1
   go_wp2_with fail
   go_meet
   case rel => exact ⟨rfl,rfl⟩
 case rest =>
  obtain ⟨rfl,rfl⟩:=hcut
  go_upto_region 2 with fail
  go_cut [13] from 17 (fun s13 wx => s13 = .bool sm ∧ wx = w.alloc (.cells #[.int .i64 s,.int .i64 f] 35))
  case first =>
   have NO:∀ (h:¬ ((mode = 1 ∨ mode = 2) ∧ 3600 ≤ win ∧ win ≤ 604800 ∧ win.tmod 2 = 0)),sm = false:=fun h => by rw [HSM.out];exact decide_eq_false h
   have HNO:=hid' NO
   clear NO
   by_cases c0:mode = 1 ∨ mode = 2
   ·have e12:((mode == 1) = true) ∨ ((mode == 1) = false ∧ (mode == 2) = true):=by
     rcases c0 with c | c
     ·exact .inl (by rw [c];rfl)
     ·exact .inr ⟨by rw [c];rfl,by rw [c];rfl⟩
    by_cases c1:3600 ≤ win
    ·by_cases c2:win ≤ 604800
     ·by_cases c3:win.tmod 2 = 0
      ·obtain rfl:sm = true:=by rw [HSM.out];exact decide_eq_true ⟨c0,c1,c2,c3⟩
       have e3:(win % 2 == 0) = true:=by rw [Int.tmod_eq_emod_of_nonneg (by omega)] at c3;rw [c3];rfl
       have z:0 ≤ win:=by omega
       clear c0 c3
       rcases e12 with e1 | ⟨e1,e2⟩
       all_goals
        go_wp2_with fail
        go_meet
        case rel => exact ⟨rfl,rfl⟩
      ·obtain rfl:sm = false:=HNO.out (fun h => c3 h.2.2.2)
       have e3:(win % 2 == 0) = false:=by rw [Int.tmod_eq_emod_of_nonneg (by omega)] at c3;rw [beq_eq_false_iff_ne];exact c3
       have z:0 ≤ win:=by omega
       clear c0 c3
       rcases e12 with e1 | ⟨e1,e2⟩
       all_goals
        go_wp2_with fail
        go_meet
        case rel => exact ⟨rfl,rfl⟩
     ·obtain rfl:sm = false:=HNO.out (fun h => c2 h.2.2.1)
      clear c0
      rcases e12 with e1 | ⟨e1,e2⟩
      all_goals
       go_wp2_with fail
       go_meet
       case rel => exact ⟨rfl,rfl⟩
    ·obtain rfl:sm = false:=HNO.out (fun h => c1 h.2.1)
     clear c0
     rcases e12 with e1 | ⟨e1,e2⟩
     all_goals
      go_wp2_with fail
      go_meet
      case rel => exact ⟨rfl,rfl⟩
   ·obtain rfl:sm = false:=HNO.out (fun h => c0 h.1)
    have e1:(mode == 1) = false:=by rw [beq_eq_false_iff_ne];omega
    have e2:(mode == 2) = false:=by rw [beq_eq_false_iff_ne];omega
    clear c0
    go_wp2_with fail
    go_meet
    case rel => exact ⟨rfl,rfl⟩
  case rest =>
   obtain ⟨rfl,rfl⟩:=hcut
   go_wp2_with fail
   refine (IS.out _).mono ?_
   rintro e w1 ⟨rfl,hb1⟩
   have B1:=hid' (B0.out.trans (hb1.mono B0.out.size))
   have R1:=hid' ((hb1.block _ (by simp)).trans R0.out)
   clear hb1 IS
   go_upto_region 4 with fail
   go_cut [69] from 17 (fun s69 wx => s69 = .bool (!cf) ∧ wx = w1)
   case first =>
    have NO:∀ (h:¬ (0 ≤ src ∧ src ≤ 8 ∧ 1 ≤ fresh ∧ fresh ≤ 604800)),cf = false:=fun h => by rw [HCF.out,decide_eq_false h];simp
    have HNO:=hid' NO
    have H00:Hid (st = false → sm = false → cf = false):=fun h1 h2 => by rw [HCF.out,h1,h2];rfl
    have HYES:Hid ((st || sm) = true → (0 ≤ src ∧ src ≤ 8 ∧ 1 ≤ fresh ∧ fresh ≤ 604800) → cf = it):=fun h1 h2 => by rw [HCF.out,h1,decide_eq_true h2];rfl
    clear NO
    by_cases cz:st = false ∧ sm = false
    ·obtain rfl:cf = false:=H00.out cz.1 cz.2
     obtain ⟨rfl,rfl⟩:=cz
     go_wp2_with fail
     go_meet
     case rel => exact ⟨rfl,rfl⟩
    ·have oo:(st || sm) = true:=by
      cases st with
      | true => rfl
      | false =>
       cases sm with
       | true => rfl
       | false => exact absurd ⟨rfl,rfl⟩ cz
     by_cases d1:src < 0
     ·obtain rfl:cf = false:=HNO.out (by omega)
      cases st <;> cases sm <;> first
       | (exact absurd ⟨rfl,rfl⟩ cz)
       | (clear cz oo;go_wp2_with fail;go_meet;case rel => exact ⟨rfl,rfl⟩)
     ·by_cases d2:8 < src
      ·obtain rfl:cf = false:=HNO.out (by omega)
       cases st <;> cases sm <;> first
        | (exact absurd ⟨rfl,rfl⟩ cz)
        | (clear cz oo;go_wp2_with fail;go_meet;case rel => exact ⟨rfl,rfl⟩)
      ·by_cases d3:fresh < 1
       ·obtain rfl:cf = false:=HNO.out (by omega)
        cases st <;> cases sm <;> first
         | (exact absurd ⟨rfl,rfl⟩ cz)
         | (clear cz oo;go_wp2_with fail;go_meet;case rel => exact ⟨rfl,rfl⟩)
       ·by_cases d4:604800 < fresh
        ·obtain rfl:cf = false:=HNO.out (by omega)
         cases st <;> cases sm <;> first
          | (exact absurd ⟨rfl,rfl⟩ cz)
          | (clear cz oo;go_wp2_with fail;go_meet;case rel => exact ⟨rfl,rfl⟩)
        ·obtain rfl:cf = it:=HYES.out oo (by omega)
         cases cf <;> cases st <;> cases sm <;> first
          | (exact absurd ⟨rfl,rfl⟩ cz)
          | (clear cz oo;go_wp2_with fail;go_meet;case rel => exact ⟨rfl,rfl⟩)
   case rest =>
    obtain ⟨rfl,rfl⟩:=hcut
    rename World => W1
    cases cf with
    | false =>
     go_wp2
     go_ret2
     exact ⟨fun _ => ⟨rfl,B1.out⟩,fun h => by cases h⟩
    | true =>
     obtain ⟨hs0,hs8⟩:0 ≤ src ∧ src ≤ 8:=by
      by_cases c:0 ≤ src ∧ src ≤ 8 ∧ 1 ≤ fresh ∧ fresh ≤ 604800
      ·exact ⟨c.1,c.2.1⟩
      ·have:=HCF.out;rw [decide_eq_false c] at this;simp at this
     obtain ⟨n,rfl⟩:=Int.eq_ofNat_of_zero_le hs0
     have t0:=cell_of_row _ _ 0 _ _ _ R1.out
     have t1:=cell_of_row _ _ 1 _ _ _ R1.out
     simp at t0 t1
     obtain ⟨i0,hi0,hz0,hz1,hz2⟩:=info_parts infoHeard
     have I0:=hid' (init_row (w:=W1) (mode:=mode) (win:=win) (fresh:=fresh) (s:=s) (f:=f))
     have BA:=hid' (B1.out.alloc B1.out.size (.cells #[.int .i64 mode,.int .i64 win,.int .i64 fresh,.int .i64 s,.int .i64 f,.bool false,.int .i64 0,.int .i64 0,.slice none 0 0,.slice none 0 0,.slice none 0 0,.int .i64 0,.slice none 0 0] 119))
     have HW1:=hid' B1.out.size
     go_wp2_with fail
     go_loopw [16] (fun i wr => ∃ k:Nat,k ≤ n ∧ i = .int .i64 k ∧ Fresh w W1.heap.size (Sv.init mode win fresh s f k) wr) (fun i _ => n - (intOf i).toNat)
     case atStart => exact ⟨0,by omega,rfl,_,I0.out,HW1.out,fun k e => by simp [Value.ownBlock] at e,BA.out⟩
     case round =>
      obtain ⟨k,hk,rfl,hv,hr,hge,hvg,hbel⟩:=hrel
      have R2:=hid' hr
      have B2:=hid' hbel
      have HVG:=hid' hvg
      have q12:=cell_of_row _ _ 12 _ _ _ hr.row
      have f12:=frozen_of_row _ _ 12 _ _ hr.row
      have lb:=lt_of_heap hr.row
      obtain ⟨ha,hcp,hhv⟩:=own_slice hr.ss
      have hln:(Sv.init mode win fresh s f k).said.length = k:=by simp [Sv.init]
      rw [hln] at hhv
      subst hhv
      simp at q12
      clear hr hbel hvg
      by_cases hlt:k < n
      ·have z1:(k:Int) < (n:Int):=by omega
       have fz:∀ o,(wr.alloc o).frozen? ⟨W1.heap.size,12,none⟩ = false:=fun o => frozen_of_row _ _ 12 _ _ ((Keep.refl _ wr).alloc o _ _ _ R2.out.row)
       go_wp2_with (at_builtin;refine wpList_append_lies _ (by rfl) (.tmp 85) (.tmp 87) 117 (by rfl) 0 160 i0 (.agg #[.bool false,.int .i64 0,.int .i64 0,.int .i64 0]) 4 32 Tryz.underlying117 hi0 hz0 hz1 hz2 rfl (by decide) (.slice ha k hcp) k (flatH (List.replicate k noHd)) (by rfl) (by have:=R2.out.ss;rw [hln] at this;exact this.alloc _) ⟨wr.heap.size,0,none⟩ 1 1 [.bool false,.int .i64 0,.int .i64 0,.int .i64 0] (by rfl) (by rfl) (World.news_of_block (cs:=#[.bool false,.int .i64 0,.int .i64 0,.int .i64 0]) (heap_alloc_new wr _)) (by simp [Value.oneCell']) (by decide) (by unfold maxLen;omega) (by omega) (by omega) (wr.heap.size + 1) (by simp) ?_;intro gg cap6 w6 own6 hg6 hat6 hlt6;have S6:=hid' (grown_heap (t:=119) hg6 (by have:=R2.out.ss;rw [hln] at this;exact this.alloc _) ((Keep.refl _ wr).alloc _ _ _ _ R2.out.row) (by decide));have c612:=cell_of_row _ _ 12 _ _ _ S6.out;have f612:=frozen_of_row _ _ 12 _ _ S6.out;(simp at c612);have OWN6:=hid' own6;have HG6:=hid' hg6;have HAT6:=hid' hat6;clear own6 hg6 hat6)
       go_roundw
       case rel =>
        refine ⟨_,_,_,_,_,_,_,_,_,_,_,_,_,_,_,_,⟨k + 1,by omega,?_,.slice (some ⟨gg,0,none⟩) (k + 1) cap6,?_,hge,fun q e => ?_,?_⟩,rfl⟩
        ·go_num
        ·have o6:=OWN6.out
         have e:flatH (List.replicate k noHd) ++ [.bool false,.int .i64 0,.int .i64 0,.int .i64 0] = flatH (List.replicate (k + 1) noHd):=by
          rw [← rep_succ,flatH_append];rfl
         rw [e] at o6
         have ra:RSrv W1.heap.size (Sv.init mode win fresh s f k) (.slice none 0 0) (.slice none 0 0) (.slice none 0 0) (.slice ha k hcp) (wr.alloc (.cells #[.bool false,.int .i64 0,.int .i64 0,.int .i64 0] 160)):=R2.out.below ((Below.refl _ _).alloc (Nat.le_refl _) _)
         exact ra.putS (L:=List.replicate (k + 1) noHd) HG6.out (by rw [List.length_replicate];exact o6)
        ·obtain rfl:gg = q:=by simpa [Value.ownBlock] using e
         have:=B2.out.size
         rcases HAT6.out with h | h
         ·exact HVG.out _ h
         ·omega
        ·exact ((B2.out.alloc B2.out.size _).grown HG6.out (by have:=B2.out.size;simp;omega) HVG.out).setCell (p:=⟨W1.heap.size,12,none⟩) hge _
       case measure => simp [intOf];omega
      ·have ek:k = n:=by omega
       have z1:¬ (k:Int) < (n:Int):=by omega
       go_wp2
       go_ret2
       refine ⟨fun h => (by cases h),fun _ => ⟨W1.heap.size,rfl,?_⟩⟩
       first | rw [Int.toNat_natCast,← ek] | rw [← ek]
       exact ⟨_,R2.out,hge,HVG.out,B2.out⟩
end Go.Proofs.YtmmkhodaljpjgaaGreatDoor
namespace Go.Proofs.YtmmkhodaljpjgaaGreatDoor
open Go.RowKit
theorem cs_new {P:Nat → Sv → (Nat → Prop) → World → Prop} (hP:PLaw P) {W:World} {bx by' br a b c:Nat} {s:Sv} {Fx Fy:Nat → Prop} {dv bv cv rh:Value} (x:P bx s Fx W) (fx:∀ k,Fx k → a ≤ k ∧ k < b) (y:P by' s Fy W) (fy:∀ k,Fy k → b ≤ k ∧ k < c) (r:RSrv br s dv bv cv rh W) (fr:∀ k,rFoot br dv bv cv rh k → c ≤ k) (hbc:b ≤ c) (hc:c ≤ W.heap.size) :
  CS P W.heap.size bx by' br (.slice none 0 0) 0 [] s s s Fx Fy (rFoot br dv bv cv rh) (fun k => k = W.heap.size) (W.alloc (.cells #[.pointer (some ⟨bx,0,none⟩),.pointer (some ⟨by',0,none⟩),.pointer (some ⟨br,0,none⟩),.slice none 0 0,.int .i64 0] 60)):=by
 have ba:=(Below.refl W.heap.size W).alloc (Nat.le_refl _) (.cells #[.pointer (some ⟨bx,0,none⟩),.pointer (some ⟨by',0,none⟩),.pointer (some ⟨br,0,none⟩),.slice none 0 0,.int .i64 0] 60)
 have rl:∀ k,rFoot br dv bv cv rh k → k < W.heap.size:=fun k e => by obtain ⟨_,_,_,hh,_⟩:=r.typ e;exact lt_of_heap hh
 refine ⟨heap_alloc_new _ _,World.ownsRow_nil _ _ _ _,fun v h => (by cases h),hP.keep x (fun k e => ba.block k (by have:=fx k e;omega)),hP.keep y (fun k e => ba.block k (by have:=fy k e;omega)),⟨dv,bv,cv,rh,r.below ba,fun k => Iff.rfl⟩,fun k => ⟨fun e => .inl e,fun e => ?_⟩,fun k e q => ?_,fun k e q => ?_,fun k e q => ?_,fun k e q => ?_,fun k e q => ?_,fun k e q => ?_⟩
 ·rcases e with e | e | ⟨v,h,_⟩
  ·exact e
  ·simp [Value.ownBlock] at e
  ·cases h
 ·have:=fx k e;have:=fy k q;omega
 ·have:=fx k e;have:=fr k q;omega
 ·have:=fx k e;have q':k = W.heap.size:=q;omega
 ·have:=fy k e;have:=fr k q;omega
 ·have:=fy k e;have q':k = W.heap.size:=q;omega
 ·have:=rl k e;have q':k = W.heap.size:=q;omega
def MadeP (P:Nat → Sv → (Nat → Prop) → World → Prop) (w:World) (e:Ending) (w':World):Prop :=
 ∃ pv,e = .returned (.tuple #[pv,.bool true]) ∧ Below w.heap.size w w' ∧ (pv = .pointer none ∨ ∃ r:Rc,r.Ok P 0 w' ∧ (∀ k,r.F k → w.heap.size ≤ k) ∧ pv = .pointer (some ⟨r.bc,0,none⟩))
set_option maxRecDepth 100000 in
set_option maxHeartbeats 6400000 in
theorem made_any {P:Nat → Sv → (Nat → Prop) → World → Prop} (hP:PLaw P) (mode win src fresh s f:Int) (w:World) (ww:(Lit.int .i64 win).wf = true) (hN:PNews P mode win src fresh s f) (hsee:∀ b s F W,P b s F W → s.Inv → Shows b s W) :
  Calls Tryz.prog 27 #[.int .i64 mode,.int .i64 win,.int .i64 src,.int .i64 fresh,.agg #[.int .i64 s,.int .i64 f]] w fun e w' => MadeP P w e w':=by
 have HN:=hid' hN
 have HR:=hid' (fun W => ref_new mode win src fresh s f W ww)
 have HII:=hid' (fun h => init_inv (mode:=mode) (win:=win) (src:=src) (fresh:=fresh) (s:=s) (f:=f) h)
 have HS:=hid' hsee
 clear hN hsee ww
 go_enter Tryz.func27,Tryz.ntmps27
 go_upto_region 2 with fail
 have B0:=hid' (((Below.refl w.heap.size w).alloc (Nat.le_refl _) (.cells #[.int .i64 s,.int .i64 f] 35)).alloc (by simp) (.cells #[.int .i64 mode,.int .i64 win,.int .i64 src,.int .i64 fresh,.int .i64 s,.int .i64 f] 100))
 have T0:=hid' (heap_alloc2_old w (.cells #[.int .i64 s,.int .i64 f] 35) (.cells #[.int .i64 mode,.int .i64 win,.int .i64 src,.int .i64 fresh,.int .i64 s,.int .i64 f] 100))
 have C0:=hid' (heap_alloc2_new w (.cells #[.int .i64 s,.int .i64 f] 35) (.cells #[.int .i64 mode,.int .i64 win,.int .i64 src,.int .i64 fresh,.int .i64 s,.int .i64 f] 100))
 generalize hV:((w.alloc (.cells #[.int .i64 s,.int .i64 f] 35)).alloc (.cells #[.int .i64 mode,.int .i64 win,.int .i64 src,.int .i64 fresh,.int .i64 s,.int .i64 f] 100)) = V at *
 clear hV
 have c0:=cell_of_row _ _ 0 _ _ _ C0.out
 have c1:=cell_of_row _ _ 1 _ _ _ C0.out
 have c2:=cell_of_row _ _ 2 _ _ _ C0.out
 have c3:=cell_of_row _ _ 3 _ _ _ C0.out
 have c4:=cell_of_row _ _ 4 _ _ _ C0.out
 have c5:=cell_of_row _ _ 5 _ _ _ C0.out
 simp at c0 c1 c2 c3 c4 c5
 have s0:=B0.out.size
 go_wp2_with fail
 refine (HN.out _).mono ?_
 rintro e w1 ⟨no1,yes1⟩
 cases hcf:cfgB mode win src fresh s f with
 | false =>
  obtain ⟨rfl,hb1⟩:=no1 hcf
  have HN2:=hid' (fun W => (HN.out W).mono (fun e w' h => h.1 hcf))
  have HR2:=hid' (fun W => (HR.out W).mono (fun e w' h => h.1 hcf))
  have B1:=hid' (B0.out.trans (hb1.mono s0))
  have C1:=hid' ((hb1.block _ (lt_of_heap C0.out)).trans C0.out)
  have T1:=hid' ((hb1.block _ (lt_of_heap T0.out)).trans T0.out)
  have s1:=B1.out.size
  clear no1 yes1 hb1 c0 c1 c2 c3 c4 c5
  have c0:=cell_of_row _ _ 0 _ _ _ C1.out
  have c1:=cell_of_row _ _ 1 _ _ _ C1.out
  have c2:=cell_of_row _ _ 2 _ _ _ C1.out
  have c3:=cell_of_row _ _ 3 _ _ _ C1.out
  have c4:=cell_of_row _ _ 4 _ _ _ C1.out
  have c5:=cell_of_row _ _ 5 _ _ _ C1.out
  simp at c0 c1 c2 c3 c4 c5
  go_wp2_with fail
  refine (HN2.out _).mono ?_
  rintro e w2 ⟨rfl,hb2⟩
  have B2:=hid' (B1.out.trans (hb2.mono s1))
  have T2:=hid' ((hb2.block _ (lt_of_heap T1.out)).trans T1.out)
  have s2:=B2.out.size
  clear hb2 c0 c1 c2 c3 c4 c5
  have t0:=cell_of_row _ _ 0 _ _ _ T2.out
  have t1:=cell_of_row _ _ 1 _ _ _ T2.out
  simp at t0 t1
  go_wp2_with fail
  refine (HR2.out _).mono ?_
  rintro e w3 ⟨rfl,hb3⟩
  have B3:=hid' (B2.out.trans (hb3.mono s2))
  clear hb3 t0 t1
  go_wp2_with (go_at_call 34;refine (num_any _ _).mono ?_;rintro e w6 ⟨rfl,rfl⟩)
  go_ret2
  exact ⟨_,rfl,B3.out,.inl rfl⟩
 | true =>
  obtain ⟨bx,Fx,rfl,px,fx,hb1⟩:=yes1 hcf
  have HN2:=hid' (fun W => (HN.out W).mono (fun e w' h => h.2 hcf))
  have HR2:=hid' (fun W => (HR.out W).mono (fun e w' h => h.2 hcf))
  have INV:=hid' (HII.out hcf)
  have B1:=hid' (B0.out.trans (hb1.mono s0))
  have C1:=hid' ((hb1.block _ (lt_of_heap C0.out)).trans C0.out)
  have T1:=hid' ((hb1.block _ (lt_of_heap T0.out)).trans T0.out)
  have s1:=B1.out.size
  have PX:=hid' px
  have FX:=hid' fx
  clear no1 yes1 hb1 c0 c1 c2 c3 c4 c5 px fx
  have c0:=cell_of_row _ _ 0 _ _ _ C1.out
  have c1:=cell_of_row _ _ 1 _ _ _ C1.out
  have c2:=cell_of_row _ _ 2 _ _ _ C1.out
  have c3:=cell_of_row _ _ 3 _ _ _ C1.out
  have c4:=cell_of_row _ _ 4 _ _ _ C1.out
  have c5:=cell_of_row _ _ 5 _ _ _ C1.out
  simp at c0 c1 c2 c3 c4 c5
  go_wp2_with fail
  refine (HN2.out _).mono ?_
  rintro e w2 ⟨by',Fy,rfl,py,fy,hb2⟩
  have B2:=hid' (B1.out.trans (hb2.mono s1))
  have T2:=hid' ((hb2.block _ (lt_of_heap T1.out)).trans T1.out)
  have s2:=B2.out.size
  have LX:∀ k,Fx k → k < w1.heap.size:=fun k e => by obtain ⟨_,_,_,hh,_⟩:=hP.low PX.out k e;exact lt_of_heap hh
  have PX2:=hid' (hP.keep PX.out (fun k e => hb2.block k (LX k e)))
  have HLX:=hid' LX
  have PY:=hid' py
  have FY:=hid' fy
  have s12:=hb2.size
  clear hb2 c0 c1 c2 c3 c4 c5 py fy LX PX
  have t0:=cell_of_row _ _ 0 _ _ _ T2.out
  have t1:=cell_of_row _ _ 1 _ _ _ T2.out
  simp at t0 t1
  go_wp2_with fail
  refine (HR2.out _).mono ?_
  rintro e w3 ⟨br,rfl,rh,rr,rb,rs,hb3⟩
  have B3:=hid' (B2.out.trans (hb3.mono s2))
  have LY:∀ k,Fy k → k < w2.heap.size:=fun k e => by obtain ⟨_,_,_,hh,_⟩:=hP.low PY.out k e;exact lt_of_heap hh
  have PX3:=hid' (hP.keep PX2.out (fun k e => hb3.block k (by have:=HLX.out k e;omega)))
  have PY3:=hid' (hP.keep PY.out (fun k e => hb3.block k (LY k e)))
  have FR:∀ k,rFoot br (.slice none 0 0) (.slice none 0 0) (.slice none 0 0) rh k → w2.heap.size ≤ k:=fun k e => by
   rcases e with e | e | e | e | e
   ·omega
   ·simp [Value.ownBlock] at e
   ·simp [Value.ownBlock] at e
   ·simp [Value.ownBlock] at e
   ·exact rs k e
  have s23:=hb3.size
  have CSN:=hid' (cs_new (a:=V.heap.size) (b:=w1.heap.size) (c:=w2.heap.size) hP PX3.out (fun k e => ⟨FX.out k e,HLX.out k e⟩) PY3.out (fun k e => ⟨FY.out k e,LY k e⟩) rr FR (by omega) (by omega))
  have ba:=(Below.refl w3.heap.size w3).alloc (Nat.le_refl _) (.cells #[.pointer (some ⟨bx,0,none⟩),.pointer (some ⟨by',0,none⟩),.pointer (some ⟨br,0,none⟩),.slice none 0 0,.int .i64 0] 60)
  have B4:=hid' (B3.out.trans (ba.mono B3.out.size))
  have HFR:=hid' FR
  have HLY:=hid' LY
  have RD:=hid' (reads_any w3.heap.size bx by' br bx (.slice none 0 0) _ _ _ _ 0 [] _ _ CSN.out.c CSN.out.hh CSN.out.ok (rr.below ba) (HS.out _ _ _ _ CSN.out.x INV.out) (by show ([]:List (Int × Int)).length ≤ 900;simp) (by show ([]:List Cm).length ≤ 900;simp) (by simp) (by omega) (by omega))
  clear hb3 t0 t1 LY rr rb rs FR ba
  go_wp2_with (first | (go_at_call 34;refine (num_any _ _).mono ?_;rintro e w6 ⟨rfl,hw6⟩;have hw7:=hw6.symm;subst hw7) | fail)
  refine RD.out.mono ?_
  rintro e w5 ⟨rfl,rp⟩
  have RP:=hid' rp
  clear rp RD
  go_wp2
  go_ret2
  obtain ⟨hv',v1,v2,F',cs5,of5,ff5⟩:=CSN.out.read hP RP.out
  have bl5:Below w.heap.size w w5:=B4.out.trans (of5.below (fun k e => by have e':k = w3.heap.size:=e;have:=B3.out.size;omega) B4.out.size)
  refine ⟨_,rfl,bl5,.inr ⟨⟨w3.heap.size,bx,by',br,hv',[v1,v2],_,Fx,Fy,_,F'⟩,⟨cs5,by simp,INV.out,by show (0:Int) ≤ ((0:Nat):Int);simp⟩,fun k e => ?_,rfl⟩⟩
  rcases e with e | e | e | e
  ·have:=FX.out k e;omega
  ·have:=FY.out k e;omega
  ·have:=HFR.out k e;omega
  ·have s3:=B3.out.size
   rcases ff5 k e with q | q
   ·have q':k = w3.heap.size:=q;omega
   ·simp at q;omega
end Go.Proofs.YtmmkhodaljpjgaaGreatDoor
