import Derived.Test.YtmmkhodaljpjgaaGreatDoorV07
import Derived.Test.YtmmkhodaljpjgaaGreatDoorV12
import Derived.Deep.RegionLaw
namespace Go.Proofs.YtmmkhodaljpjgaaGreatDoor
open Go.RowKit
attribute [local go_sem ↓] Go.wp_at_zero Go.wp_at_succ
theorem infoView:(Tryz.prog.info? 126).map (fun i => (i.zero,i.size,i.bytes)) = some (some (.agg #[.slice none 0 0,.slice none 0 0,.int .i64 0,.int .i64 0]),4,64):=by kernel_rfl
def MarkedP (w w':World) (bc bx by' br:Nat) (hv dv cv:Value) (m:Int) (hs:List Vw):Prop:=∃ hv' dv' cv':Value,
 w'.heap[bc]? = some (.cells #[.pointer (some ⟨bx,0,none⟩),.pointer (some ⟨by',0,none⟩),.pointer (some ⟨br,0,none⟩),hv',.int .i64 (m + 2000)] 60 (0,0)) ∧
 w'.ownsRow 0 126 4 hv' (hs.length + 2) (flatV (hs ++ [⟨dv,cv,m,0⟩,⟨dv',cv',m,m + 1000⟩])) ∧
 Marks w' 84 2 dv m 0 ∧ Marks w' 121 5 cv m 0 ∧ Marks w' 84 2 dv' m (m + 1000) ∧ Marks w' 121 5 cv' m (m + 1000) ∧
 Off (fun k => k = bc ∨ hv.ownBlock = some k ∨ dv.ownBlock = some k ∨ cv.ownBlock = some k) w w' ∧
 (∀ k,hv'.ownBlock = some k → hv.ownBlock = some k ∨ w.heap.size ≤ k) ∧ (∀ k,dv'.ownBlock = some k → dv.ownBlock = some k ∨ w.heap.size ≤ k) ∧ (∀ k,cv'.ownBlock = some k → cv.ownBlock = some k ∨ w.heap.size ≤ k)
theorem own_keep {w w':World} {B e size n:Nat} {v:Value} {xs:List Value} (h:w.ownsRow B e size v n xs) (hk:Keep e w w'):w'.ownsRow B e size v n xs:=by
 refine ⟨h.1,?_⟩
 rcases h.2 with h' | ⟨g,cap,cur,rfl,a,hh,b⟩
 ·exact .inl h'
 ·exact .inr ⟨g,cap,cur,rfl,a,hk _ _ _ hh,b⟩
theorem own_other {w:World} {B e size n:Nat} {v:Value} {xs:List Value} (h:w.ownsRow B e size v n xs) {p:Addr} (hp:v.ownBlock ≠ some p.block) (x:Value):(w.setCell p x).ownsRow B e size v n xs:=by
 refine ⟨h.1,?_⟩
 rcases h.2 with h' | ⟨g,cap,cur,rfl,a,hh,b⟩
 ·exact .inl h'
 ·refine .inr ⟨g,cap,cur,rfl,a,?_,b⟩
  rw [heap_setCell_other _ _ _ _ (by intro q;exact hp (by simp [Value.ownBlock,q]))];exact hh
theorem marks_own2 {w:World} {v:Value} {n:Nat} {L:List (Int × Int)} {m b:Int} (h:w.ownsRow 0 84 2 v n (flat L)) (hl:L.length = n) (hn:n ≤ 1000) (hm:∀ i,i < n → L[i]? = some (mk m b n i,mk m b n i)):Marks w 84 2 v m b:=by
 obtain ⟨ao,cap,rfl⟩:=own_slice h
 refine ⟨ao,n,cap,rfl,hn,fun hp => ?_⟩
 obtain ⟨g,cap',hv⟩:=own_some h hp
 obtain ⟨rfl,_,rfl⟩:=Value.slice.inj hv
 refine ⟨g,rfl,?_,fun i hi => ?_⟩
 ·rcases h.2 with ⟨h0,_⟩ | ⟨g',cap',cur,hv,_,hg,_⟩
  ·cases h0
  ·cases hv;exact ⟨_,_,hg⟩
 ·have hi':i < L.length:=by omega
  have e:L[i] = (mk m b n i,mk m b n i):=by have:=hm i hi;rw [List.getElem?_eq_getElem hi'] at this;exact Option.some.inj this
  exact ⟨by rw [h.cellAt (i * 2) (by omega),flat_at0 L i hi',e],by rw [h.cellAt (i * 2 + 1) (by omega),flat_at1 L i hi',e]⟩
theorem marks_own5 {w:World} {v:Value} {n:Nat} {L:List Cm} {m b:Int} (h:w.ownsRow 0 121 5 v n (flatC L)) (hl:L.length = n) (hn:n ≤ 1000) (hm:∀ i,i < n → L[i]? = some (mkC (mk m b n i))):Marks w 121 5 v m b:=by
 obtain ⟨ao,cap,rfl⟩:=own_slice h
 refine ⟨ao,n,cap,rfl,hn,fun hp => ?_⟩
 obtain ⟨g,cap',hv⟩:=own_some h hp
 obtain ⟨rfl,_,rfl⟩:=Value.slice.inj hv
 refine ⟨g,rfl,?_,fun i hi => ?_⟩
 ·rcases h.2 with ⟨h0,_⟩ | ⟨g',cap',cur,hv,_,hg,_⟩
  ·cases h0
  ·cases hv;exact ⟨_,_,hg⟩
 ·have hi':i < L.length:=by omega
  have e:L[i] = mkC (mk m b n i):=by have:=hm i hi;rw [List.getElem?_eq_getElem hi'] at this;exact Option.some.inj this
  have a0:=flatC_at L i hi' 0 (by omega)
  have a1:=flatC_at L i hi' 1 (by omega)
  rw [e] at a0 a1
  exact ⟨by rw [h.cellAt (i * 5) (by omega)];exact a0,by rw [h.cellAt (i * 5 + 1) (by omega)];exact a1⟩
theorem mk_plain (m:Int) (n i:Int):mk m 0 n i = m + i:=by unfold mk;rw [if_neg (by omega)]
theorem mk_old {m b:Int} {n i:Nat} (hi:i < n):mk m b ((n + 2:Nat):Int) i = m + i:=by unfold mk;rw [if_neg (by omega)]
theorem mk_new {m b:Int} {n j:Nat} (hb:0 < b):mk m b ((n + 2:Nat):Int) ((n + j:Nat):Int) = b + j:=by unfold mk;rw [if_pos (by omega)];omega
structure MX (w:World) (bc bx by' br:Nat) (hv dv cv:Value) (st:Array Value) (m mu:Int) (hs:List Vw) (n1 n2:Nat) (L:List (Int × Int)) (C:List Cm) (V:World):Prop where
 c:V.heap[bc]? = some (.cells #[.pointer (some ⟨bx,0,none⟩),.pointer (some ⟨by',0,none⟩),.pointer (some ⟨br,0,none⟩),hv,.int .i64 mu] 60 (0,0))
 s:V.heap[w.heap.size]? = some (.cells st 113 (0,0))
 h:V.heap[w.heap.size + 1]? = some (.cells #[dv,cv,.int .i64 m,.int .i64 0] 126 (0,0))
 hh:V.ownsRow 0 126 4 hv hs.length (flatV hs)
 dd:V.ownsRow 0 84 2 dv n1 (flat L)
 cm:V.ownsRow 0 121 5 cv n2 (flatC C)
 off:Off (fun k => k = bc ∨ hv.ownBlock = some k ∨ dv.ownBlock = some k ∨ cv.ownBlock = some k) w V
theorem MX.viaD {w V V':World} {bc bx by' br n1 n2:Nat} {hv dv cv:Value} {st:Array Value} {m mu:Int} {hs:List Vw} {L L':List (Int × Int)} {C:List Cm} (h:MX w bc bx by' br hv dv cv st m mu hs n1 n2 L C V)
  (hK:∀ t,84 ≠ t → Keep t V V') (hd:V'.ownsRow 0 84 2 dv n1 (flat L')) (ho:Off (fun k => k = bc ∨ hv.ownBlock = some k ∨ dv.ownBlock = some k ∨ cv.ownBlock = some k) w V'):MX w bc bx by' br hv dv cv st m mu hs n1 n2 L' C V' :=
 ⟨hK _ (by decide) _ _ _ h.c,hK _ (by decide) _ _ _ h.s,hK _ (by decide) _ _ _ h.h,own_keep h.hh (hK _ (by decide)),hd,own_keep h.cm (hK _ (by decide)),ho⟩
theorem MX.viaC {w V V':World} {bc bx by' br n1 n2:Nat} {hv dv cv:Value} {st:Array Value} {m mu:Int} {hs:List Vw} {L:List (Int × Int)} {C C':List Cm} (h:MX w bc bx by' br hv dv cv st m mu hs n1 n2 L C V)
  (hK:∀ t,121 ≠ t → Keep t V V') (hd:V'.ownsRow 0 121 5 cv n2 (flatC C')) (ho:Off (fun k => k = bc ∨ hv.ownBlock = some k ∨ dv.ownBlock = some k ∨ cv.ownBlock = some k) w V'):MX w bc bx by' br hv dv cv st m mu hs n1 n2 L C' V' :=
 ⟨hK _ (by decide) _ _ _ h.c,hK _ (by decide) _ _ _ h.s,hK _ (by decide) _ _ _ h.h,own_keep h.hh (hK _ (by decide)),own_keep h.dd (hK _ (by decide)),hd,ho⟩
theorem MX.all {w V V':World} {bc bx by' br n1 n2:Nat} {hv dv cv:Value} {st:Array Value} {m mu:Int} {hs:List Vw} {L:List (Int × Int)} {C:List Cm} (h:MX w bc bx by' br hv dv cv st m mu hs n1 n2 L C V)
  (hK:∀ t,Keep t V V') (ho:Off (fun k => k = bc ∨ hv.ownBlock = some k ∨ dv.ownBlock = some k ∨ cv.ownBlock = some k) w V'):MX w bc bx by' br hv dv cv st m mu hs n1 n2 L C V' :=
 ⟨hK _ _ _ _ h.c,hK _ _ _ _ h.s,hK _ _ _ _ h.h,own_keep h.hh (hK _),own_keep h.dd (hK _),own_keep h.cm (hK _),ho⟩
theorem MX.alloc {w V:World} {bc bx by' br n1 n2:Nat} {hv dv cv:Value} {st:Array Value} {m mu:Int} {hs:List Vw} {L:List (Int × Int)} {C:List Cm} (h:MX w bc bx by' br hv dv cv st m mu hs n1 n2 L C V) (o:Obj):MX w bc bx by' br hv dv cv st m mu hs n1 n2 L C (V.alloc o) :=
 h.all (fun t => (Keep.refl t V).alloc o) (h.off.alloc o)
theorem MX.mark {w V:World} {bc bx by' br n1 n2:Nat} {hv dv cv:Value} {st:Array Value} {m mu:Int} {hs:List Vw} {L:List (Int × Int)} {C:List Cm} (h:MX w bc bx by' br hv dv cv st m mu hs n1 n2 L C V) (x:Int) :
  MX w bc bx by' br hv dv cv st m x hs n1 n2 L C (V.setCell ⟨bc,4,none⟩ (.int .i64 x)):=by
 have hK:∀ t,60 ≠ t → Keep t V (V.setCell ⟨bc,4,none⟩ (.int .i64 x)):=fun t ht => (Keep.refl t V).setCell (p:=⟨bc,4,none⟩) h.c ht _
 refine ⟨?_,hK _ (by decide) _ _ _ h.s,hK _ (by decide) _ _ _ h.h,own_keep h.hh (hK _ (by decide)),own_keep h.dd (hK _ (by decide)),own_keep h.cm (hK _ (by decide)),h.off.setCell (fun _ => .inl rfl) _⟩
 rw [heap_setCell_same _ _ _ _ _ _ h.c];rfl
theorem MX.putD {w V:World} {bc bx by' br n1 n2 g cap:Nat} {hv cv:Value} {st:Array Value} {m mu:Int} {hs:List Vw} {L:List (Int × Int)} {C:List Cm} (h:MX w bc bx by' br hv (.slice (some ⟨g,0,none⟩) n1 cap) cv st m mu hs n1 n2 L C V) (k:Nat) (a b:Int) :
  MX w bc bx by' br hv (.slice (some ⟨g,0,none⟩) n1 cap) cv st m mu hs n1 n2 (L.set k (a,b)) C ((V.setCell ⟨g,k * 2,none⟩ (.int .i64 a)).setCell ⟨g,k * 2 + 1,none⟩ (.int .i64 b)):=by
 have d1:=own_put h.dd (k * 2) (.int .i64 a)
 have d2:=own_put d1 (k * 2 + 1) (.int .i64 b)
 rw [← flat_set] at d2
 have row:∀ {W:World} {xs:List Value},W.ownsRow 0 84 2 (.slice (some ⟨g,0,none⟩) n1 cap) n1 xs → ∃ cur,W.heap[g]? = some (.cells cur 84 (0,0)):=fun h => by
  rcases h.2 with ⟨h0,_⟩ | ⟨g',cap',cur,hv,_,hg,_⟩
  ·cases h0
  ·cases hv;exact ⟨_,hg⟩
 obtain ⟨q1,r1⟩:=row h.dd
 obtain ⟨q2,r2⟩:=row d1
 refine h.viaD (fun t ht => ((Keep.refl t V).setCell (p:=⟨g,k * 2,none⟩) r1 ht _).setCell (p:=⟨g,k * 2 + 1,none⟩) r2 ht _) d2 ?_
 exact (h.off.setCell (p:=⟨g,k * 2,none⟩) (fun _ => .inr (.inr (.inl rfl))) _).setCell (p:=⟨g,k * 2 + 1,none⟩) (fun _ => .inr (.inr (.inl rfl))) _
theorem MX.putC {w V:World} {bc bx by' br n1 n2 g cap:Nat} {hv dv:Value} {st:Array Value} {m mu:Int} {hs:List Vw} {L:List (Int × Int)} {C:List Cm} (h:MX w bc bx by' br hv dv (.slice (some ⟨g,0,none⟩) n2 cap) st m mu hs n1 n2 L C V) (k:Nat) (x:Cm) :
  MX w bc bx by' br hv dv (.slice (some ⟨g,0,none⟩) n2 cap) st m mu hs n1 n2 L (C.set k x) (((((V.setCell ⟨g,k * 5,none⟩ (.int .i64 x.a)).setCell ⟨g,k * 5 + 1,none⟩ (.int .i64 x.o)).setCell ⟨g,k * 5 + 2,none⟩ (.int .i64 x.bs)).setCell ⟨g,k * 5 + 3,none⟩ (.int .i64 x.bf)).setCell ⟨g,k * 5 + 4,none⟩ (.bool x.v)):=by
 have d1:=own_put h.cm (k * 5) (.int .i64 x.a)
 have d2:=own_put d1 (k * 5 + 1) (.int .i64 x.o)
 have d3:=own_put d2 (k * 5 + 2) (.int .i64 x.bs)
 have d4:=own_put d3 (k * 5 + 3) (.int .i64 x.bf)
 have d5:=own_put d4 (k * 5 + 4) (.bool x.v)
 rw [← flatC_set] at d5
 have row:∀ {W:World} {xs:List Value},W.ownsRow 0 121 5 (.slice (some ⟨g,0,none⟩) n2 cap) n2 xs → ∃ cur,W.heap[g]? = some (.cells cur 121 (0,0)):=fun h => by
  rcases h.2 with ⟨h0,_⟩ | ⟨g',cap',cur,hv,_,hg,_⟩
  ·cases h0
  ·cases hv;exact ⟨_,hg⟩
 obtain ⟨q1,r1⟩:=row h.cm
 obtain ⟨q2,r2⟩:=row d1
 obtain ⟨q3,r3⟩:=row d2
 obtain ⟨q4,r4⟩:=row d3
 obtain ⟨q5,r5⟩:=row d4
 refine h.viaC (fun t ht => (((((Keep.refl t V).setCell (p:=⟨g,k * 5,none⟩) r1 ht _).setCell (p:=⟨g,k * 5 + 1,none⟩) r2 ht _).setCell (p:=⟨g,k * 5 + 2,none⟩) r3 ht _).setCell (p:=⟨g,k * 5 + 3,none⟩) r4 ht _).setCell (p:=⟨g,k * 5 + 4,none⟩) r5 ht _) d5 ?_
 exact ((((h.off.setCell (p:=⟨g,k * 5,none⟩) (fun _ => .inr (.inr (.inr rfl))) _).setCell (p:=⟨g,k * 5 + 1,none⟩) (fun _ => .inr (.inr (.inr rfl))) _).setCell (p:=⟨g,k * 5 + 2,none⟩) (fun _ => .inr (.inr (.inr rfl))) _).setCell (p:=⟨g,k * 5 + 3,none⟩) (fun _ => .inr (.inr (.inr rfl))) _).setCell (p:=⟨g,k * 5 + 4,none⟩) (fun _ => .inr (.inr (.inr rfl))) _
theorem MX.setG {w V:World} {bc bx by' br n1 n2 q:Nat} {hv dv cv:Value} {st:Array Value} {m mu:Int} {hs:List Vw} {L:List (Int × Int)} {C:List Cm} {G:Array Value} (h:MX w bc bx by' br hv dv cv st m mu hs n1 n2 L C V)
  (hG:V.heap[q]? = some (.cells G 126 (0,0))) (hq:w.heap.size + 1 < q) (hb:∀ k,hv.ownBlock = some k → k < w.heap.size) (j:Nat) (x:Value):MX w bc bx by' br hv dv cv st m mu hs n1 n2 L C (V.setCell ⟨q,j,none⟩ x):=by
 have hK:∀ t,126 ≠ t → Keep t V (V.setCell ⟨q,j,none⟩ x):=fun t ht => (Keep.refl t V).setCell (p:=⟨q,j,none⟩) hG ht _
 refine ⟨hK _ (by decide) _ _ _ h.c,hK _ (by decide) _ _ _ h.s,?_,own_other (p:=⟨q,j,none⟩) h.hh (fun e => by have:=hb _ e;simp only at this;omega) _,own_keep h.dd (hK _ (by decide)),own_keep h.cm (hK _ (by decide)),h.off.setCell (fun c => by simp only at c;omega) _⟩
 rw [heap_setCell_other _ _ _ _ (by simp only;omega)];exact h.h
theorem MX.sizes {w V:World} {bc bx by' br n1 n2:Nat} {hv dv cv:Value} {st:Array Value} {m mu:Int} {hs:List Vw} {L:List (Int × Int)} {C:List Cm} (h:MX w bc bx by' br hv dv cv st m mu hs n1 n2 L C V):bc < V.heap.size ∧ w.heap.size + 1 < V.heap.size:=⟨lt_of_heap h.c,lt_of_heap h.h⟩
theorem MX.grownD {w V V':World} {bc bx by' br n1 n2:Nat} {hv dv cv:Value} {st:Array Value} {m mu:Int} {hs:List Vw} {L:List (Int × Int)} {C:List Cm} (h:MX w bc bx by' br hv dv cv st m mu hs n1 n2 L C V)
  (hg:V.grownBy V' dv.ownBlock) (hd:V'.ownsRow 0 84 2 dv n1 (flat L)):MX w bc bx by' br hv dv cv st m mu hs n1 n2 L C V' :=
 h.viaD (fun t ht => (Keep.refl t V).grown hg h.dd ht) hd (h.off.grown hg (fun _ e _ => .inr (.inr (.inl e))))
theorem MX.grownC {w V V':World} {bc bx by' br n1 n2:Nat} {hv dv cv:Value} {st:Array Value} {m mu:Int} {hs:List Vw} {L:List (Int × Int)} {C:List Cm} (h:MX w bc bx by' br hv dv cv st m mu hs n1 n2 L C V)
  (hg:V.grownBy V' cv.ownBlock) (hd:V'.ownsRow 0 121 5 cv n2 (flatC C)):MX w bc bx by' br hv dv cv st m mu hs n1 n2 L C V' :=
 h.viaC (fun t ht => (Keep.refl t V).grown hg h.cm ht) hd (h.off.grown hg (fun _ e _ => .inr (.inr (.inr e))))
theorem marks_two {w:World} {g n cap:Nat} {L:List (Int × Int)} {m:Int} (h:w.ownsRow 0 84 2 (.slice (some ⟨g,0,none⟩) (n + 2) cap) (n + 2) (flat L ++ [.int .i64 (m + 1000),.int .i64 (m + 1000),.int .i64 (m + 1000 + 1),.int .i64 (m + 1000 + 1)])) (hl:L.length = n) (hn:n ≤ 900) (m0:0 ≤ m)
  (hm:∀ i,i < n → L[i]? = some (m + i,m + i)):Marks w 84 2 (.slice (some ⟨g,0,none⟩) (n + 2) cap) m (m + 1000):=by
 have e:flat L ++ [.int .i64 (m + 1000),.int .i64 (m + 1000),.int .i64 (m + 1000 + 1),.int .i64 (m + 1000 + 1)] = flat (L ++ [(m + 1000,m + 1000),(m + 1000 + 1,m + 1000 + 1)]):=by rw [flat_append];rfl
 rw [e] at h
 refine marks_own2 h (by simp [hl]) (by omega) fun i hi => ?_
 by_cases c:i < n
 ·rw [List.getElem?_append_left (by omega),mk_old c];exact hm i c
 ·obtain ⟨j,rfl⟩:∃ j,i = n + j:=⟨i - n,by omega⟩
  rw [List.getElem?_append_right (by omega),mk_new (by omega),hl,Nat.add_sub_cancel_left]
  have hj:j < 2:=by omega
  match j,hj with
  | 0,_ => simp
  | 1,_ => simp
theorem marks_five {w:World} {g n cap:Nat} {L:List Cm} {m:Int} (h:w.ownsRow 0 121 5 (.slice (some ⟨g,0,none⟩) (n + 2) cap) (n + 2) (flatC L ++ [.int .i64 (m + 1000),.int .i64 (m + 1000),.int .i64 0,.int .i64 0,.bool false,.int .i64 (m + 1000 + 1),.int .i64 (m + 1000 + 1),.int .i64 0,.int .i64 0,.bool false])) (hl:L.length = n) (hn:n ≤ 900) (m0:0 ≤ m)
  (hm:∀ i,i < n → L[i]? = some (mkC (m + i))):Marks w 121 5 (.slice (some ⟨g,0,none⟩) (n + 2) cap) m (m + 1000):=by
 have e:flatC L ++ [.int .i64 (m + 1000),.int .i64 (m + 1000),.int .i64 0,.int .i64 0,.bool false,.int .i64 (m + 1000 + 1),.int .i64 (m + 1000 + 1),.int .i64 0,.int .i64 0,.bool false] = flatC (L ++ [mkC (m + 1000),mkC (m + 1000 + 1)]):=by rw [flatC_append];rfl
 rw [e] at h
 refine marks_own5 h (by simp [hl]) (by omega) fun i hi => ?_
 by_cases c:i < n
 ·rw [List.getElem?_append_left (by omega),mk_old c];exact hm i c
 ·obtain ⟨j,rfl⟩:∃ j,i = n + j:=⟨i - n,by omega⟩
  rw [List.getElem?_append_right (by omega),mk_new (by omega),hl,Nat.add_sub_cancel_left]
  have hj:j < 2:=by omega
  match j,hj with
  | 0,_ => simp
  | 1,_ => simp
set_option maxRecDepth 100000 in
set_option maxHeartbeats 6400000 in
theorem marked_any (bc bx by' br:Nat) (hv dv cv:Value) (m ns nf up ex rf:Int) (ld:Bool) (hs:List Vw) (ls:List (Int × Int)) (cs:List Cm) (w:World)
  (hc:w.heap[bc]? = some (.cells #[.pointer (some ⟨bx,0,none⟩),.pointer (some ⟨by',0,none⟩),.pointer (some ⟨br,0,none⟩),hv,.int .i64 m] 60 (0,0)))
  (hh:w.ownsRow 0 126 4 hv hs.length (flatV hs)) (hd:w.ownsRow 0 84 2 dv ls.length (flat ls)) (hcm:w.ownsRow 0 121 5 cv cs.length (flatC cs))
  (h1:ls.length ≤ 900) (h2:cs.length ≤ 900) (h3:hs.length ≤ 1000000) (m0:0 ≤ m) (m1:m ≤ 10000000000) :
  Calls Tryz.prog 60 #[.pointer (some ⟨bc,0,none⟩),.agg #[.int .i64 ns,.int .i64 nf,.bool ld,.int .i64 up,.int .i64 ex,dv,cv,.int .i64 rf]] w fun e w' =>
   e = .returned (.tuple #[]) ∧ MarkedP w w' bc bx by' br hv dv cv m hs:=by
 obtain ⟨da,dc,rfl⟩:=own_slice hd
 obtain ⟨ca,cc,rfl⟩:=own_slice hcm
 obtain ⟨ha,hcap,rfl⟩:=own_slice hh
 have HC:=hid' hc
 have HH:=hid' hh
 have HD:=hid' hd
 have HM:=hid' hcm
 have c4:=cell_of_row _ _ 4 _ _ _ hc
 have lc:=lt_of_heap hc
 simp at c4
 clear hc hh hd hcm
 go_enter Tryz.func60,Tryz.ntmps60
 go_wp2_with fail
 go_region
 go_wp2_with fail
 obtain ⟨st,HST⟩:∃ st:Array Value,Hid (st = #[.int .i64 ns,.int .i64 nf,.bool ld,.int .i64 up,.int .i64 ex,.slice da ls.length dc,.slice ca cs.length cc,.int .i64 rf]):=⟨_,rfl⟩
 have X0:MX w bc bx by' br (.slice ha hs.length hcap) (.slice da ls.length dc) (.slice ca cs.length cc) st m m hs ls.length cs.length ls cs
   (((w.alloc (.cells #[.int .i64 ns,.int .i64 nf,.bool ld,.int .i64 up,.int .i64 ex,.slice da ls.length dc,.slice ca cs.length cc,.int .i64 rf] 113)).alloc (.cells #[.slice da ls.length dc,.slice ca cs.length cc,.int .i64 m,.int .i64 0] 126)).drew) :=
  ⟨(((Keep.refl _ w).alloc _).alloc _) _ _ _ HC.out,(by rw [HST.out];exact heap_alloc2_old w _ _),heap_alloc2_new w _ _,((HH.out.alloc _).alloc _).drew,((HD.out.alloc _).alloc _).drew,((HM.out.alloc _).alloc _).drew,((((Off.refl _ w).alloc _).alloc _).drew)⟩
 generalize hV:((w.alloc (.cells #[.int .i64 ns,.int .i64 nf,.bool ld,.int .i64 up,.int .i64 ex,.slice da ls.length dc,.slice ca cs.length cc,.int .i64 rf] 113)).alloc (.cells #[.slice da ls.length dc,.slice ca cs.length cc,.int .i64 m,.int .i64 0] 126)).drew = V at *
 clear hV c4
 have HX0:=hid' X0
 clear X0
 go_loopw [5] (fun i wr => ∃ k:Nat,k ≤ ls.length ∧ i = .int .i64 k ∧ MX w bc bx by' br (.slice ha hs.length hcap) (.slice da ls.length dc) (.slice ca cs.length cc) st m m hs ls.length cs.length (mkTo ls m k) cs wr) (fun i _ => ls.length - (intOf i).toNat)
 case atStart => exact ⟨0,by omega,rfl,HX0.out⟩
 case round =>
  obtain ⟨k,hk,rfl,hx⟩:=hrel
  have r0:=cell_of_row _ _ 0 _ _ _ hx.h
  have r2:=cell_of_row _ _ 2 _ _ _ hx.h
  simp at r0 r2
  by_cases hlt:k < ls.length
  ·obtain ⟨g,cap',hda⟩:=own_some hx.dd (by omega)
   obtain ⟨rfl,_,rfl⟩:=Value.slice.inj hda
   have hml:=mkTo_length ls m k
   have q0:=hx.dd.cellAt (k * 2) (by omega)
   have q1:=hx.dd.cellAt (k * 2 + 1) (by omega)
   rw [flat_at0 _ k (by omega)] at q0
   rw [flat_at1 _ k (by omega)] at q1
   have f0:=own_free hx.dd (k * 2)
   have f1:=own_free hx.dd (k * 2 + 1)
   have PX:=hid' (hx.putD k (m + k) (m + k))
   have z0:(0:Int) ≤ (k:Int):=by omega
   have z1:(k:Int) < (ls.length:Int):=by omega
   clear hx hda
   go_wp2
   go_roundw
   case rel => exact ⟨k + 1,by omega,by go_num,PX.out⟩
   case measure => simp [intOf];omega
  ·have ek:k = ls.length:=by omega
   subst ek
   have HX:=hid' hx
   clear hx
   go_wp2_with fail
   go_loopw [6] (fun i wr => ∃ k:Nat,k ≤ cs.length ∧ i = .int .i64 k ∧ MX w bc bx by' br (.slice ha hs.length hcap) (.slice da ls.length dc) (.slice ca cs.length cc) st m m hs ls.length cs.length (mkTo ls m ls.length) (mkToC cs m k) wr) (fun i _ => cs.length - (intOf i).toNat)
   case atStart => exact ⟨0,by omega,rfl,HX.out⟩
   case round =>
    obtain ⟨k,hk,rfl,hx⟩:=hrel
    clear r0 r2
    have r0:=cell_of_row _ _ 1 _ _ _ hx.h
    have r2:=cell_of_row _ _ 2 _ _ _ hx.h
    simp at r0 r2
    by_cases hlt:k < cs.length
    ·obtain ⟨g,cap',hda⟩:=own_some hx.cm (by omega)
     obtain ⟨rfl,_,rfl⟩:=Value.slice.inj hda
     have hml:=mkToC_length cs m k
     have q0:=hx.cm.cellAt (k * 5) (by omega)
     have q1:=hx.cm.cellAt (k * 5 + 1) (by omega)
     have q2:=hx.cm.cellAt (k * 5 + 2) (by omega)
     have q3:=hx.cm.cellAt (k * 5 + 3) (by omega)
     have q4:=hx.cm.cellAt (k * 5 + 4) (by omega)
     have p0:=flatC_at (mkToC cs m k) k (by omega) 0 (by omega)
     rw [Nat.add_zero] at p0
     rw [p0] at q0
     rw [flatC_at _ k (by omega) 1 (by omega)] at q1
     rw [flatC_at _ k (by omega) 2 (by omega)] at q2
     rw [flatC_at _ k (by omega) 3 (by omega)] at q3
     rw [flatC_at _ k (by omega) 4 (by omega)] at q4
     simp [Cm.cells] at q0 q1 q2 q3 q4
     have f0:=own_free hx.cm (k * 5)
     have f1:=own_free hx.cm (k * 5 + 1)
     have f2:=own_free hx.cm (k * 5 + 2)
     have f3:=own_free hx.cm (k * 5 + 3)
     have f4:=own_free hx.cm (k * 5 + 4)
     have PX:=hid' (hx.putC k (mkC (m + k)))
     have z0:(0:Int) ≤ (k:Int):=by omega
     have z1:(k:Int) < (cs.length:Int):=by omega
     clear hx hda p0
     go_wp2
     go_roundw
     case rel => exact ⟨k + 1,by omega,by go_num,PX.out⟩
     case measure => simp [intOf];omega
    ·have ek:k = cs.length:=by omega
     subst ek
     have hml:=mkTo_length ls m ls.length
     have hmc:=mkToC_length cs m cs.length
     have HML:=hid' (mkTo_at ls m ls.length)
     have HMC:=hid' (mkToC_at cs m cs.length)
     obtain ⟨i0,hi0,hz0,hz1,hz2⟩:=info_parts infoALeap
     obtain ⟨j0,hj0,hy0,hy1,hy2⟩:=info_parts infoAComing
     have hvb:∀ k,(Value.slice ha hs.length hcap).ownBlock = some k → k < w.heap.size:=fun k e => own_lt HH.out k e
     have HVB:=hid' hvb
     generalize mkTo ls m ls.length = L at *
     generalize mkToC cs m cs.length = C at *
     obtain ⟨sz1,sz2⟩:=hx.sizes
     have lw:w.heap.size < wr.heap.size:=by omega
     have nb1:¬ w.heap.size = bc:=by omega
     have nb2:¬ bc = w.heap.size:=by omega
     have b4:=cell_of_row _ _ 4 _ _ _ hx.c
     have b4f:=frozen_of_row _ _ 4 _ _ hx.c
     have s5:=cell_of_row _ _ 5 _ _ _ hx.s
     have s6:=cell_of_row _ _ 6 _ _ _ hx.s
     rw [HST.out] at s5 s6
     simp at b4 s5 s6
     have XA:=hid' (hx.mark (m + 1000))
     have NB:∀ o p,(((wr.setCell ⟨bc,4,none⟩ (.int .i64 (m + 1000))).alloc o).alloc p).heap[wr.heap.size + 1]? = some p:=fun o p => by
      have:=heap_alloc2_new (wr.setCell ⟨bc,4,none⟩ (.int .i64 (m + 1000))) o p
      rw [show (wr.setCell ⟨bc,4,none⟩ (.int .i64 (m + 1000))).heap.size = wr.heap.size from by simp] at this
      exact this
     have NG:∀ o p,(((wr.setCell ⟨bc,4,none⟩ (.int .i64 (m + 1000))).alloc o).alloc p).heap[wr.heap.size]? = some o:=fun o p => by
      have:=heap_alloc2_old (wr.setCell ⟨bc,4,none⟩ (.int .i64 (m + 1000))) o p
      rw [show (wr.setCell ⟨bc,4,none⟩ (.int .i64 (m + 1000))).heap.size = wr.heap.size from by simp] at this
      exact this
     have HNB:=hid' NB
     have HNG:=hid' NG
     clear hx NB NG hvb
     go_wp2_with (first
      | (at_builtin;refine wpList_append_both (by rfl) (.tmp 76) (.tmp 85) 76 (by rfl) 0 84 i0 (.agg #[.int .i64 0,.int .i64 0]) 2 16 Tryz.underlying76 hi0 hz0 hz1 hz2 rfl (by decide) (.slice da ls.length dc) ls.length (flat L) (by rfl) ((XA.out.alloc _).alloc _).dd ⟨wr.heap.size + 1,0,none⟩ 2 2 [.int .i64 (m + 1000),.int .i64 (m + 1000),.int .i64 (m + 1000 + 1),.int .i64 (m + 1000 + 1)] (by rfl) (by rfl) (World.news_of_block (cs:=#[.int .i64 (m + 1000),.int .i64 (m + 1000),.int .i64 (m + 1000 + 1),.int .i64 (m + 1000 + 1)]) (HNB.out _ _)) (by simp [Value.oneCell']) (by decide) (by unfold maxLen;omega) (by omega) (by omega) (wr.heap.size + 2) (by simp) ?_;intro g3 cap3 w3 own3 hg3 hat3 hlt3 old3;have X3:=hid' (((XA.out.alloc _).alloc _).grownD hg3 old3);have G3:=grown_heap (t:=126) hg3 ((XA.out.alloc _).alloc _).dd (HNG.out _ _) (by decide);have g30:=cell_of_row _ _ 0 _ _ _ G3;have f30:=frozen_of_row _ _ 0 _ _ G3;have s63:=cell_of_row _ _ 6 _ _ _ X3.out.s;(rw [HST.out] at s63);(simp at g30 s63);have lq3:=lt_of_heap G3;have lw3:=X3.out.sizes.2;have lv3:w.heap.size < w3.heap.size:=(by omega);have nq1:¬ wr.heap.size = w.heap.size:=(by omega);have nq2:¬ w.heap.size = wr.heap.size:=(by omega);have OWN3:=hid' own3;have HG3:=hid' hg3;have HAT3:=hid' hat3;have HGG3:=hid' G3;have XB:=hid' (X3.out.setG G3 (by omega) HVB.out 0 (.slice (some ⟨g3,0,none⟩) (ls.length + 2) cap3));have NB4:Hid (∀ p,((w3.setCell ⟨wr.heap.size,0,none⟩ (.slice (some ⟨g3,0,none⟩) (ls.length + 2) cap3)).alloc p).heap[w3.heap.size]? = some p):=(fun p => (by have:=heap_alloc_new (w3.setCell ⟨wr.heap.size,0,none⟩ (.slice (some ⟨g3,0,none⟩) (ls.length + 2) cap3)) p;(rw [show (w3.setCell ⟨wr.heap.size,0,none⟩ (.slice (some ⟨g3,0,none⟩) (ls.length + 2) cap3)).heap.size = w3.heap.size from by simp] at this);exact this));have GB:=hid' (heap_setCell_same _ _ 0 _ _ (.slice (some ⟨g3,0,none⟩) (ls.length + 2) cap3) G3);clear own3 hg3 hat3 old3 G3)
      | (at_builtin;refine wpList_append_both (by rfl) (.tmp 89) (.tmp 98) 111 (by rfl) 0 121 j0 (.agg #[.int .i64 0,.int .i64 0,.int .i64 0,.int .i64 0,.bool false]) 5 40 Tryz.underlying111 hj0 hy0 hy1 hy2 rfl (by decide) (.slice ca cs.length cc) cs.length (flatC C) (by rfl) (XB.out.alloc _).cm ⟨w3.heap.size,0,none⟩ 2 2 [.int .i64 (m + 1000),.int .i64 (m + 1000),.int .i64 0,.int .i64 0,.bool false,.int .i64 (m + 1000 + 1),.int .i64 (m + 1000 + 1),.int .i64 0,.int .i64 0,.bool false] (by rfl) (by rfl) (World.news_of_block (cs:=#[.int .i64 (m + 1000),.int .i64 (m + 1000),.int .i64 0,.int .i64 0,.bool false,.int .i64 (m + 1000 + 1),.int .i64 (m + 1000 + 1),.int .i64 0,.int .i64 0,.bool false]) (NB4.out _)) (by simp [Value.oneCell']) (by decide) (by unfold maxLen;omega) (by omega) (by omega) (w3.heap.size + 1) (by simp) ?_;intro g4 cap4 w4 own4 hg4 hat4 hlt4 old4;have X4:=hid' ((XB.out.alloc _).grownC hg4 old4);have OWN4:=hid' own4;have HG4:=hid' hg4;have HAT4:=hid' hat4;have HOLD4:=hid' old4;have G4:=grown_heap (t:=126) hg4 (XB.out.alloc _).cm ((Keep.refl _ _).alloc _ _ _ _ GB.out) (by decide);have g41:=cell_of_row _ _ 1 _ _ _ G4;have f41:=frozen_of_row _ _ 1 _ _ G4;(simp at g41);have c44:=cell_of_row _ _ 4 _ _ _ X4.out.c;have cf4:=frozen_of_row _ _ 4 _ _ X4.out.c;(simp at c44);have sc4:=X4.out.sizes.1;have lq4:=lt_of_heap G4;have nq5:¬ wr.heap.size = bc:=(by omega);have nq6:¬ bc = wr.heap.size:=(by omega);have OD4:=hid' ((Keep.grown (Keep.refl 84 _) hg4 (XB.out.alloc _).cm (by decide)));have HGG4:=hid' G4;clear own4 hg4 hat4 old4 G4))
     have D3:=hid' (own_keep (own_keep OWN3.out ((Keep.refl 84 w3).setCell (p:=⟨wr.heap.size,0,none⟩) HGG3.out (by decide) (.slice (some ⟨g3,0,none⟩) (ls.length + 2) cap3))) ((Keep.refl 84 _).alloc (.cells #[.int .i64 (m + 1000),.int .i64 (m + 1000),.int .i64 0,.int .i64 0,.bool false,.int .i64 (m + 1000 + 1),.int .i64 (m + 1000 + 1),.int .i64 0,.int .i64 0,.bool false] 121)))
     have D4:=hid' (own_keep D3.out OD4.out)
     have X4g:=X4.out.setG HGG4.out (by omega) HVB.out 1 (.slice (some ⟨g4,0,none⟩) (cs.length + 2) cap4)
     have X5:=X4g.mark (m + 1000 + 1000)
     have g5:=heap_setCell_same _ _ 1 _ _ (.slice (some ⟨g4,0,none⟩) (cs.length + 2) cap4) HGG4.out
     have kG:∀ t,126 ≠ t → Keep t w4 (w4.setCell ⟨wr.heap.size,1,none⟩ (.slice (some ⟨g4,0,none⟩) (cs.length + 2) cap4)):=fun t ht => (Keep.refl t w4).setCell (p:=⟨wr.heap.size,1,none⟩) HGG4.out ht _
     have kS:∀ t,60 ≠ t → Keep t (w4.setCell ⟨wr.heap.size,1,none⟩ (.slice (some ⟨g4,0,none⟩) (cs.length + 2) cap4)) ((w4.setCell ⟨wr.heap.size,1,none⟩ (.slice (some ⟨g4,0,none⟩) (cs.length + 2) cap4)).setCell ⟨bc,4,none⟩ (.int .i64 (m + 1000 + 1000))):=fun t ht => (Keep.refl t _).setCell (p:=⟨bc,4,none⟩) X4g.c ht _
     have D5:=hid' (own_keep (own_keep D4.out (kG _ (by decide))) (kS _ (by decide)))
     have E5:=hid' (own_keep (own_keep OWN4.out (kG _ (by decide))) (kS _ (by decide)))
     have g6:=kS _ (by decide) _ _ _ g5
     clear g5 kG kS X4g
     obtain ⟨k0,hk0,hx0,hx1,hx2⟩:=info_parts infoView
     generalize hV5:((w4.setCell ⟨wr.heap.size,1,none⟩ (.slice (some ⟨g4,0,none⟩) (cs.length + 2) cap4)).setCell ⟨bc,4,none⟩ (.int .i64 (m + 1000 + 1000))) = V5 at *
     have c3:=cell_of_row _ _ 3 _ _ _ X5.c
     have e0:=cell_of_row _ _ 0 _ _ _ X5.h
     have e1:=cell_of_row _ _ 1 _ _ _ X5.h
     have e2:=cell_of_row _ _ 2 _ _ _ X5.h
     have e3:=cell_of_row _ _ 3 _ _ _ X5.h
     have d0:=cell_of_row _ _ 0 _ _ _ g6
     have d1:=cell_of_row _ _ 1 _ _ _ g6
     have d2:=cell_of_row _ _ 2 _ _ _ g6
     have d3:=cell_of_row _ _ 3 _ _ _ g6
     have lq5:=lt_of_heap g6
     simp at c3 e0 e1 e2 e3 d0 d1 d2 d3
     obtain ⟨sz5,sw5⟩:=X5.sizes
     have X5:=hid' X5
     have fz:∀ o,(V5.alloc o).frozen? ⟨bc,3,none⟩ = false:=fun o => frozen_of_row _ _ 3 _ _ (X5.out.alloc o).c
     clear hV5 g41 f41 c44 cf4 sc4 lq4 b4 b4f s5 s6 lq3 lw3 lv3 g30 f30 s63
     go_region_law ((refine step_append_lies _ ?_ (.tmp 112) (.tmp 115) 58 ?_ 0 126 k0 (.agg #[.slice none 0 0,.slice none 0 0,.int .i64 0,.int .i64 0]) 4 64 Tryz.underlying58 hk0 hx0 hx1 hx2 rfl (by decide) (.slice ha hs.length hcap) hs.length (flatV hs) ?_ ?_ ⟨V5.heap.size,0,none⟩ 2 2 [.slice da ls.length dc,.slice ca cs.length cc,.int .i64 m,.int .i64 0,.slice (some ⟨g3,0,none⟩) (ls.length + 2) cap3,.slice (some ⟨g4,0,none⟩) (cs.length + 2) cap4,.int .i64 m,.int .i64 (m + 1000)] ?_ ?_ ?_ ?_ ?_ ?_ ?_ ?_ (V5.heap.size + 1) ?_ ?_;exact rfl;exact rfl;exact rfl;exact (X5.out.hh.alloc _).drew;exact rfl;exact rfl;exact (World.news_of_block (cs:=#[.slice da ls.length dc,.slice ca cs.length cc,.int .i64 m,.int .i64 0,.slice (some ⟨g3,0,none⟩) (ls.length + 2) cap3,.slice (some ⟨g4,0,none⟩) (cs.length + 2) cap4,.int .i64 m,.int .i64 (m + 1000)]) (t:=126) (fr:=(0,0)) (heap_alloc_new V5 _));(simp [Value.oneCell']);decide;(unfold maxLen;omega);omega;omega;(simp);intro gg cap6 w6 own6 hg6 hat6 hlt6;have C6:=hid' (grown_heap (w:=(V5.alloc (.cells #[.slice da ls.length dc,.slice ca cs.length cc,.int .i64 m,.int .i64 0,.slice (some ⟨g3,0,none⟩) (ls.length + 2) cap3,.slice (some ⟨g4,0,none⟩) (cs.length + 2) cap4,.int .i64 m,.int .i64 (m + 1000)] 126)).drew) (t:=60) hg6 (X5.out.hh.alloc _).drew (X5.out.alloc _).c (by decide));have c63:=cell_of_row _ _ 3 _ _ _ C6.out;have f63:=frozen_of_row _ _ 3 _ _ C6.out;(simp at c63);have OWN6:=hid' own6;have HG6:=hid' hg6;have HAT6:=hid' hat6;clear own6 hg6 hat6))
     all_goals
      go_wp2
      go_end0
      have kk:∀ t,126 ≠ t → 60 ≠ t → Keep t V5 (w6.setCell ⟨bc,3,none⟩ (.slice (some ⟨gg,0,none⟩) (hs.length + 2) cap6)):=fun t h1 h2 => (Keep.grown (w:=(V5.alloc _).drew) ((Keep.refl t V5).alloc _) HG6.out (X5.out.hh.alloc _).drew h1).setCell (p:=⟨bc,3,none⟩) C6.out h2 _
      have vs:=X5.out.off.size
      have ws:=X3.out.off.size
      refine ⟨rfl,.slice (some ⟨gg,0,none⟩) (hs.length + 2) cap6,.slice (some ⟨g3,0,none⟩) (ls.length + 2) cap3,.slice (some ⟨g4,0,none⟩) (cs.length + 2) cap4,?_,?_,?_,?_,?_,?_,?_,?_,?_,?_⟩
      ·rw [heap_setCell_same _ _ _ _ _ _ C6.out,show m + 2000 = m + 1000 + 1000 from by omega];rfl
      ·rw [flatV_append];exact own_set (p:=⟨bc,3,none⟩) OWN6.out C6.out (by decide) _
      ·exact marks_own2 (own_keep X5.out.dd (kk _ (by decide) (by decide))) hml (by omega) (fun i hi => by rw [mk_plain];exact HML.out i hi hi)
      ·exact marks_own5 (own_keep X5.out.cm (kk _ (by decide) (by decide))) hmc (by omega) (fun i hi => by rw [mk_plain];exact HMC.out i hi hi)
      ·exact marks_two (own_keep D5.out (kk _ (by decide) (by decide))) hml (by omega) m0 (fun i hi => HML.out i hi hi)
      ·exact marks_five (own_keep E5.out (kk _ (by decide) (by decide))) hmc (by omega) m0 (fun i hi => HMC.out i hi hi)
      ·exact (((X5.out.off.alloc _).drew).grown HG6.out (fun k e _ => .inr (.inl e))).setCell (p:=⟨bc,3,none⟩) (fun _ => .inl rfl) _
      ·intro k e
       obtain rfl:gg = k:=by simpa [Value.ownBlock] using e
       rcases HAT6.out with h | h
       ·exact .inl h
       ·exact .inr (by omega)
      ·intro k e
       obtain rfl:g3 = k:=by simpa [Value.ownBlock] using e
       rcases HAT3.out with h | h
       ·exact .inl h
       ·exact .inr (by omega)
      ·intro k e
       obtain rfl:g4 = k:=by simpa [Value.ownBlock] using e
       rcases HAT4.out with h | h
       ·exact .inl h
       ·exact .inr (by omega)
end Go.Proofs.YtmmkhodaljpjgaaGreatDoor
