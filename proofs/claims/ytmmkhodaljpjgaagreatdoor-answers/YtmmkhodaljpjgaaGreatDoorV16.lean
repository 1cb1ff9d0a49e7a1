import Derived.Test.YtmmkhodaljpjgaaGreatDoorV15
import Derived.Deep.Cut
import Derived.Deep.CutBlock
import Derived.Deep.CutRange
namespace Go.Proofs.YtmmkhodaljpjgaaGreatDoor
open Go.RowKit
structure PLaw (P:Nat → Sv → (Nat → Prop) → World → Prop):Prop where
 keep:∀ {b:Nat} {s:Sv} {F:Nat → Prop} {w w':World},P b s F w → (∀ k,F k → w'.heap[k]? = w.heap[k]?) → P b s F w'
 low:∀ {b:Nat} {s:Sv} {F:Nat → Prop} {w:World},P b s F w → ∀ k,F k → ∃ cs e fr,w.heap[k]? = some (.cells cs e fr) ∧ 38 ≠ e ∧ 9 ≠ e
def Apart (F G:Nat → Prop):Prop:=∀ k,F k → ¬ G k
theorem Apart.symm {F G:Nat → Prop} (h:Apart F G):Apart G F:=fun k a b => h k b a
structure CS (P:Nat → Sv → (Nat → Prop) → World → Prop) (bc bx by' br:Nat) (hv:Value) (m:Int) (hs:List Vw) (sx sy sr:Sv) (Fx Fy Fr Fv:Nat → Prop) (w:World):Prop where
 c:w.heap[bc]? = some (.cells #[.pointer (some ⟨bx,0,none⟩),.pointer (some ⟨by',0,none⟩),.pointer (some ⟨br,0,none⟩),hv,.int .i64 m] 60 (0,0))
 hh:w.ownsRow 0 126 4 hv hs.length (flatV hs)
 ok:∀ v ∈ hs,VwOk w v
 x:P bx sx Fx w
 y:P by' sy Fy w
 r:∃ dv bv cv rh,RSrv br sr dv bv cv rh w ∧ ∀ k,rFoot br dv bv cv rh k ↔ Fr k
 fv:∀ k,Fv k ↔ k = bc ∨ hv.ownBlock = some k ∨ ∃ v ∈ hs,vwFoot v k
 xy:Apart Fx Fy
 xr:Apart Fx Fr
 xv:Apart Fx Fv
 yr:Apart Fy Fr
 yv:Apart Fy Fv
 rv:Apart Fr Fv
theorem CS.vlow {P:Nat → Sv → (Nat → Prop) → World → Prop} {bc bx by' br:Nat} {hv:Value} {m:Int} {hs:List Vw} {sx sy sr:Sv} {Fx Fy Fr Fv:Nat → Prop} {w:World} (h:CS P bc bx by' br hv m hs sx sy sr Fx Fy Fr Fv w):∀ k,Fv k → k < w.heap.size:=fun k hk => by
 rcases (h.fv k).1 hk with rfl | e | ⟨v,hv,e⟩
 ·exact lt_of_heap h.c
 ·obtain ⟨_,_,hh⟩:=own_typ h.hh e;exact lt_of_heap hh
 ·rcases (h.ok v hv).typ e with ⟨_,_,hh⟩ | ⟨_,_,hh⟩
  ·exact lt_of_heap hh
  ·exact lt_of_heap hh
theorem CS.rlow {P:Nat → Sv → (Nat → Prop) → World → Prop} {bc bx by' br:Nat} {hv:Value} {m:Int} {hs:List Vw} {sx sy sr:Sv} {Fx Fy Fr Fv:Nat → Prop} {w:World} (h:CS P bc bx by' br hv m hs sx sy sr Fx Fy Fr Fv w):∀ k,Fr k → k < w.heap.size:=fun k hk => by
 obtain ⟨dv,bv,cv,rh,r,e⟩:=h.r
 obtain ⟨_,_,_,hh,_⟩:=r.typ ((e k).2 hk)
 exact lt_of_heap hh
theorem CS.own {P:Nat → Sv → (Nat → Prop) → World → Prop} {bc bx by' br:Nat} {hv:Value} {m:Int} {hs:List Vw} {sx sy sr:Sv} {Fx Fy Fr Fv:Nat → Prop} {w w':World} (h:CS P bc bx by' br hv m hs sx sy sr Fx Fy Fr Fv w) (hk:∀ k,Fv k → w'.heap[k]? = w.heap[k]?) :
  w'.heap[bc]? = some (.cells #[.pointer (some ⟨bx,0,none⟩),.pointer (some ⟨by',0,none⟩),.pointer (some ⟨br,0,none⟩),hv,.int .i64 m] 60 (0,0)) ∧ w'.ownsRow 0 126 4 hv hs.length (flatV hs) ∧ ∀ v ∈ hs,VwOk w' v :=
 ⟨(hk bc ((h.fv bc).2 (.inl rfl))).trans h.c,own_same h.hh (fun k e => hk k ((h.fv k).2 (.inr (.inl e)))),fun v hv => (h.ok v hv).keep (fun k e => hk k ((h.fv k).2 (.inr (.inr ⟨v,hv,e⟩))))⟩
theorem CS.turnX {P:Nat → Sv → (Nat → Prop) → World → Prop} {bc bx by' br:Nat} {hv:Value} {m:Int} {hs:List Vw} {sx sy sr:Sv} {Fx Fy Fr Fv:Nat → Prop} {w w':World} (hP:PLaw P) (h:CS P bc bx by' br hv m hs sx sy sr Fx Fy Fr Fv w) {s':Sv} {F':Nat → Prop} (hp:P bx s' F' w') (ho:Off Fx w w') (hF:∀ k,F' k → Fx k ∨ w.heap.size ≤ k):CS P bc bx by' br hv m hs s' sy sr F' Fy Fr Fv w':=by
 have ap:∀ {G:Nat → Prop},Apart Fx G → (∀ k,G k → k < w.heap.size) → Apart F' G:=fun a l k hk g => by
  rcases hF k hk with e | e
  ·exact a k e g
  ·have:=l k g;omega
 have same:∀ {G:Nat → Prop},Apart Fx G → (∀ k,G k → k < w.heap.size) → ∀ k,G k → w'.heap[k]? = w.heap[k]?:=fun a l k g => ho.block k (l k g) (fun e => a k e g)
 have ly:∀ k,Fy k → k < w.heap.size:=fun k hk => by obtain ⟨_,_,_,hh,_⟩:=hP.low h.y k hk;exact lt_of_heap hh
 obtain ⟨c1,c2,c3⟩:=h.own (same h.xv h.vlow)
 obtain ⟨dv,bv,cv,rh,r,e⟩:=h.r
 exact ⟨c1,c2,c3,hp,hP.keep h.y (same h.xy ly),⟨dv,bv,cv,rh,r.keep (fun k hk => same h.xr h.rlow k ((e k).1 hk)),e⟩,h.fv,ap h.xy ly,ap h.xr h.rlow,ap h.xv h.vlow,h.yr,h.yv,h.rv⟩
theorem CS.turnY {P:Nat → Sv → (Nat → Prop) → World → Prop} {bc bx by' br:Nat} {hv:Value} {m:Int} {hs:List Vw} {sx sy sr:Sv} {Fx Fy Fr Fv:Nat → Prop} {w w':World} (hP:PLaw P) (h:CS P bc bx by' br hv m hs sx sy sr Fx Fy Fr Fv w) {s':Sv} {F':Nat → Prop} (hp:P by' s' F' w') (ho:Off Fy w w') (hF:∀ k,F' k → Fy k ∨ w.heap.size ≤ k):CS P bc bx by' br hv m hs sx s' sr Fx F' Fr Fv w':=by
 have ap:∀ {G:Nat → Prop},Apart Fy G → (∀ k,G k → k < w.heap.size) → Apart F' G:=fun a l k hk g => by
  rcases hF k hk with e | e
  ·exact a k e g
  ·have:=l k g;omega
 have same:∀ {G:Nat → Prop},Apart Fy G → (∀ k,G k → k < w.heap.size) → ∀ k,G k → w'.heap[k]? = w.heap[k]?:=fun a l k g => ho.block k (l k g) (fun e => a k e g)
 have lx:∀ k,Fx k → k < w.heap.size:=fun k hk => by obtain ⟨_,_,_,hh,_⟩:=hP.low h.x k hk;exact lt_of_heap hh
 obtain ⟨c1,c2,c3⟩:=h.own (same h.yv h.vlow)
 obtain ⟨dv,bv,cv,rh,r,e⟩:=h.r
 exact ⟨c1,c2,c3,hP.keep h.x (same h.xy.symm lx),hp,⟨dv,bv,cv,rh,r.keep (fun k hk => same h.yr h.rlow k ((e k).1 hk)),e⟩,h.fv,(ap h.xy.symm lx).symm,h.xr,h.xv,ap h.yr h.rlow,ap h.yv h.vlow,h.rv⟩
theorem CS.turnR {P:Nat → Sv → (Nat → Prop) → World → Prop} {bc bx by' br:Nat} {hv:Value} {m:Int} {hs:List Vw} {sx sy sr:Sv} {Fx Fy Fr Fv:Nat → Prop} {w w':World} (hP:PLaw P) (h:CS P bc bx by' br hv m hs sx sy sr Fx Fy Fr Fv w) {s':Sv} (hp:∀ dv bv cv rh,RSrv br sr dv bv cv rh w → RPost br (rFoot br dv bv cv rh) w s' w'):∃ F',CS P bc bx by' br hv m hs sx sy s' Fx Fy F' Fv w' ∧ Off Fr w w' ∧ ∀ k,F' k → Fr k ∨ w.heap.size ≤ k:=by
 obtain ⟨dv,bv,cv,rh,r,e⟩:=h.r
 obtain ⟨dv',bv',cv',rh',r',o',f'⟩:=hp dv bv cv rh r
 have ho:Off Fr w w':=o'.mono (fun k _ q => (e k).1 q)
 have hF:∀ k,rFoot br dv' bv' cv' rh' k → Fr k ∨ w.heap.size ≤ k:=fun k q => by
  rcases f' k q with c | c
  ·exact .inl ((e k).1 c)
  ·exact .inr c
 have ap:∀ {G:Nat → Prop},Apart Fr G → (∀ k,G k → k < w.heap.size) → Apart (rFoot br dv' bv' cv' rh') G:=fun a l k hk g => by
  rcases hF k hk with e | e
  ·exact a k e g
  ·have:=l k g;omega
 have same:∀ {G:Nat → Prop},Apart Fr G → (∀ k,G k → k < w.heap.size) → ∀ k,G k → w'.heap[k]? = w.heap[k]?:=fun a l k g => ho.block k (l k g) (fun e => a k e g)
 have lx:∀ k,Fx k → k < w.heap.size:=fun k hk => by obtain ⟨_,_,_,hh,_⟩:=hP.low h.x k hk;exact lt_of_heap hh
 have ly:∀ k,Fy k → k < w.heap.size:=fun k hk => by obtain ⟨_,_,_,hh,_⟩:=hP.low h.y k hk;exact lt_of_heap hh
 obtain ⟨c1,c2,c3⟩:=h.own (same h.rv h.vlow)
 exact ⟨rFoot br dv' bv' cv' rh',⟨c1,c2,c3,hP.keep h.x (same h.xr.symm lx),hP.keep h.y (same h.yr.symm ly),⟨dv',bv',cv',rh',r',fun k => Iff.rfl⟩,h.fv,h.xy,(ap h.xr.symm lx).symm,h.xv,(ap h.yr.symm ly).symm,h.yv,ap h.rv h.vlow⟩,ho,hF⟩
theorem CS.read {P:Nat → Sv → (Nat → Prop) → World → Prop} {bc bx by' br:Nat} {hv:Value} {m:Int} {hs:List Vw} {sx sy sr:Sv} {Fx Fy Fr Fv:Nat → Prop} {w w':World} (hP:PLaw P) (h:CS P bc bx by' br hv m hs sx sy sr Fx Fy Fr Fv w) (hr:ReadP w w' bc bx by' br hv m hs):∃ hv' v1 v2 F',CS P bc bx by' br hv' (m + 2000) (hs ++ [v1,v2]) sx sy sr Fx Fy Fr F' w' ∧ Off Fv w w' ∧ ∀ k,F' k → Fv k ∨ w.heap.size ≤ k:=by
 obtain ⟨hv',v1,v2,c,hh,ok,off,b1,b2⟩:=hr
 have ho:Off Fv w w':=off.mono (fun k _ q => (h.fv k).2 (by
  rcases q with q | q
  ·exact .inl q
  ·exact .inr (.inl q)))
 have hF:∀ k,(k = bc ∨ hv'.ownBlock = some k ∨ ∃ v ∈ hs ++ [v1,v2],vwFoot v k) → Fv k ∨ w.heap.size ≤ k:=fun k q => by
  rcases q with q | q | ⟨v,hv,q⟩
  ·exact .inl ((h.fv k).2 (.inl q))
  ·rcases b1 k q with e | e
   ·exact .inl ((h.fv k).2 (.inr (.inl e)))
   ·exact .inr e
  ·simp at hv
   rcases hv with hv | rfl | rfl
   ·exact .inl ((h.fv k).2 (.inr (.inr ⟨v,hv,q⟩)))
   ·exact .inr (b2 k (.inl q))
   ·exact .inr (b2 k (.inr q))
 have ap:∀ {G:Nat → Prop},Apart G Fv → (∀ k,G k → k < w.heap.size) → Apart G (fun k => k = bc ∨ hv'.ownBlock = some k ∨ ∃ v ∈ hs ++ [v1,v2],vwFoot v k):=fun a l k g q => by
  rcases hF k q with e | e
  ·exact a k g e
  ·have:=l k g;omega
 have same:∀ {G:Nat → Prop},Apart G Fv → (∀ k,G k → k < w.heap.size) → ∀ k,G k → w'.heap[k]? = w.heap[k]?:=fun a l k g => ho.block k (l k g) (fun e => a k g e)
 have lx:∀ k,Fx k → k < w.heap.size:=fun k hk => by obtain ⟨_,_,_,hh,_⟩:=hP.low h.x k hk;exact lt_of_heap hh
 have ly:∀ k,Fy k → k < w.heap.size:=fun k hk => by obtain ⟨_,_,_,hh,_⟩:=hP.low h.y k hk;exact lt_of_heap hh
 obtain ⟨dv,bv,cv,rh,r,e⟩:=h.r
 exact ⟨hv',v1,v2,_,⟨c,hh,ok,hP.keep h.x (same h.xv lx),hP.keep h.y (same h.yv ly),⟨dv,bv,cv,rh,r.keep (fun k hk => same h.rv h.rlow k ((e k).1 hk)),e⟩,fun k => Iff.rfl,h.xy,h.xr,ap h.xv lx,h.yr,ap h.yv ly,ap h.rv h.rlow⟩,ho,hF⟩
theorem ps_law:PLaw PS where
 keep:=fun ⟨dv,cv,op,bs,bf,r,o,f⟩ hk => ⟨dv,cv,op,bs,bf,r.keep (fun k e => hk k ((f k).2 e)),o,f⟩
 low:=fun ⟨_,_,_,_,_,r,_,f⟩ k hk => by
  obtain ⟨cs,e,fr,hh,he⟩:=r.typ ((f k).1 hk)
  refine ⟨cs,e,fr,hh,?_,?_⟩
  ·rcases he with rfl | rfl | rfl <;> decide
  ·rcases he with rfl | rfl | rfl <;> decide
end Go.Proofs.YtmmkhodaljpjgaaGreatDoor
namespace Go.Proofs.YtmmkhodaljpjgaaGreatDoor
open Go.RowKit
attribute [local go_sem ↓] Go.wp_at_zero Go.wp_at_succ
structure SeeV (w:World) (s:Sv) (k:Nat) (dv cv:Value) (wr:World):Prop where
 bel:Below w.heap.size w wr
 res:wr.heap[w.heap.size]? = some (.cells #[.int .i64 0,.int .i64 0,.bool false,.int .i64 0,.int .i64 0,.slice none 0 0,.slice none 0 0,.int .i64 0] 113 (0,0))
 row:wr.heap[w.heap.size + 1]? = some (.cells #[.int .i64 s.ns,.int .i64 s.nf,.bool s.ld,.int .i64 s.up,.int .i64 s.ex,dv,cv,.int .i64 s.ref] 113 (0,0))
 dd:wr.ownsRow w.heap.size 84 2 dv s.done.length (flat s.done)
 cc:wr.ownsRow w.heap.size 121 5 cv k (flatC (s.com.take k))
theorem SeeV.put {w:World} {s:Sv} {k m:Nat} {dv cv cv':Value} {wr w2:World} (h:SeeV w s k dv cv wr) (hg:wr.grownBy w2 cv.ownBlock) (own:w2.ownsRow w.heap.size 121 5 cv' m (flatC (s.com.take m))):SeeV w s m dv cv' (w2.setCell ⟨w.heap.size + 1,6,none⟩ cv'):=by
 have row2:=grown_heap (t:=113) hg h.cc h.row (by decide)
 have res2:=grown_heap (t:=113) hg h.cc h.res (by decide)
 refine ⟨(h.bel.grown hg h.bel.size (own_ge h.cc)).setCell (by show w.heap.size ≤ w.heap.size + 1;omega) _,?_,?_,own_set (p:=⟨w.heap.size + 1,6,none⟩) (own_grown h.dd hg h.cc (by decide)) row2 (by decide) _,own_set (p:=⟨w.heap.size + 1,6,none⟩) own row2 (by decide) _⟩
 ·rw [heap_setCell_other _ _ _ _ (by show w.heap.size ≠ w.heap.size + 1;omega)];exact res2
 ·rw [heap_setCell_same _ _ _ _ _ _ row2];rfl
theorem SeeV.below {w:World} {s:Sv} {k:Nat} {dv cv:Value} {wr w2:World} (h:SeeV w s k dv cv wr) (hb:Below wr.heap.size wr w2):SeeV w s k dv cv w2 :=
 ⟨h.bel.trans (hb.mono h.bel.size),(hb.block _ (lt_of_heap h.res)).trans h.res,(hb.block _ (lt_of_heap h.row)).trans h.row,own_down h.dd hb,own_down h.cc hb⟩
def set8 (V:World) (b:Nat) (a0 a1 a2 a3 a4 a5 a6 a7:Value):World:=(((((((V.setCell ⟨b,0,none⟩ a0).setCell ⟨b,1,none⟩ a1).setCell ⟨b,2,none⟩ a2).setCell ⟨b,3,none⟩ a3).setCell ⟨b,4,none⟩ a4).setCell ⟨b,5,none⟩ a5).setCell ⟨b,6,none⟩ a6).setCell ⟨b,7,none⟩ a7
theorem set8_row {V:World} {b:Nat} {t:TypeId} {a0 a1 a2 a3 a4 a5 a6 a7 p0 p1 p2 p3 p4 p5 p6 p7:Value} (h:V.heap[b]? = some (.cells #[p0,p1,p2,p3,p4,p5,p6,p7] t (0,0))):(set8 V b a0 a1 a2 a3 a4 a5 a6 a7).heap[b]? = some (.cells #[a0,a1,a2,a3,a4,a5,a6,a7] t (0,0)):=by
 have h0:=heap_setCell_same _ b 0 _ t a0 h
 have h1:=heap_setCell_same _ b 1 _ t a1 h0
 have h2:=heap_setCell_same _ b 2 _ t a2 h1
 have h3:=heap_setCell_same _ b 3 _ t a3 h2
 have h4:=heap_setCell_same _ b 4 _ t a4 h3
 have h5:=heap_setCell_same _ b 5 _ t a5 h4
 have h6:=heap_setCell_same _ b 6 _ t a6 h5
 have h7:=heap_setCell_same _ b 7 _ t a7 h6
 unfold set8
 simpa using h7
theorem set8_own {V:World} {b:Nat} {t:TypeId} {a0 a1 a2 a3 a4 a5 a6 a7:Value} {cs:Array Value} (h:V.heap[b]? = some (.cells cs t (0,0))) {B e size n:Nat} {v:Value} {xs:List Value} (ho:V.ownsRow B e size v n xs) (he:t ≠ e):(set8 V b a0 a1 a2 a3 a4 a5 a6 a7).ownsRow B e size v n xs:=by
 have h0:=heap_setCell_same _ b 0 _ t a0 h
 have h1:=heap_setCell_same _ b 1 _ t a1 h0
 have h2:=heap_setCell_same _ b 2 _ t a2 h1
 have h3:=heap_setCell_same _ b 3 _ t a3 h2
 have h4:=heap_setCell_same _ b 4 _ t a4 h3
 have h5:=heap_setCell_same _ b 5 _ t a5 h4
 have h6:=heap_setCell_same _ b 6 _ t a6 h5
 exact own_set (p:=⟨b,7,none⟩) (own_set (p:=⟨b,6,none⟩) (own_set (p:=⟨b,5,none⟩) (own_set (p:=⟨b,4,none⟩) (own_set (p:=⟨b,3,none⟩) (own_set (p:=⟨b,2,none⟩) (own_set (p:=⟨b,1,none⟩) (own_set (p:=⟨b,0,none⟩) ho h he _) h0 he _) h1 he _) h2 he _) h3 he _) h4 he _) h5 he _) h6 he _
theorem set8_below {B:Nat} {w V:World} {b:Nat} {a0 a1 a2 a3 a4 a5 a6 a7:Value} (h:Below B w V) (hb:B ≤ b):Below B w (set8 V b a0 a1 a2 a3 a4 a5 a6 a7) :=
 (((((((h.setCell (p:=⟨b,0,none⟩) hb _).setCell (p:=⟨b,1,none⟩) hb _).setCell (p:=⟨b,2,none⟩) hb _).setCell (p:=⟨b,3,none⟩) hb _).setCell (p:=⟨b,4,none⟩) hb _).setCell (p:=⟨b,5,none⟩) hb _).setCell (p:=⟨b,6,none⟩) hb _).setCell (p:=⟨b,7,none⟩) hb _
set_option maxRecDepth 100000 in
set_option maxHeartbeats 6400000 in
theorem srv_see (b:Nat) (s:Sv) (dv cv:Value) (op:Bool) (bs bf:Int) (w:World) (h:PRow b s dv cv op bs bf w) (l1:s.done.length ≤ 900) (l2:s.com.length ≤ 900) :
  Calls Tryz.prog 105 #[.pointer (some ⟨b,0,none⟩)] w fun e w' => ∃ dv' cv',e = .returned (.agg #[.int .i64 s.ns,.int .i64 s.nf,.bool s.ld,.int .i64 s.up,.int .i64 s.ex,dv',cv',.int .i64 s.ref]) ∧
   w'.ownsRow w.heap.size 84 2 dv' s.done.length (flat s.done) ∧ w'.ownsRow w.heap.size 121 5 cv' s.com.length (flatC s.com) ∧ Below w.heap.size w w':=by
 obtain ⟨k0,hk0,hx0,hx1,hx2⟩:=info_parts infoAComing
 have HP:=hid' h
 have q2:=h.c4
 have q3:=h.c5
 have q4:=h.c6
 have q5:=h.c7
 have q6:=h.c8
 have q7:=h.c9
 have q8:=h.c10
 have q9:=h.c11
 have lb:=lt_of_heap h.row
 obtain ⟨da,dcp,hdv⟩:=own_slice h.dd
 subst hdv
 obtain ⟨ca,ccp,hcv⟩:=own_slice h.cc
 subst hcv
 have RD:=hid' (read_of h.dd rfl)
 clear h
 have B0:=hid' (((Below.refl w.heap.size w).alloc (Nat.le_refl _) (.cells #[.int .i64 0,.int .i64 0,.bool false,.int .i64 0,.int .i64 0,.slice none 0 0,.slice none 0 0,.int .i64 0] 113)).alloc (by simp) (.cells #[.int .i64 s.ns,.int .i64 s.nf,.bool s.ld,.int .i64 s.up,.int .i64 s.ex,.slice da s.done.length dcp,.slice ca s.com.length ccp,.int .i64 s.ref] 113))
 have R0:=hid' (heap_alloc2_old w (.cells #[.int .i64 0,.int .i64 0,.bool false,.int .i64 0,.int .i64 0,.slice none 0 0,.slice none 0 0,.int .i64 0] 113) (.cells #[.int .i64 s.ns,.int .i64 s.nf,.bool s.ld,.int .i64 s.up,.int .i64 s.ex,.slice da s.done.length dcp,.slice ca s.com.length ccp,.int .i64 s.ref] 113))
 have R1:=hid' (heap_alloc2_new w (.cells #[.int .i64 0,.int .i64 0,.bool false,.int .i64 0,.int .i64 0,.slice none 0 0,.slice none 0 0,.int .i64 0] 113) (.cells #[.int .i64 s.ns,.int .i64 s.nf,.bool s.ld,.int .i64 s.up,.int .i64 s.ex,.slice da s.done.length dcp,.slice ca s.com.length ccp,.int .i64 s.ref] 113))
 go_enter Tryz.func105,Tryz.ntmps105
 go_upto_region 2 with fail
 generalize hV:(w.alloc (.cells #[.int .i64 0,.int .i64 0,.bool false,.int .i64 0,.int .i64 0,.slice none 0 0,.slice none 0 0,.int .i64 0] 113)).alloc (.cells #[.int .i64 s.ns,.int .i64 s.nf,.bool s.ld,.int .i64 s.up,.int .i64 s.ex,.slice da s.done.length dcp,.slice ca s.com.length ccp,.int .i64 s.ref] 113) = V at *
 clear hV
 have v7:=(B0.out.cell (p:=⟨b,9,none⟩) lb).trans q7
 clear q2 q3 q4 q5 q6 q7 q9
 go_wp2_with fail
 refine (copy_of da s.done.length dcp s.done _ (RD.out.below B0.out) rfl (by omega)).mono ?_
 rintro e w1 ⟨dn,rfl,own1,hb1⟩
 have r0:=(hb1.block _ (lt_of_heap R0.out)).trans R0.out
 have r1:=(hb1.block _ (lt_of_heap R1.out)).trans R1.out
 have s0:=B0.out.size
 have fr5:=frozen_of_row _ _ 5 _ _ r1
 have fr6:=frozen_of_row _ _ 6 _ _ r1
 have cr5:=cell_of_row _ _ 5 _ _ _ r1
 have cr6:=cell_of_row _ _ 6 _ _ _ r1
 simp at cr5 cr6
 obtain ⟨dna,dncp,hdn⟩:=own_slice own1
 subst hdn
 have SV:Hid (SeeV w s 0 (.slice dna s.done.length dncp) (.slice none 0 0) ((w1.setCell ⟨w.heap.size + 1,5,none⟩ (.slice dna s.done.length dncp)).setCell ⟨w.heap.size + 1,6,none⟩ (.slice none 0 0))):=by
  have rr:=heap_setCell_same _ _ 5 _ _ (.slice dna s.done.length dncp) r1
  refine ⟨((B0.out.trans (hb1.mono s0)).setCell (by show w.heap.size ≤ w.heap.size + 1;omega) _).setCell (by show w.heap.size ≤ w.heap.size + 1;omega) _,?_,?_,own_set (p:=⟨w.heap.size + 1,6,none⟩) (own_set (p:=⟨w.heap.size + 1,5,none⟩) (own_lo own1 s0) r1 (by decide) _) rr (by decide) _,World.ownsRow_nil _ _ _ _⟩
  ·rw [heap_setCell_other _ _ _ _ (by show w.heap.size ≠ w.heap.size + 1;omega),heap_setCell_other _ _ _ _ (by show w.heap.size ≠ w.heap.size + 1;omega)];exact r0
  ·rw [heap_setCell_same _ _ _ _ _ _ rr];rfl
 clear own1 hb1 r0 r1 v7
 go_upto_region 4 with fail
 generalize hW:(w1.setCell ⟨w.heap.size + 1,5,none⟩ (.slice dna s.done.length dncp)).setCell ⟨w.heap.size + 1,6,none⟩ (.slice none 0 0) = W1 at *
 clear hW fr5 fr6 cr5 cr6
 go_wp2_with fail
 go_loopw [4] (fun i wr => ∃ (k:Nat) (cv':Value),k ≤ s.com.length ∧ i = .int .i64 k ∧ SeeV w s k (.slice dna s.done.length dncp) cv' wr) (fun i _ => s.com.length - (intOf i).toNat)
 case atStart => exact ⟨0,_,by omega,rfl,SV.out⟩
 case round =>
  obtain ⟨k,cv',hk,rfl,sv⟩:=hrel
  have SVK:=hid' sv
  have v8:=(sv.bel.cell (p:=⟨b,10,none⟩) lb).trans q8
  have hsz:=sv.bel.size
  by_cases hlt:k < s.com.length
  ·have hli:(k:Int) < (s.com.length:Int):=by omega
   have hk0i:(0:Int) ≤ (k:Int):=by omega
   obtain ⟨g,cg,hg⟩:=own_some HP.out.cc (by omega)
   obtain ⟨rfl,_,rfl⟩:=Value.slice.inj hg
   have lg:g < w.heap.size:=(HP.out.cc.lt _ rfl).2
   have e0:=((sv.bel.cell (p:=⟨g,k * 5,none⟩) lg).trans (HP.out.cc.cellAt (k * 5) (by omega))).trans (flatC_at s.com k hlt 0 (by omega))
   have e1:=((sv.bel.cell (p:=⟨g,k * 5 + 1,none⟩) lg).trans (HP.out.cc.cellAt (k * 5 + 1) (by omega))).trans (flatC_at s.com k hlt 1 (by omega))
   have e2:=((sv.bel.cell (p:=⟨g,k * 5 + 2,none⟩) lg).trans (HP.out.cc.cellAt (k * 5 + 2) (by omega))).trans (flatC_at s.com k hlt 2 (by omega))
   have e3:=((sv.bel.cell (p:=⟨g,k * 5 + 3,none⟩) lg).trans (HP.out.cc.cellAt (k * 5 + 3) (by omega))).trans (flatC_at s.com k hlt 3 (by omega))
   have e4:=((sv.bel.cell (p:=⟨g,k * 5 + 4,none⟩) lg).trans (HP.out.cc.cellAt (k * 5 + 4) (by omega))).trans (flatC_at s.com k hlt 4 (by omega))
   have htk:s.com.take (k + 1) = s.com.take k ++ [s.com[k]]:=List.take_succ_eq_append_getElem (by omega)
   have HTK:=hid' htk
   generalize s.com[k] = c at *
   obtain ⟨cA,cO,cS,cF,cV⟩:=c
   simp [Cm.cells] at e0 e1 e2 e3 e4
   have c6:=cell_of_row _ _ 6 _ _ _ sv.row
   have f6:=frozen_of_row _ _ 6 _ _ sv.row
   have lr:=lt_of_heap sv.row
   obtain ⟨va,vcp,hv⟩:=own_slice sv.cc
   subst hv
   simp at c6
   have lgr:g < wr.heap.size:=by omega
   have lbr:b < wr.heap.size:=by omega
   have ng1:g ≠ w.heap.size + 1:=by omega
   have nb1:b ≠ w.heap.size + 1:=by omega
   have ng2:w.heap.size + 1 ≠ g:=by omega
   have nb2:w.heap.size + 1 ≠ b:=by omega
   have BAL:=(Below.refl wr.heap.size wr).alloc (Nat.le_refl _) (.cells #[.int .i64 cA,.int .i64 cO,.int .i64 cS,.int .i64 cF,.bool cV] 121)
   have m8:=(BAL.cell (p:=⟨b,10,none⟩) lbr).trans v8
   have m0:=(BAL.cell (p:=⟨g,k * 5,none⟩) lgr).trans e0
   have m1:=(BAL.cell (p:=⟨g,k * 5 + 1,none⟩) lgr).trans e1
   have m2:=(BAL.cell (p:=⟨g,k * 5 + 2,none⟩) lgr).trans e2
   have m3:=(BAL.cell (p:=⟨g,k * 5 + 3,none⟩) lgr).trans e3
   have m4:=(BAL.cell (p:=⟨g,k * 5 + 4,none⟩) lgr).trans e4
   have NG:Hid (some g ≠ (Value.slice va k vcp).ownBlock):=fun e => by have:=own_ge SVK.out.cc g e.symm;omega
   have NB:Hid (some b ≠ (Value.slice va k vcp).ownBlock):=fun e => by have:=own_ge SVK.out.cc b e.symm;omega
   have fz:∀ o,(wr.alloc o).frozen? ⟨w.heap.size + 1,6,none⟩ = false:=fun o => frozen_of_row _ _ 6 _ _ ((Keep.refl _ wr).alloc o _ _ _ SVK.out.row)
   clear sv hg htk BAL
   go_upto_region 7 with fail
   go_region_law ((refine step_append_lies _ ?_ (.tmp 28) (.tmp 37) 111 ?_ w.heap.size 121 k0 (.agg #[.int .i64 0,.int .i64 0,.int .i64 0,.int .i64 0,.bool false]) 5 40 Tryz.underlying111 hk0 hx0 hx1 hx2 rfl (by decide) (.slice va k vcp) k (flatC (s.com.take k)) ?_ ?_ ⟨wr.heap.size,0,none⟩ 1 1 [.int .i64 cA,.int .i64 cO,.int .i64 cS,.int .i64 cF,.bool cV] ?_ ?_ ?_ ?_ ?_ ?_ ?_ ?_ (wr.heap.size + 1) ?_ ?_;exact rfl;exact rfl;exact rfl;exact (SVK.out.cc.alloc _).drew;exact rfl;exact rfl;exact (World.news_of_block (cs:=#[.int .i64 cA,.int .i64 cO,.int .i64 cS,.int .i64 cF,.bool cV]) (t:=121) (fr:=(0,0)) (heap_alloc_new wr _));(simp [Value.oneCell']);decide;(unfold maxLen;omega);omega;(simp;omega);(simp);intro gg cap6 w6 own6 hg6 hat6 hlt6;have k8:=(hg6.cell (a:=⟨b,10,none⟩) (v:=.slice (some ⟨g,0,none⟩) s.com.length ccp) (by exact m8) NB.out);have k0':=(hg6.cell (a:=⟨g,k * 5,none⟩) (v:=.int .i64 cA) (by exact m0) NG.out);have k1:=(hg6.cell (a:=⟨g,k * 5 + 1,none⟩) (v:=.int .i64 cO) (by exact m1) NG.out);have k2:=(hg6.cell (a:=⟨g,k * 5 + 2,none⟩) (v:=.int .i64 cS) (by exact m2) NG.out);have k3:=(hg6.cell (a:=⟨g,k * 5 + 3,none⟩) (v:=.int .i64 cF) (by exact m3) NG.out);have k4:=(hg6.cell (a:=⟨g,k * 5 + 4,none⟩) (v:=.bool cV) (by exact m4) NG.out);have S6:=hid' (grown_heap (w:=(wr.alloc (.cells #[.int .i64 cA,.int .i64 cO,.int .i64 cS,.int .i64 cF,.bool cV] 121)).drew) (t:=113) hg6 (SVK.out.cc.alloc _).drew ((Keep.refl _ wr).alloc _ _ _ _ SVK.out.row) (by decide));have c66:=cell_of_row _ _ 6 _ _ _ S6.out;have f66:=frozen_of_row _ _ 6 _ _ S6.out;(simp at c66);have OWN6:=hid' own6;have HG6:=hid' hg6;clear own6 hg6 hat6))
   all_goals
    go_wp2
    go_roundw
    case rel =>
     refine ⟨k + 1,_,by omega,by go_num,(SVK.out.below ((Below.refl wr.heap.size wr).alloc (Nat.le_refl _) (.cells #[.int .i64 cA,.int .i64 cO,.int .i64 cS,.int .i64 cF,.bool cV] 121)).drew).put (by exact HG6.out) ?_⟩
     rw [HTK.out,flatC_append];exact OWN6.out
    case measure => simp [intOf];omega
  ·have hnl:¬ (k:Int) < (s.com.length:Int):=by omega
   obtain rfl:k = s.com.length:=by omega
   obtain ⟨va,vcp,hv⟩:=own_slice sv.cc
   subst hv
   have t0:=cell_of_row _ _ 0 _ _ _ sv.row
   have t1:=cell_of_row _ _ 1 _ _ _ sv.row
   have t2:=cell_of_row _ _ 2 _ _ _ sv.row
   have t3:=cell_of_row _ _ 3 _ _ _ sv.row
   have t4:=cell_of_row _ _ 4 _ _ _ sv.row
   have t5:=cell_of_row _ _ 5 _ _ _ sv.row
   have t6:=cell_of_row _ _ 6 _ _ _ sv.row
   have t7:=cell_of_row _ _ 7 _ _ _ sv.row
   simp at t0 t1 t2 t3 t4 t5 t6 t7
   have u0:=cell_of_row _ _ 0 _ _ _ sv.res
   have u1:=cell_of_row _ _ 1 _ _ _ sv.res
   have u2:=cell_of_row _ _ 2 _ _ _ sv.res
   have u3:=cell_of_row _ _ 3 _ _ _ sv.res
   have u4:=cell_of_row _ _ 4 _ _ _ sv.res
   have u5:=cell_of_row _ _ 5 _ _ _ sv.res
   have u6:=cell_of_row _ _ 6 _ _ _ sv.res
   have u7:=cell_of_row _ _ 7 _ _ _ sv.res
   simp at u0 u1 u2 u3 u4 u5 u6 u7
   have f0:=frozen_of_row _ _ 0 _ _ sv.res
   have f1:=frozen_of_row _ _ 1 _ _ sv.res
   have f2:=frozen_of_row _ _ 2 _ _ sv.res
   have f3:=frozen_of_row _ _ 3 _ _ sv.res
   have f4:=frozen_of_row _ _ 4 _ _ sv.res
   have f5:=frozen_of_row _ _ 5 _ _ sv.res
   have f6:=frozen_of_row _ _ 6 _ _ sv.res
   have f7:=frozen_of_row _ _ 7 _ _ sv.res
   clear sv
   go_wp2
   try simp only [Exit.inBlock,Exit.then]
   have R8:=set8_row (a0:=.int .i64 s.ns) (a1:=.int .i64 s.nf) (a2:=.bool s.ld) (a3:=.int .i64 s.up) (a4:=.int .i64 s.ex) (a5:=.slice dna s.done.length dncp) (a6:=.slice va s.com.length vcp) (a7:=.int .i64 s.ref) SVK.out.res
   refine bodyPost_ret (results_cell_row rfl _ _ w.heap.size 113 #[.int .i64 s.ns,.int .i64 s.nf,.bool s.ld,.int .i64 s.up,.int .i64 s.ex,.slice dna s.done.length dncp,.slice va s.com.length vcp,.int .i64 s.ref] (0,0) _ rfl (by exact R8) Tryz.underlying113 rfl (by kernel_rfl)) rfl ?_
   have cc:=SVK.out.cc
   rw [List.take_length] at cc
   exact ⟨_,_,rfl,by exact set8_own SVK.out.res SVK.out.dd (by decide),by exact set8_own SVK.out.res cc (by decide),by exact set8_below SVK.out.bel (Nat.le_refl _)⟩
set_option maxRecDepth 100000 in
theorem p_see (b:Nat) (s:Sv) (F:Nat → Prop) (w:World) (h:PS b s F w) (l1:s.done.length ≤ 900) (l2:s.com.length ≤ 900):Shows b s w:=by
 obtain ⟨dv,cv,op,bs,bf,r,_,_⟩:=h
 have B0:=hid' ((Below.refl w.heap.size w).alloc (Nat.le_refl _) (.cells #[.int .i64 0,.int .i64 0,.bool false,.int .i64 0,.int .i64 0,.slice none 0 0,.slice none 0 0,.int .i64 0] 113))
 have R0:=hid' (heap_alloc_new w (.cells #[.int .i64 0,.int .i64 0,.bool false,.int .i64 0,.int .i64 0,.slice none 0 0,.slice none 0 0,.int .i64 0] 113))
 have SE:=hid' (srv_see b s dv cv op bs bf _ (r.below B0.out) l1 l2)
 unfold Shows
 clear r
 go_enter Tryz.func59,Tryz.ntmps59
 go_wp2_with fail
 refine SE.out.mono ?_
 rintro e w1 ⟨dv',cv',rfl,od,oc,hb⟩
 have R1:=hid' ((hb.block _ (lt_of_heap R0.out)).trans R0.out)
 have s0:=B0.out.size
 have OD:=hid' (own_lo od s0)
 have OC:=hid' (own_lo oc s0)
 have B1:=hid' (B0.out.trans (hb.mono s0))
 obtain ⟨xa,xcp,hx⟩:=own_slice od
 subst hx
 obtain ⟨ya,ycp,hy⟩:=own_slice oc
 subst hy
 have u0:=cell_of_row _ _ 0 _ _ _ R1.out
 have u1:=cell_of_row _ _ 1 _ _ _ R1.out
 have u2:=cell_of_row _ _ 2 _ _ _ R1.out
 have u3:=cell_of_row _ _ 3 _ _ _ R1.out
 have u4:=cell_of_row _ _ 4 _ _ _ R1.out
 have u5:=cell_of_row _ _ 5 _ _ _ R1.out
 have u6:=cell_of_row _ _ 6 _ _ _ R1.out
 have u7:=cell_of_row _ _ 7 _ _ _ R1.out
 simp at u0 u1 u2 u3 u4 u5 u6 u7
 have f0:=frozen_of_row _ _ 0 _ _ R1.out
 have f1:=frozen_of_row _ _ 1 _ _ R1.out
 have f2:=frozen_of_row _ _ 2 _ _ R1.out
 have f3:=frozen_of_row _ _ 3 _ _ R1.out
 have f4:=frozen_of_row _ _ 4 _ _ R1.out
 have f5:=frozen_of_row _ _ 5 _ _ R1.out
 have f6:=frozen_of_row _ _ 6 _ _ R1.out
 have f7:=frozen_of_row _ _ 7 _ _ R1.out
 clear od oc hb SE
 go_wp2
 try simp only [Exit.inBlock,Exit.then]
 have R8:=set8_row (a0:=.int .i64 s.ns) (a1:=.int .i64 s.nf) (a2:=.bool s.ld) (a3:=.int .i64 s.up) (a4:=.int .i64 s.ex) (a5:=.slice xa s.done.length xcp) (a6:=.slice ya s.com.length ycp) (a7:=.int .i64 s.ref) R1.out
 refine bodyPost_ret (results_cell_row rfl _ _ w.heap.size 113 #[.int .i64 s.ns,.int .i64 s.nf,.bool s.ld,.int .i64 s.up,.int .i64 s.ex,.slice xa s.done.length xcp,.slice ya s.com.length ycp,.int .i64 s.ref] (0,0) _ rfl (by exact R8) Tryz.underlying113 rfl (by kernel_rfl)) rfl ?_
 exact ⟨_,_,rfl,by exact set8_own R1.out OD.out (by decide),by exact set8_own R1.out OC.out (by decide),by exact set8_below B1.out (Nat.le_refl _)⟩
end Go.Proofs.YtmmkhodaljpjgaaGreatDoor
namespace Go.Proofs.YtmmkhodaljpjgaaGreatDoor
open Go.RowKit
attribute [local go_sem ↓] Go.wp_at_zero Go.wp_at_succ
theorem PRow.putD {b:Nat} {s:Sv} {dv cv dv':Value} {op:Bool} {bs bf:Int} {w w1:World} {L:List (Int × Int)} (h:PRow b s dv cv op bs bf w) (hg:w.grownBy w1 dv.ownBlock) (ho:w1.ownsRow 0 84 2 dv' L.length (flat L)) :
  PRow b { s with done:=L } dv' cv op bs bf (w1.setCell ⟨b,9,none⟩ dv'):=by
 have row:=grown_heap (t:=157) hg h.dd h.row (by decide)
 have kc:=own_grown h.cc hg h.dd (by decide)
 refine ⟨?_,own_set (p:=⟨b,9,none⟩) ho row (by decide) _,own_set (p:=⟨b,9,none⟩) kc row (by decide) _,h.sl⟩
 rw [heap_setCell_same _ _ _ _ _ _ row];rfl
theorem PRow.putO {b:Nat} {s:Sv} {dv cv:Value} {op:Bool} {bs bf x y:Int} {w:World} (h:PRow b s dv cv op bs bf w):PRow b s dv cv true x y (((w.setCell ⟨b,44,none⟩ (.bool true)).setCell ⟨b,45,none⟩ (.int .i64 x)).setCell ⟨b,46,none⟩ (.int .i64 y)):=by
 have r0:=h.row
 have r1:=heap_setCell_same _ _ 44 _ _ (.bool true) r0
 have r2:=heap_setCell_same _ _ 45 _ _ (.int .i64 x) r1
 have ow:∀ {B e size n:Nat} {v:Value} {xs:List Value},w.ownsRow B e size v n xs → 157 ≠ e → (((w.setCell ⟨b,44,none⟩ (.bool true)).setCell ⟨b,45,none⟩ (.int .i64 x)).setCell ⟨b,46,none⟩ (.int .i64 y)).ownsRow B e size v n xs:=fun o he =>
  own_set (p:=⟨b,46,none⟩) (own_set (p:=⟨b,45,none⟩) (own_set (p:=⟨b,44,none⟩) o r0 he _) r1 he _) r2 he _
 refine ⟨?_,ow h.dd (by decide),ow h.cc (by decide),h.sl⟩
 rw [heap_setCell_same _ _ _ _ _ _ r2];rfl
def BegP (b:Nat) (s:Sv) (dv cv:Value) (a o x y:Int) (w w':World):Prop:=∃ dv',PRow b { s with done:=s.done ++ [(a,o)] } dv' cv true x y w' ∧ Off (pFoot b dv cv) w w' ∧ ∀ k,dv'.ownBlock = some k → dv.ownBlock = some k ∨ w.heap.size ≤ k
set_option maxRecDepth 100000 in
set_option maxHeartbeats 6400000 in
theorem let_begin (b:Nat) (s:Sv) (dv cv:Value) (op:Bool) (bs bf a o x y:Int) (v:Bool) (w:World) (h:PRow b s dv cv op bs bf w) (hl:s.done.length ≤ 900) :
  Calls Tryz.prog 197 #[.pointer (some ⟨b,0,none⟩),.agg #[.int .i64 a,.int .i64 o,.int .i64 x,.int .i64 y,.bool v]] w fun e w' => e = .returned (.tuple #[]) ∧ BegP b s dv cv a o x y w w':=by
 obtain ⟨i0,hi0,hz0,hz1,hz2⟩:=info_parts infoALeap
 have B0:=hid' ((Below.refl w.heap.size w).alloc (Nat.le_refl _) (.cells #[.int .i64 a,.int .i64 o,.int .i64 x,.int .i64 y,.bool v] 121))
 have R0:=hid' (heap_alloc_new w (.cells #[.int .i64 a,.int .i64 o,.int .i64 x,.int .i64 y,.bool v] 121))
 have P0:=hid' (h.below B0.out)
 have lb0:=lt_of_heap h.row
 obtain ⟨da,dcp,hdv⟩:=own_slice h.dd
 subst hdv
 clear h
 go_enter Tryz.func197,Tryz.ntmps197
 go_upto_region 1 with fail
 have O0:=hid' (Off.of_below (F:=pFoot b (.slice da s.done.length dcp) cv) B0.out)
 have hq0:b ≠ w.heap.size:=by omega
 have ls:=B0.out.size
 generalize hV:w.alloc (.cells #[.int .i64 a,.int .i64 o,.int .i64 x,.int .i64 y,.bool v] 121) = V at *
 generalize hQ:w.heap.size = Q at *
 clear hV
 have q7:=P0.out.c9
 have f7:=frozen_of_row _ _ 9 _ _ P0.out.row
 have d0:=cell_of_row _ _ 0 _ _ _ R0.out
 have d1:=cell_of_row _ _ 1 _ _ _ R0.out
 have lb:=lt_of_heap P0.out.row
 have lq:=lt_of_heap R0.out
 simp at d0 d1
 have fz:∀ o,(V.alloc o).frozen? ⟨b,9,none⟩ = false:=fun o => frozen_of_row _ _ 9 _ _ ((Keep.refl _ V).alloc o _ _ _ P0.out.row)
 go_cut [3] from 4 (fun s3 wx => s3 = .pointer (some ⟨Q,0,none⟩) ∧ wx.heap[Q]? = some (.cells #[.int .i64 a,.int .i64 o,.int .i64 x,.int .i64 y,.bool v] 121 (0,0)) ∧ ∃ dv',PRow b { s with done:=s.done ++ [(a,o)] } dv' cv op bs bf wx ∧ Off (pFoot b (.slice da s.done.length dcp) cv) w wx ∧ ∀ k,dv'.ownBlock = some k → (Value.slice da s.done.length dcp).ownBlock = some k ∨ Q ≤ k)
 case first =>
  go_region_law ((refine step_append_lies _ ?_ (.tmp 9) (.tmp 15) 76 ?_ 0 84 i0 (.agg #[.int .i64 0,.int .i64 0]) 2 16 Tryz.underlying76 hi0 hz0 hz1 hz2 rfl (by decide) (.slice da s.done.length dcp) s.done.length (flat s.done) ?_ ?_ ⟨V.heap.size,0,none⟩ 1 1 [.int .i64 a,.int .i64 o] ?_ ?_ ?_ ?_ ?_ ?_ ?_ ?_ (V.heap.size + 1) ?_ ?_;exact rfl;exact rfl;exact rfl;exact (P0.out.dd.alloc _).drew;exact rfl;exact rfl;exact (World.news_of_block (cs:=#[.int .i64 a,.int .i64 o]) (t:=84) (fr:=(0,0)) (heap_alloc_new V _));(simp [Value.oneCell']);decide;(unfold maxLen;omega);omega;omega;(simp);intro gg cap6 w6 own6 hg6 hat6 hlt6;have S6:=hid' (grown_heap (w:=(V.alloc (.cells #[.int .i64 a,.int .i64 o] 84)).drew) (t:=157) hg6 (P0.out.dd.alloc _).drew ((Keep.refl _ V).alloc _ _ _ _ P0.out.row) (by decide));have C6:=hid' (grown_heap (w:=(V.alloc (.cells #[.int .i64 a,.int .i64 o] 84)).drew) (t:=121) hg6 (P0.out.dd.alloc _).drew ((Keep.refl _ V).alloc _ _ _ _ R0.out) (by decide));have c67:w6.cell? ⟨b,9,none⟩ = some (.slice da s.done.length dcp):=cell_of_row _ _ 9 _ _ _ S6.out;have f67:=frozen_of_row _ _ 9 _ _ S6.out;have OWN6:=hid' own6;have HG6:=hid' hg6;have HAT6:=hid' hat6;clear own6 hg6 hat6))
  all_goals
   go_wp2_with fail
   go_meet
   case rel =>
    have ba6:=((Below.refl V.heap.size V).alloc (Nat.le_refl _) (.cells #[.int .i64 a,.int .i64 o] 84)).drew
    refine ⟨rfl,?_,_,(P0.out.below ba6).putD (L:=s.done ++ [(a,o)]) (by exact HG6.out) (by rw [flat_append,List.length_append];exact OWN6.out),?_,fun k e => ?_⟩
    ·rw [heap_setCell_other _ _ _ _ (by simp only;omega)];exact C6.out
    ·refine ((O0.out.then ba6).grown (by exact HG6.out) (fun k e _ => .inr (.inl e))).setCell (fun _ => .inl rfl) _
    ·obtain rfl:gg = k:=by simpa [Value.ownBlock] using e
     rcases HAT6.out with q | q
     ·exact .inl q
     ·exact .inr (by omega)
 case rest =>
  obtain ⟨rfl,crow,dv',pr,off,hat⟩:=hcut
  rename World => W2
  have PR:=hid' pr
  have OF:=hid' off
  have HA:=hid' hat
  have e2:=cell_of_row _ _ 2 _ _ _ crow
  have e3:=cell_of_row _ _ 3 _ _ _ crow
  have g10:=pr.c44
  have g11:=pr.c45
  have g12:=pr.c46
  have f10:=frozen_of_row _ _ 44 _ _ pr.row
  have f11:=frozen_of_row _ _ 45 _ _ pr.row
  have f12:=frozen_of_row _ _ 46 _ _ pr.row
  simp at e2 e3
  have hq1:Q ≠ b:=fun q => hq0 q.symm
  clear pr off hat crow q7 f7 d0 d1 fz
  go_wp2
  go_end0
  refine ⟨rfl,dv',PR.out.putO,((OF.out.setCell (p:=⟨b,44,none⟩) (fun _ => .inl rfl) _).setCell (p:=⟨b,45,none⟩) (fun _ => .inl rfl) _).setCell (p:=⟨b,46,none⟩) (fun _ => .inl rfl) _,fun k e => ?_⟩
  rw [hQ]
  exact HA.out k e
end Go.Proofs.YtmmkhodaljpjgaaGreatDoor
namespace Go.Proofs.YtmmkhodaljpjgaaGreatDoor
open Go.RowKit
def cmB (c:Cm):Int × Int:=(c.bs,c.bf)
structure Cut (ns nf:Int) (l:List Cm) (m:Nat):Prop where
 le:m ≤ l.length
 lo:∀ (i:Nat) (h:i < l.length),i < m → tLater l[i].bs l[i].bf ns nf = false
 hi:∀ (i:Nat) (h:i < l.length),m ≤ i → tLater l[i].bs l[i].bf ns nf = true
theorem begunL_cut (ns nf:Int) (l:List Cm) (d b:List (Int × Int)) (m:Nat) (h:Cut ns nf l m):begunL ns nf l d b = (d ++ (l.take m).map cmP,b ++ (l.take m).map cmB,l.drop m):=by
 induction l generalizing d b m with
 | nil =>
  simp [begunL]
 | cons c r ih =>
  cases m with
  | zero =>
   have:=h.hi 0 (by simp) (Nat.le_refl _)
   simp only [List.getElem_cons_zero] at this
   simp [begunL,this]
  | succ m =>
   have:=h.lo 0 (by simp) (by omega)
   simp only [List.getElem_cons_zero] at this
   have h':Cut ns nf r m:=⟨by have:=h.le;simpa using this,fun i hi hm => by have:=h.lo (i + 1) (by simpa using hi) (by omega);simpa using this,fun i hi hm => by have:=h.hi (i + 1) (by simpa using hi) (by omega);simpa using this⟩
   simp only [begunL,this,Bool.false_eq_true,if_false]
   rw [ih _ _ m h']
   simp [cmP,cmB]
theorem Sv.begun_cut (x:Sv) (m:Nat) (h:Cut x.ns x.nf x.com m):x.begun = { x with done:=x.done ++ (x.com.take m).map cmP,began:=x.began ++ (x.com.take m).map cmB,com:=x.com.drop m }:=by
 unfold Sv.begun
 rw [begunL_cut _ _ _ _ _ m h]
theorem lead (ns nf:Int) (l:List Cm):∃ m,m ≤ l.length ∧ (∀ (i:Nat) (h:i < l.length),i < m → tLater l[i].bs l[i].bf ns nf = false) ∧ ∀ h:m < l.length,tLater l[m].bs l[m].bf ns nf = true:=by
 induction l with
 | nil => exact ⟨0,by simp,fun i h => by simp at h,fun h => by simp at h⟩
 | cons c r ih =>
  cases hc:tLater c.bs c.bf ns nf with
  | true => exact ⟨0,by simp,fun i h hm => by omega,fun h => by simpa using hc⟩
  | false =>
   obtain ⟨m,h1,h2,h3⟩:=ih
   refine ⟨m + 1,by simp;omega,fun i hi hm => ?_,fun h => ?_⟩
   ·cases i with
    | zero => simpa using hc
    | succ i => simpa using h2 i (by simpa using hi) (by omega)
   ·simpa using h3 (by simpa using h)
theorem Sv.Mid.cut {x:Sv} (h:x.Mid) (w0:0 ≤ x.win) (w1:x.win ≤ 604800):∃ m,Cut x.ns x.nf x.com m:=by
 obtain ⟨m,h1,h2,h3⟩:=lead x.ns x.nf x.com
 refine ⟨m,h1,h2,fun i hi hm => ?_⟩
 by_cases e:i = m
 ·subst e;exact h3 hi
 ·have l:=is_later (h3 (by omega))
  have o:=h.order w0 w1 m i x.com[m] x.com[i] (by omega) (List.getElem?_eq_getElem (by omega)) (List.getElem?_eq_getElem hi)
  exact decide_eq_true (by omega)
end Go.Proofs.YtmmkhodaljpjgaaGreatDoor
namespace Go.Proofs.YtmmkhodaljpjgaaGreatDoor
open Go.RowKit
attribute [local go_sem ↓] Go.wp_at_zero Go.wp_at_succ
theorem PRow.putC {b:Nat} {s:Sv} {dv cv cv':Value} {op:Bool} {bs bf:Int} {w:World} {L:List Cm} (h:PRow b s dv cv op bs bf w) (ho:w.ownsRow 0 121 5 cv' L.length (flatC L)) :
  PRow b { s with com:=L } dv cv' op bs bf (w.setCell ⟨b,10,none⟩ cv'):=by
 refine ⟨?_,own_set (p:=⟨b,10,none⟩) h.dd h.row (by decide) _,own_set (p:=⟨b,10,none⟩) ho h.row (by decide) _,h.sl⟩
 rw [heap_setCell_same _ _ _ _ _ _ h.row];rfl
def lastB (l:List Cm) (k:Nat) (op:Bool) (bs bf:Int):Bool × Int × Int:=if k = 0 then (op,bs,bf) else (true,(l.getD (k - 1) ⟨0,0,0,0,false⟩).bs,(l.getD (k - 1) ⟨0,0,0,0,false⟩).bf)
structure LkV (b:Nat) (s:Sv) (dv cv:Value) (op:Bool) (bs bf:Int) (m k:Nat) (w:World) (lv dv':Value) (wr:World):Prop where
 r:PRow b { s with done:=s.done ++ (s.com.take (min k m)).map cmP } dv' cv (lastB s.com (min k m) op bs bf).1 (lastB s.com (min k m) op bs bf).2.1 (lastB s.com (min k m) op bs bf).2.2 wr
 off:Off (pFoot b dv cv) w wr
 at':∀ j,dv'.ownBlock = some j → dv.ownBlock = some j ∨ w.heap.size ≤ j
 l:wr.ownsRow w.heap.size 121 5 lv (k - m) (flatC ((s.com.drop m).take (k - m)))
theorem LkV.below {b:Nat} {s:Sv} {dv cv:Value} {op:Bool} {bs bf:Int} {m k:Nat} {w:World} {lv dv':Value} {wr w':World} (h:LkV b s dv cv op bs bf m k w lv dv' wr) (hb:Below wr.heap.size wr w'):LkV b s dv cv op bs bf m k w lv dv' w' :=
 ⟨h.r.below hb,h.off.then hb,h.at',own_down h.l hb⟩
theorem LkV.stay {b:Nat} {s:Sv} {dv cv:Value} {op:Bool} {bs bf:Int} {m k:Nat} {w:World} {lv dv' lv':Value} {wr w2:World} (h:LkV b s dv cv op bs bf m k w lv dv' wr) (hm:m ≤ k) (lb:b < w.heap.size) (cl:∀ j,cv.ownBlock = some j → j < w.heap.size) (hg:wr.grownBy w2 lv.ownBlock)
  (own:w2.ownsRow w.heap.size 121 5 lv' (k + 1 - m) (flatC ((s.com.drop m).take (k + 1 - m)))):LkV b s dv cv op bs bf m (k + 1) w lv' dv' w2:=by
 have e:min (k + 1) m = min k m:=by omega
 have ge:=own_ge h.l
 have sz:=h.off.size
 refine ⟨?_,h.off.grown hg (fun j e hj => by have:=ge j e;omega),h.at',own⟩
 rw [e]
 refine h.r.keep (fun j q => ?_)
 have lj:j < wr.heap.size:=by obtain ⟨_,_,_,hh,_⟩:=h.r.typ q;exact lt_of_heap hh
 refine hg.block j lj (fun c => ?_)
 have g1:=ge j c.symm
 rcases q with q | q | q
 ·omega
 ·obtain ⟨cs,fr,hh⟩:=own_typ h.l c.symm
  obtain ⟨cs',fr',hh'⟩:=own_typ h.r.dd q
  rw [hh] at hh'
  simp at hh'
 ·have:=cl j q;omega
theorem LkV.begin {b:Nat} {s:Sv} {dv cv:Value} {op:Bool} {bs bf:Int} {m k:Nat} {w:World} {lv dv':Value} {wr w2:World} (h:LkV b s dv cv op bs bf m k w lv dv' wr) (hk:k < s.com.length) (hm:k < m) (lb:b < w.heap.size) (cl:∀ j,cv.ownBlock = some j → j < w.heap.size)
  (hp:BegP b { s with done:=s.done ++ (s.com.take (min k m)).map cmP } dv' cv s.com[k].a s.com[k].o s.com[k].bs s.com[k].bf wr w2):∃ dv2,LkV b s dv cv op bs bf m (k + 1) w lv dv2 w2:=by
 obtain ⟨dv2,pr,of,ha⟩:=hp
 have e1:min k m = k:=by omega
 have e2:min (k + 1) m = k + 1:=by omega
 have sz:=h.off.size
 have ge:=own_ge h.l
 refine ⟨dv2,?_,?_,fun j e => ?_,?_⟩
 ·have ed:(s.done ++ (s.com.take (min k m)).map cmP) ++ [(s.com[k].a,s.com[k].o)] = s.done ++ (s.com.take (min (k + 1) m)).map cmP:=by
   rw [e1,e2,List.take_succ_eq_append_getElem hk,List.map_append,List.append_assoc];rfl
  have el:lastB s.com (min (k + 1) m) op bs bf = (true,s.com[k].bs,s.com[k].bf):=by
   unfold lastB
   rw [e2,if_neg (by omega),show k + 1 - 1 = k from rfl,List.getD_eq_getElem?_getD,List.getElem?_eq_getElem hk];rfl
  rw [el,← ed]
  exact pr
 ·refine h.off.trans of (fun j hj e => ?_)
  rcases e with e | e | e
  ·exact .inl e
  ·rcases h.at' j e with q | q
   ·exact .inr (.inl q)
   ·omega
  ·exact .inr (.inr e)
 ·rcases ha j e with q | q
  ·exact h.at' j q
  ·exact .inr (by omega)
 ·have e3:k + 1 - m = k - m:=by omega
  rw [e3]
  refine of.own h.l (fun j e q => ?_)
  have g1:=ge j e
  rcases q with q | q | q
  ·omega
  ·obtain ⟨cs,fr,hh⟩:=own_typ h.l e
   obtain ⟨cs',fr',hh'⟩:=own_typ h.r.dd q
   rw [hh] at hh'
   simp at hh'
  ·have:=cl j q;omega
def LkP (b:Nat) (s:Sv) (dv cv:Value) (op:Bool) (bs bf:Int) (m:Nat) (w w':World):Prop:=∃ dv' cv',PRow b s.begun dv' cv' (lastB s.com m op bs bf).1 (lastB s.com m op bs bf).2.1 (lastB s.com m op bs bf).2.2 w' ∧ Off (pFoot b dv cv) w w' ∧ ∀ j,pFoot b dv' cv' j → pFoot b dv cv j ∨ w.heap.size ≤ j
set_option maxRecDepth 100000 in
set_option maxHeartbeats 6400000 in
theorem let_due (b:Nat) (s:Sv) (dv cv:Value) (op:Bool) (bs bf:Int) (m:Nat) (w:World) (h:PRow b s dv cv op bs bf w) (hc:Cut s.ns s.nf s.com m) (hl:s.done.length + s.com.length ≤ 800) :
  Calls Tryz.prog 182 #[.pointer (some ⟨b,0,none⟩)] w fun e w' => e = .returned (.tuple #[]) ∧ LkP b s dv cv op bs bf m w w':=by
 obtain ⟨k0,hk0,hx0,hx1,hx2⟩:=info_parts infoAComing
 have HP:=hid' h
 have HC:=hid' hc
 have lb:=lt_of_heap h.row
 have CL:∀ j,cv.ownBlock = some j → j < w.heap.size:=fun j e => by obtain ⟨_,_,hh⟩:=own_typ h.cc e;exact lt_of_heap hh
 have HCL:=hid' CL
 have hm:=hc.le
 obtain ⟨ca,ccp,hcv⟩:=own_slice h.cc
 subst hcv
 have L0:Hid (LkV b s dv (.slice ca s.com.length ccp) op bs bf m 0 w (.slice none 0 0) dv w):=by
  refine ⟨?_,Off.refl _ _,fun j e => .inl e,?_⟩
  ·rw [Nat.zero_min]
   simpa [lastB] using h
  ·rw [Nat.zero_sub];exact World.ownsRow_nil _ _ _ _
 clear h hc CL
 go_enter Tryz.func182,Tryz.ntmps182
 go_wp2
 go_loopw [2,3,4] (fun lv i _ wr => ∃ (k:Nat) (dv':Value),k ≤ s.com.length ∧ i = .int .i64 k ∧ LkV b s dv (.slice ca s.com.length ccp) op bs bf m k w lv dv' wr) (fun _ i _ _ => s.com.length - (intOf i).toNat)
 case atStart => exact ⟨0,_,by omega,rfl,L0.out⟩
 case round =>
  obtain ⟨k,dv',hk,rfl,lk⟩:=hrel
  have LK:=hid' lk
  have q8:=lk.r.c10
  have lbr:=lt_of_heap lk.r.row
  have sz:=lk.off.size
  by_cases hlt:k < s.com.length
  ·have hli:(k:Int) < (s.com.length:Int):=by omega
   have hk0i:(0:Int) ≤ (k:Int):=by omega
   obtain ⟨g,cg,hg⟩:=own_some lk.r.cc (show 0 < s.com.length by omega)
   obtain ⟨rfl,_,rfl⟩:=Value.slice.inj hg
   have lg:g < wr.heap.size:=(lk.r.cc.lt _ rfl).2
   have e0:=(lk.r.cc.cellAt (k * 5) (by omega)).trans (flatC_at s.com k hlt 0 (by omega))
   have e1:=(lk.r.cc.cellAt (k * 5 + 1) (by omega)).trans (flatC_at s.com k hlt 1 (by omega))
   have e2:=(lk.r.cc.cellAt (k * 5 + 2) (by omega)).trans (flatC_at s.com k hlt 2 (by omega))
   have e3:=(lk.r.cc.cellAt (k * 5 + 3) (by omega)).trans (flatC_at s.com k hlt 3 (by omega))
   have e4:=(lk.r.cc.cellAt (k * 5 + 4) (by omega)).trans (flatC_at s.com k hlt 4 (by omega))
   have q2:=lk.r.c4
   have q3:=lk.r.c5
   have HLO:=hid' (HC.out.lo k hlt)
   have HHI:=hid' (HC.out.hi k hlt)
   have HBG:=hid' (fun (w2:World) (lv0 dv0:Value) (W:World) (hh:LkV b s dv (.slice (some ⟨g,0,none⟩) s.com.length ccp) op bs bf m k w lv0 dv0 W) (hm:k < m) hp => LkV.begin (w2:=w2) hh hlt hm lb HCL.out hp)
   have htk:m ≤ k → (s.com.drop m).take (k + 1 - m) = (s.com.drop m).take (k - m) ++ [s.com[k]]:=fun q => by
    rw [show k + 1 - m = (k - m) + 1 from by omega,List.take_succ_eq_append_getElem (by rw [List.length_drop];omega),List.getElem_drop]
    congr 2
    congr 1
    omega
   have HTK:=hid' htk
   generalize s.com[k] = c at *
   obtain ⟨cA,cO,cS,cF,cV⟩:=c
   simp [Cm.cells] at e0 e1 e2 e3 e4
   simp only at HLO HHI HBG
   have EAR:=hid' (fun W => clk_earlier s.ns s.nf cS cF W)
   obtain ⟨lt,hltb⟩:∃ lt,tLater cS cF s.ns s.nf = lt:=⟨_,rfl⟩
   rw [hltb] at EAR HLO HHI
   have BA:=hid' ((Below.refl wr.heap.size wr).alloc (Nat.le_refl _) (.cells #[.int .i64 cA,.int .i64 cO,.int .i64 cS,.int .i64 cF,.bool cV] 121))
   have RA:=hid' (heap_alloc_new wr (.cells #[.int .i64 cA,.int .i64 cO,.int .i64 cS,.int .i64 cF,.bool cV] 121))
   obtain ⟨va,vcp,hv⟩:=own_slice lk.l
   subst hv
   clear lk hg htk hltb
   go_upto_region 5 with fail
   go_cut [2,3,4,30] from 5 to 37 (fun s2 s3 s4 s30 wx => s2 = .slice va (k - m) vcp ∧ s3 = .int .i64 k ∧ s4 = .pointer (some ⟨wr.heap.size,0,none⟩) ∧ s30 = .bool lt ∧ Below wr.heap.size wr wx ∧ wx.heap[wr.heap.size]? = some (.cells #[.int .i64 cA,.int .i64 cO,.int .i64 cS,.int .i64 cF,.bool cV] 121 (0,0)))
   case first =>
    go_region_with (go_at_call 196;refine (EAR.out _).mono ?_;rintro e w1 ⟨rfl,hb1⟩;have HB1:=hid' hb1;clear hb1)
    all_goals
     go_wp2_with fail
     go_meet
     case rel => exact ⟨rfl,rfl,rfl,rfl,BA.out.drew.trans (HB1.out.mono (by exact BA.out.size)),(HB1.out.block _ (by simp)).trans RA.out⟩
   case rest =>
    obtain ⟨rfl,rfl,rfl,rfl,bel,crow⟩:=hcut
    rename World => W1
    have L1:=hid' (LK.out.below bel)
    have CR:=hid' crow
    have lc:=lt_of_heap crow
    have sz1:=bel.size
    have d0:=cell_of_row _ _ 0 _ _ _ crow
    have d1:=cell_of_row _ _ 1 _ _ _ crow
    have d2:=cell_of_row _ _ 2 _ _ _ crow
    have d3:=cell_of_row _ _ 3 _ _ _ crow
    have d4:=cell_of_row _ _ 4 _ _ _ crow
    simp at d0 d1 d2 d3 d4
    clear bel crow q2 q3 q8 e0 e1 e2 e3 e4
    cases lt with
    | true =>
     have hmk:m ≤ k:=by
      by_cases q:m ≤ k
      ·exact q
      ·have:=HLO.out (by omega);cases this
     go_wp2_with (at_builtin;refine wpList_append_lies _ (by rfl) (.tmp 31) (.tmp 33) 111 (by rfl) w.heap.size 121 k0 (.agg #[.int .i64 0,.int .i64 0,.int .i64 0,.int .i64 0,.bool false]) 5 40 Tryz.underlying111 hk0 hx0 hx1 hx2 rfl (by decide) (.slice va (k - m) vcp) (k - m) (flatC ((s.com.drop m).take (k - m))) (by rfl) (L1.out.l.alloc _) ⟨W1.heap.size,0,none⟩ 1 1 [.int .i64 cA,.int .i64 cO,.int .i64 cS,.int .i64 cF,.bool cV] (by rfl) (by rfl) (World.news_of_block (cs:=#[.int .i64 cA,.int .i64 cO,.int .i64 cS,.int .i64 cF,.bool cV]) (t:=121) (fr:=(0,0)) (heap_alloc_new W1 _)) (by simp [Value.oneCell']) (by decide) (by unfold maxLen;omega) (by omega) (by simp <;> omega) (W1.heap.size + 1) (by simp) ?_;intro g3 cap3 w3 own3 hg3 hat3 hlt3;have OWN3:=hid' own3;have HG3:=hid' hg3;clear own3 hg3 hat3)
     go_roundw
     case rel =>
      refine ⟨k + 1,dv',by omega,by go_num,?_⟩
      refine (L1.out.below ((Below.refl W1.heap.size W1).alloc (Nat.le_refl _) _)).stay hmk lb HCL.out HG3.out ?_
      rw [HTK.out hmk,flatC_append,show k + 1 - m = k - m + 1 from by omega]
      exact OWN3.out
     case measure => simp [intOf];omega
    | false =>
     have hmk:k < m:=by
      by_cases q:m ≤ k
      ·have:=HHI.out q;cases this
      ·omega
     have dlen:(s.done ++ (s.com.take (min k m)).map cmP).length ≤ 900:=by simp;omega
     have LB:=hid' (let_begin b _ dv' (.slice (some ⟨g,0,none⟩) s.com.length ccp) _ _ _ cA cO cS cF cV W1 L1.out.r dlen)
     clear dlen
     go_wp2_with fail
     refine LB.out.mono ?_
     rintro e w4 ⟨rfl,bp⟩
     have BP:=hid' (HBG.out w4 _ _ W1 L1.out hmk bp)
     clear bp LB
     go_wp2
     go_roundw
     case rel =>
      obtain ⟨dv2,l2⟩:=BP.out
      exact ⟨k + 1,dv2,by omega,by go_num,l2⟩
     case measure => simp [intOf];omega
  ·have hnl:¬ (k:Int) < (s.com.length:Int):=by omega
   obtain rfl:k = s.com.length:=by omega
   obtain ⟨va,vcp,hv⟩:=own_slice lk.l
   subst hv
   have f8:=lk.r.fr 10
   clear lk
   go_wp2
   go_end0
   have e1:min s.com.length m = m:=by omega
   have hr:=LK.out.r
   rw [e1] at hr
   have hcc:(s.com.drop m).take (s.com.length - m) = s.com.drop m:=List.take_of_length_le (by simp)
   have hll:=LK.out.l
   rw [hcc] at hll
   have pc:=hr.putC (L:=s.com.drop m) (by rw [List.length_drop];exact own_lo hll (Nat.zero_le _))
   refine ⟨rfl,dv',.slice va (s.com.length - m) vcp,?_,LK.out.off.setCell (p:=⟨b,10,none⟩) (fun _ => .inl rfl) _,fun j e => ?_⟩
   ·have eb:=s.begun_cut m HC.out
    rw [eb]
    exact ⟨pc.row,pc.dd,pc.cc,pc.sl⟩
   ·rcases e with e | e | e
    ·exact .inl (.inl e)
    ·rcases LK.out.at' j e with q | q
     ·exact .inl (.inr (.inl q))
     ·exact .inr q
    ·exact .inr (own_ge hll j e)
end Go.Proofs.YtmmkhodaljpjgaaGreatDoor
namespace Go.Proofs.YtmmkhodaljpjgaaGreatDoor
open Go.RowKit
theorem PRow.putN {b:Nat} {s:Sv} {dv cv:Value} {op:Bool} {bs bf:Int} {w:World} (h:PRow b s dv cv op bs bf w) (x y:Int):PRow b (s.at' x y) dv cv op bs bf ((w.setCell ⟨b,4,none⟩ (.int .i64 x)).setCell ⟨b,5,none⟩ (.int .i64 y)):=by
 have r1:=heap_setCell_same _ _ 4 _ _ (.int .i64 x) h.row
 refine ⟨?_,own_set (p:=⟨b,5,none⟩) (own_set (p:=⟨b,4,none⟩) h.dd h.row (by decide) _) r1 (by decide) _,own_set (p:=⟨b,5,none⟩) (own_set (p:=⟨b,4,none⟩) h.cc h.row (by decide) _) r1 (by decide) _,h.sl⟩
 rw [heap_setCell_same _ _ _ _ _ _ r1];rfl
theorem Opn.at' {s:Sv} {op:Bool} {bs bf x y:Int} (h:Opn s op bs bf) (hl:tLater s.ns s.nf x y = false):Opn (s.at' x y) op bs bf:=by
 refine ⟨h.1,fun e i hi => ?_⟩
 have q:=h.2 e i hi
 have nl:=not_later hl
 show (s.began.getD i (0,0)).1 + s.win < x ∨ ((s.began.getD i (0,0)).1 + s.win = x ∧ (s.began.getD i (0,0)).2 ≤ y)
 omega
theorem Opn.begun {s:Sv} {op:Bool} {bs bf:Int} {m:Nat} (h:Opn s op bs bf) (hc:Cut s.ns s.nf s.com m) (hp:0 < m → 0 < s.began.length):Opn s.begun (lastB s.com m op bs bf).1 (lastB s.com m op bs bf).2.1 (lastB s.com m op bs bf).2.2:=by
 have eb:=s.begun_cut m hc
 have hm:=hc.le
 by_cases z:m = 0
 ·subst z
  have e2:s.begun.began = s.began:=by rw [eb];simp
  have e3:s.begun.ns = s.ns:=rfl
  have e4:s.begun.nf = s.nf:=rfl
  have e5:s.begun.win = s.win:=rfl
  have el:lastB s.com 0 op bs bf = (op,bs,bf):=rfl
  rw [el]
  unfold Opn
  rw [e2,e3,e4,e5]
  exact h
 ·have el:lastB s.com m op bs bf = (true,(s.com.getD (m - 1) ⟨0,0,0,0,false⟩).bs,(s.com.getD (m - 1) ⟨0,0,0,0,false⟩).bf):=by unfold lastB;rw [if_neg z]
  rw [el]
  refine ⟨fun _ => ?_,fun e => by cases e⟩
  have e2:s.begun.began = s.began ++ (s.com.take m).map cmB:=by rw [eb]
  rw [e2]
  have ln:(s.began ++ (s.com.take m).map cmB).length = s.began.length + m:=by simp;omega
  refine ⟨by have:=hp (by omega);omega,?_⟩
  rw [ln,List.getD_eq_getElem?_getD,List.getElem?_append_right (by omega),List.getElem?_map,List.getElem?_take_of_lt (by omega),List.getD_eq_getElem?_getD]
  rw [show s.began.length + m - 1 - s.began.length = m - 1 from by omega,List.getElem?_eq_getElem (show m - 1 < s.com.length by omega)]
  rfl
theorem Opn.com {s:Sv} {op:Bool} {bs bf:Int} (h:Opn s op bs bf) (L:List Cm):Opn { s with com:=L } op bs bf:=h
theorem Opn.says {s:Sv} {op:Bool} {bs bf:Int} (h:Opn s op bs bf) (k:Nat) (leap:Int):Opn (s.says k leap) op bs bf:=h
def PPost (b:Nat) (F:Nat → Prop) (w:World) (s:Sv) (w':World):Prop:=∃ F',PS b s F' w' ∧ Off F w w' ∧ ∀ k,F' k → F k ∨ w.heap.size ≤ k
end Go.Proofs.YtmmkhodaljpjgaaGreatDoor
