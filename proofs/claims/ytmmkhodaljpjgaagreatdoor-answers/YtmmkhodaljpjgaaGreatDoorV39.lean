import Derived.Test.YtmmkhodaljpjgaaGreatDoorV38
import Derived.Test.YtmmkhodaljpjgaaGreatDoorV21
import Derived.Test.YtmmkhodaljpjgaaGreatDoorV23
import Derived.Test.YtmmkhodaljpjgaaGreatDoorV30
import Derived.Test.YtmmkhodaljpjgaaGreatDoorV34
import Derived.Test.YtmmkhodaljpjgaaGreatDoorV37
import Derived.Deep.QuietTactic
import Derived.BigQuiet
import Derived.BigRegion
namespace Go.Proofs.YtmmkhodaljpjgaaGreatDoor
open Go.RowKit
set_option maxRecDepth 100000 in
set_option maxHeartbeats 1600000 in
theorem does_now (bc bx by' br:Nat) (hv:Value) (m ts tf li er:Int) (o:Op) (t:ByteArray) (w:World) (hk:o.kind = 19)
  (hc:w.heap[bc]? = some (.cells #[.pointer (some ⟨bx,0,none⟩),.pointer (some ⟨by',0,none⟩),.pointer (some ⟨br,0,none⟩),hv,.int .i64 m] 60 (0,0)))
  (hN:∀ W,Below w.heap.size w W → Tells 55 bx ts tf li er W) (hS:∀ W,Below w.heap.size w W → Tells 56 br ts tf li er W) :
  Calls Tryz.prog 20 #[.pointer (some ⟨bc,0,none⟩),.agg #[.int .i64 o.kind,.int .i64 o.x,.int .i64 o.a,.int .i64 o.b,.int .i64 o.c,.int .i64 o.d,.string o.s],.string t] w fun e w' => e = .returned (.bool true) ∧ Below w.heap.size w w':=by
 obtain ⟨k,x,a,b,c,d,s⟩:=o
 simp only at *
 subst hk
 have B0:=hid' ((Below.refl w.heap.size w).alloc (Nat.le_refl _) (.cells #[.int .i64 19,.int .i64 x,.int .i64 a,.int .i64 b,.int .i64 c,.int .i64 d,.string s] 27))
 have C0:=(B0.out.block _ (lt_of_heap hc)).trans hc
 have SV:=hid' (served_yes bc bx by' br bx hv m ts tf li er _ C0 (hN _ B0.out) (fun W h => hS W (B0.out.trans (h.mono B0.out.size))))
 have c0:=cell_of_row _ _ 0 _ _ _ hc
 have lc:=lt_of_heap hc
 simp at c0
 clear hc hN hS C0
 go_enter Tryz.func20,Tryz.ntmps20
 go_wp2_with fail
 refine SV.out.mono ?_
 rintro e w1 ⟨rfl,hb1⟩
 have B1:=hid' (B0.out.trans (hb1.mono B0.out.size))
 clear hb1 SV
 go_wp2
 go_ret
 exact ⟨rfl,B1.out⟩
theorem Sv.voted_ref (x:Sv):x.voted.ref = x.ref:=by
 unfold Sv.voted
 split <;> rfl
theorem Sv.weigh_ref (x:Sv):x.weigh.ref = x.ref:=by
 unfold Sv.weigh
 split
 ·rfl
 ·split
  ·rfl
  ·rw [Sv.voted_ref];rfl
theorem Sv.adv_ref (x:Sv) (s f:Int):(x.adv s f).2.ref = x.ref:=by
 unfold Sv.adv
 split
 ·rfl
 ·split
  ·rfl
  ·show (Sv.weigh _).ref = _
   rw [Sv.weigh_ref];rfl
theorem Sv.hear_ref (x:Sv) (s f:Int):(x.hear s f).2.ref = x.ref:=by
 unfold Sv.hear
 split
 ·rfl
 ·split
  ·rfl
  ·show (Sv.weigh _).ref = _
   rw [Sv.weigh_ref];rfl
theorem Sv.load_ref (x:Sv) (g:Txt.Got):(x.load g).2.2.ref ≤ x.ref + 1:=by
 unfold Sv.load
 split
 ·show x.ref + 1 ≤ _;omega
 ·show (Sv.weigh _).ref ≤ _
  rw [Sv.weigh_ref]
  have e:(x.taken g.up g.ex g.ls).ref = (x.begun1 g.ls).ref:=rfl
  rw [e]
  unfold Sv.begun1
  split
  ·show x.ref ≤ _;omega
  ·omega
theorem k_see (b:Nat) (s:Sv) (F:Nat → Prop) (w:World) (h:PS b s F w) (hI:s.Inv):Shows b s w:=by
 have:=hI.lens
 exact p_see b s F w h (by omega) (by omega)
theorem Sv.Inv.told {x:Sv} (_:x.Inv):∃ ts tf li er,x.Told ts tf li er:=by
 cases hl:x.ld with
 | false => exact ⟨0,0,3,8,fun _ => ⟨rfl,rfl,rfl,rfl⟩,fun e => (by rw [hl] at e;cases e),fun e => (by rw [hl] at e;cases e),fun e => (by rw [hl] at e;cases e)⟩
 | true =>
  by_cases hm:x.mode = 0
  ·exact ⟨x.utc,x.nf,x.ind (x.utc / 86400),0,fun e => (by rw [hl] at e;cases e),fun _ _ => ⟨rfl,rfl,rfl,rfl⟩,fun _ e => absurd hm e,fun _ e => absurd hm e⟩
  ·by_cases hw:x.wide
   ·exact ⟨(x.smeared (x.done.length - 1)).1,(x.smeared (x.done.length - 1)).2,0,0,fun e => (by rw [hl] at e;cases e),fun _ e => absurd e hm,fun _ _ e => absurd hw e,fun _ _ _ => ⟨rfl,rfl,rfl,rfl⟩⟩
   ·exact ⟨x.utc,x.nf,0,0,fun e => (by rw [hl] at e;cases e),fun _ e => absurd e hm,fun _ _ _ => ⟨rfl,rfl,rfl,rfl⟩,fun _ _ e => absurd e hw⟩
theorem ref_told (b:Nat) (x:Sv) (dv bv cv hv:Value) (ts tf li er:Int) (w:World) (hr:RSrv b x dv bv cv hv w) (hI:x.Inv) (hT:x.Told ts tf li er):Tells 56 b ts tf li er w:=by
 unfold Tells
 obtain ⟨t0,t1,t2,t3⟩:=hI.num.t'
 cases hl:x.ld with
 | false =>
  obtain ⟨rfl,rfl,rfl,rfl⟩:=hT.no hl
  exact ref_served_no b x dv bv cv hv w hr hl
 | true =>
  have m:=hI.mid hl
  have can:=m.can hI.num
  have lens:=hI.lens
  have old:=m.till_old hI.num
  by_cases hm:x.mode = 0
  ·obtain ⟨k,hk⟩:=hI.indOk hl hm
   obtain ⟨rfl,rfl,rfl,rfl⟩:=hT.step hl hm
   exact ref_served_step b x dv bv cv hv _ w hr hl hm can (fun W hb => ref_indicator b x dv bv cv hv (x.utc / 86400) W (hr.below hb) m.pos (by omega) hk.good hk.day t1)
  ·by_cases hw:x.wide
   ·obtain ⟨l2,ht⟩:=hw
    obtain ⟨rfl,rfl,rfl,rfl⟩:=hT.in' hl hm ⟨l2,ht⟩
    exact ref_served_in b x dv bv cv hv (x.done.length - 1) w hr hl hm can (hI.begOk hl) (.inr ⟨x.done.length - 1,rfl,by omega,by omega,ht,fun j j1 j2 => old j (by omega)⟩) (by omega) (by omega) (hI.pullOk hl _ (by omega) ht) ⟨t2,t3⟩
   ·obtain ⟨rfl,rfl,rfl,rfl⟩:=hT.out hl hm hw
    refine ref_served_out b x dv bv cv hv w hr hl hm can (hI.begOk hl) (.inl ⟨rfl,fun j j1 j2 => ?_⟩)
    by_cases c:j + 1 < x.done.length
    ·exact old j c
    ·obtain rfl:j = x.done.length - 1:=by omega
     cases q:x.till (x.done.length - 1) with
     | false => rfl
     | true => exact absurd ⟨by omega,q⟩ hw
theorem ref_adv (b:Nat) (x:Sv) (dv bv cv hv:Value) (s f:Int) (w:World) (hr:RSrv b x dv bv cv hv w) (hI:x.Inv) :
  Calls Tryz.prog 63 #[.pointer (some ⟨b,0,none⟩),.agg #[.int .i64 s,.int .i64 f]] w fun e w' => e = .returned (.int .i64 (x.adv s f).1) ∧ RPost b (rFoot b dv bv cv hv) w (x.adv s f).2 w':=by
 have l:=hI.lens
 exact ref_advance b x dv bv cv hv s f w hr hI.num.t (by omega) (by omega) (fun a c ht hl hla => hI.canAdv a c ht hl hla)
theorem ref_heard (b:Nat) (x:Sv) (dv bv cv hv:Value) (src leap:Int) (w:World) (hr:RSrv b x dv bv cv hv w) (hI:x.Inv) :
  Calls Tryz.prog 67 #[.pointer (some ⟨b,0,none⟩),.int .i64 src,.int .i64 leap] w fun e w' => e = .returned (.int .i64 (x.hear src leap).1) ∧ RPost b (rFoot b dv bv cv hv) w (x.hear src leap).2 w':=by
 have l:=hI.lens
 have sl:=hI.num.sl
 refine ref_hear b x dv bv cv hv src leap w hr (by omega) (by omega) (by omega) (fun k lp hl => ?_)
 have w:=hI.num.win
 have bg:=(hI.mid hl).begun w.1 w.2
 have nn:=hI.num
 have c:=bg.mid.can (nn.of bg.same)
 have so:∀ h ∈ (x.says k lp).said,h.Ok:=fun h hh => by
  rcases List.mem_or_eq_of_mem_set (show h ∈ x.said.set k _ from hh) with e | e
  ·exact (nn.sok h e).1
  ·subst e;exact nn.t'
 exact ⟨c.fine,c.len,c.hold,c.n0,c.n1,c.u0,c.u1,(by show (x.said.set k _).length ≤ 100;rw [List.length_set];omega),so,c.f0,c.f1,c.w0,c.w1,c.bl,c.cl⟩
theorem ref_loads (b:Nat) (x:Sv) (dv bv cv hv:Value) (t:ByteArray) (w:World) (hr:RSrv b x dv bv cv hv w) (hI:x.Inv) (ht:t.size ≤ 1000000) (r1:x.ref ≤ 1000000) :
  Calls Tryz.prog 65 #[.pointer (some ⟨b,0,none⟩),.string t] w fun e w' => e = .returned (.tuple #[.int .i64 (x.load (Txt.parse t)).1,.int .i64 (x.load (Txt.parse t)).2.1]) ∧ RPost b (rFoot b dv bv cv hv) w (x.load (Txt.parse t)).2.2 w':=by
 have l:=hI.lens
 by_cases c:x.loadErr (Txt.parse t) = 0
 ·have e:x.load (Txt.parse t) = (0,0,(x.taken (Txt.parse t).up (Txt.parse t).ex (Txt.parse t).ls).weigh):=by unfold Sv.load;rw [if_neg (by omega)]
  rw [e]
  exact ref_load_yes b x dv bv cv hv t w hr ht hI c
 ·have e:x.load (Txt.parse t) = (x.loadErr (Txt.parse t),((Txt.parse t).num:Int),x.refuse):=by unfold Sv.load;rw [if_pos c]
  rw [e]
  exact ref_load_no b x dv bv cv hv t w hr ht (by omega) hI.num.r0 r1 c
theorem kind_step {B n:Nat} {o:Op} {w:World} (hn:n ≤ 90000) (hk:o.kind = 15):Does (srvXs PS ps_law B) B B n o w :=
 does_made15 ps_law hn hk (fun W s f => made_any ps_law 0 0 o.c o.d s f W (by decide) (p_new 0 0 o.c o.d s f (by decide)) k_see)
theorem kind_smear {B n:Nat} {o:Op} {w:World} (ho:o.Ok) (hn:n ≤ 90000) (hk:o.kind = 16):Does (srvXs PS ps_law B) B B n o w :=
 does_made16 ps_law hn hk (fun W s f => made_any ps_law o.a o.b o.c o.d s f W ho.b (p_new o.a o.b o.c o.d s f ho.b) k_see)
theorem kind_adv {B n:Nat} {o:Op} {w:World} (ho:o.Ok) (hn:n ≤ 90000) (hk:o.kind = 17):Does (srvXs PS ps_law B) B B n o w :=
 does_srv ps_law ho hn (by omega) (by omega) (fun r W t hr _ _ _ => by
  have iv:=hr.inv.adv o.a o.b
  have l:=iv.lens
  have hl:=hr.hn
  rw [hk]
  refine (does_adv ps_law r.bc r.bx r.by' r.br r.hv _ r.hs r.s (r.s.adv o.a o.b).2 r.Fx r.Fy r.Fr r.Fv o.x o.a o.b o.c o.d (r.s.adv o.a o.b).1 o.s t W hr.cs (p_advance r.s o.a o.b hr.inv) (fun dv bv cv rh V h => ref_adv r.br r.s dv bv cv rh o.a o.b V h hr.inv) (fun F V h => k_see _ _ F V h iv) (by omega) (by omega) (by omega) (by omega) (by omega)).mono ?_
  rintro e w' ⟨he,tp⟩
  exact ⟨he,tp.post iv (by rw [Sv.adv_ref];have:=hr.rf;omega) hr.hn⟩)
theorem kind_hear {B n:Nat} {o:Op} {w:World} (ho:o.Ok) (hn:n ≤ 90000) (hk:o.kind = 20):Does (srvXs PS ps_law B) B B n o w :=
 does_srv ps_law ho hn (by omega) (by omega) (fun r W t hr _ _ _ => by
  have iv:=hr.inv.hear o.a o.b
  have l:=iv.lens
  have hl:=hr.hn
  rw [hk]
  refine (does_hear ps_law r.bc r.bx r.by' r.br r.hv _ r.hs r.s (r.s.hear o.a o.b).2 r.Fx r.Fy r.Fr r.Fv o.x o.a o.b o.c o.d (r.s.hear o.a o.b).1 o.s t W hr.cs (p_hear r.s o.a o.b hr.inv) (fun dv bv cv rh V h => ref_heard r.br r.s dv bv cv rh o.a o.b V h hr.inv) (fun F V h => k_see _ _ F V h iv) (by omega) (by omega) (by omega) (by omega) (by omega)).mono ?_
  rintro e w' ⟨he,tp⟩
  exact ⟨he,tp.post iv (by rw [Sv.hear_ref];have:=hr.rf;omega) hr.hn⟩)
theorem table_off {A:Nat → Prop} {w W:World} (h:Table w) (o:Off A w W) (hA:¬ A 0):Table W:=by
 have hp:=h.pos
 have c:∀ j,W.cell? ⟨0,j,none⟩ = w.cell? ⟨0,j,none⟩:=fun j => World.cell?_of_block (o.block 0 hp hA)
 exact ⟨(c 0).trans h.c0,(c 1).trans h.c1,(c 2).trans h.c2,(c 3).trans h.c3⟩
theorem kind_load {B n:Nat} {o:Op} {w w0:World} (hT:Table w0) (hB:w0.heap.size ≤ B) (hb0:Below w0.heap.size w0 w) (ho:o.Ok) (hn:n ≤ 90000) (hk:o.kind = 18):Does (srvXs PS ps_law B) B B n o w :=
 does_srv ps_law ho hn (by omega) (by omega) (fun r W t hr hlo hb ht => by
  have iv:=hr.inv.load t
  have l:=iv.lens
  have hl:=hr.hn
  have hrf:=hr.rf
  have hp:=hT.pos
  have TW:Table W:=hT.below (hb0.trans (hb.mono hB))
  have sz:=(hb0.trans (hb.mono hB)).size
  have rf:=r.s.load_ref (Txt.parse t)
  rw [hk]
  refine (does_load ps_law r.bc r.bx r.by' r.br r.hv _ r.hs r.s (r.s.load (Txt.parse t)).2.2 r.Fx r.Fy r.Fr r.Fv o.x o.a o.b o.c o.d (r.s.load (Txt.parse t)).1 (r.s.load (Txt.parse t)).2.1 o.s t W Table hr.cs (p_load r.s t hr.inv (by omega) (by omega)) (fun V ov => table_off TW ov (fun q => by have:=hlo 0 q;omega)) (fun dv bv cv rh V h => ref_loads r.br r.s dv bv cv rh t V h hr.inv (by omega) (by omega)) (fun F V h => k_see _ _ F V h iv) (by omega) (by omega) (by omega) (by omega) (by omega)).mono ?_
  rintro e w' ⟨he,tp⟩
  exact ⟨he,tp.post iv (by omega) hr.hn⟩)
theorem kind_now {B n:Nat} {o:Op} {w:World} (ho:o.Ok) (hn:n ≤ 90000) (hk:o.kind = 19):Does (srvXs PS ps_law B) B B n o w :=
 does_srv ps_law ho hn (by omega) (by omega) (fun r W t hr _ _ _ => by
  obtain ⟨ts,tf,li,er,hT⟩:=hr.inv.told
  obtain ⟨dv,bv,cv,rh,rr,_⟩:=hr.cs.r
  refine (does_now r.bc r.bx r.by' r.br r.hv _ ts tf li er o t W hk hr.cs.c (fun V hb => p_now r.bx r.s r.Fx ts tf li er V (ps_law.keep hr.cs.x (fun k e => hb.block k (hr.low ps_law k (.inl e)))) hr.inv hT) (fun V hb => ref_told r.br r.s dv bv cv rh ts tf li er V (rr.below hb) hr.inv hT)).mono ?_
  rintro e w' ⟨he,bel⟩
  exact ⟨he,RcPost.of_below ps_law hr bel (Nat.le_succ _)⟩)
namespace Txt
def field (p:ByteArray) (i:Nat):Int:=byte p (i + 2) * 256 + byte p (i + 3)
theorem field_bd (p:ByteArray) (i:Nat):0 ≤ field p i ∧ field p i < 65536:=by
 have:=byte_bd p (i + 2);have:=byte_bd p (i + 3);unfold field;omega
def extsF (p:ByteArray):Nat → Nat → Bool
 | 0,_ => true
 | f + 1,i => if p.size ≤ i then true else if p.size < i + 16 then false else if field p i < 16 ∨ field p i % 4 ≠ 0 ∨ (p.size:Int) - i < field p i then false else extsF p f (i + (field p i).toNat)
def exts (p:ByteArray) (i:Nat):Bool:=extsF p (p.size - i) i
theorem extsF_succ (p:ByteArray) (f i:Nat):extsF p (f + 1) i = if p.size ≤ i then true else if p.size < i + 16 then false else if field p i < 16 ∨ field p i % 4 ≠ 0 ∨ (p.size:Int) - i < field p i then false else extsF p f (i + (field p i).toNat):=rfl
theorem extsF_more (p:ByteArray) (f i:Nat) (h:p.size - i ≤ f):extsF p (f + 1) i = extsF p f i:=by
 induction f generalizing i with
 | zero => rw [extsF_succ,if_pos (by omega)];rfl
 | succ f ih =>
  by_cases c:p.size ≤ i
  ·rw [extsF_succ p (f + 1) i,extsF_succ p f i,if_pos c,if_pos c]
  ·rw [extsF_succ p (f + 1) i,extsF_succ p f i,if_neg c,if_neg c]
   by_cases c2:p.size < i + 16
   ·rw [if_pos c2,if_pos c2]
   ·rw [if_neg c2,if_neg c2]
    by_cases c3:field p i < 16 ∨ field p i % 4 ≠ 0 ∨ (p.size:Int) - i < field p i
    ·rw [if_pos c3,if_pos c3]
    ·rw [if_neg c3,if_neg c3,ih (i + (field p i).toNat) (by omega)]
theorem extsF_all (p:ByteArray) (i k:Nat):extsF p (p.size - i + k) i = exts p i:=by
 induction k with
 | zero => rfl
 | succ k ih => rw [← Nat.add_assoc,extsF_more _ _ _ (by omega),ih]
def asks (p:ByteArray):Bool:=decide (48 ≤ p.size) && decide (p.size ≤ 300) && decide (byte p 0 % 8 = 3) && decide (1 ≤ byte p 0 / 8 % 8) && decide (byte p 0 / 8 % 8 ≤ 4) && exts p 48
theorem low3 (b:UInt8):bits BinOp.and IntKind.u8 (b.toNat:Int) 7 = (b.toNat:Int) % 8 :=
 (show ∀ x:Fin 256,bits BinOp.and IntKind.u8 (x.val:Int) 7 = (x.val:Int) % 8 by decide +kernel) ⟨b.toNat,b.toNat_lt⟩
theorem mid3 (b:UInt8):bits BinOp.and IntKind.i64 (wrap64 (b.toNat:Int) / 8) 7 = (b.toNat:Int) / 8 % 8 :=
 (show ∀ x:Fin 256,bits BinOp.and IntKind.i64 (wrap64 (x.val:Int) / 8) 7 = (x.val:Int) / 8 % 8 by decide +kernel) ⟨b.toNat,b.toNat_lt⟩
theorem or8 (a c:UInt8):bits BinOp.or IntKind.i64 (wrap64 (wrap64 (a.toNat:Int) * 256)) (wrap64 (c.toNat:Int)) = (a.toNat:Int) * 256 + c.toNat:=by
 have ha:=a.toNat_lt
 have hc:=c.toNat_lt
 generalize a.toNat = x at *
 generalize c.toNat = y at *
 have e1:wrap64 (wrap64 (x:Int) * 256) = ((x * 256:Nat):Int):=by unfold wrap64;omega
 have e2:wrap64 (y:Int) = (y:Int):=by unfold wrap64;omega
 rw [e1,e2]
 have h:x * 256 ||| y = x * 256 + y:=by
  have:=Nat.shiftLeft_add_eq_or_of_lt (a:=x) (b:=y) (i:=8) (by omega)
  rw [Nat.shiftLeft_eq] at this
  exact this.symm
 have hb:(BitVec.ofInt 64 ((x * 256:Nat):Int) ||| BitVec.ofInt 64 (y:Int)).toNat = x * 256 + y:=by
  rw [BitVec.toNat_or,BitVec.ofInt_natCast,BitVec.ofInt_natCast,BitVec.toNat_ofNat,BitVec.toNat_ofNat,Nat.mod_eq_of_lt (by omega),Nat.mod_eq_of_lt (by omega),h]
 show IntKind.i64.wrap ((BitVec.ofInt 64 ((x * 256:Nat):Int) ||| BitVec.ofInt 64 (y:Int)).toNat:Int) = _
 rw [hb,IntKind.wrap_i64]
 omega
theorem exts_end {p:ByteArray} {i:Nat} (h:p.size ≤ i):exts p i = true:=by
 rw [exts,show p.size - i = 0 from by omega];rfl
theorem exts_at {p:ByteArray} {i:Nat} (h:i < p.size):exts p i = if p.size < i + 16 then false else if field p i < 16 ∨ field p i % 4 ≠ 0 ∨ (p.size:Int) - i < field p i then false else extsF p (p.size - i - 1) (i + (field p i).toNat):=by
 obtain ⟨k,hk⟩:∃ k,p.size - i = k + 1:=⟨p.size - i - 1,by omega⟩
 rw [exts,hk,extsF_succ,if_neg (by omega),Nat.add_sub_cancel]
theorem exts_short {p:ByteArray} {i:Nat} (h:i < p.size) (h2:p.size < i + 16):exts p i = false:=by rw [exts_at h,if_pos h2]
theorem exts_bad {p:ByteArray} {i:Nat} (h:i < p.size) (h2:¬ p.size < i + 16) (h3:field p i < 16 ∨ field p i % 4 ≠ 0 ∨ (p.size:Int) - i < field p i):exts p i = false:=by rw [exts_at h,if_neg h2,if_pos h3]
theorem exts_next {p:ByteArray} {i:Nat} (h:i < p.size) (h2:¬ p.size < i + 16) (h3:¬ (field p i < 16 ∨ field p i % 4 ≠ 0 ∨ (p.size:Int) - i < field p i)):exts p i = exts p (i + (field p i).toNat):=by
 rw [exts_at h,if_neg h2,if_neg h3]
 have e:p.size - (i + (field p i).toNat) + (p.size - i - 1 - (p.size - (i + (field p i).toNat))) = p.size - i - 1:=by omega
 rw [← extsF_all p (i + (field p i).toNat) (p.size - i - 1 - (p.size - (i + (field p i).toNat))),e]
end Txt
theorem low8 (x:Int) (h0:0 ≤ x) (h1:x < 9223372036854775808):bits BinOp.and IntKind.i64 x 255 = x % 256:=by
 obtain ⟨n,rfl⟩:∃ n:Nat,x = n:=⟨x.toNat,by omega⟩
 have hb:(BitVec.ofInt 64 (n:Int) &&& BitVec.ofInt 64 (255:Int)).toNat = n % 256:=by
  rw [BitVec.toNat_and,BitVec.ofInt_natCast,BitVec.toNat_ofNat,Nat.mod_eq_of_lt (by omega)]
  show n &&& 255 = n % 256
  exact Nat.and_two_pow_sub_one_eq_mod n 8
 show IntKind.i64.wrap ((BitVec.ofInt 64 (n:Int) &&& BitVec.ofInt 64 (255:Int)).toNat:Int) = _
 rw [hb,IntKind.wrap_i64]
 omega
theorem infoByte:(Tryz.prog.info? 5).map (fun i => (i.zero,i.size,i.bytes)) = some (some (.int .u8 0),1,1):=by kernel_rfl
def cells8 (l:List UInt8):List Value:=l.map fun b => .int .u8 (b.toNat:Int)
def byteOf (x:Int):UInt8:=UInt8.ofNat (x % 256).toNat
theorem byteOf_val (x:Int):((byteOf x).toNat:Int) = x % 256:=by
 unfold byteOf;simp;omega
def four (x:Int):List UInt8:=[byteOf (x / 16777216),byteOf (x / 65536),byteOf (x / 256),byteOf x]
theorem conv_back {V:World} {t:List UInt8} {B g cap n:Nat} (h:V.ownsRow B 5 1 (.slice (some ⟨g,0,none⟩) n cap) n (cells8 t)) (hn:n = t.length) :
  (convert 44 9 (.slice (some ⟨g,0,none⟩) n cap)).run Tryz.prog V = .ok (.string ⟨t.toArray⟩) V:=by
 subst hn
 refine run_convert_bytes_back (P:=Tryz.prog) V 44 9 5 ⟨g,0,none⟩ cap t Tryz.underlying44 Tryz.underlying5 Tryz.underlying9 (fun j hj => ?_)
 have hadd:(⟨g,0,none⟩:Addr).add j = ⟨g,j,none⟩:=by unfold Addr.add;split <;> simp_all
 rw [hadd,h.cellAt j (by omega)]
 simp [cells8,List.getElem?_eq_getElem hj]
def first8 (li:Int) (p:ByteArray):UInt8:=byteOf (li * 64 + Txt.byte p 0 / 8 % 8 * 8 + 4)
def ansB (li:Int) (p:ByteArray) (tab:Bool) (ts tf:Int):ByteArray :=
 ByteArray.mk #[first8 li p,if tab then 1 else 0,byteOf (Txt.byte p 2),236,0,0,0,0,0,0,0,0] ++ (if tab then ByteArray.mk #[76,69,65,80] else ByteArray.mk #[73,78,73,84]) ++ ⟨(four ts ++ four tf).toArray⟩ ++ p.extract 40 48 ++ ⟨(four ts ++ four tf).toArray⟩ ++ ⟨(four ts ++ four tf).toArray⟩
theorem first_or (b:UInt8) (li:Int) (hl:li = 0 ∨ li = 1 ∨ li = 2 ∨ li = 3):bits BinOp.or IntKind.u8 (bits BinOp.or IntKind.u8 (li * 64) (bits BinOp.and IntKind.u8 (b.toNat:Int) 56)) 4 = li * 64 + (b.toNat:Int) / 8 % 8 * 8 + 4:=by
 rcases hl with rfl | rfl | rfl | rfl
 ·exact (show ∀ x:Fin 256,bits BinOp.or IntKind.u8 (bits BinOp.or IntKind.u8 ((0:Int) * 64) (bits BinOp.and IntKind.u8 (x.val:Int) 56)) 4 = 0 * 64 + (x.val:Int) / 8 % 8 * 8 + 4 by decide +kernel) ⟨b.toNat,b.toNat_lt⟩
 ·exact (show ∀ x:Fin 256,bits BinOp.or IntKind.u8 (bits BinOp.or IntKind.u8 ((1:Int) * 64) (bits BinOp.and IntKind.u8 (x.val:Int) 56)) 4 = 1 * 64 + (x.val:Int) / 8 % 8 * 8 + 4 by decide +kernel) ⟨b.toNat,b.toNat_lt⟩
 ·exact (show ∀ x:Fin 256,bits BinOp.or IntKind.u8 (bits BinOp.or IntKind.u8 ((2:Int) * 64) (bits BinOp.and IntKind.u8 (x.val:Int) 56)) 4 = 2 * 64 + (x.val:Int) / 8 % 8 * 8 + 4 by decide +kernel) ⟨b.toNat,b.toNat_lt⟩
 ·exact (show ∀ x:Fin 256,bits BinOp.or IntKind.u8 (bits BinOp.or IntKind.u8 ((3:Int) * 64) (bits BinOp.and IntKind.u8 (x.val:Int) 56)) 4 = 3 * 64 + (x.val:Int) / 8 % 8 * 8 + 4 by decide +kernel) ⟨b.toNat,b.toNat_lt⟩
theorem first_bits (li:Int) (p:ByteArray) (l0:0 < p.size) (hl:li = 0 ∨ li = 1 ∨ li = 2 ∨ li = 3):bits BinOp.or IntKind.u8 (bits BinOp.or IntKind.u8 (li * 64) (bits BinOp.and IntKind.u8 ((p[0]'l0).toNat:Int) 56)) 4 = ((first8 li p).toNat:Int):=by
 rw [first_or _ _ hl]
 unfold first8
 rw [byteOf_val,Txt.byte_at p 0 l0]
 have:=(p[0]'l0).toNat_lt
 omega
namespace Txt
theorem byte_ext (p:ByteArray) (k j:Nat):byte (p.extract k p.size) j = byte p (k + j):=by
 unfold byte
 by_cases h:k + j < p.size
 ·rw [List.getD_eq_getElem?_getD,List.getD_eq_getElem?_getD]
  congr 2
  simp only [Array.getElem?_toList,ByteArray.data_extract,Array.getElem?_extract]
  rw [if_pos (by have:p.size = p.data.size:=rfl;omega)]
 ·have e1:(p.extract k p.size).data.toList.length ≤ j:=by
   have:(p.extract k p.size).size ≤ j:=by rw [ByteArray.size_extract];omega
   simpa using this
  have e2:p.data.toList.length ≤ k + j:=by
   have:p.size ≤ k + j:=by omega
   simpa using this
  rw [List.getD_eq_getElem?_getD,List.getD_eq_getElem?_getD,List.getElem?_eq_none e1,List.getElem?_eq_none e2]
theorem field_ext (p:ByteArray) (k i:Nat):field (p.extract k p.size) i = field p (k + i):=by
 unfold field;rw [byte_ext,byte_ext,Nat.add_assoc,Nat.add_assoc]
theorem size_ext' (p:ByteArray) (k:Nat):(p.extract k p.size).size = p.size - k:=by rw [ByteArray.size_extract];omega
theorem extsF_ext (p:ByteArray) (k:Nat) (hk:k ≤ p.size):∀ f i,extsF (p.extract k p.size) f i = extsF p f (k + i):=by
 intro f
 induction f with
 | zero => intro i;rfl
 | succ f ih =>
  intro i
  rw [extsF_succ,extsF_succ,field_ext,size_ext',ih]
  have c1:(p.size - k ≤ i) = (p.size ≤ k + i):=by rw [eq_iff_iff];omega
  have c2:(p.size - k < i + 16) = (p.size < k + i + 16):=by rw [eq_iff_iff];omega
  have c3:(((p.size - k:Nat):Int) - (i:Int) < field p (k + i)) = ((p.size:Int) - ((k + i:Nat):Int) < field p (k + i)):=by rw [eq_iff_iff];omega
  rw [Nat.add_assoc k i (field p (k + i)).toNat]
  simp only [c1,c2,c3]
theorem exts_ext (p:ByteArray) (k:Nat) (hk:k ≤ p.size):exts (p.extract k p.size) 0 = exts p k:=by
 unfold exts;rw [extsF_ext p k hk,size_ext'];rfl
def flen (s:ByteArray):Int:=if s.size < 16 then 0 else if field s 0 % 4 ≠ 0 then 0 else field s 0
theorem ver3 (b:UInt8):bits BinOp.and IntKind.u8 ((b.toNat:Int) / 8) 7 = (b.toNat:Int) / 8 % 8 :=
 (show ∀ x:Fin 256,bits BinOp.and IntKind.u8 ((x.val:Int) / 8) 7 = (x.val:Int) / 8 % 8 by decide +kernel) ⟨b.toNat,b.toNat_lt⟩
end Txt
theorem four_back (V:World) (a c d e:UInt8) (x y z u:Int) (hx:x = (a.toNat:Int)) (hy:y = (c.toNat:Int)) (hz:z = (d.toNat:Int)) (hu:u = (e.toNat:Int)):(convert 44 9 (.slice (some ⟨V.heap.size,0,none⟩) 4 4)).run Tryz.prog (V.alloc (.cells #[.int .u8 x,.int .u8 y,.int .u8 z,.int .u8 u] 5)) = .ok (.string ⟨#[a,c,d,e]⟩) (V.alloc (.cells #[.int .u8 x,.int .u8 y,.int .u8 z,.int .u8 u] 5)):=by
 subst hx hy hz hu
 refine run_convert_bytes_back (P:=Tryz.prog) _ 44 9 5 ⟨V.heap.size,0,none⟩ 4 [a,c,d,e] Tryz.underlying44 Tryz.underlying5 Tryz.underlying9 (fun j hj => ?_)
 have hadd:(⟨V.heap.size,0,none⟩:Addr).add j = ⟨V.heap.size,j,none⟩:=by unfold Addr.add;split <;> simp_all
 rw [hadd,cell_of_row _ _ j _ _ _ (heap_alloc_new V _)]
 have h:j = 0 ∨ j = 1 ∨ j = 2 ∨ j = 3:=by simp at hj;omega
 rcases h with rfl | rfl | rfl | rfl <;> rfl
theorem p_version (b:UInt8) (w:World):Calls Tryz.prog 179 #[.int .u8 (b.toNat:Int)] w fun e w' => e = .returned (.int .u8 ((b.toNat:Int) / 8 % 8)) ∧ w' = w:=by
 have e:=Txt.ver3 b
 have hb:=b.toNat_lt
 go_enter Tryz.func179,Tryz.ntmps179
 go_wp2
 go_ret
 exact ⟨rfl,rfl⟩
set_option maxHeartbeats 1000000 in
theorem p_four (n:Int) (w:World):Calls Tryz.prog 181 #[.int .i64 n] w fun e w' => e = .returned (.string ⟨(four n).toArray⟩) ∧ Below w.heap.size w w':=by
 have q24:=byteOf_val (n / 16777216)
 have q16:=byteOf_val (n / 65536)
 have q8:=byteOf_val (n / 256)
 have q0:=byteOf_val n
 have TB:=four_back w (byteOf (n / 16777216)) (byteOf (n / 65536)) (byteOf (n / 256)) (byteOf n) _ _ _ _ q24.symm q16.symm q8.symm q0.symm
 clear q24 q16 q8 q0
 go_enter Tryz.func181,Tryz.ntmps181
 go_wp2
 go_ret
 exact ⟨rfl,(Below.refl w.heap.size w).alloc (Nat.le_refl _) _⟩
set_option maxHeartbeats 1000000 in
theorem p_flen (s:ByteArray) (w:World) (hs:s.size ≤ 1000000):Calls Tryz.prog 195 #[.string s] w fun e w' => e = .returned (.int .i64 (Txt.flen s)) ∧ Below w.heap.size w w':=by
 by_cases c1:s.size < 16
 ·have z1:(s.size:Int) < 16:=by omega
  have z3:decide ((s.size:Int) < 16) = true:=decide_eq_true z1
  have E:Hid (Txt.flen s = 0):=by show _ = _;unfold Txt.flen;rw [if_pos c1]
  go_enter Tryz.func195,Tryz.ntmps195
  go_wp2
  go_ret
  exact ⟨ret_int (by rw [E.out]),Below.refl _ _⟩
 have z1:¬ (s.size:Int) < 16:=by omega
 have z3:decide ((s.size:Int) < 16) = false:=decide_eq_false z1
 have l2:2 < s.size:=by omega
 have l3:3 < s.size:=by omega
 have i2:(2:Int) < (s.size:Int):=by omega
 have i3:(3:Int) < (s.size:Int):=by omega
 have FL:=Txt.or8 (s[2]'l2) (s[3]'l3)
 have FE:((s[2]'l2).toNat:Int) * (256:Int) + ((s[3]'l3).toNat:Int) = Txt.field s 0:=by unfold Txt.field;rw [Txt.byte_at s _ l2,Txt.byte_at s _ l3]
 rw [FE] at FL
 have fb:=Txt.field_bd s 0
 have EF:Hid (Txt.flen s = if Txt.field s 0 % 4 ≠ 0 then 0 else Txt.field s 0):=by show _ = _;unfold Txt.flen;rw [if_neg c1]
 clear FE
 generalize Txt.field s 0 = fl at *
 by_cases c2:fl % 4 = 0
 ·have n2:(fl % 4 != 0) = false:=by rw [bne_eq_false_iff_eq];exact c2
  have E:Hid (Txt.flen s = fl):=by show _ = _;rw [EF.out,if_neg (by omega)]
  clear c2 EF
  go_enter Tryz.func195,Tryz.ntmps195
  go_wp2_with fail
  go_quiet (fail)
  go_wp2
  go_ret
  exact ⟨ret_int (by rw [E.out]),below_drewN (Below.refl _ _) _⟩
 ·have n2:(fl % 4 != 0) = true:=bne_iff_ne.2 c2
  have E:Hid (Txt.flen s = 0):=by show _ = _;rw [EF.out,if_pos c2]
  clear c2 EF
  go_enter Tryz.func195,Tryz.ntmps195
  go_wp2_with fail
  go_quiet (fail)
  go_wp2
  go_ret
  exact ⟨ret_int (by rw [E.out]),below_drewN (Below.refl _ _) _⟩
theorem ext_ext (s:ByteArray) (i k:Nat):(s.extract i s.size).extract k (s.extract i s.size).size = s.extract (i + k) s.size:=by
 rw [Txt.size_ext']
 apply ByteArray.ext
 simp only [ByteArray.data_extract,Array.extract_extract]
 congr 1
 have:s.size = s.data.size:=rfl
 omega
theorem ext_whole (s:ByteArray):s.extract 0 s.size = s:=by
 apply ByteArray.ext
 rw [ByteArray.data_extract]
 exact Array.extract_size
def txtSz:Value → Nat | .string s => s.size | _ => 0
set_option maxRecDepth 100000 in
set_option maxHeartbeats 1000000 in
theorem p_fields (s:ByteArray) (w:World) (hs:s.size ≤ 1000000):Calls Tryz.prog 180 #[.string s] w fun e w' => e = .returned (.bool (Txt.exts s 0)) ∧ Below w.heap.size w w':=by
 go_enter Tryz.func180,Tryz.ntmps180
 go_wp2
 go_loopw [3] (fun r wr => ∃ i:Nat,i ≤ s.size ∧ r = .string (s.extract i s.size) ∧ Txt.exts s i = Txt.exts s 0 ∧ Below w.heap.size w wr) (fun r _ => txtSz r)
 case atStart => exact ⟨0,by omega,by rw [ext_whole],rfl,Below.refl _ _⟩
 case round =>
  obtain ⟨i,hi,rfl,hx,hb⟩:=hrel
  have sz:=Txt.size_ext' s i
  have HX:=hid' hx
  have HB:=hid' hb
  have sb:=hb.size
  have FN:=hid' (p_flen (s.extract i s.size) wr (by omega))
  have EE:=hid' (fun k => ext_ext s i k)
  have EF:Hid (Txt.flen (s.extract i s.size) = if s.size - i < 16 then 0 else if Txt.field s i % 4 ≠ 0 then 0 else Txt.field s i):=by
   show _ = _
   unfold Txt.flen
   rw [Txt.field_ext,sz];rfl
  have fb:=Txt.field_bd s i
  clear hx hb
  by_cases c0:s.size ≤ i
  ·have E:Hid (Txt.exts s 0 = true):=by show _ = _;rw [← HX.out];exact Txt.exts_end c0
   generalize s.extract i s.size = r at *
   have z0:(r.size:Int) = 0:=by omega
   have z1:decide ((0:Int) < 0) = false:=by decide
   clear EF EE FN HX
   go_wp2
   go_ret
   exact ⟨ret_bool E.out.symm,HB.out⟩
  ·by_cases c1:s.size < i + 16 ∨ (Txt.field s i < 16 ∨ Txt.field s i % 4 ≠ 0 ∨ (s.size:Int) - i < Txt.field s i)
   ·have E:Hid (Txt.exts s 0 = false):=by
     show _ = _
     rw [← HX.out]
     by_cases c2:s.size < i + 16
     ·exact Txt.exts_short (by omega) c2
     ·exact Txt.exts_bad (by omega) c2 (c1.resolve_left c2)
    have lb:Txt.flen (s.extract i s.size) < 16 ∨ ((s.extract i s.size).size:Int) < Txt.flen (s.extract i s.size):=by
     rw [EF.out,sz]
     split
     ·omega
     ·split
      ·omega
      ·omega
    have lz:0 ≤ Txt.flen (s.extract i s.size) ∧ Txt.flen (s.extract i s.size) < 65536:=by
     rw [EF.out]
     split
     ·omega
     ·split <;> omega
    clear EF EE HX c1
    generalize Txt.flen (s.extract i s.size) = fl at *
    generalize s.extract i s.size = r at *
    have z0:(0:Int) < (r.size:Int):=by omega
    have z1:decide ((0:Int) < (r.size:Int)) = true:=decide_eq_true z0
    by_cases c3:fl < 16
    ·have d3:decide (fl < 16) = true:=decide_eq_true c3
     clear lb
     go_wp2_with (go_at_call 195;refine FN.out.mono ?_;rintro e w1 ⟨rfl,b1⟩;have B1:=hid' (HB.out.trans (b1.mono sb));clear b1)
     go_ret
     exact ⟨ret_bool E.out.symm,B1.out⟩
    ·have d3:decide (fl < 16) = false:=decide_eq_false c3
     have c4:(r.size:Int) < fl:=by omega
     have d4:decide ((r.size:Int) < fl) = true:=decide_eq_true c4
     clear lb
     go_wp2_with (go_at_call 195;refine FN.out.mono ?_;rintro e w1 ⟨rfl,b1⟩;have B1:=hid' (HB.out.trans (b1.mono sb));clear b1)
     go_ret
     exact ⟨ret_bool E.out.symm,B1.out⟩
   ·have hn1:¬ s.size < i + 16:=fun h => c1 (.inl h)
    have hn2:¬ (Txt.field s i < 16 ∨ Txt.field s i % 4 ≠ 0 ∨ (s.size:Int) - i < Txt.field s i):=fun h => c1 (.inr h)
    have E:=hid' ((Txt.exts_next (by omega) hn1 hn2).symm.trans HX.out)
    have lf:Txt.flen (s.extract i s.size) = Txt.field s i:=by rw [EF.out,if_neg (by omega),if_neg (by omega)]
    rw [lf] at FN
    have EE':=EE.out
    clear EF HX c1 lf EE hn1
    generalize Txt.field s i = fl at *
    obtain ⟨k,rfl⟩:∃ k:Nat,fl = k:=⟨fl.toNat,by omega⟩
    have ek:=hid' (EE' k)
    rw [Int.toNat_natCast] at E
    clear EE'
    obtain ⟨r,hr⟩:∃ r,s.extract i s.size = r:=⟨_,rfl⟩
    rw [hr] at FN ek sz
    have hk1:¬ (k:Int) < 16:=by omega
    have hk2:¬ (r.size:Int) < (k:Int):=by omega
    have z0:(0:Int) < (r.size:Int):=by omega
    rw [hr]
    have z1:decide ((0:Int) < (r.size:Int)) = true:=decide_eq_true z0
    have z2:decide ((k:Int) < 16) = false:=decide_eq_false hk1
    have z3:decide ((r.size:Int) < (k:Int)) = false:=decide_eq_false hk2
    have HR:=hid' hr
    clear hn2 hr
    go_wp2_with (go_at_call 195;refine FN.out.mono ?_;rintro e w1 ⟨rfl,b1⟩;have B1:=hid' (HB.out.trans (b1.mono sb));clear b1)
    go_roundw
    case rel => exact ⟨i + k,by omega,by rw [← ek.out,sz],E.out,B1.out⟩
    case measure => simp [txtSz];omega
set_option maxRecDepth 100000 in
set_option maxHeartbeats 1000000 in
theorem p_clients (p:ByteArray) (w:World) (hs:p.size ≤ 1000000):Calls Tryz.prog 144 #[.string p] w fun e w' => e = .returned (.bool (Txt.asks p)) ∧ Below w.heap.size w w':=by
 have HA:Hid (Txt.asks p = (decide (48 ≤ p.size) && decide (p.size ≤ 300) && decide (Txt.byte p 0 % 8 = 3) && decide (1 ≤ Txt.byte p 0 / 8 % 8) && decide (Txt.byte p 0 / 8 % 8 ≤ 4) && Txt.exts p 48)):=rfl
 generalize Txt.asks p = res at *
 by_cases c1:p.size < 48
 ·have z1:(p.size:Int) < 48:=by omega
  have z3:decide ((p.size:Int) < 48) = true:=decide_eq_true z1
  have e:Hid (res = false):=by show _ = _;rw [HA.out,decide_eq_false (by omega:¬ 48 ≤ p.size)];rfl
  clear HA
  go_enter Tryz.func144,Tryz.ntmps144
  go_wp2
  go_ret
  exact ⟨ret_bool e.out.symm,Below.refl _ _⟩
 have z1:¬ (p.size:Int) < 48:=by omega
 have z3:decide ((p.size:Int) < 48) = false:=decide_eq_false z1
 by_cases c2:300 < p.size
 ·have z2:(300:Int) < (p.size:Int):=by omega
  have z4:decide ((300:Int) < (p.size:Int)) = true:=decide_eq_true z2
  have e:Hid (res = false):=by show _ = _;rw [HA.out,decide_eq_false (by omega:¬ p.size ≤ 300)];simp
  clear HA
  go_enter Tryz.func144,Tryz.ntmps144
  go_wp2
  go_ret
  exact ⟨ret_bool e.out.symm,Below.refl _ _⟩
 have z2:¬ (300:Int) < (p.size:Int):=by omega
 have z4:decide ((300:Int) < (p.size:Int)) = false:=decide_eq_false z2
 have l0:0 < p.size:=by omega
 have e1:=Txt.low3 (p[0]'l0)
 have PV:=hid' (fun W => p_version (p[0]'l0) W)
 rw [← Txt.byte_at p 0 l0] at e1
 have bb:=Txt.byte_bd p 0
 rw [decide_eq_true (by omega:48 ≤ p.size),decide_eq_true (by omega:p.size ≤ 300)] at HA
 simp only [Bool.true_and] at HA
 have HV:Hid (((p[0]'l0).toNat:Int) = Txt.byte p 0):=(Txt.byte_at p 0 l0).symm
 obtain ⟨mo,hmo⟩:∃ mo,Txt.byte p 0 % 8 = mo:=⟨_,rfl⟩
 obtain ⟨ve,hve⟩:∃ ve,Txt.byte p 0 / 8 % 8 = ve:=⟨_,rfl⟩
 have PV2:Hid (∀ W,Calls Tryz.prog 179 #[.int .u8 ((p[0]'l0).toNat:Int)] W fun e w' => e = .returned (.int .u8 ve) ∧ w' = W):=fun W => by
  have h:=PV.out W
  rw [show (((p[0]'l0).toNat:Int)) / 8 % 8 = ve by rw [HV.out];exact hve] at h
  exact h
 rw [hmo] at e1 HA
 rw [hve] at HA
 rw [Txt.byte_at p 0 l0] at e1
 have vb:0 ≤ ve ∧ ve < 8:=by omega
 have mb:0 ≤ mo ∧ mo < 8:=by omega
 clear hmo hve bb PV HV
 by_cases c3:mo = 3
 case neg =>
  have n3:(mo != 3) = true:=bne_iff_ne.2 c3
  have e:Hid (res = false):=by show _ = _;rw [HA.out,decide_eq_false c3];rfl
  clear HA
  go_enter Tryz.func144,Tryz.ntmps144
  go_wp2_with (go_at_call 179;refine (PV2.out _).mono ?_;rintro e w1 ⟨rfl,rfl⟩)
  go_ret
  exact ⟨ret_bool e.out.symm,Below.refl _ _⟩
 subst c3
 by_cases c4:ve < 1
 ·have d4:decide (ve < 1) = true:=decide_eq_true c4
  have e:Hid (res = false):=by show _ = _;rw [HA.out,decide_eq_false (by omega:¬ 1 ≤ ve)];simp
  clear HA
  go_enter Tryz.func144,Tryz.ntmps144
  go_wp2_with (go_at_call 179;refine (PV2.out _).mono ?_;rintro e w1 ⟨rfl,rfl⟩)
  go_ret
  exact ⟨ret_bool e.out.symm,Below.refl _ _⟩
 have d4:decide (ve < 1) = false:=decide_eq_false c4
 by_cases c5:4 < ve
 ·have d5:decide (4 < ve) = true:=decide_eq_true c5
  have e:Hid (res = false):=by show _ = _;rw [HA.out,decide_eq_false (by omega:¬ ve ≤ 4)];simp
  clear HA
  go_enter Tryz.func144,Tryz.ntmps144
  go_wp2_with (go_at_call 179;refine (PV2.out _).mono ?_;rintro e w1 ⟨rfl,rfl⟩)
  go_ret
  exact ⟨ret_bool e.out.symm,Below.refl _ _⟩
 have d5:decide (4 < ve) = false:=decide_eq_false c5
 have PF:=p_fields (p.extract 48 p.size) w (by rw [Txt.size_ext'];omega)
 have e:Hid (res = Txt.exts p 48):=by show _ = _;rw [HA.out,decide_eq_true (by omega:1 ≤ ve),decide_eq_true (by omega:ve ≤ 4)];simp
 rw [Txt.exts_ext p 48 (by omega),← e.out] at PF
 have HF:=hid' PF
 have i48:(48:Int) ≤ (p.size:Int):=by omega
 clear HA PF e
 go_enter Tryz.func144,Tryz.ntmps144
 go_wp2_with (go_at_call 179;refine (PV2.out _).mono ?_;rintro e w1 ⟨rfl,rfl⟩)
 refine HF.out.mono ?_
 rintro e w1 ⟨rfl,b1⟩
 have B1:=hid' b1
 clear b1 HF
 go_wp2
 go_ret
 exact ⟨rfl,B1.out⟩
theorem first_or' (b:UInt8) (li:Int) (hl:li = 0 ∨ li = 1 ∨ li = 2 ∨ li = 3):bits BinOp.or IntKind.u8 (bits BinOp.or IntKind.u8 (li * 64) ((b.toNat:Int) / 8 % 8 * 8)) 4 = li * 64 + (b.toNat:Int) / 8 % 8 * 8 + 4:=by
 rcases hl with rfl | rfl | rfl | rfl
 ·exact (show ∀ x:Fin 256,bits BinOp.or IntKind.u8 (bits BinOp.or IntKind.u8 ((0:Int) * 64) ((x.val:Int) / 8 % 8 * 8)) 4 = 0 * 64 + (x.val:Int) / 8 % 8 * 8 + 4 by decide +kernel) ⟨b.toNat,b.toNat_lt⟩
 ·exact (show ∀ x:Fin 256,bits BinOp.or IntKind.u8 (bits BinOp.or IntKind.u8 ((1:Int) * 64) ((x.val:Int) / 8 % 8 * 8)) 4 = 1 * 64 + (x.val:Int) / 8 % 8 * 8 + 4 by decide +kernel) ⟨b.toNat,b.toNat_lt⟩
 ·exact (show ∀ x:Fin 256,bits BinOp.or IntKind.u8 (bits BinOp.or IntKind.u8 ((2:Int) * 64) ((x.val:Int) / 8 % 8 * 8)) 4 = 2 * 64 + (x.val:Int) / 8 % 8 * 8 + 4 by decide +kernel) ⟨b.toNat,b.toNat_lt⟩
 ·exact (show ∀ x:Fin 256,bits BinOp.or IntKind.u8 (bits BinOp.or IntKind.u8 ((3:Int) * 64) ((x.val:Int) / 8 % 8 * 8)) 4 = 3 * 64 + (x.val:Int) / 8 % 8 * 8 + 4 by decide +kernel) ⟨b.toNat,b.toNat_lt⟩
end Go.Proofs.YtmmkhodaljpjgaaGreatDoor
