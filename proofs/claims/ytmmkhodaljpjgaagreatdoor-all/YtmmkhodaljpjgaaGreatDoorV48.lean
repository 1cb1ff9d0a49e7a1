import Derived.Test.YtmmkhodaljpjgaaGreatDoorV46
import Derived.Test.YtmmkhodaljpjgaaGreatDoorV45
import Derived.Test.YtmmkhodaljpjgaaGreatDoorV47
import Derived.Test.YtmmkhodaljpjgaaGreatDoorV40
import Derived.Test.YtmmkhodaljpjgaaGreatDoorV33
set_option maxRecDepth 100000
set_option maxHeartbeats 6400000
namespace Go.Proofs.YtmmkhodaljpjgaaGreatDoor
open Go.RowKit
theorem Sv.voted_ref (x:Sv):x.voted.ref = x.ref:=by
 unfold Sv.voted
 split <;> rfl
theorem Sv.weigh_ref (x:Sv):x.weigh.ref = x.ref:=by
 unfold Sv.weigh
 split
 ·rfl
 ·split
  ·rfl
  ·rw [Sv.voted_ref];rfl
theorem Sv.adv_ref (x:Sv) (s f:Int):(x.adv s f).2.ref = x.ref:=by
 unfold Sv.adv
 split
 ·rfl
 ·split
  ·rfl
  ·show (Sv.weigh _).ref = _
   rw [Sv.weigh_ref];rfl
theorem Sv.hear_ref (x:Sv) (s f:Int):(x.hear s f).2.ref = x.ref:=by
 unfold Sv.hear
 split
 ·rfl
 ·split
  ·rfl
  ·show (Sv.weigh _).ref = _
   rw [Sv.weigh_ref];rfl
theorem Sv.load_ref (x:Sv) (g:Txt.Got):(x.load g).2.2.ref ≤ x.ref + 1:=by
 unfold Sv.load
 split
 ·show x.ref + 1 ≤ _;omega
 ·show (Sv.weigh _).ref ≤ _
  rw [Sv.weigh_ref]
  have e:(x.taken g.up g.ex g.ls).ref = (x.begun1 g.ls).ref:=rfl
  rw [e]
  unfold Sv.begun1
  split
  ·show x.ref ≤ _;omega
  ·omega
theorem k_see (b:Nat) (s:Sv) (F:Nat → Prop) (w:World) (h:PS b s F w) (hI:s.Inv):Shows b s w:=by
 have:=hI.lens
 exact p_see b s F w h (by omega) (by omega)
theorem Sv.Inv.told {x:Sv} (_:x.Inv):∃ ts tf li er,x.Told ts tf li er:=by
 cases hl:x.ld with
 | false => exact ⟨0,0,3,8,fun _ => ⟨rfl,rfl,rfl,rfl⟩,fun e => (by rw [hl] at e;cases e),fun e => (by rw [hl] at e;cases e),fun e => (by rw [hl] at e;cases e)⟩
 | true =>
  by_cases hm:x.mode = 0
  ·exact ⟨x.utc,x.nf,x.ind (x.utc / 86400),0,fun e => (by rw [hl] at e;cases e),fun _ _ => ⟨rfl,rfl,rfl,rfl⟩,fun _ e => absurd hm e,fun _ e => absurd hm e⟩
  ·by_cases hw:x.wide
   ·exact ⟨(x.smeared (x.done.length - 1)).1,(x.smeared (x.done.length - 1)).2,0,0,fun e => (by rw [hl] at e;cases e),fun _ e => absurd e hm,fun _ _ e => absurd hw e,fun _ _ _ => ⟨rfl,rfl,rfl,rfl⟩⟩
   ·exact ⟨x.utc,x.nf,0,0,fun e => (by rw [hl] at e;cases e),fun _ e => absurd e hm,fun _ _ _ => ⟨rfl,rfl,rfl,rfl⟩,fun _ _ e => absurd e hw⟩
theorem ref_told (b:Nat) (x:Sv) (dv bv cv hv:Value) (ts tf li er:Int) (w:World) (hr:RSrv b x dv bv cv hv w) (hI:x.Inv) (hT:x.Told ts tf li er):Tells 56 b ts tf li er w:=by
 unfold Tells
 obtain ⟨t0,t1,t2,t3⟩:=hI.num.t'
 cases hl:x.ld with
 | false =>
  obtain ⟨rfl,rfl,rfl,rfl⟩:=hT.no hl
  exact ref_served_no b x dv bv cv hv w hr hl
 | true =>
  have m:=hI.mid hl
  have can:=m.can hI.num
  have lens:=hI.lens
  have old:=m.till_old hI.num
  by_cases hm:x.mode = 0
  ·obtain ⟨k,hk⟩:=hI.indOk hl hm
   obtain ⟨rfl,rfl,rfl,rfl⟩:=hT.step hl hm
   exact ref_served_step b x dv bv cv hv _ w hr hl hm can (fun W hb => ref_indicator b x dv bv cv hv (x.utc / 86400) W (hr.below hb) m.pos (by omega) hk.good hk.day t1)
  ·by_cases hw:x.wide
   ·obtain ⟨l2,ht⟩:=hw
    obtain ⟨rfl,rfl,rfl,rfl⟩:=hT.in' hl hm ⟨l2,ht⟩
    exact ref_served_in b x dv bv cv hv (x.done.length - 1) w hr hl hm can (hI.begOk hl) (.inr ⟨x.done.length - 1,rfl,by omega,by omega,ht,fun j j1 j2 => old j (by omega)⟩) (by omega) (by omega) (hI.pullOk hl _ (by omega) ht) ⟨t2,t3⟩
   ·obtain ⟨rfl,rfl,rfl,rfl⟩:=hT.out hl hm hw
    refine ref_served_out b x dv bv cv hv w hr hl hm can (hI.begOk hl) (.inl ⟨rfl,fun j j1 j2 => ?_⟩)
    by_cases c:j + 1 < x.done.length
    ·exact old j c
    ·obtain rfl:j = x.done.length - 1:=by omega
     cases q:x.till (x.done.length - 1) with
     | false => rfl
     | true => exact absurd ⟨by omega,q⟩ hw
theorem ref_adv (b:Nat) (x:Sv) (dv bv cv hv:Value) (s f:Int) (w:World) (hr:RSrv b x dv bv cv hv w) (hI:x.Inv) :
  Calls Tryz.prog 63 #[.pointer (some ⟨b,0,none⟩),.agg #[.int .i64 s,.int .i64 f]] w fun e w' => e = .returned (.int .i64 (x.adv s f).1) ∧ RPost b (rFoot b dv bv cv hv) w (x.adv s f).2 w':=by
 have l:=hI.lens
 exact ref_advance b x dv bv cv hv s f w hr hI.num.t (by omega) (by omega) (fun a c ht hl hla => hI.canAdv a c ht hl hla)
theorem ref_heard (b:Nat) (x:Sv) (dv bv cv hv:Value) (src leap:Int) (w:World) (hr:RSrv b x dv bv cv hv w) (hI:x.Inv) :
  Calls Tryz.prog 67 #[.pointer (some ⟨b,0,none⟩),.int .i64 src,.int .i64 leap] w fun e w' => e = .returned (.int .i64 (x.hear src leap).1) ∧ RPost b (rFoot b dv bv cv hv) w (x.hear src leap).2 w':=by
 have l:=hI.lens
 have sl:=hI.num.sl
 refine ref_hear b x dv bv cv hv src leap w hr (by omega) (by omega) (by omega) (fun k lp hl => ?_)
 have w:=hI.num.win
 have bg:=(hI.mid hl).begun w.1 w.2
 have nn:=hI.num
 have c:=bg.mid.can (nn.of bg.same)
 have so:∀ h ∈ (x.says k lp).said,h.Ok:=fun h hh => by
  rcases List.mem_or_eq_of_mem_set (show h ∈ x.said.set k _ from hh) with e | e
  ·exact (nn.sok h e).1
  ·subst e;exact nn.t'
 exact ⟨c.fine,c.len,c.hold,c.n0,c.n1,c.u0,c.u1,(by show (x.said.set k _).length ≤ 100;rw [List.length_set];omega),so,c.f0,c.f1,c.w0,c.w1,c.bl,c.cl⟩
theorem ref_loads (b:Nat) (x:Sv) (dv bv cv hv:Value) (t:ByteArray) (w:World) (hr:RSrv b x dv bv cv hv w) (hI:x.Inv) (ht:t.size ≤ 1000000) (r1:x.ref ≤ 1000000) :
  Calls Tryz.prog 65 #[.pointer (some ⟨b,0,none⟩),.string t] w fun e w' => e = .returned (.tuple #[.int .i64 (x.load (Txt.parse t)).1,.int .i64 (x.load (Txt.parse t)).2.1]) ∧ RPost b (rFoot b dv bv cv hv) w (x.load (Txt.parse t)).2.2 w':=by
 have l:=hI.lens
 by_cases c:x.loadErr (Txt.parse t) = 0
 ·have e:x.load (Txt.parse t) = (0,0,(x.taken (Txt.parse t).up (Txt.parse t).ex (Txt.parse t).ls).weigh):=by unfold Sv.load;rw [if_neg (by omega)]
  rw [e]
  exact ref_load_yes b x dv bv cv hv t w hr ht hI c
 ·have e:x.load (Txt.parse t) = (x.loadErr (Txt.parse t),((Txt.parse t).num:Int),x.refuse):=by unfold Sv.load;rw [if_pos c]
  rw [e]
  exact ref_load_no b x dv bv cv hv t w hr ht (by omega) hI.num.r0 r1 c
theorem kind_step {B n:Nat} {o:Op} {w:World} (hn:n ≤ 90000) (hk:o.kind = 15):Does (srvXs PS ps_law B) B B n o w :=
 does_made15 ps_law hn hk (fun W s f => made_any ps_law 0 0 o.c o.d s f W (by decide) (p_new 0 0 o.c o.d s f (by decide)) k_see)
theorem kind_smear {B n:Nat} {o:Op} {w:World} (ho:o.Ok) (hn:n ≤ 90000) (hk:o.kind = 16):Does (srvXs PS ps_law B) B B n o w :=
 does_made16 ps_law hn hk (fun W s f => made_any ps_law o.a o.b o.c o.d s f W ho.b (p_new o.a o.b o.c o.d s f ho.b) k_see)
theorem kind_adv {B n:Nat} {o:Op} {w:World} (ho:o.Ok) (hn:n ≤ 90000) (hk:o.kind = 17):Does (srvXs PS ps_law B) B B n o w :=
 does_srv ps_law ho hn (by omega) (by omega) (fun r W t hr _ _ _ => by
  have iv:=hr.inv.adv o.a o.b
  have l:=iv.lens
  have hl:=hr.hn
  rw [hk]
  refine (does_adv ps_law r.bc r.bx r.by' r.br r.hv _ r.hs r.s (r.s.adv o.a o.b).2 r.Fx r.Fy r.Fr r.Fv o.x o.a o.b o.c o.d (r.s.adv o.a o.b).1 o.s t W hr.cs (p_advance r.s o.a o.b hr.inv) (fun dv bv cv rh V h => ref_adv r.br r.s dv bv cv rh o.a o.b V h hr.inv) (fun F V h => k_see _ _ F V h iv) (by omega) (by omega) (by omega) (by omega) (by omega)).mono ?_
  rintro e w' ⟨he,tp⟩
  exact ⟨he,tp.post iv (by rw [Sv.adv_ref];have:=hr.rf;omega) hr.hn⟩)
theorem kind_hear {B n:Nat} {o:Op} {w:World} (ho:o.Ok) (hn:n ≤ 90000) (hk:o.kind = 20):Does (srvXs PS ps_law B) B B n o w :=
 does_srv ps_law ho hn (by omega) (by omega) (fun r W t hr _ _ _ => by
  have iv:=hr.inv.hear o.a o.b
  have l:=iv.lens
  have hl:=hr.hn
  rw [hk]
  refine (does_hear ps_law r.bc r.bx r.by' r.br r.hv _ r.hs r.s (r.s.hear o.a o.b).2 r.Fx r.Fy r.Fr r.Fv o.x o.a o.b o.c o.d (r.s.hear o.a o.b).1 o.s t W hr.cs (p_hear r.s o.a o.b hr.inv) (fun dv bv cv rh V h => ref_heard r.br r.s dv bv cv rh o.a o.b V h hr.inv) (fun F V h => k_see _ _ F V h iv) (by omega) (by omega) (by omega) (by omega) (by omega)).mono ?_
  rintro e w' ⟨he,tp⟩
  exact ⟨he,tp.post iv (by rw [Sv.hear_ref];have:=hr.rf;omega) hr.hn⟩)
theorem table_off {A:Nat → Prop} {w W:World} (h:Table w) (o:Off A w W) (hA:¬ A 0):Table W:=by
 have hp:=h.pos
 have c:∀ j,W.cell? ⟨0,j,none⟩ = w.cell? ⟨0,j,none⟩:=fun j => World.cell?_of_block (o.block 0 hp hA)
 exact ⟨(c 0).trans h.c0,(c 1).trans h.c1,(c 2).trans h.c2,(c 3).trans h.c3⟩
theorem kind_load {B n:Nat} {o:Op} {w w0:World} (hT:Table w0) (hB:w0.heap.size ≤ B) (hb0:Below w0.heap.size w0 w) (ho:o.Ok) (hn:n ≤ 90000) (hk:o.kind = 18):Does (srvXs PS ps_law B) B B n o w :=
 does_srv ps_law ho hn (by omega) (by omega) (fun r W t hr hlo hb ht => by
  have iv:=hr.inv.load t
  have l:=iv.lens
  have hl:=hr.hn
  have hrf:=hr.rf
  have hp:=hT.pos
  have TW:Table W:=hT.below (hb0.trans (hb.mono hB))
  have sz:=(hb0.trans (hb.mono hB)).size
  have rf:=r.s.load_ref (Txt.parse t)
  rw [hk]
  refine (does_load ps_law r.bc r.bx r.by' r.br r.hv _ r.hs r.s (r.s.load (Txt.parse t)).2.2 r.Fx r.Fy r.Fr r.Fv o.x o.a o.b o.c o.d (r.s.load (Txt.parse t)).1 (r.s.load (Txt.parse t)).2.1 o.s t W Table hr.cs (p_load r.s t hr.inv (by omega) (by omega)) (fun V ov => table_off TW ov (fun q => by have:=hlo 0 q;omega)) (fun dv bv cv rh V h => ref_loads r.br r.s dv bv cv rh t V h hr.inv (by omega) (by omega)) (fun F V h => k_see _ _ F V h iv) (by omega) (by omega) (by omega) (by omega) (by omega)).mono ?_
  rintro e w' ⟨he,tp⟩
  exact ⟨he,tp.post iv (by omega) hr.hn⟩)
theorem kind_now {B n:Nat} {o:Op} {w:World} (ho:o.Ok) (hn:n ≤ 90000) (hk:o.kind = 19):Does (srvXs PS ps_law B) B B n o w :=
 does_srv ps_law ho hn (by omega) (by omega) (fun r W t hr _ _ _ => by
  obtain ⟨ts,tf,li,er,hT⟩:=hr.inv.told
  obtain ⟨dv,bv,cv,rh,rr,_⟩:=hr.cs.r
  refine (does_now r.bc r.bx r.by' r.br r.hv _ ts tf li er o t W hk hr.cs.c (fun V hb => p_now r.bx r.s r.Fx ts tf li er V (ps_law.keep hr.cs.x (fun k e => hb.block k (hr.low ps_law k (.inl e)))) hr.inv hT) (fun V hb => ref_told r.br r.s dv bv cv rh ts tf li er V (rr.below hb) hr.inv hT)).mono ?_
  rintro e w' ⟨he,bel⟩
  exact ⟨he,RcPost.of_below ps_law hr bel (Nat.le_succ _)⟩)
theorem Sv.ind_bd (x:Sv) (d:Int):x.ind d = 0 ∨ x.ind d = 1 ∨ x.ind d = 2:=by
 unfold Sv.ind
 split
 ·exact .inr (.inl rfl)
 ·split
  ·exact .inr (.inr rfl)
  ·exact .inl rfl
theorem moved_bd {s f p:Int} (f0:0 ≤ f) (f1:f < 4294967296) (p0:-4294967296 ≤ p) (p1:p ≤ 4294967296):s - 1 ≤ (moved s f p).1 ∧ (moved s f p).1 ≤ s + 1 ∧ 0 ≤ (moved s f p).2 ∧ (moved s f p).2 < 4294967296:=by
 unfold moved
 split
 ·simp only;omega
 ·split
  ·simp only;omega
  ·simp only;omega
theorem Sv.Inv.told_bd {x:Sv} {ts tf li er:Int} (h:x.Inv) (hT:x.Told ts tf li er):(li = 0 ∨ li = 1 ∨ li = 2 ∨ li = 3) ∧ (0 ≤ ts ∧ ts ≤ 1000000000000) ∧ 0 ≤ tf ∧ tf < 4294967296:=by
 obtain ⟨t0,t1,t2,t3⟩:=h.num.t'
 cases hl:x.ld with
 | false =>
  obtain ⟨rfl,rfl,rfl,rfl⟩:=hT.no hl
  omega
 | true =>
  have m:=h.mid hl
  have can:=m.can h.num
  have u0:=can.u0
  have u1:=can.u1
  by_cases hm:x.mode = 0
  ·obtain ⟨rfl,rfl,e,rfl⟩:=hT.step hl hm
   have:=x.ind_bd (x.utc / 86400)
   rw [← e] at this
   omega
  ·by_cases hw:x.wide
   ·obtain ⟨e1,e2,rfl,rfl⟩:=hT.in' hl hm hw
    obtain ⟨l2,ht⟩:=hw
    have ok:=h.pullOk hl (x.done.length - 1) (by omega) ht
    have pu:=Sv.pq_bd ok true
    have pd:=Sv.pq_bd ok false
    have b:=m.bg (x.done.length - 1) (by omega)
    have lo:=b.lo
    have nw:=b.now
    have wb:=h.num.win
    have wd:Tab.when x.all (x.done.length - 1) = Tab.when x.done (x.done.length - 1):=Tab.when_append _ _ _ (by omega)
    rw [wd] at lo
    have g:=m.doneFit.when_lt 0 (x.done.length - 1) (by omega) (by omega)
    have g0:=(m.doneFit.when_bd 0 (by omega)).1
    have b0:=m.doneFit.bd 0 (by omega)
    have bo:=m.doneFit.bd (x.done.length - 1 - 1) (by omega)
    rw [Sv.smeared_eq ok t2 t3] at e1 e2
    have key:∀ p,-4294967296 ≤ p → p ≤ 4294967296 → ts = (moved (x.ns - (x.done.getD (x.done.length - 1 - 1) (0,0)).2) x.nf p).1 → tf = (moved (x.ns - (x.done.getD (x.done.length - 1 - 1) (0,0)).2) x.nf p).2 → ((0:Int) = 0 ∨ (0:Int) = 1 ∨ (0:Int) = 2 ∨ (0:Int) = 3) ∧ (0 ≤ ts ∧ ts ≤ 1000000000000) ∧ 0 ≤ tf ∧ tf < 4294967296:=fun p p0 p1 a1 a2 => by
     have mb:=moved_bd (s:=x.ns - (x.done.getD (x.done.length - 1 - 1) (0,0)).2) t2 t3 p0 p1
     rw [← a1,← a2] at mb
     clear e1 e2 a1 a2
     omega
    split at e1
    ·rename_i c
     rw [if_pos c] at e2
     exact key _ (by omega) pd.2 e1 e2
    ·rename_i c
     rw [if_neg c] at e2
     exact key _ (by omega) (by omega) e1 e2
   ·obtain ⟨rfl,rfl,rfl,rfl⟩:=hT.out hl hm hw
    omega
def Sv.ansE (p:ByteArray):Int:=if Txt.asks p then 0 else 14
def ansV (p:ByteArray) (ts tf li er:Int):ByteArray:=if Txt.asks p then ansB li p (er == 0) ts tf else ⟨#[]⟩
theorem p_answer (b:Nat) (p:ByteArray) (s:Sv) (F:Nat → Prop) (ts tf li er:Int) (w:World) (h:PS b s F w) (hI:s.Inv) (hT:s.Told ts tf li er) (hs:p.size ≤ 1000000):Ans 57 b p (ansV p ts tf li er) (Sv.ansE p) w:=by
 unfold ansV Sv.ansE
 cases ha:Txt.asks p with
 | true => exact p_answer_yes b p s F ts tf li er w h hI hT hs ha (hI.told_bd hT).1
 | false => exact p_answer_no b p s F w h hs ha
theorem ref_answer (b:Nat) (p:ByteArray) (s:Sv) (dv bv cv hv:Value) (ts tf li er:Int) (w:World) (h:RSrv b s dv bv cv hv w) (hI:s.Inv) (hT:s.Told ts tf li er) (hs:p.size ≤ 1000000):Ans 58 b p (ansV p ts tf li er) (Sv.ansE p) w:=by
 unfold ansV Sv.ansE
 cases ha:Txt.asks p with
 | true =>
  obtain ⟨hl,hb,hf⟩:=hI.told_bd hT
  exact ref_answer_yes b p ts tf li er w hs ha (fun W hb => ref_told b s dv bv cv hv ts tf li er W (h.below hb) hI hT) hl hb.1 hb.2 hf.1 (by omega)
 | false => exact ref_answer_no b p w hs ha
theorem kind_answer {B n:Nat} {o:Op} {w:World} (ho:o.Ok) (hn:n ≤ 90000) (hk:o.kind = 21):Does (srvXs PS ps_law B) B B n o w :=
 does_srv ps_law ho hn (by omega) (by omega) (fun r W t hr _ _ ht => by
  obtain ⟨ts,tf,li,er,hT⟩:=hr.inv.told
  obtain ⟨dv,bv,cv,rh,rr,_⟩:=hr.cs.r
  refine (does_answer r.bc r.bx r.by' r.br r.hv _ _ o t _ W hk hr.cs.c (fun V hb => p_answer r.bx t r.s r.Fx ts tf li er V (ps_law.keep hr.cs.x (fun k e => hb.block k (hr.low ps_law k (.inl e)))) hr.inv hT (by omega)) (fun V hb => ref_answer r.br t r.s dv bv cv rh ts tf li er V (rr.below hb) hr.inv hT (by omega))).mono ?_
  rintro e w' ⟨he,bel⟩
  exact ⟨he,RcPost.of_below ps_law hr bel (Nat.le_succ _)⟩)
theorem kind_look {B n:Nat} {o:Op} {w:World} (ho:o.Ok) (hn:n ≤ 90000) (hk:o.kind = 22):Does (srvXs PS ps_law B) B B n o w :=
 does_srv ps_law ho hn (by omega) (by omega) (fun r W t hr _ _ ht => by
  obtain ⟨ts,tf,li,er,hT⟩:=hr.inv.told
  have l:=hr.inv.lens
  have hl:=hr.hn
  rw [hk]
  refine (does_look ps_law r.bc r.bx r.by' r.br r.hv _ r.hs r.s r.Fx r.Fy r.Fr r.Fv o.x o.a o.b o.c o.d ts tf li er _ o.s t _ W hr.cs (fun F V h => k_see _ _ F V h hr.inv) (fun F V h => p_now r.by' r.s F ts tf li er V h hr.inv hT) (fun dv bv cv rh V h => ref_told r.br r.s dv bv cv rh ts tf li er V h hr.inv hT)
   (fun F V h => p_answer r.by' t r.s F ts tf li er V h hr.inv hT (by omega)) (fun dv bv cv rh V h => ref_answer r.br t r.s dv bv cv rh ts tf li er V h hr.inv hT (by omega)) (by omega) (by omega) (by omega) (by omega) (by omega)).mono ?_
  rintro e w' ⟨he,tp⟩
  exact ⟨he,tp.post hr.inv (by have:=hr.rf;omega) hr.hn⟩)
theorem does_dated {X:Xs} (o:Op) (hk:o.kind = 7 ∨ o.kind = 8) (B n:Nat) (wr:World):Does X B B n o wr :=
 does_pure (.inr (by omega)) (by omega) (DoesP.of_below (fun w1 => pure_dated _ o w1 hk))
end Go.Proofs.YtmmkhodaljpjgaaGreatDoor
