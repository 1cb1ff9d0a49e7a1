import Derived.Test.YtmmkhodaljpjgaaGreatDoorV10
namespace Go.Proofs.YtmmkhodaljpjgaaGreatDoor
open Go.RowKit
def cmP (c:Cm):Int × Int:=(c.a,c.o)
def Sv.all (x:Sv):List (Int × Int):=x.done ++ x.com.map cmP
structure Sv.Bg (x:Sv) (T s f:Int):Prop where
 f0:0 ≤ f
 f1:f < 4294967296
 hi:s < T ∨ (s = T ∧ f ≤ 0)
 lo:T - x.win ≤ s
 now:s < x.ns ∨ (s = x.ns ∧ f ≤ x.nf)
 ov:(s + x.win < x.ns ∨ (s + x.win = x.ns ∧ f ≤ x.nf)) ∨ T - x.win / 2 ≤ s
structure Sv.Cg (x:Sv) (T:Int) (c:Cm):Prop where
 f0:0 ≤ c.bf
 f1:c.bf < 4294967296
 hi:c.bs < T ∨ (c.bs = T ∧ c.bf ≤ 0)
 lo:T - x.win / 2 ≤ c.bs
structure Sv.Mid (x:Sv):Prop where
 fit:Tab.Fit x.all
 pos:0 < x.done.length
 first:Tab.when x.all 0 ≤ x.ns
 bl:x.began.length = x.done.length
 bg:∀ i,i < x.done.length → x.Bg (Tab.when x.all i) (x.began.getD i (0,0)).1 (x.began.getD i (0,0)).2
 cg:∀ i c,x.com[i]? = some c → x.Cg (Tab.when x.all (x.done.length + i)) c
structure Sv.Num (x:Sv):Prop where
 mode:(x.mode = 0 ∧ x.win = 0) ∨ ((x.mode = 1 ∨ x.mode = 2) ∧ 3600 ≤ x.win ∧ x.win ≤ 604800 ∧ x.win.tmod 2 = 0)
 f0:1 ≤ x.fresh
 f1:x.fresh ≤ 604800
 t:isT x.ns x.nf = true
 sl:x.said.length ≤ 8
 sok:∀ h ∈ x.said,h.Ok ∧ 0 ≤ h.leap ∧ h.leap ≤ 3
 r0:0 ≤ x.ref
theorem Sv.Num.win {x:Sv} (h:x.Num):0 ≤ x.win ∧ x.win ≤ 604800:=by
 rcases h.mode with ⟨_,a⟩ | ⟨_,a,b,_⟩ <;> omega
structure Sv.Inv (x:Sv):Prop where
 num:x.Num
 no:x.ld = false → x.done = [] ∧ x.began = [] ∧ x.com = [] ∧ x.up = 0 ∧ x.ex = 0
 mid:x.ld = true → x.Mid
 lat:x.ld = true → ∀ c ∈ x.com,tLater c.bs c.bf x.ns x.nf = true
 ex:x.ld = true → 0 ≤ x.up ∧ x.up < x.ex ∧ x.ex ≤ 34000000000
 fl:x.ld = true → (∀ c ∈ x.com,c.v = false) ∨ ∃ c,x.com = [c] ∧ c.v = true
theorem not_later {s f z g:Int} (h:tLater s f z g = false):s < z ∨ (s = z ∧ f ≤ g):=by
 have:=of_decide_eq_false h;omega
theorem is_later {s f z g:Int} (h:tLater s f z g = true):z < s ∨ (s = z ∧ g < f):=of_decide_eq_true h
theorem Sv.all_one (x:Sv) (c:Cm) (r:List Cm) (hc:x.com = c :: r):(x.one c r).all = x.all:=by
 unfold Sv.all Sv.one;simp [hc,cmP]
theorem Sv.all_length (x:Sv):x.all.length = x.done.length + x.com.length:=by simp [Sv.all]
theorem getD_leftI (l r:List (Int × Int)) (i:Nat) (hi:i < l.length):(l ++ r).getD i (0,0) = l.getD i (0,0):=Tab.getD_left l r i hi
theorem getD_new (l:List (Int × Int)) (p:Int × Int):(l ++ [p]).getD l.length (0,0) = p:=by
 rw [List.getD_eq_getElem?_getD];simp
theorem Sv.Mid.one {x:Sv} (h:x.Mid) (c:Cm) (r:List Cm) (hc:x.com = c :: r) (hl:tLater c.bs c.bf x.ns x.nf = false) (w0:0 ≤ x.win):(x.one c r).Mid:=by
 have ha:=x.all_one c r hc
 have c0:=h.cg 0 c (by rw [hc];rfl)
 have nl:=not_later hl
 have e1:(x.one c r).done = x.done ++ [(c.a,c.o)]:=rfl
 have e2:(x.one c r).began = x.began ++ [(c.bs,c.bf)]:=rfl
 refine ⟨by rw [ha];exact h.fit,by rw [e1];simp,by rw [ha];exact h.first,by rw [e1,e2];simp [h.bl],fun i hi => ?_,fun i d hd => ?_⟩
 ·rw [ha,e2]
  rw [e1,List.length_append,List.length_singleton] at hi
  by_cases e:i = x.done.length
  ·subst e
   rw [← h.bl,getD_new,h.bl]
   exact ⟨c0.f0,c0.f1,c0.hi,by have:=c0.lo;show _ - x.win ≤ _;simp only [Nat.add_zero] at this;omega,nl,.inr c0.lo⟩
  ·rw [getD_leftI _ _ _ (by rw [h.bl];omega)]
   have b:=h.bg i (by omega)
   exact ⟨b.f0,b.f1,b.hi,b.lo,b.now,b.ov⟩
 ·rw [ha,e1,List.length_append,List.length_singleton,Nat.add_assoc,Nat.add_comm 1 i]
  have d':=h.cg (i + 1) d (by rw [hc];exact hd)
  exact ⟨d'.f0,d'.f1,d'.hi,d'.lo⟩
theorem Sv.Mid.order {x:Sv} (h:x.Mid) (w0:0 ≤ x.win) (w1:x.win ≤ 604800) (i j:Nat) (c d:Cm) (hij:i < j) (hc:x.com[i]? = some c) (hd:x.com[j]? = some d):c.bs < d.bs:=by
 have a:=h.cg i c hc
 have b:=h.cg j d hd
 have lj:j < x.com.length:=by
  by_cases q:j < x.com.length
  ·exact q
  ·rw [List.getElem?_eq_none (by omega)] at hd;cases hd
 have t:=h.fit.when_lt (x.done.length + i) (x.done.length + j) (by omega) (by rw [x.all_length];omega)
 have:=a.hi
 have:=b.lo
 omega
structure Sv.Begun (x y:Sv):Prop where
 mid:y.Mid
 lat:∀ c ∈ y.com,tLater c.bs c.bf x.ns x.nf = true
 same:y = { x with done:=y.done,began:=y.began,com:=y.com }
 all:y.all = x.all
 drop:∃ k,y.com = x.com.drop k
theorem Sv.Mid.begun {x:Sv} (h:x.Mid) (w0:0 ≤ x.win) (w1:x.win ≤ 604800):x.Begun x.begun:=by
 generalize hn:x.com.length = n
 induction n generalizing x with
 | zero =>
  have hc:x.com = []:=List.eq_nil_of_length_eq_zero hn
  rw [x.begun_end hc]
  exact ⟨h,(by rw [hc];intro c q;cases q),rfl,rfl,0,rfl⟩
 | succ n ih =>
  cases hc:x.com with
  | nil => rw [hc] at hn;cases hn
  | cons c r =>
   by_cases hl:tLater c.bs c.bf x.ns x.nf = true
   ·rw [x.begun_stop c r hc hl]
    refine ⟨h,fun d hd => ?_,rfl,rfl,0,rfl⟩
    obtain ⟨i,hi,rfl⟩:=List.getElem_of_mem hd
    by_cases z:i = 0
    ·subst z
     have:x.com[0] = c:=by simp [hc]
     rw [this];exact hl
    ·have o:=h.order w0 w1 0 i c x.com[i] (by omega) (by rw [hc];rfl) (List.getElem?_eq_getElem hi)
     have q:=is_later hl
     exact decide_eq_true (by omega)
   ·have hl':tLater c.bs c.bf x.ns x.nf = false:=by simpa using hl
    rw [x.begun_one c r hc hl']
    have g:=ih (h.one c r hc hl' w0) w0 w1 (by show r.length = n;rw [hc] at hn;simpa using hn)
    refine ⟨g.mid,g.lat,?_,g.all.trans (x.all_one c r hc),?_⟩
    ·rw [g.same];rfl
    ·obtain ⟨k,hk⟩:=g.drop
     exact ⟨k + 1,by rw [hk,hc];rfl⟩
theorem Sv.Mid.doneFit {x:Sv} (h:x.Mid):Tab.Fit x.done:=h.fit.left h.pos
theorem Sv.Mid.firstD {x:Sv} (h:x.Mid):Tab.when x.done 0 ≤ x.ns:=by
 have:=h.first
 unfold Sv.all at this
 rwa [Tab.when_append _ _ _ h.pos] at this
theorem Sv.Num.t' {x:Sv} (h:x.Num):0 ≤ x.ns ∧ x.ns ≤ 34000000000 ∧ 0 ≤ x.nf ∧ x.nf < 4294967296:=isT_bd h.t
theorem Sv.Mid.can {x:Sv} (h:x.Mid) (hn:x.Num):x.Can:=by
 obtain ⟨t0,t1,_,_⟩:=hn.t'
 have w:=hn.win
 have g:=h.fit.good.len
 rw [x.all_length] at g
 have u:=h.doneFit.utc_bd x.ns h.firstD
 have l:=h.doneFit.lastAt_le x.ns h.firstD
 have f0:=hn.f0
 have f1:=hn.f1
 have sl:=hn.sl
 exact ⟨h.doneFit.good.fine,by omega,l.1,t0,t1,u.1,by unfold Sv.utc;omega,by omega,fun q hq => (hn.sok q hq).1,by omega,by omega,w.1,by omega,by rw [h.bl];omega,by omega⟩
theorem Sv.Num.of {x y:Sv} (h:x.Num) (hs:y = { x with done:=y.done,began:=y.began,com:=y.com }):y.Num:=by
 rw [hs];exact ⟨h.mode,h.f0,h.f1,h.t,h.sl,h.sok,h.r0⟩
theorem Sv.Mid.none {x:Sv} (h:x.Mid):({ x with com:=[] }:Sv).Mid:=by
 have ha:({ x with com:=[] }:Sv).all = x.done:=by simp [Sv.all]
 have wa:∀ i,i < x.done.length → Tab.when x.all i = Tab.when x.done i:=fun i hi => Tab.when_append _ _ _ hi
 refine ⟨by rw [ha];exact h.doneFit,h.pos,by rw [ha];exact h.firstD,h.bl,fun i hi => ?_,fun i c hc => by simp at hc⟩
 rw [ha]
 have b:=h.bg i hi
 rw [wa i hi] at b
 exact ⟨b.f0,b.f1,b.hi,b.lo,b.now,b.ov⟩
theorem Sv.opens_cg {x:Sv} {T:Int} (hn:x.Num) (hT:x.ns < T) (a o:Int) (v:Bool):x.Cg T ⟨a,o,(x.opens T).1,(x.opens T).2,v⟩:=by
 obtain ⟨t0,t1,t2,t3⟩:=hn.t'
 have w:=hn.win
 unfold Sv.opens
 split
 ·rename_i q
  have:=is_later q
  exact ⟨t2,t3,.inl hT,by show _ - x.win / 2 ≤ x.ns;omega⟩
 ·exact ⟨by simp,by simp,by simp only;omega,by simp⟩
theorem Sv.old_eq {x:Sv}:x.old = (x.done.getD (x.done.length - 1) (0,0)).2:=rfl
theorem Sv.Mid.vote {x:Sv} (h:x.Mid) (hn:x.Num) (ho:x.okN = true) (hw:x.ns < x.whenN):({ x with com:=[⟨x.atN,x.old + x.sign,(x.opens x.whenN).1,(x.opens x.whenN).2,true⟩] }:Sv).Mid:=by
 have hf:Tab.follows x.done x.atN (x.old + x.sign) = true:=by
  unfold Sv.okN at ho
  simp only [Bool.and_eq_true] at ho
  exact ho.2
 have hs0:x.sign ≠ 0:=by
  unfold Sv.okN at ho
  simp only [Bool.and_eq_true,bne_iff_ne,ne_eq] at ho
  exact ho.1.2
 have hF:=h.doneFit.grow hf
 have ha:({ x with com:=[⟨x.atN,x.old + x.sign,(x.opens x.whenN).1,(x.opens x.whenN).2,true⟩] }:Sv).all = x.done ++ [(x.atN,x.old + x.sign)]:=by simp only [Sv.all,List.map_cons,List.map_nil,cmP]
 have wa:∀ i,i < x.done.length → Tab.when x.all i = Tab.when x.done i:=fun i hi => Tab.when_append _ _ _ hi
 have wT:Tab.when (x.done ++ [(x.atN,x.old + x.sign)]) x.done.length = x.whenN:=by
  unfold Tab.when Sv.whenN
  rw [getD_new,getD_leftI _ _ (x.done.length - 1) (by have:=h.pos;omega),← x.old_eq]
  have hp:=h.pos
  rcases x.sign_bd with e | e | e
  ·rw [e,if_pos (by simp only;omega),if_neg (by omega)]
  ·rw [e,if_neg (by simp only;omega),if_pos (by omega)]
   simp only;omega
  ·exact absurd e hs0
 refine ⟨by rw [ha];exact hF,h.pos,?_,h.bl,fun i hi => ?_,fun i c hc => ?_⟩
 ·rw [ha,Tab.when_append _ _ _ h.pos];exact h.firstD
 ·rw [ha,Tab.when_append _ _ _ hi]
  have b:=h.bg i hi
  rw [wa i hi] at b
  exact ⟨b.f0,b.f1,b.hi,b.lo,b.now,b.ov⟩
 ·cases i with
  | zero =>
   simp only [List.getElem?_cons_zero,Option.some.injEq] at hc
   subst hc
   rw [ha,Nat.add_zero]
   show Sv.Cg _ (Tab.when (x.done ++ [(x.atN,x.old + x.sign)]) x.done.length) _
   rw [wT]
   have q:=Sv.opens_cg hn hw x.atN (x.old + x.sign) true
   exact ⟨q.f0,q.f1,q.hi,q.lo⟩
  | succ i => simp at hc
structure Sv.Round (x y:Sv):Prop where
 mid:y.Mid
 lat:∀ c ∈ y.com,tLater c.bs c.bf x.ns x.nf = true
 same:y = { x with done:=y.done,began:=y.began,com:=y.com }
 fl:(∀ c ∈ y.com,c.v = false) ∨ ∃ c,y.com = [c] ∧ c.v = true
theorem drop_one {c:Cm} (k:Nat):[c].drop k = [c] ∨ [c].drop k = []:=by
 cases k with
 | zero => exact .inl rfl
 | succ k => exact .inr (by simp)
theorem Sv.Mid.weigh {x:Sv} (h:x.Mid) (hn:x.Num) (hl:x.ld = true) (hf:(∀ c ∈ x.com,c.v = false) ∨ ∃ c,x.com = [c] ∧ c.v = true):x.Round x.weigh:=by
 obtain ⟨w0,w1⟩:=hn.win
 have b:=h.begun w0 w1
 have hf':(∀ c ∈ x.begun.com,c.v = false) ∨ ∃ c,x.begun.com = [c] ∧ c.v = true:=by
  obtain ⟨k,hk⟩:=b.drop
  rw [hk]
  rcases hf with hf | ⟨c,hc,hv⟩
  ·exact .inl fun c q => hf c (List.mem_of_mem_drop q)
  ·rw [hc]
   rcases drop_one (c:=c) k with e | e
   ·exact .inr ⟨c,e,hv⟩
   ·rw [e];exact .inl fun c q => by cases q
 unfold Sv.weigh
 rw [if_neg (by rw [hl];simp)]
 by_cases c1:x.begun.filed = true
 ·rw [if_pos c1]
  exact ⟨b.mid,b.lat,b.same,hf'⟩
 ·rw [if_neg c1]
  have hnb:=hn.of b.same
  have en:x.begun.ns = x.ns:=by rw [b.same]
  have ef:x.begun.nf = x.nf:=by rw [b.same]
  have ew:x.begun.win = x.win:=by rw [b.same]
  have bm:=b.mid
  have bs:=b.same
  generalize x.begun = z at *
  unfold Sv.voted
  split
  ·refine ⟨bm.none,(by intro c q;cases q),?_,.inl (by intro c q;cases q)⟩
   rw [bs]
  ·rename_i q
   have q1:z.okN = true:=by
    cases e:z.okN with
    | true => rfl
    | false => exact absurd (.inl e) q
   have q2:z.ns < z.whenN:=by
    by_cases e:z.whenN ≤ z.ns
    ·exact absurd (.inr e) q
    ·omega
   have v:=bm.vote hnb q1 q2
   have g:=v.begun (by rw [show ({ z with com:=[⟨z.atN,z.old + z.sign,(z.opens z.whenN).1,(z.opens z.whenN).2,true⟩] }:Sv).win = z.win from rfl,ew];exact w0) (by rw [show ({ z with com:=[⟨z.atN,z.old + z.sign,(z.opens z.whenN).1,(z.opens z.whenN).2,true⟩] }:Sv).win = z.win from rfl,ew];exact w1)
   refine ⟨g.mid,fun c hc => by have:=g.lat c hc;rw [← en,← ef];exact this,?_,?_⟩
   ·have e1:=g.same
    generalize Sv.begun _ = y at *
    rw [e1,bs]
   ·obtain ⟨k,hk⟩:=g.drop
    rw [hk]
    rcases drop_one (c:=(⟨z.atN,z.old + z.sign,(z.opens z.whenN).1,(z.opens z.whenN).2,true⟩:Cm)) k with e | e
    ·exact .inr ⟨_,e,rfl⟩
    ·exact .inl (by rw [e];intro c q;cases q)
theorem Sv.Mid.inv {x:Sv} (h:x.Mid) (hn:x.Num) (hl:x.ld = true) (hf:(∀ c ∈ x.com,c.v = false) ∨ ∃ c,x.com = [c] ∧ c.v = true) (hx:0 ≤ x.up ∧ x.up < x.ex ∧ x.ex ≤ 34000000000):x.weigh.Inv:=by
 have r:=h.weigh hn hl hf
 have nn:=hn.of r.same
 have m:=r.mid
 have la:=r.lat
 have fl:=r.fl
 have s:=r.same
 generalize x.weigh = y at *
 have e1:y.ld = x.ld:=by rw [s]
 have e2:y.ns = x.ns:=by rw [s]
 have e3:y.nf = x.nf:=by rw [s]
 have e4:y.up = x.up:=by rw [s]
 have e5:y.ex = x.ex:=by rw [s]
 exact ⟨nn,fun q => (by rw [e1,hl] at q;cases q),fun _ => m,fun _ c hc => (by rw [e2,e3];exact la c hc),fun _ => (by rw [e4,e5];exact hx),fun _ => fl⟩
theorem Sv.Mid.at' {x:Sv} (h:x.Mid) (s f:Int) (hl:tLater x.ns x.nf s f = false):(x.at' s f).Mid:=by
 have ha:(x.at' s f).all = x.all:=rfl
 have nl:=not_later hl
 refine ⟨h.fit,h.pos,by rw [ha];have:=h.first;show _ ≤ s;omega,h.bl,fun i hi => ?_,fun i c hc => ?_⟩
 ·have b:=h.bg i hi
  rw [ha]
  refine ⟨b.f0,b.f1,b.hi,b.lo,?_,?_⟩
  ·have:=b.now;show _ < s ∨ _ = s ∧ _ ≤ f;show (x.began.getD i (0,0)).1 < s ∨ (x.began.getD i (0,0)).1 = s ∧ (x.began.getD i (0,0)).2 ≤ f;omega
  ·have:=b.ov
   show ((x.began.getD i (0,0)).1 + x.win < s ∨ (x.began.getD i (0,0)).1 + x.win = s ∧ (x.began.getD i (0,0)).2 ≤ f) ∨ Tab.when x.all i - x.win / 2 ≤ (x.began.getD i (0,0)).1
   omega
 ·have d:=h.cg i c hc
  exact ⟨d.f0,d.f1,d.hi,d.lo⟩
theorem Sv.Num.at' {x:Sv} (h:x.Num) {s f:Int} (ht:isT s f = true):(x.at' s f).Num:=⟨h.mode,h.f0,h.f1,ht,h.sl,h.sok,h.r0⟩
theorem tSum_later {a b s f:Int} (h:isT s f = true) (hb:isT a b = true):tLater a b (tSum a b s f).1 (tSum a b s f).2 = false:=by
 obtain ⟨s0,s1,f0,f1⟩:=isT_bd h
 obtain ⟨n0,n1,m0,m1⟩:=isT_bd hb
 unfold tLater tSum
 refine decide_eq_false (fun h => ?_)
 simp only at h
 omega
theorem Sv.Inv.adv {x:Sv} (h:x.Inv) (s f:Int):(x.adv s f).2.Inv:=by
 unfold Sv.adv
 split
 ·exact h
 ·rename_i c1
  have c1':isT s f = true:=by simpa using c1
  split
  ·exact h
  ·rename_i c2
   have c2':isT (tSum x.ns x.nf s f).1 (tSum x.ns x.nf s f).2 = true:=by simpa using c2
   have hl:=tSum_later c1' h.num.t
   generalize tSum x.ns x.nf s f = q at *
   cases hd:x.ld with
   | true => exact ((h.mid hd).at' _ _ hl).inv (h.num.at' c2') hd (h.fl hd) (h.ex hd)
   | false =>
    show ((x.at' q.1 q.2).weigh).Inv
    unfold Sv.weigh
    rw [if_pos (by exact hd)]
    exact ⟨h.num.at' c2',fun _ => h.no hd,fun e => (by have e':x.ld = true:=e;rw [hd] at e';cases e'),fun e => (by have e':x.ld = true:=e;rw [hd] at e';cases e'),fun e => (by have e':x.ld = true:=e;rw [hd] at e';cases e'),fun e => (by have e':x.ld = true:=e;rw [hd] at e';cases e')⟩
theorem Sv.Inv.canAdv {x:Sv} (h:x.Inv) (a c:Int) (ht:isT a c = true) (hl:x.ld = true) (hla:tLater x.ns x.nf a c = false):(x.at' a c).begun.Can:=by
 have m:=(h.mid hl).at' a c hla
 have nn:=h.num.at' ht
 have w:=h.num.win
 have b:=m.begun (x:=x.at' a c) w.1 w.2
 exact b.mid.can (nn.of b.same)
theorem Sv.Inv.lens {x:Sv} (h:x.Inv):x.done.length + x.com.length ≤ 40 ∧ x.began.length = x.done.length:=by
 cases hd:x.ld with
 | true =>
  have g:=(h.mid hd).fit.good.len
  rw [x.all_length] at g
  exact ⟨g,(h.mid hd).bl⟩
 | false =>
  obtain ⟨a,b,c,_⟩:=h.no hd
  rw [a,b,c];simp
theorem Sv.Inv.refuse {x:Sv} (h:x.Inv):x.refuse.Inv :=
 ⟨⟨h.num.mode,h.num.f0,h.num.f1,h.num.t,h.num.sl,h.num.sok,by have:=h.num.r0;show 0 ≤ x.ref + 1;omega⟩,h.no,fun e => by
  have m:=h.mid e
  exact ⟨m.fit,m.pos,m.first,m.bl,fun i hi => by have b:=m.bg i hi;exact ⟨b.f0,b.f1,b.hi,b.lo,b.now,b.ov⟩,fun i c hc => by have b:=m.cg i c hc;exact ⟨b.f0,b.f1,b.hi,b.lo⟩⟩,h.lat,h.ex,h.fl⟩
theorem Sv.says_mid {x:Sv} (m:x.Mid) (k:Nat) (leap:Int):(x.says k leap).Mid :=
 ⟨m.fit,m.pos,m.first,m.bl,fun i hi => by have b:=m.bg i hi;exact ⟨b.f0,b.f1,b.hi,b.lo,b.now,b.ov⟩,fun i c hc => by have b:=m.cg i c hc;exact ⟨b.f0,b.f1,b.hi,b.lo⟩⟩
theorem Sv.says_num {x:Sv} (h:x.Num) (k:Nat) (leap:Int) (l0:0 ≤ leap) (l1:leap ≤ 3):(x.says k leap).Num:=by
 refine ⟨h.mode,h.f0,h.f1,h.t,by show (x.said.set k _).length ≤ 8;rw [List.length_set];exact h.sl,fun q hq => ?_,h.r0⟩
 rcases List.mem_or_eq_of_mem_set (show q ∈ x.said.set k _ from hq) with e | e
 ·exact h.sok q e
 ·subst e
  exact ⟨h.t',l0,l1⟩
theorem Sv.Inv.hear {x:Sv} (h:x.Inv) (src leap:Int):(x.hear src leap).2.Inv:=by
 unfold Sv.hear
 split
 ·exact h
 ·split
  ·exact h
  ·rename_i c2
   have nn:=Sv.says_num h.num src.toNat leap (by omega) (by omega)
   cases hd:x.ld with
   | true => exact (Sv.says_mid (h.mid hd) src.toNat leap).inv nn hd (h.fl hd) (h.ex hd)
   | false =>
    show ((x.says src.toNat leap).weigh).Inv
    unfold Sv.weigh
    rw [if_pos (by exact hd)]
    exact ⟨nn,fun _ => h.no hd,fun e => (by have e':x.ld = true:=e;rw [hd] at e';cases e'),fun e => (by have e':x.ld = true:=e;rw [hd] at e';cases e'),fun e => (by have e':x.ld = true:=e;rw [hd] at e';cases e'),fun e => (by have e':x.ld = true:=e;rw [hd] at e';cases e')⟩
def Sv.tk (x:Sv) (ls:List (Int × Int)):Nat → List (Int × Int) × List (Int × Int)
 | 0 => (x.done,x.began)
 | k + 1 => if Tab.when ls k ≤ x.ns then ((x.tk ls k).1 ++ [ls.getD k (0,0)],(x.tk ls k).2 ++ [(Tab.when ls k - x.win,0)]) else x.tk ls k
def Sv.cmAt (x:Sv) (ls:List (Int × Int)) (i:Nat):Cm:=⟨(ls.getD i (0,0)).1,(ls.getD i (0,0)).2,(x.opens (Tab.when ls i)).1,(x.opens (Tab.when ls i)).2,false⟩
def Sv.cms (x:Sv) (ls:List (Int × Int)) (i:Nat):Nat → List Cm
 | 0 => []
 | k + 1 => x.cms ls i k ++ [x.cmAt ls (i + k)]
def Sv.begun1 (x:Sv) (ls:List (Int × Int)):Sv:=if x.ld = false then { x with done:=(x.tk ls ls.length).1,began:=(x.tk ls ls.length).2 } else x
def Sv.stamp (x:Sv) (up ex:Int):Sv:={ x with ld:=true,up:=up,ex:=ex,com:=[] }
def Sv.comes (x:Sv) (ls:List (Int × Int)) (k:Nat):Sv:={ x with com:=x.cms ls x.done.length k }
def Sv.taken (x:Sv) (up ex:Int) (ls:List (Int × Int)):Sv:=((x.begun1 ls).stamp up ex).comes ls (ls.length - (x.begun1 ls).done.length)
def Sv.load (x:Sv) (g:Txt.Got):Int × Int × Sv:=if x.loadErr g ≠ 0 then (x.loadErr g,g.num,x.refuse) else (0,0,(x.taken g.up g.ex g.ls).weigh)
theorem Sv.cms_length (x:Sv) (ls:List (Int × Int)) (i k:Nat):(x.cms ls i k).length = k:=by
 induction k with
 | zero => rfl
 | succ k ih => simp [Sv.cms,ih]
theorem Sv.cms_at (x:Sv) (ls:List (Int × Int)) (i k j:Nat) (c:Cm) (h:(x.cms ls i k)[j]? = some c):j < k ∧ c = x.cmAt ls (i + j):=by
 induction k with
 | zero => simp [Sv.cms] at h
 | succ k ih =>
  simp only [Sv.cms] at h
  by_cases e:j < k
  ·rw [List.getElem?_append_left (by rw [x.cms_length];exact e)] at h
   exact ⟨by omega,(ih h).2⟩
  ·rw [List.getElem?_append_right (by rw [x.cms_length];omega),x.cms_length] at h
   by_cases e':j = k
   ·subst e';simp at h;exact ⟨by omega,h.symm⟩
   ·rw [List.getElem?_eq_none (by simp;omega)] at h;cases h
theorem Sv.cms_map (x:Sv) (ls:List (Int × Int)) (i k:Nat) (h:i + k ≤ ls.length):(x.cms ls i k).map cmP = (ls.drop i).take k:=by
 induction k with
 | zero => simp [Sv.cms]
 | succ k ih =>
  have e1:=getD_at (ls:=ls) (i + k) (by omega)
  rw [Sv.cms,List.map_append,ih (by omega),List.take_succ_eq_append_getElem (show k < (ls.drop i).length by rw [List.length_drop];omega)]
  congr 1
  rw [List.getElem_drop]
  show [((ls.getD (i + k) (0,0)).1,(ls.getD (i + k) (0,0)).2)] = _
  rw [e1]
theorem Sv.cms_v (x:Sv) (ls:List (Int × Int)) (i k:Nat):∀ c ∈ x.cms ls i k,c.v = false:=fun c hc => by
 obtain ⟨j,hj,rfl⟩:=List.getElem_of_mem hc
 rw [(x.cms_at ls i k j _ (List.getElem?_eq_getElem hj)).2];rfl
theorem Sv.tk_eq {x:Sv} {ls:List (Int × Int)} (hd:x.done = []) (hb:x.began = []) (hf:Tab.Fit ls) (k:Nat) (hk:k ≤ ls.length) :
  (x.tk ls k).1 = ls.take (min k (Tab.lastAt ls x.ns ls.length + 1).toNat) ∧ (x.tk ls k).2.length = min k (Tab.lastAt ls x.ns ls.length + 1).toNat ∧ ∀ i,i < min k (Tab.lastAt ls x.ns ls.length + 1).toNat → (x.tk ls k).2.getD i (0,0) = (Tab.when ls i - x.win,0):=by
 have lb:=Tab.lastAt_bd ls x.ns ls.length
 induction k with
 | zero => simp [Sv.tk,hd,hb]
 | succ k ih =>
  obtain ⟨i1,i2,i3⟩:=ih (by omega)
  have q:=hf.lastAt_iff x.ns ls.length k (Nat.le_refl _) (by omega)
  unfold Sv.tk
  by_cases c:Tab.when ls k ≤ x.ns
  ·have c':=q.1 c
   rw [if_pos c]
   have m1:min k (Tab.lastAt ls x.ns ls.length + 1).toNat = k:=by omega
   have m2:min (k + 1) (Tab.lastAt ls x.ns ls.length + 1).toNat = k + 1:=by omega
   rw [m1] at i1 i2 i3
   rw [m2]
   refine ⟨?_,by simp [i2],fun i hi => ?_⟩
   ·show (x.tk ls k).1 ++ [ls.getD k (0,0)] = _
    rw [i1,List.take_succ_eq_append_getElem (by omega),getD_at k (by omega)]
   ·show ((x.tk ls k).2 ++ [(Tab.when ls k - x.win,0)]).getD i (0,0) = _
    by_cases e:i = k
    ·subst e
     have:=getD_new (x.tk ls i).2 (Tab.when ls i - x.win,0)
     rw [i2] at this;exact this
    ·rw [getD_leftI _ _ _ (by rw [i2];omega)];exact i3 i (by omega)
  ·rw [if_neg c]
   have c':¬ (k:Int) ≤ Tab.lastAt ls x.ns ls.length:=fun e => c (q.2 e)
   have m1:min (k + 1) (Tab.lastAt ls x.ns ls.length + 1).toNat = min k (Tab.lastAt ls x.ns ls.length + 1).toNat:=by omega
   rw [m1]
   exact ⟨i1,i2,i3⟩
theorem Sv.Inv.mid1 {x:Sv} (h:x.Inv) {ls:List (Int × Int)} (hf:Tab.Fit ls) (ha:x.agrees ls = true) :
  ∃ m,m ≤ ls.length ∧ 0 < m ∧ (x.begun1 ls).done = ls.take m ∧ (x.begun1 ls).began.length = m ∧ Tab.when ls 0 ≤ x.ns ∧ (m < ls.length → x.ns < Tab.when ls m) ∧ (∀ i,i < m → x.Bg (Tab.when ls i) ((x.begun1 ls).began.getD i (0,0)).1 ((x.begun1 ls).began.getD i (0,0)).2) ∧
   (x.begun1 ls) = { x with done:=(x.begun1 ls).done,began:=(x.begun1 ls).began }:=by
 obtain ⟨t0,t1,t2,t3⟩:=h.num.t'
 obtain ⟨w0,w1⟩:=h.num.win
 rcases (Bool.eq_false_or_eq_true x.ld).symm with hd | hd
 ·have a0:Tab.when ls 0 ≤ x.ns:=by
   unfold Sv.agrees at ha
   rw [if_pos hd] at ha
   exact of_decide_eq_true ha
  obtain ⟨n1,n2,n3,_⟩:=h.no hd
  obtain ⟨k1,k2,k3⟩:=Sv.tk_eq (x:=x) n1 n2 hf ls.length (Nat.le_refl _)
  have l:=hf.lastAt_le x.ns a0
  have e:x.begun1 ls = { x with done:=(x.tk ls ls.length).1,began:=(x.tk ls ls.length).2 }:=by unfold Sv.begun1;rw [if_pos hd]
  have m1:min ls.length (Tab.lastAt ls x.ns ls.length + 1).toNat = (Tab.lastAt ls x.ns ls.length + 1).toNat:=by omega
  rw [m1] at k1 k2 k3
  refine ⟨(Tab.lastAt ls x.ns ls.length + 1).toNat,by omega,by omega,by rw [e];exact k1,by rw [e];exact k2,a0,fun q => ?_,fun i hi => ?_,by rw [e]⟩
  ·have q':=hf.lastAt_iff x.ns ls.length (Tab.lastAt ls x.ns ls.length + 1).toNat (Nat.le_refl _) q
   by_cases z:x.ns < Tab.when ls (Tab.lastAt ls x.ns ls.length + 1).toNat
   ·exact z
   ·have:=q'.1 (by omega);omega
  ·rw [e]
   show x.Bg _ ((x.tk ls ls.length).2.getD i (0,0)).1 ((x.tk ls ls.length).2.getD i (0,0)).2
   rw [k3 i hi]
   have q:=(hf.lastAt_iff x.ns ls.length i (Nat.le_refl _) (by omega)).2 (by omega)
   exact ⟨by simp,by simp,by simp only;omega,by simp,by simp only;omega,.inl (by simp only;omega)⟩
 ·have e:x.begun1 ls = x:=by unfold Sv.begun1;rw [if_neg (by rw [hd];simp)]
  have m:=h.mid hd
  unfold Sv.agrees at ha
  rw [if_neg (by rw [hd];simp)] at ha
  split at ha
  ·cases ha
  ·rename_i hlen
   split at ha
   ·rename_i htk
    have hA:ls = x.done ++ ls.drop x.done.length:=by
     have:=List.take_append_drop x.done.length ls
     rw [htk] at this
     exact this.symm
    have wD:∀ i,i < x.done.length → Tab.when ls i = Tab.when x.done i:=fun i hi => by
     have:=Tab.when_append x.done (ls.drop x.done.length) i hi
     rw [← hA] at this
     exact this
    refine ⟨x.done.length,by omega,m.pos,by rw [e];exact htk.symm,by rw [e];exact m.bl,by rw [wD 0 m.pos];exact m.firstD,fun q => ?_,fun i hi => ?_,by rw [e]⟩
    ·simp only [Bool.or_eq_true,decide_eq_true_eq] at ha
     omega
    ·rw [e,wD i hi]
     have b:=m.bg i hi
     rw [show Tab.when x.all i = Tab.when x.done i from Tab.when_append _ _ _ hi] at b
     exact b
   ·cases ha
theorem Sv.Inv.takenMid {x:Sv} (h:x.Inv) {ls:List (Int × Int)} (up ex:Int) (hf:Tab.Fit ls) (ha:x.agrees ls = true):(x.taken up ex ls).Mid ∧ (x.taken up ex ls).Num ∧ (x.taken up ex ls).ld = true ∧ (∀ c ∈ (x.taken up ex ls).com,c.v = false) ∧ (x.taken up ex ls).up = up ∧ (x.taken up ex ls).ex = ex:=by
 obtain ⟨m,h1,h2,h3,h4,h5,h6,h7,h8⟩:=h.mid1 hf ha
 unfold Sv.taken
 generalize x.begun1 ls = y at *
 obtain ⟨t0,t1,t2,t3⟩:=h.num.t'
 have dl:y.done.length = m:=by rw [h3];simp;omega
 have eo:∀ T,(y.stamp up ex).opens T = x.opens T:=fun T => by rw [h8];rfl
 have en:(y.stamp up ex).ns = x.ns:=by rw [h8];rfl
 have ef:(y.stamp up ex).nf = x.nf:=by rw [h8];rfl
 have ew:(y.stamp up ex).win = x.win:=by rw [h8];rfl
 have hall:((y.stamp up ex).comes ls (ls.length - y.done.length)).all = ls:=by
  show y.done ++ ((y.stamp up ex).cms ls y.done.length (ls.length - y.done.length)).map cmP = ls
  rw [Sv.cms_map _ _ _ _ (by omega),h3]
  rw [show (ls.take m).length = m from by rw [← h3];exact dl]
  rw [List.take_of_length_le (show (ls.drop m).length ≤ ls.length - m by simp)]
  exact List.take_append_drop m ls
 refine ⟨⟨by rw [hall];exact hf,?_,by rw [hall];show _ ≤ (y.stamp up ex).ns;rw [en];exact h5,?_,fun i hi => ?_,fun i c hc => ?_⟩,?_,rfl,?_,rfl,rfl⟩
 ·show 0 < y.done.length;omega
 ·show y.began.length = y.done.length;omega
 ·rw [hall]
  have b:=h7 i (by have:i < y.done.length:=hi;omega)
  exact ⟨b.f0,b.f1,b.hi,by show _ - (y.stamp up ex).win ≤ _;rw [ew];exact b.lo,by show _ < (y.stamp up ex).ns ∨ _ = (y.stamp up ex).ns ∧ _ ≤ (y.stamp up ex).nf;rw [en,ef];exact b.now,by show (_ + (y.stamp up ex).win < (y.stamp up ex).ns ∨ _ + (y.stamp up ex).win = (y.stamp up ex).ns ∧ _ ≤ (y.stamp up ex).nf) ∨ _ - (y.stamp up ex).win / 2 ≤ _;rw [en,ef,ew];exact b.ov⟩
 ·rw [hall]
  obtain ⟨hi,rfl⟩:=Sv.cms_at _ _ _ _ _ _ (show ((y.stamp up ex).cms ls y.done.length (ls.length - y.done.length))[i]? = some c from hc)
  show Sv.Cg _ (Tab.when ls (y.done.length + i)) _
  have hT:x.ns < Tab.when ls (y.done.length + i):=by
   have q:=h6 (by omega)
   rw [dl]
   by_cases z:i = 0
   ·subst z;exact q
   ·have:=hf.when_lt m (m + i) (by omega) (by omega);omega
  have q:=Sv.opens_cg h.num hT (ls.getD (y.done.length + i) (0,0)).1 (ls.getD (y.done.length + i) (0,0)).2 false
  refine ⟨?_,?_,?_,?_⟩
  ·show 0 ≤ ((y.stamp up ex).opens _).2;rw [eo];exact q.f0
  ·show ((y.stamp up ex).opens _).2 < _;rw [eo];exact q.f1
  ·show ((y.stamp up ex).opens _).1 < _ ∨ ((y.stamp up ex).opens _).1 = _ ∧ ((y.stamp up ex).opens _).2 ≤ 0;rw [eo];exact q.hi
  ·show _ - (y.stamp up ex).win / 2 ≤ ((y.stamp up ex).opens _).1;rw [eo,ew];exact q.lo
 ·have nn:=h.num
  rw [h8]
  exact ⟨nn.mode,nn.f0,nn.f1,nn.t,nn.sl,nn.sok,nn.r0⟩
 ·exact Sv.cms_v _ _ _ _
theorem Sv.loadErr_ok {x:Sv} {t:ByteArray} (h:x.loadErr (Txt.parse t) = 0):Tab.whole (Txt.parse t).up (Txt.parse t).ex (Txt.parse t).ls = true ∧ x.agrees (Txt.parse t).ls = true ∧ (Txt.parse t).num = 0 ∧ (Txt.parse t).err = 0 ∧ ¬ (x.ld = true ∧ (Txt.parse t).up < x.up):=by
 unfold Sv.loadErr at h
 split at h
 ·rename_i q;exact absurd h q
 ·rename_i q
  have q':(Txt.parse t).err = 0:=by omega
  split at h
  ·cases h
  ·rename_i p
   split at h
   ·cases h
   ·rename_i r
    obtain ⟨a,b⟩:=Txt.parse_whole q'
    exact ⟨a,by simpa using r,b,q',p⟩
theorem Sv.Inv.load {x:Sv} (h:x.Inv) (t:ByteArray):(x.load (Txt.parse t)).2.2.Inv:=by
 unfold Sv.load
 split
 ·exact h.refuse
 ·rename_i q
  obtain ⟨a,b,_,_⟩:=Sv.loadErr_ok (x:=x) (t:=t) (by omega)
  obtain ⟨m,n,l,v,e1,e2⟩:=h.takenMid (Txt.parse t).up (Txt.parse t).ex (Tab.fit_of_whole a) b
  exact m.inv n l (.inl v) (by rw [e1,e2];exact Tab.whole_bds a)
theorem Sv.Inv.canLoad {x:Sv} (h:x.Inv) {ls:List (Int × Int)} (up ex:Int) (hf:Tab.Fit ls) (ha:x.agrees ls = true):(x.taken up ex ls).begun.Can:=by
 obtain ⟨m,n,_⟩:=h.takenMid up ex hf ha
 have w:=n.win
 have b:=m.begun w.1 w.2
 exact b.mid.can (n.of b.same)
theorem init_inv {mode win src fresh s f:Int} (h:cfgB mode win src fresh s f = true):(Sv.init mode win fresh s f src.toNat).Inv:=by
 unfold cfgB at h
 simp only [Bool.and_eq_true,Bool.or_eq_true,decide_eq_true_eq] at h
 obtain ⟨⟨h1,h2⟩,h3⟩:=h
 refine ⟨⟨?_,h2.2.2.1,h2.2.2.2,h3,by show (List.replicate _ _).length ≤ 8;simp;omega,fun q hq => ?_,by show (0:Int) ≤ 0;omega⟩,fun _ => ⟨rfl,rfl,rfl,rfl,rfl⟩,fun e => (by cases e),fun e => (by cases e),fun e => (by cases e),fun e => (by cases e)⟩
 ·show (mode = 0 ∧ win = 0) ∨ ((mode = 1 ∨ mode = 2) ∧ 3600 ≤ win ∧ win ≤ 604800 ∧ win.tmod 2 = 0)
  rcases h1 with h1 | h1
  ·exact .inl (of_decide_eq_true h1)
  ·exact .inr (of_decide_eq_true h1)
 ·obtain rfl:=List.eq_of_mem_replicate (show q ∈ List.replicate _ noHd from hq)
  exact ⟨by unfold Hd.Ok;simp,by simp,by simp⟩
def quo (a b:Int) (up:Bool):Int:=if up = true then (a + b - 1) / b else a / b
theorem quo_two (x m W:Int) (up:Bool) (hm:0 < m):quo (quo x m up) W up = quo x (m * W) up:=by
 unfold quo
 cases up
 ·simp only [Bool.false_eq_true,if_false]
  rw [Int.ediv_ediv_of_nonneg (by omega)]
 ·simp only [if_true]
  have e:(x + m - 1) / m + W - 1 = (x + m - 1 + m * (W - 1)) / m:=by
   rw [Int.add_mul_ediv_left _ _ (by omega)];omega
  rw [e,Int.ediv_ediv_of_nonneg (by omega)]
  congr 1
  rw [Int.mul_sub];omega
theorem quo_add (a q b:Int) (up:Bool) (hb:0 < b):quo (a + q * b) b up = quo a b up + q:=by
 unfold quo
 cases up
 ·simp only [Bool.false_eq_true,if_false]
  rw [Int.add_mul_ediv_right _ _ (by omega)]
 ·simp only [if_true]
  have:a + q * b + b - 1 = (a + b - 1) + q * b:=by omega
  rw [this,Int.add_mul_ediv_right _ _ (by omega)]
theorem quo_split (g rise r W:Int) (up:Bool) (hW:0 < W):quo (g * (W * 4294967296) + rise * r) (W * 4294967296) up = g + quo (rise * (r / 4294967296) + quo (rise * (r % 4294967296)) 4294967296 up) W up:=by
 have e1:rise * (r / 4294967296) + quo (rise * (r % 4294967296)) 4294967296 up = quo (rise * r) 4294967296 up:=by
  have:=quo_add (rise * (r % 4294967296)) (rise * (r / 4294967296)) 4294967296 up (by decide)
  rw [Int.add_comm,← this]
  congr 1
  have h:=Int.mul_ediv_add_emod r 4294967296
  have h2:rise * (r % 4294967296) + rise * (r / 4294967296) * 4294967296 = rise * (4294967296 * (r / 4294967296) + r % 4294967296):=by
   rw [Int.mul_add,Int.mul_assoc,Int.mul_comm (r / 4294967296) 4294967296,Int.add_comm]
  rw [h2,h]
 rw [e1,quo_two _ _ _ _ (by decide),Int.add_comm,quo_add _ _ _ _ (by omega),Int.mul_comm W,Int.add_comm]
theorem quo_bd (a b c:Int) (up:Bool) (hb:0 < b) (h0:0 ≤ a) (h1:a ≤ c * b):0 ≤ quo a b up ∧ quo a b up ≤ c:=by
 unfold quo
 cases up
 ·simp only [Bool.false_eq_true,if_false]
  exact ⟨Int.ediv_nonneg h0 (by omega),Int.ediv_le_of_le_mul hb h1⟩
 ·simp only [if_true]
  refine ⟨Int.ediv_nonneg (by omega) (by omega),?_⟩
  have:(a + b - 1) / b < c + 1:=Int.ediv_lt_of_lt_mul hb (by rw [Int.add_mul];omega)
  omega
theorem quo_nat (U D:Nat) (hD:0 < D):((U / D:Nat):Int) = quo U D false ∧ (((if U / D * D < U then U / D + 1 else U / D:Nat)):Int) = quo U D true:=by
 unfold quo
 refine ⟨by simp,?_⟩
 simp only [if_true]
 have h:=Nat.div_add_mod U D
 have m:=Nat.mod_lt U hD
 have hc:D * (U / D) = U / D * D:=Nat.mul_comm _ _
 by_cases c:U / D * D < U
 ·rw [if_pos c]
  have e:((U:Int) + D - 1) = ((U % D - 1:Nat):Int) + (((U / D + 1:Nat)):Int) * D:=by
   have:(((U / D + 1:Nat)):Int) * D = ((U / D * D:Nat):Int) + D:=by push_cast;rw [Int.add_mul];omega
   rw [this];omega
  rw [e,Int.add_mul_ediv_right _ _ (by omega),Int.ediv_eq_zero_of_lt (by omega) (by omega)];omega
 ·rw [if_neg c]
  have e:((U:Int) + D - 1) = ((D - 1:Nat):Int) + (((U / D:Nat)):Int) * D:=by
   have:(((U / D:Nat)):Int) * D = ((U / D * D:Nat):Int):=by push_cast;rfl
   rw [this];omega
  rw [e,Int.add_mul_ediv_right _ _ (by omega),Int.ediv_eq_zero_of_lt (by omega) (by omega)];omega
theorem pull_smooth {W n:Int} (h:PullOk W n) (up:Bool):gZ (pI W n) + quo ((gZ (pI W n + 1) - gZ (pI W n)) * (pR W n / 4294967296) + quo ((gZ (pI W n + 1) - gZ (pI W n)) * (pR W n % 4294967296)) 4294967296 up) W up = quo (pullU 2 W n) (pullD 2 W) up:=by
 unfold pullU pullD
 rw [if_neg (by decide),if_neg (by decide)]
 exact (quo_split _ _ _ _ _ h.w0).symm
def Sv.pq (x:Sv) (k:Nat) (up:Bool):Int:=quo (pullU x.mode x.win (x.gap k)) (pullD x.mode x.win) up
theorem Sv.pq_bd {x:Sv} {k:Nat} (h:PullOk x.win (x.gap k)) (up:Bool):0 ≤ x.pq k up ∧ x.pq k up ≤ 4294967296:=by
 obtain ⟨a,b,c⟩:=h.u x.mode
 exact quo_bd _ _ _ _ c.1 a b
theorem Sv.pulled_eq {x:Sv} {k:Nat} (h:PullOk x.win (x.gap k)):((x.pulled k:Nat):Int) = x.pq k false ∧ ((x.pulledUp k:Nat):Int) = x.pq k true:=by
 obtain ⟨a,b,c⟩:=h.u x.mode
 unfold Sv.pq Sv.pulledUp Sv.pulled
 generalize pullU x.mode x.win (x.gap k) = U at *
 generalize pullD x.mode x.win = D at *
 obtain ⟨u,rfl⟩:=Int.eq_ofNat_of_zero_le a
 obtain ⟨d,rfl⟩:=Int.eq_ofNat_of_zero_le (show 0 ≤ D by omega)
 exact quo_nat u d (by omega)
def moved (s f p:Int):Int × Int:=if f + p < 0 then (s - 1,f + p + 4294967296) else if 4294967296 ≤ f + p then (s + 1,f + p - 4294967296) else (s,f + p)
theorem moved_up {s f p:Int} (f0:0 ≤ f) (f1:f < 4294967296) (p0:0 ≤ p) (p1:p ≤ 4294967296):tSum s f 0 p = moved s f p:=by
 unfold tSum moved
 rw [if_neg (by omega)]
 split
 ·exact Prod.ext (by simp only;omega) (by simp only;omega)
 ·exact Prod.ext (by simp only;omega) (by simp only;omega)
theorem moved_down {s f p:Int} (f0:0 ≤ f) (f1:f < 4294967296) (p0:0 ≤ p) (p1:p ≤ 4294967296):tSum (s - 1) f 0 (4294967296 - p) = moved s f (-p):=by
 unfold tSum moved
 split
 ·exact Prod.ext (by simp only;omega) (by simp only;omega)
 ·rw [if_neg (by omega)]
  exact Prod.ext (by simp only;omega) (by simp only;omega)
theorem Sv.smeared_eq {x:Sv} {k:Nat} (h:PullOk x.win (x.gap k)) (f0:0 ≤ x.nf) (f1:x.nf < 4294967296):x.smeared k = if (x.done.getD k (0,0)).2 < (x.done.getD (k - 1) (0,0)).2 then moved (x.ns - (x.done.getD (k - 1) (0,0)).2) x.nf (x.pq k false) else moved (x.ns - (x.done.getD (k - 1) (0,0)).2) x.nf (-x.pq k true):=by
 obtain ⟨e1,e2⟩:=Sv.pulled_eq h
 unfold Sv.smeared
 rw [e1,e2]
 split
 ·exact moved_up f0 f1 (Sv.pq_bd h _).1 (Sv.pq_bd h _).2
 ·exact moved_down f0 f1 (Sv.pq_bd h _).1 (Sv.pq_bd h _).2
def gone (s f z g:Int):Int × Int:=if f - g < 0 then (s - z - 1,f - g + 4294967296) else (s - z,f - g)
theorem gone_later {s f z g k:Int} (f0:0 ≤ f) (f1:f < 4294967296) (g0:0 ≤ g) (g1:g < 4294967296):tLater (gone s f z g).1 (gone s f z g).2 k 0 = tLater s f (tSum z g k 0).1 (tSum z g k 0).2:=by
 unfold gone tSum tLater
 split
 ·exact decide_eq_decide.2 (by simp only;omega)
 ·exact decide_eq_decide.2 (by simp only;omega)
theorem gone_till {s f z g k:Int} (f0:0 ≤ f) (f1:f < 4294967296) (g0:0 ≤ g) (g1:g < 4294967296):tLater (tSum z g k 0).1 (tSum z g k 0).2 s f = decide ((gone s f z g).1 < k):=by
 unfold gone tSum tLater
 split
 ·exact decide_eq_decide.2 (by simp only;omega)
 ·exact decide_eq_decide.2 (by simp only;omega)
theorem gone_gap (s f z g:Int):(gone s f z g).1 * 4294967296 + (gone s f z g).2 = (s - z) * 4294967296 + f - g:=by
 unfold gone
 split
 ·simp only;omega
 ·simp only;omega
theorem gone_bd {s f z g:Int} (f0:0 ≤ f) (f1:f < 4294967296) (g0:0 ≤ g) (g1:g < 4294967296) (h:z < s ∨ (z = s ∧ g ≤ f)):0 ≤ (gone s f z g).1 ∧ (gone s f z g).1 ≤ s - z ∧ 0 ≤ (gone s f z g).2 ∧ (gone s f z g).2 < 4294967296:=by
 unfold gone
 split
 ·simp only;omega
 ·simp only;omega
def Opn (s:Sv) (op:Bool) (bs bf:Int):Prop :=
 (op = true → 2 ≤ s.began.length ∧ s.began.getD (s.began.length - 1) (0,0) = (bs,bf)) ∧ (op = false → ∀ i,i < s.began.length → (s.began.getD i (0,0)).1 + s.win < s.ns ∨ ((s.began.getD i (0,0)).1 + s.win = s.ns ∧ (s.began.getD i (0,0)).2 ≤ s.nf))
theorem Sv.till_eq {x:Sv} (i:Nat) (h0:0 ≤ (x.began.getD i (0,0)).2) (h1:(x.began.getD i (0,0)).2 < 4294967296):x.till i = decide ((x.began.getD i (0,0)).1 + x.win > x.ns ∨ ((x.began.getD i (0,0)).1 + x.win = x.ns ∧ x.nf < (x.began.getD i (0,0)).2)):=by
 unfold Sv.till tSum tLater
 exact decide_eq_decide.2 (by simp only;omega)
theorem Sv.Mid.till_old {x:Sv} (h:x.Mid) (hn:x.Num) (i:Nat) (hi:i + 1 < x.done.length):x.till i = false:=by
 have w:=hn.win
 have b:=h.bg i (by omega)
 have c:=h.bg (x.done.length - 1) (by omega)
 have g:=h.fit.when_lt i (x.done.length - 1) (by omega) (by rw [x.all_length];omega)
 rw [Sv.till_eq i b.f0 b.f1]
 have:=b.hi
 have:=c.lo
 have:=c.now
 exact decide_eq_false (by omega)
theorem Sv.Inv.begOk {x:Sv} (h:x.Inv) (hl:x.ld = true):x.BegOk:=by
 have m:=h.mid hl
 have w:=h.num.win
 obtain ⟨t0,t1,t2,t3⟩:=h.num.t'
 refine ⟨m.bl,fun p hp => ?_,w.1,by omega⟩
 obtain ⟨i,hi,rfl⟩:=List.getElem_of_mem hp
 have b:=m.bg i (by rw [← m.bl];exact hi)
 rw [getD_at i hi] at b
 have:=b.lo
 have:=b.now
 have f:=m.fit.when_bd i (by rw [x.all_length,← m.bl];omega)
 have fb:=m.fit.bd i (by rw [x.all_length,← m.bl];omega)
 have:=b.f0
 have:=b.f1
 omega
theorem Sv.Inv.pullOk {x:Sv} (h:x.Inv) (hl:x.ld = true) (k:Nat) (hk:k < x.done.length) (ht:x.till k = true):PullOk x.win (x.gap k):=by
 have m:=h.mid hl
 have w:=h.num.mode
 obtain ⟨t0,t1,t2,t3⟩:=h.num.t'
 have b:=m.bg k hk
 rw [Sv.till_eq k b.f0 b.f1] at ht
 have q:=of_decide_eq_true ht
 have:=b.now
 have:=b.f0
 have:=b.f1
 refine ⟨by omega,by omega,?_,?_⟩
 ·unfold Sv.gap;omega
 ·unfold Sv.gap pX;omega
def Sv.hd (x:Sv) (i:Nat):Hd:=x.said.getD i noHd
def Sv.freshB (x:Sv) (h:Hd):Bool:=h.said && !tLater x.ns x.nf (tSum h.ws h.wf x.fresh 0).1 (tSum h.ws h.wf x.fresh 0).2
def Sv.cnt (x:Sv) (l:Int):Nat → Int
 | 0 => 0
 | k + 1 => if (x.hd k).leap = l ∧ x.freshB (x.hd k) = true then x.cnt l k + 1 else x.cnt l k
theorem Sv.cnt_bd (x:Sv) (l:Int) (k:Nat):0 ≤ x.cnt l k ∧ x.cnt l k ≤ k:=by
 induction k with
 | zero => simp [Sv.cnt]
 | succ k ih => unfold Sv.cnt;split <;> omega
theorem Sv.tally_cnt {x:Sv} (hs:∀ h ∈ x.said,0 ≤ h.leap ∧ h.leap ≤ 3) (k:Nat) (hk:k ≤ x.said.length):x.tally k = (x.cnt 0 k + x.cnt 1 k + x.cnt 2 k,x.cnt 1 k,x.cnt 2 k):=by
 induction k with
 | zero => rfl
 | succ k ih =>
  have lk:k < x.said.length:=by omega
  have e:x.said.getD k noHd = x.said[k]:=by rw [List.getD_eq_getElem?_getD,List.getElem?_eq_getElem lk];rfl
  have hb:=hs _ (List.getElem_mem lk)
  rw [← e] at hb
  have eh:x.hd k = x.said.getD k noHd:=rfl
  unfold Sv.tally Sv.cnt
  rw [ih (by omega),eh]
  generalize x.said.getD k noHd = h at *
  have ec:x.counts h = (x.freshB h && h.leap != 3):=rfl
  rw [ec]
  cases hf:x.freshB h with
  | false => simp
  | true =>
   obtain ⟨h0,h3⟩:=hb
   simp only [Bool.true_and,bne_iff_ne,ne_eq]
   have:h.leap = 0 ∨ h.leap = 1 ∨ h.leap = 2 ∨ h.leap = 3:=by omega
   rcases this with q | q | q | q
   ·rw [q];simp;omega
   ·rw [q];simp;omega
   ·rw [q];simp;omega
   ·rw [q];simp
theorem Sv.cnt_rest {x:Sv} (l:Int) (k:Nat):x.cnt l (x.said.length + k) = x.cnt l x.said.length:=by
 induction k with
 | zero => rfl
 | succ k ih =>
  have st:x.cnt l (x.said.length + k + 1) = if (x.hd (x.said.length + k)).leap = l ∧ x.freshB (x.hd (x.said.length + k)) = true then x.cnt l (x.said.length + k) + 1 else x.cnt l (x.said.length + k):=rfl
  rw [← Nat.add_assoc,st]
  have e:x.hd (x.said.length + k) = noHd:=by
   unfold Sv.hd
   rw [List.getD_eq_getElem?_getD,List.getElem?_eq_none (by omega)];rfl
  rw [e,if_neg (by intro h;cases h.2),ih]
theorem Sv.Num.most_eq {x:Sv} (h:x.Num):x.most = if 2 * x.cnt 1 8 > x.cnt 1 8 + x.cnt 2 8 + x.cnt 0 8 then 1 else if 2 * x.cnt 2 8 > x.cnt 1 8 + x.cnt 2 8 + x.cnt 0 8 then -1 else 0:=by
 have e:∀ l,x.cnt l 8 = x.cnt l x.said.length:=fun l => by
  have:=x.cnt_rest l (8 - x.said.length)
  rw [show x.said.length + (8 - x.said.length) = 8 from by have:=h.sl;omega] at this
  exact this
 rw [e 0,e 1,e 2]
 unfold Sv.most
 rw [Sv.tally_cnt (fun q hq => (h.sok q hq).2) _ (Nat.le_refl _)]
 have:x.cnt 0 x.said.length + x.cnt 1 x.said.length + x.cnt 2 x.said.length = x.cnt 1 x.said.length + x.cnt 2 x.said.length + x.cnt 0 x.said.length:=by omega
 simp only [this]
theorem Sv.fresh_eq {x:Sv} (h:Hd) (t2:0 ≤ x.nf) (t3:x.nf < 4294967296) (w0:0 ≤ h.wf) (w1:h.wf < 4294967296):x.freshB h = (h.said && !tLater (gone x.ns x.nf h.ws h.wf).1 (gone x.ns x.nf h.ws h.wf).2 x.fresh 0):=by
 unfold Sv.freshB
 rw [gone_later t2 t3 w0 w1]
theorem Sv.Num.hd_ok {x:Sv} (h:x.Num) (i:Nat):(x.hd i).Ok ∧ 0 ≤ (x.hd i).leap ∧ (x.hd i).leap ≤ 3:=by
 unfold Sv.hd
 rw [List.getD_eq_getElem?_getD]
 cases e:x.said[i]? with
 | none => exact ⟨⟨by decide,by decide,by decide,by decide⟩,by decide,by decide⟩
 | some q => exact h.sok q (List.mem_of_getElem? e)
def Shows (b:Nat) (s:Sv) (w:World):Prop :=
 Calls Tryz.prog 59 #[.pointer (some ⟨b,0,none⟩)] w fun e w' => ∃ dv cv,e = .returned (.agg #[.int .i64 s.ns,.int .i64 s.nf,.bool s.ld,.int .i64 s.up,.int .i64 s.ex,dv,cv,.int .i64 s.ref]) ∧
  w'.ownsRow w.heap.size 84 2 dv s.done.length (flat s.done) ∧ w'.ownsRow w.heap.size 121 5 cv s.com.length (flatC s.com) ∧ Below w.heap.size w w'
def PDoes (P:Nat → Sv → (Nat → Prop) → World → Prop) (fn:FuncId) (args:Nat → Array Value) (s s':Sv) (ev:Int) (G:World → Prop):Prop:=∀ b F W,P b s F W → G W →
 Calls Tryz.prog fn (args b) W fun e w' => e = .returned (.int .i64 ev) ∧ ∃ F',P b s' F' w' ∧ Off F W w' ∧ ∀ k,F' k → F k ∨ W.heap.size ≤ k
def PNewP (P:Nat → Sv → (Nat → Prop) → World → Prop) (cf:Bool) (s:Sv) (w:World) (e:Ending) (w':World):Prop :=
 (cf = false → e = .returned (.tuple #[.pointer none,.int .i64 10]) ∧ Below w.heap.size w w') ∧ (cf = true → ∃ b F,e = .returned (.tuple #[.pointer (some ⟨b,0,none⟩),.int .i64 0]) ∧ P b s F w' ∧ (∀ k,F k → w.heap.size ≤ k) ∧ Below w.heap.size w w')
def PNews (P:Nat → Sv → (Nat → Prop) → World → Prop) (mode win src fresh s f:Int):Prop:=∀ W,Calls Tryz.prog 53 #[.agg #[.int .i64 mode,.int .i64 win,.int .i64 src,.int .i64 fresh,.int .i64 s,.int .i64 f]] W fun e w' => PNewP P (cfgB mode win src fresh s f) (Sv.init mode win fresh s f src.toNat) W e w'
def PLoads (P:Nat → Sv → (Nat → Prop) → World → Prop) (t:ByteArray) (s s':Sv) (ev nv:Int) (G:World → Prop):Prop:=∀ b F W,P b s F W → G W →
 Calls Tryz.prog 64 #[.pointer (some ⟨b,0,none⟩),.string t] W fun e w' => e = .returned (.tuple #[.int .i64 ev,.int .i64 nv]) ∧ ∃ F',P b s' F' w' ∧ Off F W w' ∧ ∀ k,F' k → F k ∨ W.heap.size ≤ k
def Tells (fn:FuncId) (b:Nat) (ts tf li er:Int) (w:World):Prop :=
 Calls Tryz.prog fn #[.pointer (some ⟨b,0,none⟩)] w fun e w' => e = .returned (.tuple #[.agg #[.int .i64 ts,.int .i64 tf],.int .i64 li,.int .i64 er]) ∧ Below w.heap.size w w'
def Ans (fn:FuncId) (b:Nat) (p sv:ByteArray) (er:Int) (w:World):Prop :=
 Calls Tryz.prog fn #[.pointer (some ⟨b,0,none⟩),.string p] w fun e w' => e = .returned (.tuple #[.string sv,.int .i64 er]) ∧ Below w.heap.size w w'
def Read (w:World) (ao:Option Addr) (ls:List (Int × Int)):Prop:=0 < ls.length → ∃ g,ao = some ⟨g,0,none⟩ ∧ g < w.heap.size ∧ Lies w g ls
theorem Read.below {w w':World} {ao:Option Addr} {ls:List (Int × Int)} (h:Read w ao ls) (hb:Below w.heap.size w w'):Read w' ao ls:=fun hp => by
 obtain ⟨g,e,lg,hl⟩:=h hp
 exact ⟨g,e,by have:=hb.size;omega,hl.below lg hb⟩
theorem read_of {w:World} {B e n cap:Nat} {ao:Option Addr} {ls:List (Int × Int)} (h:w.ownsRow B e 2 (.slice ao n cap) n (flat ls)) (hl:ls.length = n):Read w ao ls:=fun hp => by
 obtain ⟨g,cap',hg⟩:=own_some h (by omega)
 obtain ⟨rfl,_,rfl⟩:=Value.slice.inj hg
 exact ⟨g,rfl,(h.lt _ rfl).2,lies_of h hl⟩
set_option maxRecDepth 100000 in
set_option maxHeartbeats 3200000 in
theorem copy_of (ao:Option Addr) (n cap:Nat) (ls:List (Int × Int)) (w:World) (hr:Read w ao ls) (hl:ls.length = n) (hn:n ≤ 1000) :
  Calls Tryz.prog 146 #[.slice ao n cap] w fun e w' => ∃ v,e = .returned v ∧ w'.ownsRow w.heap.size 84 2 v n (flat ls) ∧ Below w.heap.size w w':=by
 obtain ⟨i0,hi0,hz0,hz1,hz2⟩:=info_parts infoALeap
 have HR:=hid' hr
 clear hr
 go_enter Tryz.func146,Tryz.ntmps146
 go_wp2
 go_loopw [3,4] (fun v i wr => ∃ k:Nat,k ≤ n ∧ i = .int .i64 k ∧ wr.ownsRow w.heap.size 84 2 v k (flat (ls.take k)) ∧ Below w.heap.size w wr) (fun _ i _ => n - (intOf i).toNat)
 case atStart => exact ⟨0,by omega,rfl,World.ownsRow_nil _ _ _ _,Below.refl _ _⟩
 case round =>
  obtain ⟨k,hk,rfl,own,hb⟩:=hrel
  have OWN:=hid' own
  have HB:=hid' hb
  have hsz:=hb.size
  by_cases hlt:k < n
  ·obtain ⟨g,rfl,lg,hlies⟩:=HR.out (by omega)
   have a0:=(hb.cell (p:=⟨g,k * 2,none⟩) lg).trans (hlies k (by omega)).1
   have a1:=(hb.cell (p:=⟨g,k * 2 + 1,none⟩) lg).trans (hlies k (by omega)).2
   have htk:ls.take (k + 1) = ls.take k ++ [ls[k]'(by omega)]:=List.take_succ_eq_append_getElem (by omega)
   have HTK:=hid' htk
   generalize ls[k]'(by omega) = p at *
   obtain ⟨pa,po⟩:=p
   simp only at a0 a1
   have hli:(k:Int) < (n:Int):=by omega
   obtain ⟨va,vcp,hv⟩:=own_slice own
   subst hv
   clear own hb htk hlies
   go_wp2_with (at_builtin;refine wpList_append_lies _ (by rfl) (.tmp 11) (.tmp 16) 76 (by rfl) w.heap.size 84 i0 (.agg #[.int .i64 0,.int .i64 0]) 2 16 Tryz.underlying76 hi0 hz0 hz1 hz2 rfl (by decide) (.slice va k vcp) k (flat (ls.take k)) (by rfl) (OWN.out.alloc _) ⟨wr.heap.size,0,none⟩ 1 1 [.int .i64 pa,.int .i64 po] (by rfl) (by rfl) (World.news_of_block (cs:=#[.int .i64 pa,.int .i64 po]) (t:=84) (fr:=(0,0)) (heap_alloc_new wr _)) (by simp [Value.oneCell']) (by decide) (by unfold maxLen;omega) (by omega) (by simp <;> omega) (wr.heap.size + 1) (by simp) ?_;intro g3 cap3 w3 own3 hg3 hat3 hlt3;have OWN3:=hid' own3;have HG3:=hid' hg3;clear own3 hg3 hat3)
   go_roundw
   case rel =>
    refine ⟨k + 1,by omega,by go_num,by rw [HTK.out,flat_append];exact OWN3.out,?_⟩
    exact (HB.out.alloc hsz _).grown HG3.out (by simp;omega) (own_ge OWN.out)
   case measure => simp [intOf];omega
  ·have hnl:¬ (k:Int) < (n:Int):=by omega
   obtain rfl:k = n:=by omega
   clear own hb
   go_wp2
   go_ret
   refine ⟨_,rfl,?_,HB.out⟩
   have:=OWN.out
   rw [List.take_of_length_le (by omega)] at this
   exact this
def pCells (s:Sv) (dv cv:Value) (op:Bool) (bs bf:Int):Array Value:=#[.int .i64 s.mode,.int .i64 s.win,.int .i64 s.said.length,.int .i64 s.fresh,.int .i64 s.ns,.int .i64 s.nf,.bool s.ld,.int .i64 s.up,.int .i64 s.ex,dv,cv,.int .i64 s.ref,
 .bool (s.hd 0).said,.int .i64 (s.hd 0).leap,.int .i64 (s.hd 0).ws,.int .i64 (s.hd 0).wf,.bool (s.hd 1).said,.int .i64 (s.hd 1).leap,.int .i64 (s.hd 1).ws,.int .i64 (s.hd 1).wf,
 .bool (s.hd 2).said,.int .i64 (s.hd 2).leap,.int .i64 (s.hd 2).ws,.int .i64 (s.hd 2).wf,.bool (s.hd 3).said,.int .i64 (s.hd 3).leap,.int .i64 (s.hd 3).ws,.int .i64 (s.hd 3).wf,
 .bool (s.hd 4).said,.int .i64 (s.hd 4).leap,.int .i64 (s.hd 4).ws,.int .i64 (s.hd 4).wf,.bool (s.hd 5).said,.int .i64 (s.hd 5).leap,.int .i64 (s.hd 5).ws,.int .i64 (s.hd 5).wf,
 .bool (s.hd 6).said,.int .i64 (s.hd 6).leap,.int .i64 (s.hd 6).ws,.int .i64 (s.hd 6).wf,.bool (s.hd 7).said,.int .i64 (s.hd 7).leap,.int .i64 (s.hd 7).ws,.int .i64 (s.hd 7).wf,
 .bool op,.int .i64 bs,.int .i64 bf]
structure PRow (b:Nat) (s:Sv) (dv cv:Value) (op:Bool) (bs bf:Int) (w:World):Prop where
 row:w.heap[b]? = some (.cells (pCells s dv cv op bs bf) 157 (0,0))
 dd:w.ownsRow 0 84 2 dv s.done.length (flat s.done)
 cc:w.ownsRow 0 121 5 cv s.com.length (flatC s.com)
 sl:s.said.length ≤ 8
def pFoot (b:Nat) (dv cv:Value) (k:Nat):Prop:=k = b ∨ dv.ownBlock = some k ∨ cv.ownBlock = some k
theorem PRow.keep {b:Nat} {s:Sv} {dv cv:Value} {op:Bool} {bs bf:Int} {w w':World} (h:PRow b s dv cv op bs bf w) (hk:∀ k,pFoot b dv cv k → w'.heap[k]? = w.heap[k]?):PRow b s dv cv op bs bf w' :=
 ⟨(hk b (.inl rfl)).trans h.row,own_same h.dd (fun k e => hk k (.inr (.inl e))),own_same h.cc (fun k e => hk k (.inr (.inr e))),h.sl⟩
theorem PRow.typ {b:Nat} {s:Sv} {dv cv:Value} {op:Bool} {bs bf:Int} {w:World} (h:PRow b s dv cv op bs bf w) {k:Nat} (hk:pFoot b dv cv k):∃ cs e fr,w.heap[k]? = some (.cells cs e fr) ∧ (e = 157 ∨ e = 84 ∨ e = 121):=by
 rcases hk with rfl | e | e
 ·exact ⟨_,_,_,h.row,.inl rfl⟩
 ·obtain ⟨cs,fr,hh⟩:=own_typ h.dd e;exact ⟨_,_,_,hh,.inr (.inl rfl)⟩
 ·obtain ⟨cs,fr,hh⟩:=own_typ h.cc e;exact ⟨_,_,_,hh,.inr (.inr rfl)⟩
theorem PRow.below {b:Nat} {s:Sv} {dv cv:Value} {op:Bool} {bs bf:Int} {w w':World} (h:PRow b s dv cv op bs bf w) (hb:Below w.heap.size w w'):PRow b s dv cv op bs bf w' :=
 h.keep fun k hk => by obtain ⟨cs,e,fr,hh,_⟩:=h.typ hk;exact hb.block k (lt_of_heap hh)
theorem PRow.c0 {b:Nat} {s:Sv} {dv cv:Value} {op:Bool} {bs bf:Int} {w:World} (h:PRow b s dv cv op bs bf w):w.cell? ⟨b,0,none⟩ = some (.int .i64 s.mode):=cell_of_row _ _ _ _ _ _ h.row
theorem PRow.c1 {b:Nat} {s:Sv} {dv cv:Value} {op:Bool} {bs bf:Int} {w:World} (h:PRow b s dv cv op bs bf w):w.cell? ⟨b,1,none⟩ = some (.int .i64 s.win):=cell_of_row _ _ _ _ _ _ h.row
theorem PRow.c2 {b:Nat} {s:Sv} {dv cv:Value} {op:Bool} {bs bf:Int} {w:World} (h:PRow b s dv cv op bs bf w):w.cell? ⟨b,2,none⟩ = some (.int .i64 s.said.length):=cell_of_row _ _ _ _ _ _ h.row
theorem PRow.c3 {b:Nat} {s:Sv} {dv cv:Value} {op:Bool} {bs bf:Int} {w:World} (h:PRow b s dv cv op bs bf w):w.cell? ⟨b,3,none⟩ = some (.int .i64 s.fresh):=cell_of_row _ _ _ _ _ _ h.row
theorem PRow.c4 {b:Nat} {s:Sv} {dv cv:Value} {op:Bool} {bs bf:Int} {w:World} (h:PRow b s dv cv op bs bf w):w.cell? ⟨b,4,none⟩ = some (.int .i64 s.ns):=cell_of_row _ _ _ _ _ _ h.row
theorem PRow.c5 {b:Nat} {s:Sv} {dv cv:Value} {op:Bool} {bs bf:Int} {w:World} (h:PRow b s dv cv op bs bf w):w.cell? ⟨b,5,none⟩ = some (.int .i64 s.nf):=cell_of_row _ _ _ _ _ _ h.row
theorem PRow.c6 {b:Nat} {s:Sv} {dv cv:Value} {op:Bool} {bs bf:Int} {w:World} (h:PRow b s dv cv op bs bf w):w.cell? ⟨b,6,none⟩ = some (.bool s.ld):=cell_of_row _ _ _ _ _ _ h.row
theorem PRow.c7 {b:Nat} {s:Sv} {dv cv:Value} {op:Bool} {bs bf:Int} {w:World} (h:PRow b s dv cv op bs bf w):w.cell? ⟨b,7,none⟩ = some (.int .i64 s.up):=cell_of_row _ _ _ _ _ _ h.row
theorem PRow.c8 {b:Nat} {s:Sv} {dv cv:Value} {op:Bool} {bs bf:Int} {w:World} (h:PRow b s dv cv op bs bf w):w.cell? ⟨b,8,none⟩ = some (.int .i64 s.ex):=cell_of_row _ _ _ _ _ _ h.row
theorem PRow.c9 {b:Nat} {s:Sv} {dv cv:Value} {op:Bool} {bs bf:Int} {w:World} (h:PRow b s dv cv op bs bf w):w.cell? ⟨b,9,none⟩ = some (dv):=cell_of_row _ _ _ _ _ _ h.row
theorem PRow.c10 {b:Nat} {s:Sv} {dv cv:Value} {op:Bool} {bs bf:Int} {w:World} (h:PRow b s dv cv op bs bf w):w.cell? ⟨b,10,none⟩ = some (cv):=cell_of_row _ _ _ _ _ _ h.row
theorem PRow.c11 {b:Nat} {s:Sv} {dv cv:Value} {op:Bool} {bs bf:Int} {w:World} (h:PRow b s dv cv op bs bf w):w.cell? ⟨b,11,none⟩ = some (.int .i64 s.ref):=cell_of_row _ _ _ _ _ _ h.row
theorem PRow.c44 {b:Nat} {s:Sv} {dv cv:Value} {op:Bool} {bs bf:Int} {w:World} (h:PRow b s dv cv op bs bf w):w.cell? ⟨b,44,none⟩ = some (.bool op):=cell_of_row _ _ _ _ _ _ h.row
theorem PRow.c45 {b:Nat} {s:Sv} {dv cv:Value} {op:Bool} {bs bf:Int} {w:World} (h:PRow b s dv cv op bs bf w):w.cell? ⟨b,45,none⟩ = some (.int .i64 bs):=cell_of_row _ _ _ _ _ _ h.row
theorem PRow.c46 {b:Nat} {s:Sv} {dv cv:Value} {op:Bool} {bs bf:Int} {w:World} (h:PRow b s dv cv op bs bf w):w.cell? ⟨b,46,none⟩ = some (.int .i64 bf):=cell_of_row _ _ _ _ _ _ h.row
theorem PRow.lt {b:Nat} {s:Sv} {dv cv:Value} {op:Bool} {bs bf:Int} {w:World} (h:PRow b s dv cv op bs bf w):b < w.heap.size:=lt_of_heap h.row
theorem PRow.fr {b:Nat} {s:Sv} {dv cv:Value} {op:Bool} {bs bf:Int} {w:World} (h:PRow b s dv cv op bs bf w) (k:Nat):w.frozen? ⟨b,k,none⟩ = false:=frozen_of_row _ _ k _ _ h.row
theorem PRow.put {b:Nat} {s s':Sv} {dv cv:Value} {op op':Bool} {bs bf bs' bf':Int} {w:World} (h:PRow b s dv cv op bs bf w) (k:Nat) (v:Value) (e:(pCells s dv cv op bs bf).setIfInBounds k v = pCells s' dv cv op' bs' bf') (hd:s'.done = s.done) (hc:s'.com = s.com) (hs:s'.said.length = s.said.length):PRow b s' dv cv op' bs' bf' (w.setCell ⟨b,k,none⟩ v):=by
 refine ⟨?_,by rw [hd];exact own_set (p:=⟨b,k,none⟩) h.dd h.row (by decide) _,by rw [hc];exact own_set (p:=⟨b,k,none⟩) h.cc h.row (by decide) _,by rw [hs];exact h.sl⟩
 rw [heap_setCell_same _ _ _ _ _ _ h.row,← e]
theorem PRow.hdAt {b:Nat} {s:Sv} {dv cv:Value} {op:Bool} {bs bf:Int} {w:World} (h:PRow b s dv cv op bs bf w) (i:Nat) (hi:i < 8) :
  w.cell? ⟨b,12 + i * 4,none⟩ = some (.bool (s.hd i).said) ∧ w.cell? ⟨b,12 + i * 4 + 1,none⟩ = some (.int .i64 (s.hd i).leap) ∧ w.cell? ⟨b,12 + i * 4 + 2,none⟩ = some (.int .i64 (s.hd i).ws) ∧ w.cell? ⟨b,12 + i * 4 + 3,none⟩ = some (.int .i64 (s.hd i).wf):=by
 have r:=h.row
 match i,hi with
 | 0,_ | 1,_ | 2,_ | 3,_ | 4,_ | 5,_ | 6,_ | 7,_ => exact ⟨cell_of_row _ _ _ _ _ _ r,cell_of_row _ _ _ _ _ _ r,cell_of_row _ _ _ _ _ _ r,cell_of_row _ _ _ _ _ _ r⟩
theorem Sv.hd_says (s:Sv) (k:Nat) (leap:Int) (hk:k < s.said.length) (i:Nat):(s.says k leap).hd i = if i = k then ⟨true,leap,s.ns,s.nf⟩ else s.hd i:=by
 unfold Sv.hd Sv.says
 simp only [List.getD_eq_getElem?_getD,List.getElem?_set]
 split
 ·rename_i e;subst e;rw [if_pos rfl];simp
 ·rename_i e;rw [if_neg (fun q => e q.symm)]
set_option maxHeartbeats 3200000 in
theorem PRow.putH {b:Nat} {s:Sv} {dv cv:Value} {op:Bool} {bs bf:Int} {w:World} (h:PRow b s dv cv op bs bf w) (k:Nat) (leap:Int) (hk:k < s.said.length) :
  PRow b (s.says k leap) dv cv op bs bf ((((w.setCell ⟨b,12 + k * 4,none⟩ (.bool true)).setCell ⟨b,12 + k * 4 + 1,none⟩ (.int .i64 leap)).setCell ⟨b,12 + k * 4 + 2,none⟩ (.int .i64 s.ns)).setCell ⟨b,12 + k * 4 + 3,none⟩ (.int .i64 s.nf)):=by
 have r0:=h.row
 have r1:=heap_setCell_same _ _ (12 + k * 4) _ _ (.bool true) r0
 have r2:=heap_setCell_same _ _ (12 + k * 4 + 1) _ _ (.int .i64 leap) r1
 have r3:=heap_setCell_same _ _ (12 + k * 4 + 2) _ _ (.int .i64 s.ns) r2
 have r4:=heap_setCell_same _ _ (12 + k * 4 + 3) _ _ (.int .i64 s.nf) r3
 have ow:∀ {B e size n:Nat} {v:Value} {xs:List Value},w.ownsRow B e size v n xs → 157 ≠ e → ((((w.setCell ⟨b,12 + k * 4,none⟩ (.bool true)).setCell ⟨b,12 + k * 4 + 1,none⟩ (.int .i64 leap)).setCell ⟨b,12 + k * 4 + 2,none⟩ (.int .i64 s.ns)).setCell ⟨b,12 + k * 4 + 3,none⟩ (.int .i64 s.nf)).ownsRow B e size v n xs:=fun o he =>
  own_set (p:=⟨b,12 + k * 4 + 3,none⟩) (own_set (p:=⟨b,12 + k * 4 + 2,none⟩) (own_set (p:=⟨b,12 + k * 4 + 1,none⟩) (own_set (p:=⟨b,12 + k * 4,none⟩) o r0 he _) r1 he _) r2 he _) r3 he _
 have sl:=h.sl
 have len:(s.says k leap).said.length = s.said.length:=List.length_set
 refine ⟨?_,ow h.dd (by decide),ow h.cc (by decide),by rw [len];exact sl⟩
 rw [r4]
 have hh:=fun i => s.hd_says k leap hk i
 have k8:k < 8:=by omega
 have e:((((pCells s dv cv op bs bf).setIfInBounds (12 + k * 4) (.bool true)).setIfInBounds (12 + k * 4 + 1) (.int .i64 leap)).setIfInBounds (12 + k * 4 + 2) (.int .i64 s.ns)).setIfInBounds (12 + k * 4 + 3) (.int .i64 s.nf) = pCells (s.says k leap) dv cv op bs bf:=by
  unfold pCells
  rw [len]
  clear r0 r1 r2 r3 r4 ow
  have ymode:(s.says k leap).mode = s.mode:=rfl
  have ywin:(s.says k leap).win = s.win:=rfl
  have yfresh:(s.says k leap).fresh = s.fresh:=rfl
  have yns:(s.says k leap).ns = s.ns:=rfl
  have ynf:(s.says k leap).nf = s.nf:=rfl
  have yld:(s.says k leap).ld = s.ld:=rfl
  have yup:(s.says k leap).up = s.up:=rfl
  have yex:(s.says k leap).ex = s.ex:=rfl
  have yref:(s.says k leap).ref = s.ref:=rfl
  clear h
  generalize s.says k leap = y at *
  simp only [hh,ymode,ywin,yfresh,yns,ynf,yld,yup,yex,yref]
  clear hh len hk ymode ywin yfresh yns ynf yld yup yex yref
  match k,k8 with
  | 0,_ => simp
  | 1,_ => simp
  | 2,_ => simp
  | 3,_ => simp
  | 4,_ => simp
  | 5,_ => simp
  | 6,_ => simp
  | 7,_ => simp
 rw [e]
def PS (b:Nat) (s:Sv) (F:Nat → Prop) (w:World):Prop:=∃ dv cv op bs bf,PRow b s dv cv op bs bf w ∧ Opn s op bs bf ∧ ∀ k,F k ↔ pFoot b dv cv k
end Go.Proofs.YtmmkhodaljpjgaaGreatDoor
