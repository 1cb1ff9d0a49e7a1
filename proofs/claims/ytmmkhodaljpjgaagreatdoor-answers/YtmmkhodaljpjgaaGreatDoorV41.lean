import Derived.Test.YtmmkhodaljpjgaaGreatDoorV40
import Derived.BigRegion
import Derived.Deep.QuietTactic
import Derived.BigQuiet
import Derived.OwnWalk
import Derived.Deep.RegionHeld3
namespace Go.Proofs.YtmmkhodaljpjgaaGreatDoor
open Go.RowKit
set_option maxRecDepth 100000 in
set_option maxHeartbeats 1600000 in
theorem answered_yes (bc bx by' br b:Nat) (hv:Value) (m er:Int) (p sv:ByteArray) (w:World)
  (hc:w.heap[bc]? = some (.cells #[.pointer (some ⟨bx,0,none⟩),.pointer (some ⟨by',0,none⟩),.pointer (some ⟨br,0,none⟩),hv,.int .i64 m] 60 (0,0)))
  (hN:Ans 57 b p sv er w) (hS:∀ W,Below w.heap.size w W → Ans 58 br p sv er W) :
  Calls Tryz.prog 29 #[.pointer (some ⟨bc,0,none⟩),.pointer (some ⟨b,0,none⟩),.string p] w fun e w' => e = .returned (.bool true) ∧ Below w.heap.size w w':=by
 have HC:=hid' hc
 have HN:=hid' hN
 have HS:=hid' hS
 clear hc hN hS
 go_enter Tryz.func29,Tryz.ntmps29
 go_wp2_with fail
 refine Calls.mono HN.out ?_
 rintro e w1 ⟨rfl,hb1⟩
 have B1:=hid' hb1
 have C1:=(hb1.block _ (lt_of_heap HC.out)).trans HC.out
 have c2:=cell_of_row _ _ 2 _ _ _ C1
 have lc:=lt_of_heap C1
 simp at c2
 clear hb1 C1
 go_wp2_with fail
 refine Calls.mono (HS.out _ B1.out) ?_
 rintro e w2 ⟨rfl,hb2⟩
 have B2:=hid' (B1.out.trans (hb2.mono B1.out.size))
 clear hb2 c2
 have e3:(er == er) = true:=by simp
 go_wp2_with (go_at_call 34;refine (num_any _ _).mono ?_;rintro e w5 ⟨rfl,rfl⟩)
 go_ret
 exact ⟨rfl,B2.out⟩
set_option maxRecDepth 100000 in
set_option maxHeartbeats 1600000 in
theorem does_answer (bc bx by' br:Nat) (hv:Value) (m er:Int) (o:Op) (p sv:ByteArray) (w:World) (hk:o.kind = 21)
  (hc:w.heap[bc]? = some (.cells #[.pointer (some ⟨bx,0,none⟩),.pointer (some ⟨by',0,none⟩),.pointer (some ⟨br,0,none⟩),hv,.int .i64 m] 60 (0,0)))
  (hN:∀ W,Below w.heap.size w W → Ans 57 bx p sv er W) (hS:∀ W,Below w.heap.size w W → Ans 58 br p sv er W) :
  Calls Tryz.prog 20 #[.pointer (some ⟨bc,0,none⟩),.agg #[.int .i64 o.kind,.int .i64 o.x,.int .i64 o.a,.int .i64 o.b,.int .i64 o.c,.int .i64 o.d,.string o.s],.string p] w fun e w' => e = .returned (.bool true) ∧ Below w.heap.size w w':=by
 obtain ⟨k,x,a,b,c,d,s⟩:=o
 simp only at *
 subst hk
 have B0:=hid' ((Below.refl w.heap.size w).alloc (Nat.le_refl _) (.cells #[.int .i64 21,.int .i64 x,.int .i64 a,.int .i64 b,.int .i64 c,.int .i64 d,.string s] 27))
 have C0:=(B0.out.block _ (lt_of_heap hc)).trans hc
 have SV:=hid' (answered_yes bc bx by' br bx hv m er p sv _ C0 (hN _ B0.out) (fun W h => hS W (B0.out.trans (h.mono B0.out.size))))
 have c0:=cell_of_row _ _ 0 _ _ _ hc
 have lc:=lt_of_heap hc
 simp at c0
 clear hc hN hS C0
 go_enter Tryz.func20,Tryz.ntmps20
 go_wp2_with fail
 refine SV.out.mono ?_
 rintro e w1 ⟨rfl,hb1⟩
 have B1:=hid' (B0.out.trans (hb1.mono B0.out.size))
 clear hb1 SV
 go_wp2
 go_ret
 exact ⟨rfl,B1.out⟩
theorem twelve (V:World) (a c d:UInt8):(convert 44 9 (.slice (some ⟨V.heap.size,0,none⟩) 12 12)).run Tryz.prog ((V.alloc (.cells #[.int .u8 (a.toNat:Int),.int .u8 (c.toNat:Int),.int .u8 (d.toNat:Int),.int .u8 236,.int .u8 0,.int .u8 0,.int .u8 0,.int .u8 0,.int .u8 0,.int .u8 0,.int .u8 0,.int .u8 0] 5)).drew) = .ok (.string ⟨#[a,c,d,236,0,0,0,0,0,0,0,0]⟩) ((V.alloc (.cells #[.int .u8 (a.toNat:Int),.int .u8 (c.toNat:Int),.int .u8 (d.toNat:Int),.int .u8 236,.int .u8 0,.int .u8 0,.int .u8 0,.int .u8 0,.int .u8 0,.int .u8 0,.int .u8 0,.int .u8 0] 5)).drew):=by
 refine bytes_back (t:=[a,c,d,236,0,0,0,0,0,0,0,0]) (cap:=12) (n:=12) (heap_alloc_new V _) ⟨by simp,fun j hj => ?_⟩ rfl 1
 have h:j = 0 ∨ j = 1 ∨ j = 2 ∨ j = 3 ∨ j = 4 ∨ j = 5 ∨ j = 6 ∨ j = 7 ∨ j = 8 ∨ j = 9 ∨ j = 10 ∨ j = 11:=by simp at hj;omega
 rcases h with rfl | rfl | rfl | rfl | rfl | rfl | rfl | rfl | rfl | rfl | rfl | rfl <;> rfl
set_option maxRecDepth 100000 in
theorem ref_answer_no (b:Nat) (p:ByteArray) (w:World) (hs:p.size ≤ 1000000) (ha:Txt.asks p = false):Ans 58 b p ⟨#[]⟩ 14 w:=by
 have HA:=hid' (ref_asks p w hs)
 rw [ha] at HA
 unfold Ans
 go_enter Tryz.func58,Tryz.ntmps58
 go_wp2_with fail
 refine HA.out.mono ?_
 rintro e w1 ⟨rfl,b1⟩
 have B1:=hid' b1
 clear b1 HA
 go_wp2
 go_ret2
 exact ⟨rfl,B1.out⟩
set_option maxRecDepth 100000 in
set_option maxHeartbeats 3200000 in
theorem ref_answer_yes (b:Nat) (p:ByteArray) (ts tf li er:Int) (w:World) (hs:p.size ≤ 1000000) (ha:Txt.asks p = true) (hT:∀ W,Below w.heap.size w W → Tells 56 b ts tf li er W)
  (hl:li = 0 ∨ li = 1 ∨ li = 2 ∨ li = 3) (s0:0 ≤ ts) (s1:ts ≤ 1000000000000) (f0:0 ≤ tf) (f1:tf ≤ 1000000000000):Ans 58 b p (ansB li p (er == 0) ts tf) 0 w:=by
 have HA:=hid' (ref_asks p w hs)
 rw [ha] at HA
 have HT:=hid' hT
 have hz:48 ≤ p.size:=by
  have h:=ha
  unfold Txt.asks at h
  simp only [Bool.and_eq_true,decide_eq_true_eq] at h
  exact h.1.1.1.1.1
 have l0:0 < p.size:=by omega
 have l2:2 < p.size:=by omega
 clear hT ha
 unfold Ans
 go_enter Tryz.func58,Tryz.ntmps58
 go_wp2_with fail
 refine HA.out.mono ?_
 rintro e w1 ⟨rfl,b1⟩
 have B1:=hid' b1
 clear b1 HA
 go_wp2_with fail
 refine Calls.mono (HT.out _ B1.out) ?_
 rintro e w2 ⟨rfl,b2⟩
 have a2:=(Below.refl w2.heap.size w2).alloc (Nat.le_refl _) (.cells #[.int .i64 ts,.int .i64 tf] 35)
 have B2:=hid' (B1.out.trans ((b2.trans (a2.mono b2.size)).mono B1.out.size))
 have T2:=hid' (heap_alloc_new w2 (.cells #[.int .i64 ts,.int .i64 tf] 35))
 clear b2 a2
 have FO:=first_bits li p l0 hl
 obtain ⟨Fi,hF⟩:∃ Fi:Int,((first8 li p).toNat:Int) = Fi:=⟨_,rfl⟩
 rw [hF] at FO
 have fb:0 ≤ Fi ∧ Fi < 256:=by have:=(first8 li p).toNat_lt;omega
 have h2:byteOf (Txt.byte p 2) = p[2]'l2:=by
  rw [Txt.byte_at p 2 l2]
  unfold byteOf
  have:=(p[2]'l2).toNat_lt
  rw [Int.emod_eq_of_lt (by omega) (by omega)]
  simp
 have HR:Hid (ansB li p (er == 0) ts tf = ByteArray.mk #[first8 li p,if er == 0 then 1 else 0,p[2]'l2,236,0,0,0,0,0,0,0,0] ++ (if er == 0 then ByteArray.mk #[76,69,65,80] else ByteArray.mk #[73,78,73,84]) ++ ⟨(four ts ++ four tf).toArray⟩ ++ p.extract 40 48 ++ ⟨(four ts ++ four tf).toArray⟩ ++ ⟨(four ts ++ four tf).toArray⟩):=by
  show ansB _ _ _ _ _ = _
  unfold ansB;rw [h2]
 have ST:=hid' (fun W => ref_stamp ts tf W s0 s1 f0 f1)
 have zs:(ByteArray.mk (four ts ++ four tf).toArray).size = 8:=rfl
 generalize ByteArray.mk (four ts ++ four tf).toArray = st at *
 have ze:(p.extract 40 48).size = 8:=by rw [ByteArray.size_extract];omega
 have y0:=cell_of_row _ _ 0 _ _ _ T2.out
 have y1:=cell_of_row _ _ 1 _ _ _ T2.out
 simp at y0 y1
 have i2:(2:Int) < (p.size:Int):=by omega
 have i48:(48:Int) ≤ (p.size:Int):=by omega
 have i40:(40:Int) ≤ (p.size:Int):=by omega
 have hlb:0 ≤ li ∧ li ≤ 3:=by omega
 clear h2 hl
 go_wp2_with fail
 refine (ST.out _).mono ?_
 rintro e V ⟨rfl,b3⟩
 have B3:=hid' (B2.out.trans (b3.mono B2.out.size))
 clear b3 ST y0 y1
 by_cases ce:er = 0
 ·have ne:(er != 0) = false:=by rw [bne_eq_false_iff_eq];exact ce
  have be:(er == 0) = true:=beq_iff_eq.2 ce
  rw [be] at HR
  clear ce
  ·skip
   have TW:=twelve V (first8 li p) 1 (p[2]'l2)
   rw [hF,show (((1:UInt8).toNat:Nat):Int) = 1 from rfl] at TW
   go_wp2_with fail
   go_region
   all_goals
    go_wp2
    go_ret2
    exact ⟨by (first | rw [HR.out] | rw [be,HR.out]);rfl,(B3.out.alloc B3.out.size _).drew⟩
 ·have ne:(er != 0) = true:=bne_iff_ne.2 ce
  have be:(er == 0) = false:=beq_eq_false_iff_ne.2 ce
  rw [be] at HR
  clear ce
  ·skip
   have TW:=twelve V (first8 li p) 0 (p[2]'l2)
   rw [hF,show (((0:UInt8).toNat:Nat):Int) = 0 from rfl] at TW
   go_wp2_with fail
   go_region
   all_goals
    go_wp2
    go_ret2
    exact ⟨by (first | rw [HR.out] | rw [be,HR.out]);rfl,(B3.out.alloc B3.out.size _).drew⟩
set_option maxRecDepth 100000 in
set_option maxHeartbeats 3200000 in
theorem does_look {P:Nat → Sv → (Nat → Prop) → World → Prop} (hP:PLaw P) (bc bx by' br:Nat) (hv:Value) (m:Int) (hs:List Vw) (s:Sv) (Fx Fy Fr Fv:Nat → Prop) (x a b c d ts tf li er ae:Int) (so t sv:ByteArray) (w:World)
  (h:CS P bc bx by' br hv m hs s s s Fx Fy Fr Fv w) (hsee:∀ F W,P by' s F W → Shows by' s W)
  (hN:∀ F W,P by' s F W → Tells 55 by' ts tf li er W) (hS:∀ dv bv cv rh W,RSrv br s dv bv cv rh W → Tells 56 br ts tf li er W)
  (hA:∀ F W,P by' s F W → Ans 57 by' t sv ae W) (hR:∀ dv bv cv rh W,RSrv br s dv bv cv rh W → Ans 58 br t sv ae W)
  (l1:s.done.length ≤ 900) (l2:s.com.length ≤ 900) (l3:hs.length ≤ 900000) (m0:0 ≤ m) (m1:m ≤ 10000000000) :
  Calls Tryz.prog 20 #[.pointer (some ⟨bc,0,none⟩),.agg #[.int .i64 22,.int .i64 x,.int .i64 a,.int .i64 b,.int .i64 c,.int .i64 d,.string so],.string t] w fun e w' => e = .returned (.bool true) ∧ TurnP P bc bx by' br hs.length m s (AllF Fx Fy Fr Fv) w w':=by
 have B0:=hid' ((Below.refl w.heap.size w).alloc (Nat.le_refl _) (.cells #[.int .i64 22,.int .i64 x,.int .i64 a,.int .i64 b,.int .i64 c,.int .i64 d,.string so] 27))
 have H0:=h.below hP B0.out
 have CS0:=hid' H0
 obtain ⟨dv,bv,cv,rh,r0,re⟩:=H0.r
 have RD:=hid' (reads_any bc bx by' br by' hv dv bv cv rh m hs s _ H0.c H0.hh H0.ok r0 (hsee _ _ H0.y) l1 l2 l3 m0 m1)
 have c1:=cell_of_row _ _ 1 _ _ _ h.c
 have lc:=lt_of_heap h.c
 simp at c1
 have HN:=hid' hN
 have HS:=hid' hS
 have HA:=hid' hA
 have HR:=hid' hR
 clear h hsee hN hS hA hR H0 r0 re
 go_enter Tryz.func20,Tryz.ntmps20
 go_wp2_with fail
 refine RD.out.mono ?_
 rintro e w1 ⟨rfl,rp⟩
 obtain ⟨hv',v1,v2,F',cs5,of5,ff5⟩:=CS0.out.read hP rp
 have CS5:=hid' cs5
 have OF5:=hid' of5
 have FF5:=hid' ff5
 have SV:=hid' (served_yes bc bx by' br by' hv' (m + 2000) ts tf li er w1 cs5.c (HN.out _ _ cs5.y) (fun W hb => by
  obtain ⟨_,_,_,_,r,_⟩:=(cs5.below hP hb).r
  exact HS.out _ _ _ _ _ r))
 have d1:=cell_of_row _ _ 1 _ _ _ cs5.c
 have ld:=lt_of_heap cs5.c
 simp at d1
 clear rp RD c1 lc cs5 of5 ff5
 go_wp2_with fail
 refine SV.out.mono ?_
 rintro e w2 ⟨rfl,b2⟩
 have cs6:=CS5.out.below hP b2
 have CS6:=hid' cs6
 have B2:=hid' b2
 have AN:=hid' (answered_yes bc bx by' br by' hv' (m + 2000) ae t sv w2 cs6.c (HA.out _ _ cs6.y) (fun W hb => by
  obtain ⟨_,_,_,_,r,_⟩:=(cs6.below hP hb).r
  exact HR.out _ _ _ _ _ r))
 have d2:=cell_of_row _ _ 1 _ _ _ cs6.c
 have ld2:=lt_of_heap cs6.c
 simp at d2
 clear SV b2 cs6 d1 ld
 go_wp2_with fail
 refine AN.out.mono ?_
 rintro e w3 ⟨rfl,b3⟩
 have B3:=hid' b3
 clear AN b3 d2 ld2
 go_wp2
 go_ret
 refine ⟨rfl,TurnP.from (V:=w.alloc (.cells #[.int .i64 22,.int .i64 x,.int .i64 a,.int .i64 b,.int .i64 c,.int .i64 d,.string so] 27)) ?_ B0.out⟩
 refine ⟨hv',hs ++ [v1,v2],Fx,Fy,Fr,F',CS6.out.below hP B3.out,by simp,((OF5.out.then B2.out).then B3.out).mono (fun k _ e => .inr (.inr (.inr e))),fun k e => ?_⟩
 rcases e with e | e | e | e
 ·exact .inl (.inl e)
 ·exact .inl (.inr (.inl e))
 ·exact .inl (.inr (.inr (.inl e)))
 ·rcases FF5.out k e with c | c
  ·exact .inl (.inr (.inr (.inr c)))
  ·exact .inr c
theorem Sv.ind_bd (x:Sv) (d:Int):x.ind d = 0 ∨ x.ind d = 1 ∨ x.ind d = 2:=by
 unfold Sv.ind
 split
 ·exact .inr (.inl rfl)
 ·split
  ·exact .inr (.inr rfl)
  ·exact .inl rfl
theorem moved_bd {s f p:Int} (f0:0 ≤ f) (f1:f < 4294967296) (p0:-4294967296 ≤ p) (p1:p ≤ 4294967296):s - 1 ≤ (moved s f p).1 ∧ (moved s f p).1 ≤ s + 1 ∧ 0 ≤ (moved s f p).2 ∧ (moved s f p).2 < 4294967296:=by
 unfold moved
 split
 ·simp only;omega
 ·split
  ·simp only;omega
  ·simp only;omega
theorem Sv.Inv.told_bd {x:Sv} {ts tf li er:Int} (h:x.Inv) (hT:x.Told ts tf li er):(li = 0 ∨ li = 1 ∨ li = 2 ∨ li = 3) ∧ (0 ≤ ts ∧ ts ≤ 1000000000000) ∧ 0 ≤ tf ∧ tf < 4294967296:=by
 obtain ⟨t0,t1,t2,t3⟩:=h.num.t'
 cases hl:x.ld with
 | false =>
  obtain ⟨rfl,rfl,rfl,rfl⟩:=hT.no hl
  omega
 | true =>
  have m:=h.mid hl
  have can:=m.can h.num
  have u0:=can.u0
  have u1:=can.u1
  by_cases hm:x.mode = 0
  ·obtain ⟨rfl,rfl,e,rfl⟩:=hT.step hl hm
   have:=x.ind_bd (x.utc / 86400)
   rw [← e] at this
   omega
  ·by_cases hw:x.wide
   ·obtain ⟨e1,e2,rfl,rfl⟩:=hT.in' hl hm hw
    obtain ⟨l2,ht⟩:=hw
    have ok:=h.pullOk hl (x.done.length - 1) (by omega) ht
    have pu:=Sv.pq_bd ok true
    have pd:=Sv.pq_bd ok false
    have b:=m.bg (x.done.length - 1) (by omega)
    have lo:=b.lo
    have nw:=b.now
    have wb:=h.num.win
    have wd:Tab.when x.all (x.done.length - 1) = Tab.when x.done (x.done.length - 1):=Tab.when_append _ _ _ (by omega)
    rw [wd] at lo
    have g:=m.doneFit.when_lt 0 (x.done.length - 1) (by omega) (by omega)
    have g0:=(m.doneFit.when_bd 0 (by omega)).1
    have b0:=m.doneFit.bd 0 (by omega)
    have bo:=m.doneFit.bd (x.done.length - 1 - 1) (by omega)
    rw [Sv.smeared_eq ok t2 t3] at e1 e2
    have key:∀ p,-4294967296 ≤ p → p ≤ 4294967296 → ts = (moved (x.ns - (x.done.getD (x.done.length - 1 - 1) (0,0)).2) x.nf p).1 → tf = (moved (x.ns - (x.done.getD (x.done.length - 1 - 1) (0,0)).2) x.nf p).2 → ((0:Int) = 0 ∨ (0:Int) = 1 ∨ (0:Int) = 2 ∨ (0:Int) = 3) ∧ (0 ≤ ts ∧ ts ≤ 1000000000000) ∧ 0 ≤ tf ∧ tf < 4294967296:=fun p p0 p1 a1 a2 => by
     have mb:=moved_bd (s:=x.ns - (x.done.getD (x.done.length - 1 - 1) (0,0)).2) t2 t3 p0 p1
     rw [← a1,← a2] at mb
     clear e1 e2 a1 a2
     omega
    split at e1
    ·rename_i c
     rw [if_pos c] at e2
     exact key _ (by omega) pd.2 e1 e2
    ·rename_i c
     rw [if_neg c] at e2
     exact key _ (by omega) (by omega) e1 e2
   ·obtain ⟨rfl,rfl,rfl,rfl⟩:=hT.out hl hm hw
    omega
def Sv.ansE (p:ByteArray):Int:=if Txt.asks p then 0 else 14
def ansV (p:ByteArray) (ts tf li er:Int):ByteArray:=if Txt.asks p then ansB li p (er == 0) ts tf else ⟨#[]⟩
theorem p_answer (b:Nat) (p:ByteArray) (s:Sv) (F:Nat → Prop) (ts tf li er:Int) (w:World) (h:PS b s F w) (hI:s.Inv) (hT:s.Told ts tf li er) (hs:p.size ≤ 1000000):Ans 57 b p (ansV p ts tf li er) (Sv.ansE p) w:=by
 unfold ansV Sv.ansE
 cases ha:Txt.asks p with
 | true => exact p_answer_yes b p s F ts tf li er w h hI hT hs ha (hI.told_bd hT).1
 | false => exact p_answer_no b p s F w h hs ha
theorem ref_answer (b:Nat) (p:ByteArray) (s:Sv) (dv bv cv hv:Value) (ts tf li er:Int) (w:World) (h:RSrv b s dv bv cv hv w) (hI:s.Inv) (hT:s.Told ts tf li er) (hs:p.size ≤ 1000000):Ans 58 b p (ansV p ts tf li er) (Sv.ansE p) w:=by
 unfold ansV Sv.ansE
 cases ha:Txt.asks p with
 | true =>
  obtain ⟨hl,hb,hf⟩:=hI.told_bd hT
  exact ref_answer_yes b p ts tf li er w hs ha (fun W hb => ref_told b s dv bv cv hv ts tf li er W (h.below hb) hI hT) hl hb.1 hb.2 hf.1 (by omega)
 | false => exact ref_answer_no b p w hs ha
theorem kind_answer {B n:Nat} {o:Op} {w:World} (ho:o.Ok) (hn:n ≤ 90000) (hk:o.kind = 21):Does (srvXs PS ps_law B) B B n o w :=
 does_srv ps_law ho hn (by omega) (by omega) (fun r W t hr _ _ ht => by
  obtain ⟨ts,tf,li,er,hT⟩:=hr.inv.told
  obtain ⟨dv,bv,cv,rh,rr,_⟩:=hr.cs.r
  refine (does_answer r.bc r.bx r.by' r.br r.hv _ _ o t _ W hk hr.cs.c (fun V hb => p_answer r.bx t r.s r.Fx ts tf li er V (ps_law.keep hr.cs.x (fun k e => hb.block k (hr.low ps_law k (.inl e)))) hr.inv hT (by omega)) (fun V hb => ref_answer r.br t r.s dv bv cv rh ts tf li er V (rr.below hb) hr.inv hT (by omega))).mono ?_
  rintro e w' ⟨he,bel⟩
  exact ⟨he,RcPost.of_below ps_law hr bel (Nat.le_succ _)⟩)
theorem kind_look {B n:Nat} {o:Op} {w:World} (ho:o.Ok) (hn:n ≤ 90000) (hk:o.kind = 22):Does (srvXs PS ps_law B) B B n o w :=
 does_srv ps_law ho hn (by omega) (by omega) (fun r W t hr _ _ ht => by
  obtain ⟨ts,tf,li,er,hT⟩:=hr.inv.told
  have l:=hr.inv.lens
  have hl:=hr.hn
  rw [hk]
  refine (does_look ps_law r.bc r.bx r.by' r.br r.hv _ r.hs r.s r.Fx r.Fy r.Fr r.Fv o.x o.a o.b o.c o.d ts tf li er _ o.s t _ W hr.cs (fun F V h => k_see _ _ F V h hr.inv) (fun F V h => p_now r.by' r.s F ts tf li er V h hr.inv hT) (fun dv bv cv rh V h => ref_told r.br r.s dv bv cv rh ts tf li er V h hr.inv hT)
   (fun F V h => p_answer r.by' t r.s F ts tf li er V h hr.inv hT (by omega)) (fun dv bv cv rh V h => ref_answer r.br t r.s dv bv cv rh ts tf li er V h hr.inv hT (by omega)) (by omega) (by omega) (by omega) (by omega) (by omega)).mono ?_
  rintro e w' ⟨he,tp⟩
  exact ⟨he,tp.post hr.inv (by have:=hr.rf;omega) hr.hn⟩)
theorem does_dated {X:Xs} (o:Op) (hk:o.kind = 7 ∨ o.kind = 8) (B n:Nat) (wr:World):Does X B B n o wr :=
 does_pure (.inr (by omega)) (by omega) (DoesP.of_below (fun w1 => pure_dated _ o w1 hk))
theorem held_ref {w:World} {B:Nat} {lv:Value} {ls:List (Int × Int)} (h:w.ownsRow B 46 2 lv ls.length (flat ls)):Held w lv ls:=by
 by_cases h0:0 < ls.length
 ·obtain ⟨g,cap,rfl⟩:=own_some h h0
  refine .inr ⟨h0,g,cap,rfl,?_,(h.lt _ rfl).2,fun i hi => ⟨by rw [h.cellAt (i * 2) (by omega)];exact flat_at0 ls i hi,by rw [h.cellAt (i * 2 + 1) (by omega)];exact flat_at1 ls i hi⟩⟩
  rcases h.2 with ⟨h,_⟩ | ⟨g',cap',cur,h,_,_,h2,_⟩
  ·cases h
  ·cases h;exact h2
 ·have e:ls = []:=List.eq_nil_of_length_eq_zero (by omega)
  subst e
  rcases h.2 with ⟨rfl,_⟩ | ⟨g,cap,cur,rfl,_⟩
  ·exact .inl ⟨rfl,_,_,rfl⟩
  ·exact .inl ⟨rfl,_,_,rfl⟩
set_option maxRecDepth 100000 in
set_option maxHeartbeats 1600000 in
theorem same_yes (up ex:Int) (av tv:Value) (ls:List (Int × Int)) (w:World) (hA:Held w av ls) (hT:Held w tv ls) (hn:ls.length ≤ 100000) :
  Calls Tryz.prog 42 #[.agg #[.int .i64 up,.int .i64 ex,av],.agg #[.int .i64 up,.int .i64 ex,tv]] w fun e w' => e = .returned (.bool true) ∧ Below w.heap.size w w':=by
 have n0:(up != up) = false:=by simp
 have n1:(ex != ex) = false:=by simp
 have n2:((ls.length:Int) != (ls.length:Int)) = false:=by simp
 have B1:=hid' (((Below.refl w.heap.size w).alloc (Nat.le_refl _) (.cells #[.int .i64 up,.int .i64 ex,av] 78)).alloc (by simp) (.cells #[.int .i64 up,.int .i64 ex,tv] 33))
 by_cases h0:ls.length = 0
 ·obtain ⟨aa,ac,rfl⟩:∃ ao c,av = .slice ao 0 c:=by
   rcases hA with ⟨_,ao,c,rfl⟩ | ⟨h,_⟩
   ·exact ⟨_,_,rfl⟩
   ·omega
  obtain ⟨ta,tc,rfl⟩:∃ ao c,tv = .slice ao 0 c:=by
   rcases hT with ⟨_,ao,c,rfl⟩ | ⟨h,_⟩
   ·exact ⟨_,_,rfl⟩
   ·omega
  clear hA hT n2
  go_enter Tryz.func42,Tryz.ntmps42
  go_wp2_with fail
  go_loop [5] (fun i => i = .int .i64 0) (fun _ => 0)
  case atStart => rfl
  case round =>
   subst hrel
   go_wp2
   go_ret
   exact ⟨rfl,B1.out⟩
 ·obtain ⟨ga,ca,rfl,ha1,ha2,ha3⟩:∃ g cap,av = .slice (some ⟨g,0,none⟩) ls.length cap ∧ ls.length ≤ cap ∧ g < w.heap.size ∧ Lies w g ls:=by
   rcases hA with ⟨rfl,_⟩ | ⟨_,g,cap,e,a,b,c⟩
   ·simp at h0
   ·exact ⟨g,cap,e,a,b,c⟩
  obtain ⟨gt,ct,rfl,ht1,ht2,ht3⟩:∃ g cap,tv = .slice (some ⟨g,0,none⟩) ls.length cap ∧ ls.length ≤ cap ∧ g < w.heap.size ∧ Lies w g ls:=by
   rcases hT with ⟨rfl,_⟩ | ⟨_,g,cap,e,a,b,c⟩
   ·simp at h0
   ·exact ⟨g,cap,e,a,b,c⟩
  have LA:=hid' (ha3.below ha2 B1.out)
  have LT:=hid' (ht3.below ht2 B1.out)
  have R1:=heap_alloc2_old w (.cells #[.int .i64 up,.int .i64 ex,.slice (some ⟨ga,0,none⟩) ls.length ca] 78) (.cells #[.int .i64 up,.int .i64 ex,.slice (some ⟨gt,0,none⟩) ls.length ct] 33)
  have R2:=heap_alloc2_new w (.cells #[.int .i64 up,.int .i64 ex,.slice (some ⟨ga,0,none⟩) ls.length ca] 78) (.cells #[.int .i64 up,.int .i64 ex,.slice (some ⟨gt,0,none⟩) ls.length ct] 33)
  clear ha3 ht3
  generalize hk:ls.length = k at *
  go_enter Tryz.func42,Tryz.ntmps42
  go_wp2_with fail
  generalize hV:(w.alloc (.cells #[.int .i64 up,.int .i64 ex,.slice (some ⟨ga,0,none⟩) k ca] 78)).alloc (.cells #[.int .i64 up,.int .i64 ex,.slice (some ⟨gt,0,none⟩) k ct] 33) = V at *
  have c1:=cell_of_row _ _ 2 _ _ _ R1
  have c2:=cell_of_row _ _ 2 _ _ _ R2
  simp at c1 c2
  clear hV R1 R2
  go_loopw [5] (fun i wr => ∃ (j m:Nat),j ≤ k ∧ i = .int .i64 j ∧ wr = V.drewN m) (fun i _ => k - (intOf i).toNat)
  case atStart => exact ⟨0,0,by omega,rfl,rfl⟩
  case round =>
   obtain ⟨j,m,hj,rfl,hwr⟩:=hrel
   have d1:wr.cell? ⟨w.heap.size,2,none⟩ = some (.slice (some ⟨ga,0,none⟩) k ca):=by rw [hwr];exact c1
   have d2:wr.cell? ⟨w.heap.size + 1,2,none⟩ = some (.slice (some ⟨gt,0,none⟩) k ct):=by rw [hwr];exact c2
   by_cases hlt:j < k
   ·have hjl:j < ls.length:=by omega
    have a0:wr.cell? ⟨ga,j * 2,none⟩ = some (.int .i64 ls[j].1):=by rw [hwr];exact (LA.out j hjl).1
    have a1:wr.cell? ⟨ga,j * 2 + 1,none⟩ = some (.int .i64 ls[j].2):=by rw [hwr];exact (LA.out j hjl).2
    have t0:wr.cell? ⟨gt,j * 2,none⟩ = some (.int .i64 ls[j].1):=by rw [hwr];exact (LT.out j hjl).1
    have t1:wr.cell? ⟨gt,j * 2 + 1,none⟩ = some (.int .i64 ls[j].2):=by rw [hwr];exact (LT.out j hjl).2
    have HWR:=hid' hwr
    generalize ls[j] = p at *
    obtain ⟨pa,po⟩:=p
    simp only at a0 a1 t0 t1
    have z0:(0:Int) ≤ (j:Int):=by omega
    have z1:(j:Int) < (k:Int):=by omega
    have g0:(pa != pa) = false:=by simp
    have g1:(po != po) = false:=by simp
    clear hwr hjl c1 c2
    go_wp2_with fail
    go_quiet (fail)
    go_wp2
    go_roundw
    case rel => exact ⟨j + 1,m + nq,by omega,by go_num,by rw [HWR.out,World.drewN_drewN]⟩
    case measure => simp [intOf];omega
   ·have hnl:¬ (j:Int) < (k:Int):=by omega
    have BW:Hid (Below w.heap.size w wr):=by rw [hwr];exact below_drewN B1.out m
    clear hwr c1 c2
    go_wp2
    go_ret
    exact ⟨rfl,BW.out⟩
structure Hand (w:World) (g n:Nat) (ls:List (Int × Int)) (j:Nat) (cs:Array Value):Prop where
 row:w.heap[g]? = some (.cells cs 84 (0,0))
 size:cs.size = (n + 2) * 2
 fill:∀ i (_:i < j) (h:i < ls.length),cs[i * 2]? = some (.int .i64 ls[i].1) ∧ cs[i * 2 + 1]? = some (.int .i64 ls[i].2)
def Handed (w:World) (g:Nat) (ls:List (Int × Int)):Prop:=∃ cs,Hand w g ls.length ls ls.length cs ∧ cs[ls.length * 2]? = some (.int .i64 (-7)) ∧ cs[(ls.length + 1) * 2]? = some (.int .i64 (-7))
theorem set_same {cs:Array Value} {a:Nat} {v:Value} (h:a < cs.size):(cs.setIfInBounds a v)[a]? = some v:=by
 rw [Array.getElem?_setIfInBounds];simp [h]
theorem set_other {cs:Array Value} {a b:Nat} {v:Value} (h:a ≠ b):(cs.setIfInBounds a v)[b]? = cs[b]?:=by
 rw [Array.getElem?_setIfInBounds];simp [h]
theorem Hand.put {w:World} {g n j:Nat} {ls:List (Int × Int)} {cs:Array Value} (h:Hand w g n ls j cs) (hj:j < n) (hl:j < ls.length) :
  ∃ cs',Hand ((w.setCell ⟨g,j * 2,none⟩ (.int .i64 ls[j].1)).setCell ⟨g,j * 2 + 1,none⟩ (.int .i64 ls[j].2)) g n ls (j + 1) cs':=by
 have e1:=heap_setCell_same _ g (j * 2) _ _ (.int .i64 ls[j].1) h.row
 have e2:=heap_setCell_same _ g (j * 2 + 1) _ _ (.int .i64 ls[j].2) e1
 have hz:=h.size
 refine ⟨_,e2,by simp [hz],fun i hi hil => ?_⟩
 by_cases e:i = j
 ·subst e
  exact ⟨by rw [set_other (by omega),set_same (by omega)],by rw [set_same (by simp;omega)]⟩
 ·have:=h.fill i (by omega) hil
  exact ⟨by rw [set_other (by omega),set_other (by omega)];exact this.1,by rw [set_other (by omega),set_other (by omega)];exact this.2⟩
theorem Hand.cell {w:World} {g n j:Nat} {ls:List (Int × Int)} {cs:Array Value} (h:Hand w g n ls j cs) (k:Nat) (hk:k < (n + 2) * 2):∃ v,w.cell? ⟨g,k,none⟩ = some v:=by
 rw [cell_of_row _ _ k _ _ _ h.row,Array.getElem?_eq_getElem (by rw [h.size];exact hk)];exact ⟨_,rfl⟩
theorem Hand.free {w:World} {g n j:Nat} {ls:List (Int × Int)} {cs:Array Value} (h:Hand w g n ls j cs) (k:Nat):w.frozen? ⟨g,k,none⟩ = false:=frozen_of_row _ _ k _ _ h.row
theorem Handed.held {w:World} {g:Nat} {ls:List (Int × Int)} (h:Handed w g ls):Held w (.slice (some ⟨g,0,none⟩) ls.length (ls.length + 2)) ls:=by
 obtain ⟨cs,hh,_,_⟩:=h
 by_cases h0:0 < ls.length
 ·exact .inr ⟨h0,g,_,rfl,by omega,lt_of_heap hh.row,fun i hi => ⟨by rw [cell_of_row _ _ _ _ _ _ hh.row];exact (hh.fill i hi hi).1,by rw [cell_of_row _ _ _ _ _ _ hh.row];exact (hh.fill i hi hi).2⟩⟩
 ·have e:ls = []:=List.eq_nil_of_length_eq_zero (by omega)
  subst e;exact .inl ⟨rfl,_,_,rfl⟩
theorem Handed.below {w w':World} {g:Nat} {ls:List (Int × Int)} (h:Handed w g ls) (hb:Below w.heap.size w w'):Handed w' g ls:=by
 obtain ⟨cs,hh,a,b⟩:=h
 exact ⟨cs,⟨(hb.block _ (lt_of_heap hh.row)).trans hh.row,hh.size,hh.fill⟩,a,b⟩
theorem infoApi2:(Tryz.prog.info? 84).map (fun i => (i.zero,i.size,i.bytes)) = some (some (.agg #[.int .i64 0,.int .i64 0]),2,16):=by kernel_rfl
def HandSaid (w:World) (up ex:Int) (ls:List (Int × Int)) (e:Ending) (w':World):Prop:=∃ g,w.heap.size ≤ g ∧ e = .returned (.agg #[.int .i64 up,.int .i64 ex,.slice (some ⟨g,0,none⟩) ls.length (ls.length + 2)]) ∧ Handed w' g ls ∧ Below w.heap.size w w'
set_option maxRecDepth 100000 in
set_option maxHeartbeats 3200000 in
theorem handed_any (up ex:Int) (tv:Value) (ls:List (Int × Int)) (w:World) (hT:Held w tv ls) (hn:ls.length ≤ 100000) :
  Calls Tryz.prog 43 #[.agg #[.int .i64 up,.int .i64 ex,tv]] w fun e w' => HandSaid w up ex ls e w':=by
 obtain ⟨i0,hi0,hz0,hz1,hz2⟩:=info_parts infoApi2
 obtain ⟨ta,tc,htv⟩:∃ ao c,tv = .slice ao ls.length c:=by
  rcases hT with ⟨rfl,ao,c,rfl⟩ | ⟨_,g,c,rfl,_⟩
  ·exact ⟨_,_,rfl⟩
  ·exact ⟨_,_,rfl⟩
 have HT:=hid' hT
 have B1:=hid' (((Below.refl w.heap.size w).alloc (Nat.le_refl _) (.cells #[.int .i64 up,.int .i64 ex,tv] 33)).alloc (by simp) (.cells #[.int .i64 0,.int .i64 0,.slice none 0 0] 78))
 have R1:=hid' (heap_alloc2_old w (.cells #[.int .i64 up,.int .i64 ex,tv] 33) (.cells #[.int .i64 0,.int .i64 0,.slice none 0 0] 78))
 have R2:=hid' (heap_alloc2_new w (.cells #[.int .i64 up,.int .i64 ex,tv] 33) (.cells #[.int .i64 0,.int .i64 0,.slice none 0 0] 78))
 have hsz:((w.alloc (.cells #[.int .i64 up,.int .i64 ex,tv] 33)).alloc (.cells #[.int .i64 0,.int .i64 0,.slice none 0 0] 78)).heap.size = w.heap.size + 1 + 1:=by simp
 have HSZ:=hid' hsz
 clear hT hsz
 subst htv
 generalize hk:ls.length = k at *
 go_enter Tryz.func43,Tryz.ntmps43
 go_wp2_with (first
  | (at_make;refine wpList_make_full _ rfl _ _ 76 rfl (w.heap.size + 1 + 1) 84 i0 (.agg #[.int .i64 0,.int .i64 0]) 2 Tryz.underlying76 hi0 hz0 hz1 .i64 .i64 _ _ (k + 2) rfl rfl (by simp) (by simp) (by rw [hz2];omega) (by unfold maxLen;omega) (by rw [HSZ.out];exact Nat.le_refl _) ?_;intro W hown hgr;have HOWN:=hid' hown;have HGR:=hid' hgr;clear hown hgr))
 have hH:∃ cs,Hand W (w.heap.size + 1 + 1) k ls 0 cs:=by
  rcases HOWN.out.2 with ⟨h,_⟩ | ⟨g,cap,cur,h,_,hh,_,_,hcs,_⟩
  ·cases h
  ·cases h
   rw [HSZ.out] at hh
   exact ⟨cur,hh,hcs,fun i hi _ => by omega⟩
 have RW1:=hid' ((HGR.out.block _ (lt_of_heap R1.out) (by simp)).trans R1.out)
 have RW2:=hid' ((HGR.out.block _ (lt_of_heap R2.out) (by simp)).trans R2.out)
 have BW:=hid' (B1.out.grown HGR.out (by rw [HSZ.out];omega) (fun k hk => by cases hk))
 have HHH:=hid' hH
 clear hH HOWN HGR R1 R2 B1 HSZ hi0 hz0 hz1 hz2
 go_loopw [5] (fun i wr => ∃ (j:Nat) (cs:Array Value),j ≤ k ∧ i = .int .i64 j ∧ Hand wr (w.heap.size + 1 + 1) k ls j cs ∧ wr.heap[w.heap.size]? = some (.cells #[.int .i64 up,.int .i64 ex,.slice ta k tc] 33 (0,0)) ∧ wr.heap[w.heap.size + 1]? = some (.cells #[.int .i64 0,.int .i64 0,.slice none 0 0] 78 (0,0)) ∧ Below w.heap.size w wr) (fun i _ => k - (intOf i).toNat)
 case atStart =>
  obtain ⟨cs,h⟩:=HHH.out
  exact ⟨0,cs,by omega,rfl,h,RW1.out,RW2.out,BW.out⟩
 case round =>
  clear HHH RW1 RW2 BW
  obtain ⟨j,cs,hj,rfl,hh,r1,r2,bw⟩:=hrel
  have q0:=cell_of_row _ _ 0 _ _ _ r1
  have q1:=cell_of_row _ _ 1 _ _ _ r1
  have q2:=cell_of_row _ _ 2 _ _ _ r1
  simp at q0 q1 q2
  by_cases hlt:j < k
  ·obtain ⟨gt,tcap,htv,htc,hgl,hli⟩:∃ g cap,Value.slice ta k tc = .slice (some ⟨g,0,none⟩) ls.length cap ∧ ls.length ≤ cap ∧ g < w.heap.size ∧ Lies w g ls:=by
    rcases HT.out with ⟨e,_⟩ | ⟨_,g,cap,e,a,b,c⟩
    ·subst e;simp at hk;omega
    ·exact ⟨g,cap,e,a,b,c⟩
   rw [hk] at htv
   obtain ⟨rfl,_,rfl⟩:=Value.slice.inj htv
   have hjl:j < ls.length:=by omega
   have c0:=(bw.cell (p:=⟨gt,j * 2,none⟩) hgl).trans (hli j hjl).1
   have c1:=(bw.cell (p:=⟨gt,j * 2 + 1,none⟩) hgl).trans (hli j hjl).2
   obtain ⟨o0,p0⟩:=hh.cell (j * 2) (by omega)
   obtain ⟨o1,p1⟩:=hh.cell (j * 2 + 1) (by omega)
   have f0:=hh.free (j * 2)
   have f1:=hh.free (j * 2 + 1)
   have HPUT:=hid' (hh.put hlt hjl)
   have hle:w.heap.size ≤ w.heap.size + 1 + 1:=by omega
   have bw2:=(bw.setCell (p:=⟨w.heap.size + 1 + 1,j * 2,none⟩) hle (.int .i64 ls[j].1)).setCell (p:=⟨w.heap.size + 1 + 1,j * 2 + 1,none⟩) hle (.int .i64 ls[j].2)
   have k1:=(bw2.cell (p:=⟨gt,j * 2,none⟩) hgl).trans (hli j hjl).1
   have k2:=(bw2.cell (p:=⟨gt,j * 2 + 1,none⟩) hgl).trans (hli j hjl).2
   have rr1:((wr.setCell ⟨w.heap.size + 1 + 1,j * 2,none⟩ (.int .i64 ls[j].1)).setCell ⟨w.heap.size + 1 + 1,j * 2 + 1,none⟩ (.int .i64 ls[j].2)).heap[w.heap.size]? = _:=(heap_setCell_other _ _ _ _ (by simp;try omega)).trans ((heap_setCell_other _ _ _ _ (by simp;try omega)).trans r1)
   have rr2:((wr.setCell ⟨w.heap.size + 1 + 1,j * 2,none⟩ (.int .i64 ls[j].1)).setCell ⟨w.heap.size + 1 + 1,j * 2 + 1,none⟩ (.int .i64 ls[j].2)).heap[w.heap.size + 1]? = _:=(heap_setCell_other _ _ _ _ (by simp;try omega)).trans ((heap_setCell_other _ _ _ _ (by simp;try omega)).trans r2)
   have k0:=cell_of_row _ _ 2 _ _ _ rr1
   simp at k0
   have R1:=hid' rr1
   have R2:=hid' rr2
   have BW:=hid' bw2
   have ne1:¬ gt = w.heap.size + 1 + 1:=by omega
   have ne2:¬ w.heap.size = w.heap.size + 1 + 1:=by omega
   have z0:(0:Int) ≤ (j:Int):=by omega
   have z1:(j:Int) < (k:Int):=by omega
   have z2:(j:Int) < (k:Int) + 2:=by omega
   clear htv hli hh r1 r2 bw HT hle bw2 rr1 rr2
   generalize ls[j] = p at *
   obtain ⟨pa,po⟩:=p
   simp only at c0 c1 k0 k1 k2
   clear hjl
   go_wp2_with fail
   go_region_held3 (fun w' => w'.cell? ⟨w.heap.size,2,none⟩ = some (.slice (some ⟨gt,0,none⟩) k tc) ∧ w'.cell? ⟨gt,j * 2,none⟩ = some (.int .i64 pa) ∧ w'.cell? ⟨gt,j * 2 + 1,none⟩ = some (.int .i64 po)) (go_keep) (fail)
   all_goals
    go_wp2
    go_roundw
    case rel =>
     obtain ⟨cs',h'⟩:=HPUT.out
     exact ⟨j + 1,cs',by omega,by go_num,⟨h'.row,h'.size,h'.fill⟩,R1.out,R2.out,BW.out.drew⟩
    case measure => simp [intOf];omega
  ·have ej:j = k:=by omega
   have hnl:¬ (j:Int) < (k:Int):=by omega
   obtain ⟨o0,p0⟩:=hh.cell (k * 2) (by omega)
   obtain ⟨o1,p1⟩:=hh.cell (k * 2 + 1) (by omega)
   obtain ⟨o2,p2⟩:=hh.cell ((k + 1) * 2) (by omega)
   obtain ⟨o3,p3⟩:=hh.cell ((k + 1) * 2 + 1) (by omega)
   have f0:=hh.free (k * 2)
   have f1:=hh.free (k * 2 + 1)
   have f2:=hh.free ((k + 1) * 2)
   have f3:=hh.free ((k + 1) * 2 + 1)
   have HE:Hid (∃ cs',((((wr.setCell ⟨w.heap.size + 1 + 1,k * 2,none⟩ (.int .i64 (-7))).setCell ⟨w.heap.size + 1 + 1,k * 2 + 1,none⟩ (.int .i64 0)).setCell ⟨w.heap.size + 1 + 1,(k + 1) * 2,none⟩ (.int .i64 (-7))).setCell ⟨w.heap.size + 1 + 1,(k + 1) * 2 + 1,none⟩ (.int .i64 0)).heap[w.heap.size + 1 + 1]? = some (.cells cs' 84 (0,0)) ∧ cs'.size = (k + 2) * 2 ∧ (∀ i (_:i < k) (h:i < ls.length),cs'[i * 2]? = some (.int .i64 ls[i].1) ∧ cs'[i * 2 + 1]? = some (.int .i64 ls[i].2)) ∧ cs'[k * 2]? = some (.int .i64 (-7)) ∧ cs'[(k + 1) * 2]? = some (.int .i64 (-7))):=by
    have e1:=heap_setCell_same _ (w.heap.size + 1 + 1) (k * 2) _ _ (.int .i64 (-7)) hh.row
    have e2:=heap_setCell_same _ (w.heap.size + 1 + 1) (k * 2 + 1) _ _ (.int .i64 0) e1
    have e3:=heap_setCell_same _ (w.heap.size + 1 + 1) ((k + 1) * 2) _ _ (.int .i64 (-7)) e2
    have e4:=heap_setCell_same _ (w.heap.size + 1 + 1) ((k + 1) * 2 + 1) _ _ (.int .i64 0) e3
    have hz:=hh.size
    refine ⟨_,e4,by simp [hz],fun i hi hil => ?_,?_,?_⟩
    ·have:=hh.fill i (by omega) hil
     exact ⟨by rw [set_other (by omega),set_other (by omega),set_other (by omega),set_other (by omega)];exact this.1,by rw [set_other (by omega),set_other (by omega),set_other (by omega),set_other (by omega)];exact this.2⟩
    ·rw [set_other (by omega),set_other (by omega),set_other (by omega),set_same (by omega)]
    ·rw [set_other (by omega),set_same (by simp;omega)]
   have hx1:((((wr.setCell ⟨w.heap.size + 1 + 1,k * 2,none⟩ (.int .i64 (-7))).setCell ⟨w.heap.size + 1 + 1,k * 2 + 1,none⟩ (.int .i64 0)).setCell ⟨w.heap.size + 1 + 1,(k + 1) * 2,none⟩ (.int .i64 (-7))).setCell ⟨w.heap.size + 1 + 1,(k + 1) * 2 + 1,none⟩ (.int .i64 0)).heap[w.heap.size]? = _ :=
    (heap_setCell_other _ _ _ _ (by simp;try omega)).trans ((heap_setCell_other _ _ _ _ (by simp;try omega)).trans ((heap_setCell_other _ _ _ _ (by simp;try omega)).trans ((heap_setCell_other _ _ _ _ (by simp;try omega)).trans r1)))
   have hx2:((((wr.setCell ⟨w.heap.size + 1 + 1,k * 2,none⟩ (.int .i64 (-7))).setCell ⟨w.heap.size + 1 + 1,k * 2 + 1,none⟩ (.int .i64 0)).setCell ⟨w.heap.size + 1 + 1,(k + 1) * 2,none⟩ (.int .i64 (-7))).setCell ⟨w.heap.size + 1 + 1,(k + 1) * 2 + 1,none⟩ (.int .i64 0)).heap[w.heap.size + 1]? = _ :=
    (heap_setCell_other _ _ _ _ (by simp;try omega)).trans ((heap_setCell_other _ _ _ _ (by simp;try omega)).trans ((heap_setCell_other _ _ _ _ (by simp;try omega)).trans ((heap_setCell_other _ _ _ _ (by simp;try omega)).trans r2)))
   have hle:w.heap.size ≤ w.heap.size + 1 + 1:=by omega
   have hx3:=(((bw.setCell (p:=⟨w.heap.size + 1 + 1,k * 2,none⟩) hle (.int .i64 (-7))).setCell (p:=⟨w.heap.size + 1 + 1,k * 2 + 1,none⟩) hle (.int .i64 0)).setCell (p:=⟨w.heap.size + 1 + 1,(k + 1) * 2,none⟩) hle (.int .i64 (-7))).setCell (p:=⟨w.heap.size + 1 + 1,(k + 1) * 2 + 1,none⟩) hle (.int .i64 0)
   have X1:=hid' hx1
   have X2:=hid' hx2
   have X3:=hid' hx3
   clear hx1 hx2 hx3 hle hh r1 r2 bw ej HT
   go_upto_region 9 with fail
   generalize (((wr.setCell ⟨w.heap.size + 1 + 1,k * 2,none⟩ (.int .i64 (-7))).setCell ⟨w.heap.size + 1 + 1,k * 2 + 1,none⟩ (.int .i64 0)).setCell ⟨w.heap.size + 1 + 1,(k + 1) * 2,none⟩ (.int .i64 (-7))).setCell ⟨w.heap.size + 1 + 1,(k + 1) * 2 + 1,none⟩ (.int .i64 0) = V at *
   clear q0 q1 q2 p0 p1 p2 p3 f0 f1 f2 f3
   have q0:=cell_of_row _ _ 0 _ _ _ X1.out
   have q1:=cell_of_row _ _ 1 _ _ _ X1.out
   have y0:=cell_of_row _ _ 0 _ _ _ X2.out
   have y1:=cell_of_row _ _ 1 _ _ _ X2.out
   have y2:=cell_of_row _ _ 2 _ _ _ X2.out
   simp at q0 q1 y0 y1 y2
   have x0:=frozen_of_row _ _ 0 _ _ X2.out
   have x1:=frozen_of_row _ _ 1 _ _ X2.out
   have x2:=frozen_of_row _ _ 2 _ _ X2.out
   have hsl:=fun W => head_run (w.heap.size + 1 + 1) (k + 2) (k + 2) k (by omega) W
   go_region
   all_goals
    go_wp2
    have rowE:=zero3_row (x:=.int .i64 up) (y:=.int .i64 ex) (z:=.slice (some ⟨w.heap.size + 1 + 1,0,none⟩) k (k + 2)) X2.out
    refine bodyPost_ret (results_cell_row rfl _ _ (w.heap.size + 1) 78 #[.int .i64 up,.int .i64 ex,.slice (some ⟨w.heap.size + 1 + 1,0,none⟩) k (k + 2)] (0,0) _ rfl rowE Tryz.underlying78 rfl (by kernel_rfl)) rfl ?_
    refine ⟨w.heap.size + 1 + 1,by omega,by rw [hk],?_,(below3 X3.out (by omega)).drew⟩
    obtain ⟨cs',e1,e2,e3,e4,e5⟩:=HE.out
    refine ⟨cs',⟨?_,by rw [hk];exact e2,fun i hi hl => e3 i (by omega) hl⟩,by rw [hk];exact e4,by rw [hk];exact e5⟩
    exact (heap_setCell_other _ _ _ _ (by simp)).trans ((heap_setCell_other _ _ _ _ (by simp)).trans ((heap_setCell_other _ _ _ _ (by simp)).trans e1))
set_option maxRecDepth 100000 in
theorem smear_offset (lv:Value) (ls:List (Int × Int)) (up ex sec:Int) (w:World) (wu:(Lit.int .i64 up).wf = true) (wx:(Lit.int .i64 ex).wf = true)
  (hv:Held w lv ls) (hn:ls.length ≤ 100000) (hwf:∀ p ∈ ls,WfP p) :
  Calls Tryz.prog 47 #[.agg #[.int .i64 up,.int .i64 ex,lv],.int .i64 sec] w fun e w' =>
   e = .returned (.tuple #[.int .i64 (Tab.offset up ex ls sec).1,.int .i64 (Tab.offset up ex ls sec).2]) ∧ Below w.heap.size w w':=by
 have HBel:=hid' ((Below.refl w.heap.size w).alloc (Nat.le_refl _) (.cells #[.int .i64 up,.int .i64 ex,lv] 78))
 have HW:=hid' (label_offset lv ls up ex sec (w.alloc (.cells #[.int .i64 up,.int .i64 ex,lv] 78)) wu wx (hv.below HBel.out) hn hwf)
 clear wu wx hwf hv
 generalize Tab.offset up ex ls sec = r at *
 go_enter Tryz.func47,Tryz.ntmps47
 go_wp2_with (go_at_call 82;refine HW.out.mono ?_;rintro e w1 ⟨rfl,hb1⟩;have HB1:=hid' (HBel.out.trans (hb1.mono HBel.out.size));clear hb1)
 go_ret2
 exact ⟨rfl,HB1.out⟩
end Go.Proofs.YtmmkhodaljpjgaaGreatDoor
