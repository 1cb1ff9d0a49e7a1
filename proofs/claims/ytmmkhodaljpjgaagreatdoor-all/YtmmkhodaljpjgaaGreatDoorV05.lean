import Derived.Test.YtmmkhodaljpjgaaGreatDoorV04
import Derived.Handy
set_option maxRecDepth 100000
set_option maxHeartbeats 6400000
namespace Go.Proofs.YtmmkhodaljpjgaaGreatDoor
open Go.RowKit
structure Op where
 kind:Int
 x:Int
 a:Int
 b:Int
 c:Int
 d:Int
 s:ByteArray
def Op.cells (o:Op):Array Value:=#[.int .i64 o.kind,.int .i64 o.x,.int .i64 o.a,.int .i64 o.b,.int .i64 o.c,.int .i64 o.d,.string o.s]
theorem date_or (y m d:Int):NoDate y m d ∨ (1900 ≤ y ∧ y ≤ 2999 ∧ 1 ≤ m ∧ m ≤ 12 ∧ 1 ≤ d ∧ d ≤ Cal.dim y m):=by
 unfold NoDate;omega
theorem dated_day (k x a b c d:Int) (s:ByteArray) (w:World) (hk:k = 7) :
  Calls Tryz.prog 21 #[.agg #[.int .i64 k,.int .i64 x,.int .i64 a,.int .i64 b,.int .i64 c,.int .i64 d,.string s]] w fun e w' => e = .returned (.bool true) ∧ Below w.heap.size w w':=by
 subst hk
 rcases date_or a b c with h | ⟨h1,h2,h3,h4,h5,h6⟩
 ·have H:=hid' h
  clear h
  go_enter Tryz.func21,Tryz.ntmps21
  go_wp2_with fail
  refine (smear_day_no a b c _ H.out).mono ?_
  rintro e w' ⟨rfl,rfl⟩
  go_wp2_with fail
  refine (ref_day_no a b c _ H.out).mono ?_
  rintro e w' ⟨rfl,rfl⟩
  go_wp2_with (go_at_call 34;refine (num_any _ _).mono ?_;rintro e w' ⟨rfl,rfl⟩)
  go_ret
  exact ⟨rfl,(Below.refl _ _).alloc (Nat.le_refl _) _⟩
 ·go_enter Tryz.func21,Tryz.ntmps21
  go_wp2_with fail
  refine (smear_day_yes a b c _ h1 h2 h3 h4 h5 h6).mono ?_
  rintro e w' ⟨rfl,rfl⟩
  go_wp2_with fail
  refine (ref_day_yes a b c _ h1 h2 h3 h4 h5 h6).mono ?_
  rintro e w' ⟨rfl,rfl⟩
  generalize Cal.yb a + Cal.cum a b + c - 1 = v
  have hv:(v == v) = true:=by simp
  go_wp2_with (go_at_call 34;refine (num_any _ _).mono ?_;rintro e w' ⟨rfl,rfl⟩)
  go_ret
  exact ⟨rfl,(Below.refl _ _).alloc (Nat.le_refl _) _⟩
theorem dated_civil (k x a b c d:Int) (s:ByteArray) (w:World) (hk:k ≠ 7) :
  Calls Tryz.prog 21 #[.agg #[.int .i64 k,.int .i64 x,.int .i64 a,.int .i64 b,.int .i64 c,.int .i64 d,.string s]] w fun e w' => e = .returned (.bool true) ∧ Below w.heap.size w w':=by
 have hk7:(k == 7) = false:=by rw [beq_eq_false_iff_ne];exact hk
 clear hk
 by_cases h:a < 0 ∨ 401767 ≤ a
 ·have H:=hid' h
  clear h
  go_enter Tryz.func21,Tryz.ntmps21
  go_wp2_with fail
  refine (smear_civil_no a _ H.out).mono ?_
  rintro e w' ⟨rfl,rfl⟩
  go_wp2_with fail
  refine (ref_civil_no a _ H.out).mono ?_
  rintro e w' ⟨rfl,rfl⟩
  go_wp2_with (go_at_call 34;refine (num_any _ _).mono ?_;rintro e w' ⟨rfl,rfl⟩)
  go_ret
  exact ⟨rfl,(Below.refl _ _).alloc (Nat.le_refl _) _⟩
 ·have h0:0 ≤ a:=by omega
  have h1:a < 401767:=by omega
  clear h
  go_enter Tryz.func21,Tryz.ntmps21
  go_wp2_with fail
  refine (smear_civil_yes a _ h0 h1).mono ?_
  rintro e w' ⟨⟨y,m,rfl,hin⟩,rfl⟩
  have HI:=hid' hin
  clear hin
  go_wp2_with fail
  refine (ref_civil_yes a _ h0 h1).mono ?_
  rintro e w' ⟨⟨z,o,rfl,hin⟩,rfl⟩
  obtain ⟨rfl,rfl⟩:=HI.out.only hin
  clear hin HI
  generalize a - Cal.yb y - Cal.cum y m + 1 = v
  have hv:(v == v) = true:=by simp
  have hy:(y == y) = true:=by simp
  have hm:(m == m) = true:=by simp
  go_wp2_with (go_at_call 34;refine (num_any _ _).mono ?_;rintro e w' ⟨rfl,rfl⟩)
  go_ret
  exact ⟨rfl,(Below.refl _ _).alloc (Nat.le_refl _) _⟩
theorem own_slice {w:World} {B e size n:Nat} {v:Value} {xs:List Value} (h:w.ownsRow B e size v n xs):∃ ao cap,v = .slice ao n cap:=by
 rcases h.2 with ⟨h,h0⟩ | ⟨g,cap,cur,h,_⟩
 ·exact ⟨none,0,by rw [h,h0]⟩
 ·exact ⟨_,_,h⟩
theorem own_lo {w:World} {B B' e size n:Nat} {v:Value} {xs:List Value} (h:w.ownsRow B e size v n xs) (hb:B' ≤ B):w.ownsRow B' e size v n xs:=by
 refine ⟨h.1,?_⟩
 rcases h.2 with h | ⟨g,cap,cur,rfl,a,b⟩
 ·exact .inl h
 ·exact .inr ⟨g,cap,cur,rfl,Nat.le_trans hb a,b⟩
structure Hd where
 said:Bool
 leap:Int
 ws:Int
 wf:Int
def flatH:List Hd → List Value
 | [] => []
 | h :: r => .bool h.said :: .int .i64 h.leap :: .int .i64 h.ws :: .int .i64 h.wf :: flatH r
theorem flatH_append (l r:List Hd):flatH (l ++ r) = flatH l ++ flatH r:=by
 induction l with
 | nil => rfl
 | cons p q ih => simp [flatH,ih]
structure Sv where
 mode:Int
 win:Int
 fresh:Int
 ns:Int
 nf:Int
 ld:Bool
 up:Int
 ex:Int
 done:List (Int × Int)
 began:List (Int × Int)
 com:List Cm
 ref:Int
 said:List Hd
theorem own_same {w w':World} {B e size n:Nat} {v:Value} {xs:List Value} (h:w.ownsRow B e size v n xs) (hk:∀ k,v.ownBlock = some k → w'.heap[k]? = w.heap[k]?):w'.ownsRow B e size v n xs:=by
 refine ⟨h.1,?_⟩
 rcases h.2 with h' | ⟨g,cap,cur,rfl,a,hh,b⟩
 ·exact .inl h'
 ·exact .inr ⟨g,cap,cur,rfl,a,(hk g rfl).trans hh,b⟩
theorem own_typ {w:World} {B e size n k:Nat} {v:Value} {xs:List Value} (h:w.ownsRow B e size v n xs) (hk:v.ownBlock = some k):∃ cs fr,w.heap[k]? = some (.cells cs e fr):=by
 rcases h.2 with ⟨rfl,_⟩ | ⟨g,cap,cur,rfl,_,hh,_⟩
 ·simp [Value.ownBlock] at hk
 ·obtain rfl:g = k:=by simpa [Value.ownBlock] using hk
  exact ⟨_,_,hh⟩
def isT (s f:Int):Bool:=decide (0 ≤ s ∧ s ≤ 34000000000 ∧ 0 ≤ f ∧ f < 4294967296)
def tLater (s f z g:Int):Bool:=decide (z < s ∨ (s = z ∧ g < f))
def tSum (s f z g:Int):Int × Int:=(s + z + (f + g) / 4294967296,(f + g) % 4294967296)
theorem ret_agg2 {a b c d:Int} (h:a = c) (h':b = d):Ending.returned (.agg #[.int .i64 a,.int .i64 b]) = .returned (.agg #[.int .i64 c,.int .i64 d]):=by rw [h,h']
def Sv.opens (x:Sv) (t:Int):Int × Int:=if tLater x.ns x.nf (t - x.win / 2) 0 = true then (x.ns,x.nf) else (t - x.win / 2,0)
theorem two_row {V:World} {b:Nat} {a x p q:Value} {t:TypeId} (h1:V.heap[b]? = some (.cells #[p,q] t (0,0))):((V.setCell ⟨b,0,none⟩ a).setCell ⟨b,1,none⟩ x).heap[b]? = some (.cells #[a,x] t (0,0)):=by
 have e1:=heap_setCell_same _ b 0 _ t a h1
 have e2:=heap_setCell_same _ b 1 _ t x e1
 simpa using e2
def Sv.utc (x:Sv):Int:=x.ns - (x.done.getD (Tab.lastAt x.done x.ns x.done.length).toNat (0,0)).2
theorem lies_of {w:World} {B e g n cap:Nat} {ls:List (Int × Int)} (h:w.ownsRow B e 2 (.slice (some ⟨g,0,none⟩) n cap) n (flat ls)) (hl:ls.length = n):Lies w g ls:=fun i hi =>
 ⟨(h.cellAt (i * 2) (by omega)).trans (flat_at0 ls i hi),(h.cellAt (i * 2 + 1) (by omega)).trans (flat_at1 ls i hi)⟩
def begunL (ns nf:Int):List Cm → List (Int × Int) → List (Int × Int) → List (Int × Int) × List (Int × Int) × List Cm
 | [],d,b => (d,b,[])
 | c :: r,d,b => if tLater c.bs c.bf ns nf = true then (d,b,c :: r) else begunL ns nf r (d ++ [(c.a,c.o)]) (b ++ [(c.bs,c.bf)])
def Sv.begun (x:Sv):Sv:={ x with done:=(begunL x.ns x.nf x.com x.done x.began).1,began:=(begunL x.ns x.nf x.com x.done x.began).2.1,com:=(begunL x.ns x.nf x.com x.done x.began).2.2 }
def Sv.one (x:Sv) (c:Cm) (r:List Cm):Sv:={ x with done:=x.done ++ [(c.a,c.o)],began:=x.began ++ [(c.bs,c.bf)],com:=r }
theorem Sv.begun_one (x:Sv) (c:Cm) (r:List Cm) (hc:x.com = c :: r) (h:tLater c.bs c.bf x.ns x.nf = false):x.begun = (x.one c r).begun:=by
 unfold Sv.begun Sv.one
 simp only [hc,begunL,h,Bool.false_eq_true,if_false]
theorem Sv.begun_stop (x:Sv) (c:Cm) (r:List Cm) (hc:x.com = c :: r) (h:tLater c.bs c.bf x.ns x.nf = true):x.begun = x:=by
 unfold Sv.begun
 simp only [hc,begunL,h,if_true]
 rw [← hc]
theorem Sv.begun_end (x:Sv) (hc:x.com = []):x.begun = x:=by
 unfold Sv.begun
 simp only [hc,begunL]
 rw [← hc]
abbrev noHd:Hd:=⟨false,0,0,0⟩
def Sv.counts (x:Sv) (h:Hd):Bool:=h.said && !tLater x.ns x.nf (tSum h.ws h.wf x.fresh 0).1 (tSum h.ws h.wf x.fresh 0).2 && h.leap != 3
def Sv.tally (x:Sv):Nat → Int × Int × Int
 | 0 => (0,0,0)
 | k + 1 => if x.counts (x.said.getD k noHd) = true then ((x.tally k).1 + 1,(if (x.said.getD k noHd).leap = 1 then (x.tally k).2.1 + 1 else (x.tally k).2.1),(if (x.said.getD k noHd).leap = 2 then (x.tally k).2.2 + 1 else (x.tally k).2.2)) else x.tally k
def Sv.most (x:Sv):Int:=if 2 * (x.tally x.said.length).2.1 > (x.tally x.said.length).1 then 1 else if 2 * (x.tally x.said.length).2.2 > (x.tally x.said.length).1 then -1 else 0
theorem Sv.tally_bd (x:Sv) (k:Nat):(0 ≤ (x.tally k).1 ∧ (x.tally k).1 ≤ k) ∧ (0 ≤ (x.tally k).2.1 ∧ (x.tally k).2.1 ≤ k) ∧ 0 ≤ (x.tally k).2.2 ∧ (x.tally k).2.2 ≤ k:=by
 induction k with
 | zero => simp [Sv.tally]
 | succ k ih =>
  unfold Sv.tally
  split
  ·simp only
   split <;> split <;> omega
  ·omega
theorem flatH_at (l:List Hd) (k:Nat) (h:k < l.length) (j:Nat) (hj:j < 4):(flatH l)[k * 4 + j]? = #[.bool l[k].said,.int .i64 l[k].leap,.int .i64 l[k].ws,.int .i64 l[k].wf][j]?:=by
 induction l generalizing k with
 | nil => simp at h
 | cons p r ih =>
  cases k with
  | zero =>
   simp only [flatH,Nat.zero_mul,Nat.zero_add,List.getElem_cons_zero]
   match j,hj with
   | 0,_ => rfl
   | 1,_ => rfl
   | 2,_ => rfl
   | 3,_ => rfl
  | succ k =>
   have h':k < r.length:=by simpa using h
   have e:(k + 1) * 4 + j = (k * 4 + j) + 4:=by omega
   rw [e]
   simp only [flatH,List.getElem_cons_succ]
   exact ih k h'
def Hd.Ok (h:Hd):Prop:=0 ≤ h.ws ∧ h.ws ≤ 34000000000 ∧ 0 ≤ h.wf ∧ h.wf < 4294967296
def nextOf (y m:Int):Int:=if m = 12 then (if y = 2999 then -1 else (Cal.yb (y + 1) + Cal.cum (y + 1) 1) * 86400) else (Cal.yb y + Cal.cum y (m + 1)) * 86400
def nextS (sec:Int):Int:=match Cal.find (sec / 86400) with
 | none => -1
 | some p => nextOf p.1 p.2
theorem nextS_eq {sec y m:Int} (h:Cal.In y m (sec / 86400)):nextS sec = nextOf y m:=by
 unfold nextS
 rw [Cal.find_eq h]
theorem nextOf_bd {y m n:Int} (h:Cal.In y m n):-1 ≤ nextOf y m ∧ nextOf y m ≤ 40000000000:=by
 have:=h.y1
 have:=h.y2
 have:=h.m1
 have:=h.m2
 unfold nextOf
 split
 ·split
  ·omega
  ·have a:=Cal.yb_bd (y + 1) (by omega) (by omega)
   have b:=Cal.cum_bd (y + 1) 1 (by omega) (by omega)
   omega
 ·have a:=Cal.yb_bd y (by omega) (by omega)
  have b:=Cal.cum_bd y (m + 1) (by omega) (by omega)
  omega
def Sv.old (x:Sv):Int:=(x.done.getD (x.done.length - 1) (0,0)).2
def Sv.sign (x:Sv):Int:=if x.utc < x.ex then 0 else x.most
def Sv.atN (x:Sv):Int:=nextS x.utc
def Sv.whenN (x:Sv):Int:=if x.sign < 0 then x.atN + x.old + x.sign else x.atN + x.old
def Sv.okN (x:Sv):Bool:=decide (0 < x.atN) && x.sign != 0 && Tab.follows x.done x.atN (x.old + x.sign)
def Sv.filed (x:Sv):Bool:=match x.com with
 | [] => false
 | c :: _ => !c.v
def Sv.voted (x:Sv):Sv:=if x.okN = false ∨ x.whenN ≤ x.ns then { x with com:=[] } else ({ x with com:=[⟨x.atN,x.old + x.sign,(x.opens x.whenN).1,(x.opens x.whenN).2,true⟩] }:Sv).begun
def Sv.weigh (x:Sv):Sv:=if x.ld = false then x else if x.begun.filed = true then x.begun else x.begun.voted
structure Sv.Can (x:Sv):Prop where
 fine:Fine x.done
 len:x.done.length ≤ 900
 hold:0 ≤ Tab.lastAt x.done x.ns x.done.length
 n0:0 ≤ x.ns
 n1:x.ns ≤ 34000000000
 u0:0 ≤ x.utc
 u1:x.utc ≤ 34000000000
 said:x.said.length ≤ 100
 sok:∀ h ∈ x.said,h.Ok
 f0:0 ≤ x.fresh
 f1:x.fresh ≤ 1000000
 w0:0 ≤ x.win
 w1:x.win ≤ 1000000
 bl:x.began.length ≤ 900
 cl:x.com.length ≤ 90
theorem Sv.most_bd (x:Sv):x.most = 1 ∨ x.most = -1 ∨ x.most = 0:=by
 unfold Sv.most
 split
 ·exact .inl rfl
 ·split
  ·exact .inr (.inl rfl)
  ·exact .inr (.inr rfl)
theorem Sv.sign_bd (x:Sv):x.sign = 1 ∨ x.sign = -1 ∨ x.sign = 0:=by
 unfold Sv.sign
 split
 ·exact .inr (.inr rfl)
 ·exact x.most_bd
theorem ex_year (n:Int) (h0:0 ≤ n) (k:Nat) (h:n < Cal.yb (1900 + (k:Int))):∃ y,1900 ≤ y ∧ y < 1900 + (k:Int) ∧ Cal.yb y ≤ n ∧ n < Cal.yb (y + 1):=by
 induction k with
 | zero =>
  have e:(1900:Int) + ((0:Nat):Int) = 1900:=rfl
  rw [e,Cal.yb_first] at h;omega
 | succ k ih =>
  by_cases c:n < Cal.yb (1900 + (k:Int))
  ·obtain ⟨y,a,b,d,e⟩:=ih c
   exact ⟨y,a,by omega,d,e⟩
  ·refine ⟨1900 + (k:Int),by omega,by omega,by omega,?_⟩
   have e:(1900:Int) + ((k + 1:Nat):Int) = 1900 + (k:Int) + 1:=by omega
   rw [e] at h;exact h
theorem ex_month (y r:Int) (h0:0 ≤ r) (k:Nat) (h:r < Cal.cum y (1 + (k:Int))):∃ m,1 ≤ m ∧ m ≤ (k:Int) ∧ Cal.cum y m ≤ r ∧ r < Cal.cum y (m + 1):=by
 induction k with
 | zero =>
  have e:(1:Int) + ((0:Nat):Int) = 1:=rfl
  rw [e,Cal.cum_one] at h;omega
 | succ k ih =>
  by_cases c:r < Cal.cum y (1 + (k:Int))
  ·obtain ⟨m,a,b,d,e⟩:=ih c
   exact ⟨m,a,by omega,d,e⟩
  ·refine ⟨1 + (k:Int),by omega,by omega,by omega,?_⟩
   have e:(1:Int) + ((k + 1:Nat):Int) = 1 + (k:Int) + 1:=by omega
   rw [e] at h;exact h
theorem in_cal {u:Int} (h0:0 ≤ u) (h1:u ≤ 34000000000):∃ y m,Cal.In y m (u / 86400):=by
 have h3:Cal.yb 3000 = 401767:=by decide
 obtain ⟨y,a,b,c,d⟩:=ex_year (u / 86400) (by omega) 1100 (by rw [show (1900:Int) + ((1100:Nat):Int) = 3000 from rfl];omega)
 have ys:=Cal.yb_succ y
 obtain ⟨m,e,f,g,h⟩:=ex_month y (u / 86400 - Cal.yb y) (by omega) 12 (by rw [show (1:Int) + ((12:Nat):Int) = 13 from rfl,Cal.cum_end];omega)
 have cs:=Cal.cum_succ y m e (by omega)
 exact ⟨y,m,a,by omega,e,by omega,by omega,by omega⟩
theorem wrap_small {x:Int} (h0:0 ≤ x) (h1:x ≤ 1000000):IntKind.i64.wrap x = x:=by
 rw [IntKind.wrap_i64];omega
theorem wf_at {x:Int} (h0:-1000000000000 ≤ x) (h1:x ≤ 1000000000000):(Lit.int .i64 x).wf = true:=by
 simp [Lit.wf,IntKind.min,IntKind.max,IntKind.signed,IntKind.bits]
 omega
def Sv.at' (x:Sv) (s f:Int):Sv:={ x with ns:=s,nf:=f }
def Sv.adv (x:Sv) (s f:Int):Int × Sv :=
 if isT s f = false then (9,x) else if isT (tSum x.ns x.nf s f).1 (tSum x.ns x.nf s f).2 = false then (9,x) else (0,(x.at' (tSum x.ns x.nf s f).1 (tSum x.ns x.nf s f).2).weigh)
theorem isT_bd {s f:Int} (h:isT s f = true):0 ≤ s ∧ s ≤ 34000000000 ∧ 0 ≤ f ∧ f < 4294967296:=of_decide_eq_true h
def Sv.agrees (x:Sv) (ls:List (Int × Int)):Bool :=
 if x.ld = false then decide (Tab.when ls 0 ≤ x.ns) else if ls.length < x.done.length then false else if ls.take x.done.length = x.done then decide (ls.length = x.done.length) || decide (x.ns < Tab.when ls x.done.length) else false
theorem take_same {a c:List (Int × Int)} (n:Nat) (h:n < c.length) (hl:c.length ≤ a.length) (ht:a.take n = c.take n) (e:a.getD n (0,0) = c.getD n (0,0)):a.take (n + 1) = c.take (n + 1):=by
 rw [List.take_succ_eq_append_getElem (by omega),List.take_succ_eq_append_getElem h,ht]
 rw [getD_at n (by omega),getD_at n h] at e
 rw [e]
theorem take_not {a c:List (Int × Int)} (n:Nat) (h:n < c.length) (hl:c.length ≤ a.length) (e:a.getD n (0,0) ≠ c.getD n (0,0)):¬ a.take c.length = c:=by
 intro q
 apply e
 rw [getD_at n (by omega),getD_at n h]
 have h1:(a.take c.length)[n]? = c[n]?:=by rw [q]
 rw [List.getElem?_take_of_lt h,List.getElem?_eq_getElem (by omega),List.getElem?_eq_getElem h] at h1
 exact Option.some.inj h1
def Sv.known (x:Sv):List (Int × Int):=x.done ++ (match x.com with
 | [] => []
 | c :: _ => [(c.a,c.o)])
def Sv.ind (x:Sv) (d:Int):Int:=if 86400 < Tab.length x.known d then 1 else if Tab.length x.known d < 86400 then 2 else 0
def stepB (mode win:Int):Bool:=decide (mode = 0 ∧ win = 0)
def smearB (mode win:Int):Bool:=decide ((mode = 1 ∨ mode = 2) ∧ 3600 ≤ win ∧ win ≤ 604800 ∧ win.tmod 2 = 0)
def cfgB (mode win src fresh s f:Int):Bool:=(stepB mode win || smearB mode win) && decide (0 ≤ src ∧ src ≤ 8 ∧ 1 ≤ fresh ∧ fresh ≤ 604800) && isT s f
def Sv.init (mode win fresh s f:Int) (n:Nat):Sv:=⟨mode,win,fresh,s,f,false,0,0,[],[],[],0,List.replicate n noHd⟩
theorem rep_succ (n:Nat):List.replicate n noHd ++ [noHd] = List.replicate (n + 1) noHd:=by
 rw [List.replicate_succ']
theorem flatH_set (l:List Hd) (k:Nat) (h:Hd):flatH (l.set k h) = ((((flatH l).set (k * 4) (.bool h.said)).set (k * 4 + 1) (.int .i64 h.leap)).set (k * 4 + 2) (.int .i64 h.ws)).set (k * 4 + 3) (.int .i64 h.wf):=by
 induction l generalizing k with
 | nil => rfl
 | cons p r ih =>
  cases k with
  | zero => rfl
  | succ k =>
   rw [show (k + 1) * 4 = k * 4 + 1 + 1 + 1 + 1 from by omega]
   simp [flatH,ih]
def Sv.says (x:Sv) (k:Nat) (leap:Int):Sv:={ x with said:=x.said.set k ⟨true,leap,x.ns,x.nf⟩ }
def Sv.hear (x:Sv) (src leap:Int):Int × Sv:=if src < 0 ∨ (x.said.length:Int) ≤ src then (13,x) else if leap < 0 ∨ 3 < leap then (14,x) else (0,(x.says src.toNat leap).weigh)
theorem Txt.parse_whole {t:ByteArray} (h:(Txt.parse t).err = 0):Tab.whole (Txt.parse t).up (Txt.parse t).ex (Txt.parse t).ls = true ∧ (Txt.parse t).num = 0:=by
 unfold Txt.parse at h ⊢
 split at h
 ·cases h
 ·rename_i h2
  split at h
  ·rename_i h3
   rw [if_neg h2,if_pos h3]
   unfold Txt.done at h ⊢
   split at h
   ·rename_i hf
    rw [if_pos hf]
    refine ⟨?_,rfl⟩
    unfold Txt.fin at hf
    split at hf
    ·cases hf
    ·split at hf
     ·cases hf
     ·rename_i hw;simpa using hw
   ·rename_i hf;exact absurd h hf
  ·rename_i h3;exact absurd h h3
def Sv.loadErr (x:Sv) (g:Txt.Got):Int:=if g.err ≠ 0 then g.err else if x.ld = true ∧ g.up < x.up then 11 else if x.agrees g.ls = false then 12 else 0
def Sv.refuse (x:Sv):Sv:={ x with ref:=x.ref + 1 }
def Sv.till (x:Sv) (i:Nat):Bool:=tLater (tSum (x.began.getD i (0,0)).1 (x.began.getD i (0,0)).2 x.win 0).1 (tSum (x.began.getD i (0,0)).1 (x.began.getD i (0,0)).2 x.win 0).2 x.ns x.nf
def Sv.WinAt (x:Sv) (i:Int):Prop:=(i = -1 ∧ ∀ j,1 ≤ j → j < x.done.length → x.till j = false) ∨ ∃ k:Nat,i = k ∧ 1 ≤ k ∧ k < x.done.length ∧ x.till k = true ∧ ∀ j,1 ≤ j → j < k → x.till j = false
structure Sv.BegOk (x:Sv):Prop where
 len:x.began.length = x.done.length
 ok:∀ p ∈ x.began,-1000000 ≤ p.1 ∧ p.1 ≤ 35000000000 ∧ 0 ≤ p.2 ∧ p.2 < 4294967296
 w0:0 ≤ x.win
 w1:x.win ≤ 1000000
def gZ (i:Int):Int:=4 * i * i * (3072 - 2 * i)
theorem gZ_step (i:Int):gZ (i + 1) = gZ i + 24 * (i * (1023 - i)) + 12280:=by
 unfold gZ;grind
theorem gZ_le_succ {i:Int} (h0:0 ≤ i) (h1:i ≤ 1023):gZ i ≤ gZ (i + 1):=by
 have:0 ≤ i * (1023 - i):=Int.mul_nonneg h0 (by omega)
 rw [gZ_step];omega
theorem gZ_top (k:Nat) (hk:k ≤ 1024):gZ (1024 - k) ≤ 4294967296:=by
 induction k with
 | zero => decide
 | succ k ih =>
  have:=ih (by omega)
  have e:(1024:Int) - k = (1024 - ((k + 1:Nat):Int)) + 1:=by omega
  rw [e] at this
  have:=gZ_le_succ (i:=1024 - ((k + 1:Nat):Int)) (by omega) (by omega)
  omega
theorem gZ_bd {i:Int} (h0:0 ≤ i) (h1:i ≤ 1024):0 ≤ gZ i ∧ gZ i ≤ 4294967296:=by
 refine ⟨?_,?_⟩
 ·unfold gZ
  have a:0 ≤ 4 * i * i:=Int.mul_nonneg (by omega) h0
  exact Int.mul_nonneg a (by omega)
 ·have:=gZ_top (1024 - i).toNat (by omega)
  have e:(1024:Int) - ((1024 - i).toNat:Int) = i:=by omega
  rwa [e] at this
def pX (W:Int):Int:=W * 4294967296
def pI (W n:Int):Int:=1024 * n / pX W
def pR (W n:Int):Int:=1024 * n - pI W n * pX W
def pullU (mode W n:Int):Int:=if mode = 1 then n else gZ (pI W n) * pX W + (gZ (pI W n + 1) - gZ (pI W n)) * pR W n
def pullD (mode W:Int):Int:=if mode = 1 then W else pX W
structure PullOk (W n:Int):Prop where
 w0:0 < W
 w1:W ≤ 604800
 n0:0 ≤ n
 n1:n < pX W
theorem PullOk.x {W n:Int} (h:PullOk W n):0 < pX W ∧ pX W ≤ 2597596220620800:=by
 have:=h.w0;have:=h.w1;unfold pX;omega
theorem PullOk.i {W n:Int} (h:PullOk W n):0 ≤ pI W n ∧ pI W n ≤ 1023:=by
 have hx:=h.x
 have:=h.n0
 have:=h.n1
 unfold pI
 refine ⟨Int.ediv_nonneg (by omega) (by omega),?_⟩
 have:1024 * n / pX W < 1024:=Int.ediv_lt_of_lt_mul hx.1 (by omega)
 omega
theorem PullOk.r {W n:Int} (h:PullOk W n):0 ≤ pR W n ∧ pR W n < pX W:=by
 have hx:=h.x
 have e:pR W n = 1024 * n % pX W:=by
  unfold pR pI
  rw [Int.emod_def,Int.mul_comm (pX W)]
 rw [e]
 exact ⟨Int.emod_nonneg _ (by omega),Int.emod_lt_of_pos _ hx.1⟩
theorem PullOk.ix {W n:Int} (h:PullOk W n):0 ≤ pI W n * pX W ∧ pI W n * pX W ≤ 1024 * n:=by
 have hi:=h.i
 have hx:=h.x
 have hr:=h.r
 refine ⟨Int.mul_nonneg hi.1 (by omega),?_⟩
 have:=hr.1
 unfold pR at this
 omega
theorem PullOk.u {W n:Int} (h:PullOk W n) (mode:Int):0 ≤ pullU mode W n ∧ pullU mode W n ≤ 4294967296 * pullD mode W ∧ 0 < pullD mode W ∧ pullD mode W ≤ 2597596220620800:=by
 have hx:=h.x
 unfold pullU pullD
 by_cases c:mode = 1
 ·rw [if_pos c,if_pos c]
  have h1:=h.n1
  have h0:=h.n0
  have:=h.w0
  have:=h.w1
  unfold pX at h1
  omega
 ·rw [if_neg c,if_neg c]
  have hi:=h.i
  have hr:=h.r
  have g0:=gZ_bd (i:=pI W n) hi.1 (by omega)
  have g1:=gZ_bd (i:=pI W n + 1) (by omega) (by omega)
  have gl:=gZ_le_succ hi.1 hi.2
  generalize gZ (pI W n) = a at *
  generalize gZ (pI W n + 1) = b at *
  generalize pR W n = r at *
  generalize pX W = X at *
  have m1:0 ≤ a * X:=Int.mul_nonneg g0.1 (by omega)
  have m2:0 ≤ (b - a) * r:=Int.mul_nonneg (by omega) hr.1
  have m3:(b - a) * r ≤ (b - a) * X:=Int.mul_le_mul_of_nonneg_left (by omega) (by omega)
  have m4:a * X + (b - a) * X = b * X:=by grind
  have m5:b * X ≤ 4294967296 * X:=Int.mul_le_mul_of_nonneg_right (by omega) (by omega)
  omega
def Sv.gap (x:Sv) (k:Nat):Int:=(x.ns - (x.began.getD k (0,0)).1) * 4294967296 + x.nf - (x.began.getD k (0,0)).2
def Sv.pulled (x:Sv) (k:Nat):Nat:=(pullU x.mode x.win (x.gap k)).toNat / (pullD x.mode x.win).toNat
def Sv.pulledUp (x:Sv) (k:Nat):Nat:=if x.pulled k * (pullD x.mode x.win).toNat < (pullU x.mode x.win (x.gap k)).toNat then x.pulled k + 1 else x.pulled k
def Sv.smeared (x:Sv) (k:Nat):Int × Int :=
 if (x.done.getD k (0,0)).2 < (x.done.getD (k - 1) (0,0)).2 then tSum (x.ns - (x.done.getD (k - 1) (0,0)).2) x.nf 0 (x.pulled k)
 else tSum (x.ns - (x.done.getD (k - 1) (0,0)).2 - 1) x.nf 0 (4294967296 - (x.pulledUp k:Int))
theorem alloc_sz (W:World) (o:Obj):(W.alloc o).heap.size = W.heap.size + 1:=by simp
structure Ws (w:World) (v:Value) (ws:List ByteArray):Prop where
 own:∃ B,w.ownsRow B 9 1 v ws.length (ws.map Value.string)
 len:ws.length ≤ 100000
 sz:∀ i,(ws.getD i Txt.em).size ≤ 100000
theorem Ws.form {w:World} {v:Value} {ws:List ByteArray} (h:Ws w v ws):∃ ao cap,v = .slice ao ws.length cap:=by
 obtain ⟨B,h⟩:=h.own
 rcases h.2 with ⟨rfl,e⟩ | ⟨g,cap,cur,rfl,_⟩
 ·exact ⟨_,_,by rw [e]⟩
 ·exact ⟨_,_,rfl⟩
theorem Ws.at' {w:World} {v:Value} {ws:List ByteArray} (h:Ws w v ws) (h0:0 < ws.length) :
  ∃ g cap,v = .slice (some ⟨g,0,none⟩) ws.length cap ∧ g < w.heap.size ∧ ∀ i,i < ws.length → w.cell? ⟨g,i,none⟩ = some (.string (ws.getD i Txt.em)):=by
 obtain ⟨B,h⟩:=h.own
 obtain ⟨g,cap,rfl⟩:=own_some h h0
 refine ⟨g,cap,rfl,(h.lt _ rfl).2,fun i hi => ?_⟩
 rw [h.cellAt i (by omega),List.getElem?_map,List.getElem?_eq_getElem hi,List.getD_eq_getElem?_getD,List.getElem?_eq_getElem hi]
 rfl
def Rd (w:World) (bR:Nat) (st:Txt.St):Prop:=∃ lv,w.heap[bR]? = some (.cells #[.string st.u,.string st.x,.string st.h,lv,.string st.dg] 179 (0,0)) ∧ w.ownsRow (bR + 1) 84 2 lv st.ls.length (flat st.ls)
def onceS (ws:List ByteArray) (b:ByteArray):ByteArray:=if Txt.once ws b = 0 then ws.getD 0 Txt.em else Txt.em
def onceV (ws:List ByteArray) (b:ByteArray):Value:=.tuple #[.string (onceS ws b),.int .i64 (Txt.once ws b)]
theorem onceV_no {ws:List ByteArray} {b:ByteArray} {n:Int} (h:Txt.once ws b = n) (hn:n ≠ 0):onceV ws b = .tuple #[.string Txt.em,.int .i64 n]:=by
 unfold onceV onceS;rw [if_neg (by rw [h];exact hn),h]
theorem onceV_yes {ws:List ByteArray} {b:ByteArray} (h:Txt.once ws b = 0):onceV ws b = .tuple #[.string (ws.getD 0 Txt.em),.int .i64 0]:=by
 unfold onceV onceS;rw [if_pos h,h]
theorem no_err {a b:Int} {P:Prop} (h:a = b) (hb:b ≠ 0):a = 0 → P:=fun e => absurd (h.symm.trans e) hb
theorem em_test {b:ByteArray} (h:¬ b = Txt.em):b.toList.isEmpty = false:=Txt.not_empty h
theorem number_once (v:Value) (ws:List ByteArray) (b:ByteArray) (w:World) (hW:Ws w v ws) :
  Calls Tryz.prog 186 #[v,.string b] w fun e w' => e = .returned (onceV ws b) ∧ w' = w:=by
 have hlen:=hW.len
 by_cases h1:ws.length = 1
 ·obtain ⟨g,cap,rfl,_,hc⟩:=hW.at' (by omega)
  have c0:=hc 0 (by omega)
  have hsz:=hW.sz 0
  have HN:=hid' (is_number (ws.getD 0 Txt.em) w (by omega))
  rw [h1]
  clear hc hW hlen
  cases hn:Txt.isNum (ws.getD 0 Txt.em) with
  | false =>
   have H:Hid (onceV ws b = _):=onceV_no (n:=3) (by unfold Txt.once;rw [if_neg (by omega),if_pos hn]) (by decide)
   rw [hn] at HN
   clear hn h1
   generalize ws.getD 0 Txt.em = s0 at *
   go_enter Tryz.func186,Tryz.ntmps186
   go_wp2_with (go_at_call 190;refine HN.out.mono ?_;rintro e w' ⟨rfl,rfl⟩)
   go_ret2
   exact ⟨congrArg Ending.returned H.out.symm,rfl⟩
  | true =>
   rw [hn] at HN
   by_cases hb:b = Txt.em
   ·have H:Hid (onceV ws b = _):=onceV_yes (by unfold Txt.once;rw [if_neg (by omega),if_neg (by rw [hn];decide),if_neg (by simpa using hb)])
    subst hb
    clear hn h1
    generalize ws.getD 0 Txt.em = s0 at *
    go_enter Tryz.func186,Tryz.ntmps186
    go_wp2_with (go_at_call 190;refine HN.out.mono ?_;rintro e w' ⟨rfl,rfl⟩)
    go_ret2
    exact ⟨congrArg Ending.returned H.out.symm,rfl⟩
   ·have H:Hid (onceV ws b = _):=onceV_no (n:=4) (by unfold Txt.once;rw [if_neg (by omega),if_neg (by rw [hn];decide),if_pos hb]) (by decide)
    have hbe:=em_test hb
    clear hn h1 hb
    generalize ws.getD 0 Txt.em = s0 at *
    go_enter Tryz.func186,Tryz.ntmps186
    go_wp2_with (go_at_call 190;refine HN.out.mono ?_;rintro e w' ⟨rfl,rfl⟩)
    go_ret2
    exact ⟨congrArg Ending.returned H.out.symm,rfl⟩
 ·have H:Hid (onceV ws b = _):=onceV_no (n:=3) (by unfold Txt.once;rw [if_pos h1]) (by decide)
  obtain ⟨ao,cap,rfl⟩:=hW.form
  have h1':((ws.length:Int) != 1) = true:=bne_iff_ne.2 (by omega)
  clear h1 hW
  go_enter Tryz.func186,Tryz.ntmps186
  go_wp2
  go_ret2
  exact ⟨congrArg Ending.returned H.out.symm,rfl⟩
theorem take_update (bR:Nat) (st:Txt.St) (v:Value) (ws:List ByteArray) (w:World) (n:Nat) (hR:Rd w bR st) (hO:Txt.Ok st n) (hn:n ≤ 100000) (hW:Ws w v ws) :
  Calls Tryz.prog 160 #[.pointer (some ⟨bR,0,none⟩),v] w fun e w' => e = .returned (.int .i64 (Txt.takeU st ws).1) ∧ ((Txt.takeU st ws).1 = 0 → Rd w' bR (Txt.takeU st ws).2) ∧ Below bR w w':=by
 obtain ⟨lv,hrow,hown⟩:=hR
 have c0:=cell_of_row _ _ 0 _ _ _ hrow
 have c4:=cell_of_row _ _ 4 _ _ _ hrow
 simp at c0 c4
 have f0:=frozen_of_row _ _ 0 _ _ hrow
 have f4:=frozen_of_row _ _ 4 _ _ hrow
 have HN:=hid' (number_once v ws st.u w hW)
 have HR:=hid' hrow
 have HO:=hid' hown
 have hdg:=hO.dg
 have hsz:(onceS ws st.u).size ≤ 100000:=by unfold onceS;split;exact hW.sz 0;decide
 have hu:st.u.size ≤ 11:=by rcases hO.u with h | h;rw [h];decide;exact Txt.size_num h
 have HT:Hid (Txt.once ws st.u = 0 → st.u ++ onceS ws st.u = ws.getD 0 Txt.em):=fun h => by
  unfold onceS;rw [if_pos h,(Txt.once_cases h).2.2];exact ByteArray.empty_append
 have HD:Hid (Txt.once ws st.u = 0 → st.dg ++ onceS ws st.u = st.dg ++ ws.getD 0 Txt.em):=fun h => by unfold onceS;rw [if_pos h]
 unfold onceV at HN
 have H:Hid ((Txt.takeU st ws).1 = Txt.once ws st.u):=rfl
 have HS:Hid ((Txt.takeU st ws).2 = { st with u:=ws.getD 0 Txt.em,dg:=st.dg ++ ws.getD 0 Txt.em }):=rfl
 clear hrow hown hO hW
 generalize onceS ws st.u = r at *
 generalize Txt.once ws st.u = er at *
 go_enter Tryz.func160,Tryz.ntmps160
 go_wp2_with (go_at_call 186;refine HN.out.mono ?_;rintro e w' ⟨rfl,rfl⟩)
 go_ret
 refine ⟨ret_int H.out.symm,fun h => ?_,?_⟩
 ·rw [H.out] at h
  rw [HS.out,← HD.out h,← HT.out h]
  have e1:=heap_setCell_same _ bR 0 _ _ (.string (st.u ++ r)) HR.out
  have e2:=heap_setCell_same _ bR 4 _ _ (.string (st.dg ++ r)) e1
  refine ⟨lv,by simpa using e2,own_set (p:=⟨bR,4,none⟩) (own_set (p:=⟨bR,0,none⟩) HO.out HR.out (by decide) _) e1 (by decide) _⟩
 ·exact ((Below.refl bR _).setCell (p:=⟨bR,0,none⟩) (Nat.le_refl _) _).setCell (p:=⟨bR,4,none⟩) (Nat.le_refl _) _
theorem take_expiry (bR:Nat) (st:Txt.St) (v:Value) (ws:List ByteArray) (w:World) (n:Nat) (hR:Rd w bR st) (hO:Txt.Ok st n) (hn:n ≤ 100000) (hW:Ws w v ws) :
  Calls Tryz.prog 162 #[.pointer (some ⟨bR,0,none⟩),v] w fun e w' => e = .returned (.int .i64 (Txt.takeX st ws).1) ∧ ((Txt.takeX st ws).1 = 0 → Rd w' bR (Txt.takeX st ws).2) ∧ Below bR w w':=by
 obtain ⟨lv,hrow,hown⟩:=hR
 have c0:=cell_of_row _ _ 1 _ _ _ hrow
 have c4:=cell_of_row _ _ 4 _ _ _ hrow
 simp at c0 c4
 have f0:=frozen_of_row _ _ 1 _ _ hrow
 have f4:=frozen_of_row _ _ 4 _ _ hrow
 have HN:=hid' (number_once v ws st.x w hW)
 have HR:=hid' hrow
 have HO:=hid' hown
 have hdg:=hO.dg
 have hsz:(onceS ws st.x).size ≤ 100000:=by unfold onceS;split;exact hW.sz 0;decide
 have hu:st.x.size ≤ 11:=by rcases hO.x with h | h;rw [h];decide;exact Txt.size_num h
 have HT:Hid (Txt.once ws st.x = 0 → st.x ++ onceS ws st.x = ws.getD 0 Txt.em):=fun h => by
  unfold onceS;rw [if_pos h,(Txt.once_cases h).2.2];exact ByteArray.empty_append
 have HD:Hid (Txt.once ws st.x = 0 → st.dg ++ onceS ws st.x = st.dg ++ ws.getD 0 Txt.em):=fun h => by unfold onceS;rw [if_pos h]
 unfold onceV at HN
 have H:Hid ((Txt.takeX st ws).1 = Txt.once ws st.x):=rfl
 have HS:Hid ((Txt.takeX st ws).2 = { st with x:=ws.getD 0 Txt.em,dg:=st.dg ++ ws.getD 0 Txt.em }):=rfl
 clear hrow hown hO hW
 generalize onceS ws st.x = r at *
 generalize Txt.once ws st.x = er at *
 go_enter Tryz.func162,Tryz.ntmps162
 go_wp2_with (go_at_call 186;refine HN.out.mono ?_;rintro e w' ⟨rfl,rfl⟩)
 go_ret
 refine ⟨ret_int H.out.symm,fun h => ?_,?_⟩
 ·rw [H.out] at h
  rw [HS.out,← HD.out h,← HT.out h]
  have e1:=heap_setCell_same _ bR 1 _ _ (.string (st.x ++ r)) HR.out
  have e2:=heap_setCell_same _ bR 4 _ _ (.string (st.dg ++ r)) e1
  refine ⟨lv,by simpa using e2,own_set (p:=⟨bR,4,none⟩) (own_set (p:=⟨bR,1,none⟩) HO.out HR.out (by decide) _) e1 (by decide) _⟩
 ·exact ((Below.refl bR _).setCell (p:=⟨bR,1,none⟩) (Nat.le_refl _) _).setCell (p:=⟨bR,4,none⟩) (Nat.le_refl _) _
theorem take_hash (bR:Nat) (st:Txt.St) (v:Value) (ws:List ByteArray) (w:World) (n:Nat) (hR:Rd w bR st) (hO:Txt.Ok st n) (hW:Ws w v ws) :
  Calls Tryz.prog 163 #[.pointer (some ⟨bR,0,none⟩),v] w fun e w' => e = .returned (.int .i64 (Txt.takeH st ws).1) ∧ ((Txt.takeH st ws).1 = 0 → Rd w' bR (Txt.takeH st ws).2) ∧ Below bR w w':=by
 obtain ⟨lv,hrow,hown⟩:=hR
 have c2:=cell_of_row _ _ 2 _ _ _ hrow
 simp at c2
 have f2:=frozen_of_row _ _ 2 _ _ hrow
 have HR:=hid' hrow
 have HO:=hid' hown
 have hlen:=hW.len
 have HSZ:=hid' hW.sz
 have hh:=hO.h
 clear hrow hown hO
 have H:Hid ((Txt.takeH st ws).1 = Txt.hashErr ws st.h):=rfl
 have HS:Hid ((Txt.takeH st ws).2 = { st with h:=Txt.hexTo ws 5 }):=rfl
 by_cases h5:ws.length = 5
 ·obtain ⟨g,cap,rfl,hgl,hc⟩:=hW.at' (by omega)
  rw [h5] at hc ⊢
  have HC:=hid' hc
  clear hc hW hlen
  go_enter Tryz.func163,Tryz.ntmps163
  go_wp2
  go_loop [5,6] (fun t i => ∃ k:Nat,k ≤ 5 ∧ i = .int .i64 k ∧ t = .string (Txt.hexTo ws k) ∧ Txt.Hexed ws k) (fun _ i => 5 - (intOf i).toNat)
  case atStart => exact ⟨0,by omega,rfl,rfl,fun i hi => by omega⟩
  case round =>
   obtain ⟨k,hk,rfl,rfl,hhex⟩:=hrel
   have HHX:=hid' hhex
   have hts:=Txt.size_hexTo ws k
   clear hhex
   by_cases hlt:k < 5
   ·have ck:=HC.out k hlt
    have hsz:=HSZ.out k
    have HX:=hid' (is_hex (ws.getD k Txt.em) w (by omega))
    cases hx:Txt.isHex (ws.getD k Txt.em) with
    | false =>
     have hE:Txt.hashErr ws st.h = 3:=by
      unfold Txt.hashErr
      rw [if_neg (by omega),if_pos (Txt.hexedB_no (fun h => by have:=h k hlt;rw [hx] at this;cases this))]
     rw [hE] at H
     rw [hx] at HX
     clear hx hE
     generalize ws.getD k Txt.em = sk at *
     generalize Txt.hexTo ws k = tk at *
     go_wp2_with (go_at_call 188;refine HX.out.mono ?_;rintro e w' ⟨rfl,rfl⟩)
     go_ret
     exact ⟨ret_int H.out.symm,no_err H.out (by decide),Below.refl _ _⟩
    | true =>
     have h8:(ws.getD k Txt.em).size ≤ 8:=by have:=(Txt.isHex_is hx).1;omega
     have hfw:=full_hex (ws.getD k Txt.em) w h8
     rw [← Txt.word_of hx] at hfw
     have HFW:=hid' hfw
     have HK:Hid (Txt.hexTo ws (k + 1) = Txt.hexTo ws k ++ Txt.word (ws.getD k Txt.em)):=rfl
     have hws:=Txt.size_word (s:=ws.getD k Txt.em)
     have HH2:Hid (Txt.Hexed ws (k + 1)):=fun i hi => by
      by_cases e:i = k
      ·subst e;exact hx
      ·exact HHX.out i (by omega)
     rw [hx] at HX
     clear hx hfw
     generalize ws.getD k Txt.em = sk at *
     generalize Txt.hexTo ws k = tk at *
     generalize Txt.word sk = wk at *
     go_wp2_with (first
      | (go_at_call 188;refine HX.out.mono ?_;rintro e w' ⟨rfl,rfl⟩)
      | (go_at_call 189;refine HFW.out.mono ?_;rintro e w' ⟨rfl,rfl⟩))
     exact ⟨⟨k + 1,by omega,by go_num,by rw [HK.out],HH2.out⟩,by simp [intOf];omega⟩
   ·have ek:k = 5:=by omega
    have hD:¬ (Txt.hexedB ws 5 = false):=by
     rw [(Txt.hexedB_iff ws 5).2 (by rw [← ek];exact HHX.out)];decide
    by_cases hb:st.h = Txt.em
    ·have hE:Txt.hashErr ws st.h = 0:=by unfold Txt.hashErr;rw [if_neg (by omega),if_neg hD,if_neg (by simpa using hb)]
     rw [hE] at H
     have HT:Hid (Txt.hexTo ws k = Txt.hexTo ws 5):=by show _ = _;rw [ek]
     rw [hb] at c2 HR
     clear hE hD ek
     generalize Txt.hexTo ws k = tk at *
     go_wp2
     go_ret
     refine ⟨ret_int H.out.symm,fun h => ?_,(Below.refl bR _).setCell (p:=⟨bR,2,none⟩) (Nat.le_refl _) _⟩
     rw [HS.out,← HT.out]
     have e1:=heap_setCell_same _ bR 2 _ _ (.string tk) HR.out
     exact ⟨lv,by simpa using e1,own_set (p:=⟨bR,2,none⟩) HO.out HR.out (by decide) _⟩
    ·have hE:Txt.hashErr ws st.h = 4:=by unfold Txt.hashErr;rw [if_neg (by omega),if_neg hD,if_pos hb]
     rw [hE] at H
     have hbe:=em_test hb
     clear hE hD ek hb
     generalize Txt.hexTo ws k = tk at *
     go_wp2
     go_ret
     exact ⟨ret_int H.out.symm,no_err H.out (by decide),Below.refl _ _⟩
 ·have hE:Txt.hashErr ws st.h = 3:=by unfold Txt.hashErr;rw [if_pos h5]
  rw [hE] at H
  obtain ⟨ao,cap,rfl⟩:=hW.form
  have h5':((ws.length:Int) != 5) = true:=bne_iff_ne.2 (by omega)
  clear h5 hW hE
  go_enter Tryz.func163,Tryz.ntmps163
  go_wp2
  go_ret
  exact ⟨ret_int H.out.symm,no_err H.out (by decide),Below.refl _ _⟩
def Shows (b:Nat) (s:Sv) (w:World):Prop :=
 Calls Tryz.prog 59 #[.pointer (some ⟨b,0,none⟩)] w fun e w' => ∃ dv cv,e = .returned (.agg #[.int .i64 s.ns,.int .i64 s.nf,.bool s.ld,.int .i64 s.up,.int .i64 s.ex,dv,cv,.int .i64 s.ref]) ∧
  w'.ownsRow w.heap.size 84 2 dv s.done.length (flat s.done) ∧ w'.ownsRow w.heap.size 121 5 cv s.com.length (flatC s.com) ∧ Below w.heap.size w w'
def PDoes (P:Nat → Sv → (Nat → Prop) → World → Prop) (fn:FuncId) (args:Nat → Array Value) (s s':Sv) (ev:Int) (G:World → Prop):Prop:=∀ b F W,P b s F W → G W →
 Calls Tryz.prog fn (args b) W fun e w' => e = .returned (.int .i64 ev) ∧ ∃ F',P b s' F' w' ∧ Off F W w' ∧ ∀ k,F' k → F k ∨ W.heap.size ≤ k
def PNewP (P:Nat → Sv → (Nat → Prop) → World → Prop) (cf:Bool) (s:Sv) (w:World) (e:Ending) (w':World):Prop :=
 (cf = false → e = .returned (.tuple #[.pointer none,.int .i64 10]) ∧ Below w.heap.size w w') ∧ (cf = true → ∃ b F,e = .returned (.tuple #[.pointer (some ⟨b,0,none⟩),.int .i64 0]) ∧ P b s F w' ∧ (∀ k,F k → w.heap.size ≤ k) ∧ Below w.heap.size w w')
def PNews (P:Nat → Sv → (Nat → Prop) → World → Prop) (mode win src fresh s f:Int):Prop:=∀ W,Calls Tryz.prog 53 #[.agg #[.int .i64 mode,.int .i64 win,.int .i64 src,.int .i64 fresh,.int .i64 s,.int .i64 f]] W fun e w' => PNewP P (cfgB mode win src fresh s f) (Sv.init mode win fresh s f src.toNat) W e w'
def PLoads (P:Nat → Sv → (Nat → Prop) → World → Prop) (t:ByteArray) (s s':Sv) (ev nv:Int) (G:World → Prop):Prop:=∀ b F W,P b s F W → G W →
 Calls Tryz.prog 64 #[.pointer (some ⟨b,0,none⟩),.string t] W fun e w' => e = .returned (.tuple #[.int .i64 ev,.int .i64 nv]) ∧ ∃ F',P b s' F' w' ∧ Off F W w' ∧ ∀ k,F' k → F k ∨ W.heap.size ≤ k
def Tells (fn:FuncId) (b:Nat) (ts tf li er:Int) (w:World):Prop :=
 Calls Tryz.prog fn #[.pointer (some ⟨b,0,none⟩)] w fun e w' => e = .returned (.tuple #[.agg #[.int .i64 ts,.int .i64 tf],.int .i64 li,.int .i64 er]) ∧ Below w.heap.size w w'
def Ans (fn:FuncId) (b:Nat) (p sv:ByteArray) (er:Int) (w:World):Prop :=
 Calls Tryz.prog fn #[.pointer (some ⟨b,0,none⟩),.string p] w fun e w' => e = .returned (.tuple #[.string sv,.int .i64 er]) ∧ Below w.heap.size w w'
def cmP (c:Cm):Int × Int:=(c.a,c.o)
def Sv.all (x:Sv):List (Int × Int):=x.done ++ x.com.map cmP
structure Sv.Bg (x:Sv) (T s f:Int):Prop where
 f0:0 ≤ f
 f1:f < 4294967296
 hi:s < T ∨ (s = T ∧ f ≤ 0)
 lo:T - x.win ≤ s
 now:s < x.ns ∨ (s = x.ns ∧ f ≤ x.nf)
 ov:(s + x.win < x.ns ∨ (s + x.win = x.ns ∧ f ≤ x.nf)) ∨ T - x.win / 2 ≤ s
structure Sv.Cg (x:Sv) (T:Int) (c:Cm):Prop where
 f0:0 ≤ c.bf
 f1:c.bf < 4294967296
 hi:c.bs < T ∨ (c.bs = T ∧ c.bf ≤ 0)
 lo:T - x.win / 2 ≤ c.bs
structure Sv.Mid (x:Sv):Prop where
 fit:Tab.Fit x.all
 pos:0 < x.done.length
 first:Tab.when x.all 0 ≤ x.ns
 bl:x.began.length = x.done.length
 bg:∀ i,i < x.done.length → x.Bg (Tab.when x.all i) (x.began.getD i (0,0)).1 (x.began.getD i (0,0)).2
 cg:∀ i c,x.com[i]? = some c → x.Cg (Tab.when x.all (x.done.length + i)) c
structure Sv.Num (x:Sv):Prop where
 mode:(x.mode = 0 ∧ x.win = 0) ∨ ((x.mode = 1 ∨ x.mode = 2) ∧ 3600 ≤ x.win ∧ x.win ≤ 604800 ∧ x.win.tmod 2 = 0)
 f0:1 ≤ x.fresh
 f1:x.fresh ≤ 604800
 t:isT x.ns x.nf = true
 sl:x.said.length ≤ 8
 sok:∀ h ∈ x.said,h.Ok ∧ 0 ≤ h.leap ∧ h.leap ≤ 3
 r0:0 ≤ x.ref
theorem Sv.Num.win {x:Sv} (h:x.Num):0 ≤ x.win ∧ x.win ≤ 604800:=by
 rcases h.mode with ⟨_,a⟩ | ⟨_,a,b,_⟩ <;> omega
structure Sv.Inv (x:Sv):Prop where
 num:x.Num
 no:x.ld = false → x.done = [] ∧ x.began = [] ∧ x.com = [] ∧ x.up = 0 ∧ x.ex = 0
 mid:x.ld = true → x.Mid
 lat:x.ld = true → ∀ c ∈ x.com,tLater c.bs c.bf x.ns x.nf = true
 ex:x.ld = true → 0 ≤ x.up ∧ x.up < x.ex ∧ x.ex ≤ 34000000000
 fl:x.ld = true → (∀ c ∈ x.com,c.v = false) ∨ ∃ c,x.com = [c] ∧ c.v = true
theorem not_later {s f z g:Int} (h:tLater s f z g = false):s < z ∨ (s = z ∧ f ≤ g):=by
 have:=of_decide_eq_false h;omega
theorem is_later {s f z g:Int} (h:tLater s f z g = true):z < s ∨ (s = z ∧ g < f):=of_decide_eq_true h
theorem Sv.all_one (x:Sv) (c:Cm) (r:List Cm) (hc:x.com = c :: r):(x.one c r).all = x.all:=by
 unfold Sv.all Sv.one;simp [hc,cmP]
theorem Sv.all_length (x:Sv):x.all.length = x.done.length + x.com.length:=by simp [Sv.all]
theorem getD_leftI (l r:List (Int × Int)) (i:Nat) (hi:i < l.length):(l ++ r).getD i (0,0) = l.getD i (0,0):=Tab.getD_left l r i hi
theorem getD_new (l:List (Int × Int)) (p:Int × Int):(l ++ [p]).getD l.length (0,0) = p:=by
 rw [List.getD_eq_getElem?_getD];simp
theorem Sv.Mid.one {x:Sv} (h:x.Mid) (c:Cm) (r:List Cm) (hc:x.com = c :: r) (hl:tLater c.bs c.bf x.ns x.nf = false) (w0:0 ≤ x.win):(x.one c r).Mid:=by
 have ha:=x.all_one c r hc
 have c0:=h.cg 0 c (by rw [hc];rfl)
 have nl:=not_later hl
 have e1:(x.one c r).done = x.done ++ [(c.a,c.o)]:=rfl
 have e2:(x.one c r).began = x.began ++ [(c.bs,c.bf)]:=rfl
 refine ⟨by rw [ha];exact h.fit,by rw [e1];simp,by rw [ha];exact h.first,by rw [e1,e2];simp [h.bl],fun i hi => ?_,fun i d hd => ?_⟩
 ·rw [ha,e2]
  rw [e1,List.length_append,List.length_singleton] at hi
  by_cases e:i = x.done.length
  ·subst e
   rw [← h.bl,getD_new,h.bl]
   exact ⟨c0.f0,c0.f1,c0.hi,by have:=c0.lo;show _ - x.win ≤ _;simp only [Nat.add_zero] at this;omega,nl,.inr c0.lo⟩
  ·rw [getD_leftI _ _ _ (by rw [h.bl];omega)]
   have b:=h.bg i (by omega)
   exact ⟨b.f0,b.f1,b.hi,b.lo,b.now,b.ov⟩
 ·rw [ha,e1,List.length_append,List.length_singleton,Nat.add_assoc,Nat.add_comm 1 i]
  have d':=h.cg (i + 1) d (by rw [hc];exact hd)
  exact ⟨d'.f0,d'.f1,d'.hi,d'.lo⟩
theorem Sv.Mid.order {x:Sv} (h:x.Mid) (w0:0 ≤ x.win) (w1:x.win ≤ 604800) (i j:Nat) (c d:Cm) (hij:i < j) (hc:x.com[i]? = some c) (hd:x.com[j]? = some d):c.bs < d.bs:=by
 have a:=h.cg i c hc
 have b:=h.cg j d hd
 have lj:j < x.com.length:=by
  by_cases q:j < x.com.length
  ·exact q
  ·rw [List.getElem?_eq_none (by omega)] at hd;cases hd
 have t:=h.fit.when_lt (x.done.length + i) (x.done.length + j) (by omega) (by rw [x.all_length];omega)
 have:=a.hi
 have:=b.lo
 omega
structure Sv.Begun (x y:Sv):Prop where
 mid:y.Mid
 lat:∀ c ∈ y.com,tLater c.bs c.bf x.ns x.nf = true
 same:y = { x with done:=y.done,began:=y.began,com:=y.com }
 all:y.all = x.all
 drop:∃ k,y.com = x.com.drop k
theorem Sv.Mid.begun {x:Sv} (h:x.Mid) (w0:0 ≤ x.win) (w1:x.win ≤ 604800):x.Begun x.begun:=by
 generalize hn:x.com.length = n
 induction n generalizing x with
 | zero =>
  have hc:x.com = []:=List.eq_nil_of_length_eq_zero hn
  rw [x.begun_end hc]
  exact ⟨h,(by rw [hc];intro c q;cases q),rfl,rfl,0,rfl⟩
 | succ n ih =>
  cases hc:x.com with
  | nil => rw [hc] at hn;cases hn
  | cons c r =>
   by_cases hl:tLater c.bs c.bf x.ns x.nf = true
   ·rw [x.begun_stop c r hc hl]
    refine ⟨h,fun d hd => ?_,rfl,rfl,0,rfl⟩
    obtain ⟨i,hi,rfl⟩:=List.getElem_of_mem hd
    by_cases z:i = 0
    ·subst z
     have:x.com[0] = c:=by simp [hc]
     rw [this];exact hl
    ·have o:=h.order w0 w1 0 i c x.com[i] (by omega) (by rw [hc];rfl) (List.getElem?_eq_getElem hi)
     have q:=is_later hl
     exact decide_eq_true (by omega)
   ·have hl':tLater c.bs c.bf x.ns x.nf = false:=by simpa using hl
    rw [x.begun_one c r hc hl']
    have g:=ih (h.one c r hc hl' w0) w0 w1 (by show r.length = n;rw [hc] at hn;simpa using hn)
    refine ⟨g.mid,g.lat,?_,g.all.trans (x.all_one c r hc),?_⟩
    ·rw [g.same];rfl
    ·obtain ⟨k,hk⟩:=g.drop
     exact ⟨k + 1,by rw [hk,hc];rfl⟩
theorem Sv.Mid.doneFit {x:Sv} (h:x.Mid):Tab.Fit x.done:=h.fit.left h.pos
theorem Sv.Mid.firstD {x:Sv} (h:x.Mid):Tab.when x.done 0 ≤ x.ns:=by
 have:=h.first
 unfold Sv.all at this
 rwa [Tab.when_append _ _ _ h.pos] at this
theorem Sv.Num.t' {x:Sv} (h:x.Num):0 ≤ x.ns ∧ x.ns ≤ 34000000000 ∧ 0 ≤ x.nf ∧ x.nf < 4294967296:=isT_bd h.t
theorem Sv.Mid.can {x:Sv} (h:x.Mid) (hn:x.Num):x.Can:=by
 obtain ⟨t0,t1,_,_⟩:=hn.t'
 have w:=hn.win
 have g:=h.fit.good.len
 rw [x.all_length] at g
 have u:=h.doneFit.utc_bd x.ns h.firstD
 have l:=h.doneFit.lastAt_le x.ns h.firstD
 have f0:=hn.f0
 have f1:=hn.f1
 have sl:=hn.sl
 exact ⟨h.doneFit.good.fine,by omega,l.1,t0,t1,u.1,by unfold Sv.utc;omega,by omega,fun q hq => (hn.sok q hq).1,by omega,by omega,w.1,by omega,by rw [h.bl];omega,by omega⟩
theorem Sv.Num.of {x y:Sv} (h:x.Num) (hs:y = { x with done:=y.done,began:=y.began,com:=y.com }):y.Num:=by
 rw [hs];exact ⟨h.mode,h.f0,h.f1,h.t,h.sl,h.sok,h.r0⟩
theorem Sv.Mid.none {x:Sv} (h:x.Mid):({ x with com:=[] }:Sv).Mid:=by
 have ha:({ x with com:=[] }:Sv).all = x.done:=by simp [Sv.all]
 have wa:∀ i,i < x.done.length → Tab.when x.all i = Tab.when x.done i:=fun i hi => Tab.when_append _ _ _ hi
 refine ⟨by rw [ha];exact h.doneFit,h.pos,by rw [ha];exact h.firstD,h.bl,fun i hi => ?_,fun i c hc => by simp at hc⟩
 rw [ha]
 have b:=h.bg i hi
 rw [wa i hi] at b
 exact ⟨b.f0,b.f1,b.hi,b.lo,b.now,b.ov⟩
theorem Sv.opens_cg {x:Sv} {T:Int} (hn:x.Num) (hT:x.ns < T) (a o:Int) (v:Bool):x.Cg T ⟨a,o,(x.opens T).1,(x.opens T).2,v⟩:=by
 obtain ⟨t0,t1,t2,t3⟩:=hn.t'
 have w:=hn.win
 unfold Sv.opens
 split
 ·rename_i q
  have:=is_later q
  exact ⟨t2,t3,.inl hT,by show _ - x.win / 2 ≤ x.ns;omega⟩
 ·exact ⟨by simp,by simp,by simp only;omega,by simp⟩
theorem Sv.old_eq {x:Sv}:x.old = (x.done.getD (x.done.length - 1) (0,0)).2:=rfl
theorem Sv.Mid.vote {x:Sv} (h:x.Mid) (hn:x.Num) (ho:x.okN = true) (hw:x.ns < x.whenN):({ x with com:=[⟨x.atN,x.old + x.sign,(x.opens x.whenN).1,(x.opens x.whenN).2,true⟩] }:Sv).Mid:=by
 have hf:Tab.follows x.done x.atN (x.old + x.sign) = true:=by
  unfold Sv.okN at ho
  simp only [Bool.and_eq_true] at ho
  exact ho.2
 have hs0:x.sign ≠ 0:=by
  unfold Sv.okN at ho
  simp only [Bool.and_eq_true,bne_iff_ne,ne_eq] at ho
  exact ho.1.2
 have hF:=h.doneFit.grow hf
 have ha:({ x with com:=[⟨x.atN,x.old + x.sign,(x.opens x.whenN).1,(x.opens x.whenN).2,true⟩] }:Sv).all = x.done ++ [(x.atN,x.old + x.sign)]:=by simp only [Sv.all,List.map_cons,List.map_nil,cmP]
 have wa:∀ i,i < x.done.length → Tab.when x.all i = Tab.when x.done i:=fun i hi => Tab.when_append _ _ _ hi
 have wT:Tab.when (x.done ++ [(x.atN,x.old + x.sign)]) x.done.length = x.whenN:=by
  unfold Tab.when Sv.whenN
  rw [getD_new,getD_leftI _ _ (x.done.length - 1) (by have:=h.pos;omega),← x.old_eq]
  have hp:=h.pos
  rcases x.sign_bd with e | e | e
  ·rw [e,if_pos (by simp only;omega),if_neg (by omega)]
  ·rw [e,if_neg (by simp only;omega),if_pos (by omega)]
   simp only;omega
  ·exact absurd e hs0
 refine ⟨by rw [ha];exact hF,h.pos,?_,h.bl,fun i hi => ?_,fun i c hc => ?_⟩
 ·rw [ha,Tab.when_append _ _ _ h.pos];exact h.firstD
 ·rw [ha,Tab.when_append _ _ _ hi]
  have b:=h.bg i hi
  rw [wa i hi] at b
  exact ⟨b.f0,b.f1,b.hi,b.lo,b.now,b.ov⟩
 ·cases i with
  | zero =>
   simp only [List.getElem?_cons_zero,Option.some.injEq] at hc
   subst hc
   rw [ha,Nat.add_zero]
   show Sv.Cg _ (Tab.when (x.done ++ [(x.atN,x.old + x.sign)]) x.done.length) _
   rw [wT]
   have q:=Sv.opens_cg hn hw x.atN (x.old + x.sign) true
   exact ⟨q.f0,q.f1,q.hi,q.lo⟩
  | succ i => simp at hc
structure Sv.Round (x y:Sv):Prop where
 mid:y.Mid
 lat:∀ c ∈ y.com,tLater c.bs c.bf x.ns x.nf = true
 same:y = { x with done:=y.done,began:=y.began,com:=y.com }
 fl:(∀ c ∈ y.com,c.v = false) ∨ ∃ c,y.com = [c] ∧ c.v = true
theorem drop_one {c:Cm} (k:Nat):[c].drop k = [c] ∨ [c].drop k = []:=by
 cases k with
 | zero => exact .inl rfl
 | succ k => exact .inr (by simp)
theorem Sv.Mid.weigh {x:Sv} (h:x.Mid) (hn:x.Num) (hl:x.ld = true) (hf:(∀ c ∈ x.com,c.v = false) ∨ ∃ c,x.com = [c] ∧ c.v = true):x.Round x.weigh:=by
 obtain ⟨w0,w1⟩:=hn.win
 have b:=h.begun w0 w1
 have hf':(∀ c ∈ x.begun.com,c.v = false) ∨ ∃ c,x.begun.com = [c] ∧ c.v = true:=by
  obtain ⟨k,hk⟩:=b.drop
  rw [hk]
  rcases hf with hf | ⟨c,hc,hv⟩
  ·exact .inl fun c q => hf c (List.mem_of_mem_drop q)
  ·rw [hc]
   rcases drop_one (c:=c) k with e | e
   ·exact .inr ⟨c,e,hv⟩
   ·rw [e];exact .inl fun c q => by cases q
 unfold Sv.weigh
 rw [if_neg (by rw [hl];simp)]
 by_cases c1:x.begun.filed = true
 ·rw [if_pos c1]
  exact ⟨b.mid,b.lat,b.same,hf'⟩
 ·rw [if_neg c1]
  have hnb:=hn.of b.same
  have en:x.begun.ns = x.ns:=by rw [b.same]
  have ef:x.begun.nf = x.nf:=by rw [b.same]
  have ew:x.begun.win = x.win:=by rw [b.same]
  have bm:=b.mid
  have bs:=b.same
  generalize x.begun = z at *
  unfold Sv.voted
  split
  ·refine ⟨bm.none,(by intro c q;cases q),?_,.inl (by intro c q;cases q)⟩
   rw [bs]
  ·rename_i q
   have q1:z.okN = true:=by
    cases e:z.okN with
    | true => rfl
    | false => exact absurd (.inl e) q
   have q2:z.ns < z.whenN:=by
    by_cases e:z.whenN ≤ z.ns
    ·exact absurd (.inr e) q
    ·omega
   have v:=bm.vote hnb q1 q2
   have g:=v.begun (by rw [show ({ z with com:=[⟨z.atN,z.old + z.sign,(z.opens z.whenN).1,(z.opens z.whenN).2,true⟩] }:Sv).win = z.win from rfl,ew];exact w0) (by rw [show ({ z with com:=[⟨z.atN,z.old + z.sign,(z.opens z.whenN).1,(z.opens z.whenN).2,true⟩] }:Sv).win = z.win from rfl,ew];exact w1)
   refine ⟨g.mid,fun c hc => by have:=g.lat c hc;rw [← en,← ef];exact this,?_,?_⟩
   ·have e1:=g.same
    generalize Sv.begun _ = y at *
    rw [e1,bs]
   ·obtain ⟨k,hk⟩:=g.drop
    rw [hk]
    rcases drop_one (c:=(⟨z.atN,z.old + z.sign,(z.opens z.whenN).1,(z.opens z.whenN).2,true⟩:Cm)) k with e | e
    ·exact .inr ⟨_,e,rfl⟩
    ·exact .inl (by rw [e];intro c q;cases q)
theorem Sv.Mid.inv {x:Sv} (h:x.Mid) (hn:x.Num) (hl:x.ld = true) (hf:(∀ c ∈ x.com,c.v = false) ∨ ∃ c,x.com = [c] ∧ c.v = true) (hx:0 ≤ x.up ∧ x.up < x.ex ∧ x.ex ≤ 34000000000):x.weigh.Inv:=by
 have r:=h.weigh hn hl hf
 have nn:=hn.of r.same
 have m:=r.mid
 have la:=r.lat
 have fl:=r.fl
 have s:=r.same
 generalize x.weigh = y at *
 have e1:y.ld = x.ld:=by rw [s]
 have e2:y.ns = x.ns:=by rw [s]
 have e3:y.nf = x.nf:=by rw [s]
 have e4:y.up = x.up:=by rw [s]
 have e5:y.ex = x.ex:=by rw [s]
 exact ⟨nn,fun q => (by rw [e1,hl] at q;cases q),fun _ => m,fun _ c hc => (by rw [e2,e3];exact la c hc),fun _ => (by rw [e4,e5];exact hx),fun _ => fl⟩
theorem Sv.Mid.at' {x:Sv} (h:x.Mid) (s f:Int) (hl:tLater x.ns x.nf s f = false):(x.at' s f).Mid:=by
 have ha:(x.at' s f).all = x.all:=rfl
 have nl:=not_later hl
 refine ⟨h.fit,h.pos,by rw [ha];have:=h.first;show _ ≤ s;omega,h.bl,fun i hi => ?_,fun i c hc => ?_⟩
 ·have b:=h.bg i hi
  rw [ha]
  refine ⟨b.f0,b.f1,b.hi,b.lo,?_,?_⟩
  ·have:=b.now;show _ < s ∨ _ = s ∧ _ ≤ f;show (x.began.getD i (0,0)).1 < s ∨ (x.began.getD i (0,0)).1 = s ∧ (x.began.getD i (0,0)).2 ≤ f;omega
  ·have:=b.ov
   show ((x.began.getD i (0,0)).1 + x.win < s ∨ (x.began.getD i (0,0)).1 + x.win = s ∧ (x.began.getD i (0,0)).2 ≤ f) ∨ Tab.when x.all i - x.win / 2 ≤ (x.began.getD i (0,0)).1
   omega
 ·have d:=h.cg i c hc
  exact ⟨d.f0,d.f1,d.hi,d.lo⟩
theorem Sv.Num.at' {x:Sv} (h:x.Num) {s f:Int} (ht:isT s f = true):(x.at' s f).Num:=⟨h.mode,h.f0,h.f1,ht,h.sl,h.sok,h.r0⟩
theorem tSum_later {a b s f:Int} (h:isT s f = true) (hb:isT a b = true):tLater a b (tSum a b s f).1 (tSum a b s f).2 = false:=by
 obtain ⟨s0,s1,f0,f1⟩:=isT_bd h
 obtain ⟨n0,n1,m0,m1⟩:=isT_bd hb
 unfold tLater tSum
 refine decide_eq_false (fun h => ?_)
 simp only at h
 omega
theorem Sv.Inv.adv {x:Sv} (h:x.Inv) (s f:Int):(x.adv s f).2.Inv:=by
 unfold Sv.adv
 split
 ·exact h
 ·rename_i c1
  have c1':isT s f = true:=by simpa using c1
  split
  ·exact h
  ·rename_i c2
   have c2':isT (tSum x.ns x.nf s f).1 (tSum x.ns x.nf s f).2 = true:=by simpa using c2
   have hl:=tSum_later c1' h.num.t
   generalize tSum x.ns x.nf s f = q at *
   cases hd:x.ld with
   | true => exact ((h.mid hd).at' _ _ hl).inv (h.num.at' c2') hd (h.fl hd) (h.ex hd)
   | false =>
    show ((x.at' q.1 q.2).weigh).Inv
    unfold Sv.weigh
    rw [if_pos (by exact hd)]
    exact ⟨h.num.at' c2',fun _ => h.no hd,fun e => (by have e':x.ld = true:=e;rw [hd] at e';cases e'),fun e => (by have e':x.ld = true:=e;rw [hd] at e';cases e'),fun e => (by have e':x.ld = true:=e;rw [hd] at e';cases e'),fun e => (by have e':x.ld = true:=e;rw [hd] at e';cases e')⟩
theorem Sv.Inv.canAdv {x:Sv} (h:x.Inv) (a c:Int) (ht:isT a c = true) (hl:x.ld = true) (hla:tLater x.ns x.nf a c = false):(x.at' a c).begun.Can:=by
 have m:=(h.mid hl).at' a c hla
 have nn:=h.num.at' ht
 have w:=h.num.win
 have b:=m.begun (x:=x.at' a c) w.1 w.2
 exact b.mid.can (nn.of b.same)
theorem Sv.Inv.lens {x:Sv} (h:x.Inv):x.done.length + x.com.length ≤ 40 ∧ x.began.length = x.done.length:=by
 cases hd:x.ld with
 | true =>
  have g:=(h.mid hd).fit.good.len
  rw [x.all_length] at g
  exact ⟨g,(h.mid hd).bl⟩
 | false =>
  obtain ⟨a,b,c,_⟩:=h.no hd
  rw [a,b,c];simp
theorem Sv.Inv.refuse {x:Sv} (h:x.Inv):x.refuse.Inv :=
 ⟨⟨h.num.mode,h.num.f0,h.num.f1,h.num.t,h.num.sl,h.num.sok,by have:=h.num.r0;show 0 ≤ x.ref + 1;omega⟩,h.no,fun e => by
  have m:=h.mid e
  exact ⟨m.fit,m.pos,m.first,m.bl,fun i hi => by have b:=m.bg i hi;exact ⟨b.f0,b.f1,b.hi,b.lo,b.now,b.ov⟩,fun i c hc => by have b:=m.cg i c hc;exact ⟨b.f0,b.f1,b.hi,b.lo⟩⟩,h.lat,h.ex,h.fl⟩
theorem Sv.says_mid {x:Sv} (m:x.Mid) (k:Nat) (leap:Int):(x.says k leap).Mid :=
 ⟨m.fit,m.pos,m.first,m.bl,fun i hi => by have b:=m.bg i hi;exact ⟨b.f0,b.f1,b.hi,b.lo,b.now,b.ov⟩,fun i c hc => by have b:=m.cg i c hc;exact ⟨b.f0,b.f1,b.hi,b.lo⟩⟩
theorem Sv.says_num {x:Sv} (h:x.Num) (k:Nat) (leap:Int) (l0:0 ≤ leap) (l1:leap ≤ 3):(x.says k leap).Num:=by
 refine ⟨h.mode,h.f0,h.f1,h.t,by show (x.said.set k _).length ≤ 8;rw [List.length_set];exact h.sl,fun q hq => ?_,h.r0⟩
 rcases List.mem_or_eq_of_mem_set (show q ∈ x.said.set k _ from hq) with e | e
 ·exact h.sok q e
 ·subst e
  exact ⟨h.t',l0,l1⟩
theorem Sv.Inv.hear {x:Sv} (h:x.Inv) (src leap:Int):(x.hear src leap).2.Inv:=by
 unfold Sv.hear
 split
 ·exact h
 ·split
  ·exact h
  ·rename_i c2
   have nn:=Sv.says_num h.num src.toNat leap (by omega) (by omega)
   cases hd:x.ld with
   | true => exact (Sv.says_mid (h.mid hd) src.toNat leap).inv nn hd (h.fl hd) (h.ex hd)
   | false =>
    show ((x.says src.toNat leap).weigh).Inv
    unfold Sv.weigh
    rw [if_pos (by exact hd)]
    exact ⟨nn,fun _ => h.no hd,fun e => (by have e':x.ld = true:=e;rw [hd] at e';cases e'),fun e => (by have e':x.ld = true:=e;rw [hd] at e';cases e'),fun e => (by have e':x.ld = true:=e;rw [hd] at e';cases e'),fun e => (by have e':x.ld = true:=e;rw [hd] at e';cases e')⟩
end Go.Proofs.YtmmkhodaljpjgaaGreatDoor
