import Derived.Test.YtmmkhodaljpjgaaGreatDoorV06
import Derived.Test.YtmmkhodaljpjgaaGreatDoorV05
import Derived.Handy
import Derived.Deep.QuietTactic
import Derived.BigQuiet
namespace Go.Proofs.YtmmkhodaljpjgaaGreatDoor
open Go.RowKit
namespace Txt
abbrev em:ByteArray:=⟨#[]⟩
structure St where
 u:ByteArray
 x:ByteArray
 h:ByteArray
 ls:List (Int × Int)
 dg:ByteArray
def once (ws:List ByteArray) (before:ByteArray):Int :=
 if ws.length ≠ 1 then 3 else if isNum (ws.getD 0 em) = false then 3 else if before ≠ em then 4 else 0
def hexTo (ws:List ByteArray):Nat → ByteArray
 | 0 => em
 | k + 1 => hexTo ws k ++ word (ws.getD k em)
def Hexed (ws:List ByteArray) (k:Nat):Prop:=∀ i,i < k → isHex (ws.getD i em) = true
def hexedB (ws:List ByteArray):Nat → Bool
 | 0 => true
 | k + 1 => hexedB ws k && isHex (ws.getD k em)
theorem hexedB_iff (ws:List ByteArray) (k:Nat):hexedB ws k = true ↔ Hexed ws k:=by
 induction k with
 | zero => exact ⟨fun _ i hi => by omega,fun _ => rfl⟩
 | succ k ih =>
  simp only [hexedB,Bool.and_eq_true]
  rw [ih]
  refine ⟨fun h i hi => ?_,fun h => ⟨fun i hi => h i (by omega),h k (by omega)⟩⟩
  by_cases e:i = k
  ·subst e;exact h.2
  ·exact h.1 i (by omega)
theorem hexedB_no {ws:List ByteArray} {k:Nat} (h:¬ Hexed ws k):hexedB ws k = false:=by
 cases e:hexedB ws k with
 | false => rfl
 | true => exact absurd ((hexedB_iff ws k).1 e) h
def hashErr (ws:List ByteArray) (before:ByteArray):Int :=
 if ws.length ≠ 5 then 3 else if hexedB ws 5 = false then 3 else if before ≠ em then 4 else 0
def entryErr (ls:List (Int × Int)) (ws:List ByteArray):Int :=
 if ws.length = 0 then 0 else if ws.length < 2 then 3 else if isNum (ws.getD 0 em) = false then 3 else if isNum (ws.getD 1 em) = false then 3
 else if 2 < ws.length ∧ beg (ws.getD 2 em) ⟨#[35]⟩ = false then 3
 else if Tab.follows ls (numTo (ws.getD 0 em) (ws.getD 0 em).size) (numTo (ws.getD 1 em) (ws.getD 1 em).size) = false then 5 else 0
def entryOf (ws:List ByteArray):Int × Int:=(numTo (ws.getD 0 em) (ws.getD 0 em).size,numTo (ws.getD 1 em) (ws.getD 1 em).size)
def takeU (st:St) (ws:List ByteArray):Int × St:=(once ws st.u,{ st with u:=ws.getD 0 em,dg:=st.dg ++ ws.getD 0 em })
def takeX (st:St) (ws:List ByteArray):Int × St:=(once ws st.x,{ st with x:=ws.getD 0 em,dg:=st.dg ++ ws.getD 0 em })
def takeH (st:St) (ws:List ByteArray):Int × St:=(hashErr ws st.h,{ st with h:=hexTo ws 5 })
def takeE (st:St) (ws:List ByteArray):Int × St :=
 (entryErr st.ls ws,if ws.length = 0 then st else { st with ls:=st.ls ++ [entryOf ws],dg:=st.dg ++ (ws.getD 0 em ++ ws.getD 1 em) })
def line (st:St) (s:ByteArray):Int × St :=
 if beg s ⟨#[35,36]⟩ = true then takeU st (words (s.extract 2 s.size))
 else if beg s ⟨#[35,64]⟩ = true then takeX st (words (s.extract 2 s.size))
 else if beg s ⟨#[35,104]⟩ = true then takeH st (words (s.extract 2 s.size))
 else if beg s ⟨#[35]⟩ = true then (0,st) else takeE st (words s)
structure Ok (st:St) (n:Nat):Prop where
 dg:st.dg.size ≤ 22 * n
 u:st.u = em ∨ isNum st.u = true
 x:st.x = em ∨ isNum st.x = true
 ls:Tab.okUpTo st.ls st.ls.length = true
 len:st.ls.length ≤ 40
 wf:∀ p ∈ st.ls,WfP p
 off:∀ p ∈ st.ls,0 ≤ p.2 ∧ p.2 ≤ 200
 h:st.h.size ≤ 40
theorem once_cases {ws:List ByteArray} {b:ByteArray} (h:once ws b = 0):ws.length = 1 ∧ isNum (ws.getD 0 em) = true ∧ b = em:=by
 unfold once at h
 split at h
 ·cases h
 ·split at h
  ·cases h
  ·split at h
   ·cases h
   ·rename_i a b c;refine ⟨by omega,by simpa using b,by simpa using c⟩
theorem size_num {s:ByteArray} (h:isNum s = true):s.size ≤ 11:=by have:=(isNum_is h).1;omega
theorem size_word {s:ByteArray}:(word s).size ≤ 8:=by
 cases h:isHex s with
 | false => rw [word_none h];decide
 | true =>
  have h8:=(isHex_is h).1
  rw [word_of h,ByteArray.size_append,ByteArray.size_extract]
  have:noughts.size = 8:=rfl
  omega
theorem size_hexTo (ws:List ByteArray) (k:Nat):(hexTo ws k).size ≤ 8 * k:=by
 induction k with
 | zero => exact Nat.le_refl _
 | succ k ih => rw [hexTo,ByteArray.size_append];have:=size_word (s:=ws.getD k em);omega
end Txt
namespace Txt
def st0:St:=⟨em,em,em,[],em⟩
def run (t:ByteArray):Nat → Nat → Nat → St → Int × Nat × St
 | 0,_,_,st => (0,0,st)
 | f + 1,b,n,st => if b ≤ t.size then (if (line st (t.extract b (eol t b))).1 = 0 then run t f (eol t b + 1) (n + 1) (line st (t.extract b (eol t b))).2 else ((line st (t.extract b (eol t b))).1,n,st)) else (0,0,st)
theorem run_go {t:ByteArray} {f b n:Nat} {st:St} (h:b ≤ t.size) (he:(line st (t.extract b (eol t b))).1 = 0):run t (f + 1) b n st = run t f (eol t b + 1) (n + 1) (line st (t.extract b (eol t b))).2:=by
 rw [run,if_pos h,if_pos he]
theorem run_err {t:ByteArray} {f b n:Nat} {st:St} (h:b ≤ t.size) (he:¬ (line st (t.extract b (eol t b))).1 = 0):run t (f + 1) b n st = ((line st (t.extract b (eol t b))).1,n,st):=by
 rw [run,if_pos h,if_neg he]
theorem run_end {t:ByteArray} {f b n:Nat} {st:St} (h:¬ b ≤ t.size):run t f b n st = (0,0,st):=by
 cases f with
 | zero => rfl
 | succ f => rw [run,if_neg h]
def fin (st:St):Int :=
 if st.u = em ∨ st.x = em ∨ st.h = em ∨ st.ls.length = 0 then 6
 else if Tab.whole (numTo st.u st.u.size) (numTo st.x st.x.size) st.ls = false then 8
 else if ByteArray.mk (Sha.digest st.dg).toArray ≠ st.h then 7 else 0
structure Got where
 up:Int
 ex:Int
 ls:List (Int × Int)
 err:Int
 num:Nat
def done (st:St):Got:=if fin st = 0 then ⟨numTo st.u st.u.size,numTo st.x st.x.size,st.ls,0,0⟩ else ⟨0,0,[],fin st,0⟩
def parse (t:ByteArray):Got :=
 if 2000 < t.size then ⟨0,0,[],2,0⟩
 else if (run t (t.size + 2) 0 0 st0).1 = 0 then done (run t (t.size + 2) 0 0 st0).2.2 else ⟨0,0,[],(run t (t.size + 2) 0 0 st0).1,(run t (t.size + 2) 0 0 st0).2.1⟩
theorem Ok.start:Ok st0 0:=⟨Nat.zero_le _,.inl rfl,.inl rfl,rfl,Nat.zero_le _,fun p h => by simp [st0] at h,fun p h => by simp [st0] at h,Nat.zero_le _⟩
theorem Ok.more {st:St} {n:Nat} (h:Ok st n):Ok st (n + 1):=⟨by have:=h.dg;omega,h.u,h.x,h.ls,h.len,h.wf,h.off,h.h⟩
theorem wf_num {x:Int} (h0:0 ≤ x) (h1:x < 100000000000):(Lit.int .i64 x).wf = true:=by
 simp [Lit.wf,IntKind.min,IntKind.max,IntKind.signed,IntKind.bits]
 omega
theorem follows_len {ls:List (Int × Int)} {a o:Int} (h:Tab.follows ls a o = true) (hl:ls.length ≤ 40):ls.length < 40:=by
 by_cases c:ls.length = 40
 ·rw [Tab.follows_no4 c] at h;cases h
 ·omega
theorem okUpTo_app (ls:List (Int × Int)) (x:Int × Int) (k:Nat) (hk:k ≤ ls.length):Tab.okUpTo (ls ++ [x]) k = Tab.okUpTo ls k:=by
 induction k with
 | zero => rfl
 | succ k ih =>
  rw [Tab.okUpTo_succ _ _ (by simp;omega),Tab.okUpTo_succ _ _ (by omega),ih (by omega),List.take_append_of_le_length (by omega),List.getElem_append_left (by omega)]
theorem entry_cases {ls:List (Int × Int)} {ws:List ByteArray} (h:entryErr ls ws = 0) (h0:¬ ws.length = 0):isNum (ws.getD 0 em) = true ∧ isNum (ws.getD 1 em) = true ∧ Tab.follows ls (entryOf ws).1 (entryOf ws).2 = true:=by
 unfold entryErr at h
 rw [if_neg h0] at h
 split at h
 ·cases h
 ·split at h
  ·cases h
  ·split at h
   ·cases h
   ·split at h
    ·cases h
    ·split at h
     ·cases h
     ·rename_i a b c d e
      exact ⟨by simpa using b,by simpa using c,by simpa [entryOf] using e⟩
theorem Ok.takeU {st:St} {n:Nat} (h:Ok st n) (ws:List ByteArray) (he:(Txt.takeU st ws).1 = 0):Ok (Txt.takeU st ws).2 (n + 1):=by
 have hd:=h.dg
 obtain ⟨_,a,_⟩:=once_cases he
 have z:=size_num a
 show Ok { st with u:=ws.getD 0 em,dg:=st.dg ++ ws.getD 0 em } (n + 1)
 generalize ws.getD 0 em = w0 at *
 exact ⟨by show (st.dg ++ w0).size ≤ _;rw [ByteArray.size_append];omega,.inr a,h.x,h.ls,h.len,h.wf,h.off,h.h⟩
theorem Ok.takeX {st:St} {n:Nat} (h:Ok st n) (ws:List ByteArray) (he:(Txt.takeX st ws).1 = 0):Ok (Txt.takeX st ws).2 (n + 1):=by
 have hd:=h.dg
 obtain ⟨_,a,_⟩:=once_cases he
 have z:=size_num a
 show Ok { st with x:=ws.getD 0 em,dg:=st.dg ++ ws.getD 0 em } (n + 1)
 generalize ws.getD 0 em = w0 at *
 exact ⟨by show (st.dg ++ w0).size ≤ _;rw [ByteArray.size_append];omega,h.u,.inr a,h.ls,h.len,h.wf,h.off,h.h⟩
theorem Ok.takeH {st:St} {n:Nat} (h:Ok st n) (ws:List ByteArray):Ok (Txt.takeH st ws).2 (n + 1):=by
 have hd:=h.dg
 have hz:=size_hexTo ws 5
 show Ok { st with h:=hexTo ws 5 } (n + 1)
 generalize hexTo ws 5 = w0 at *
 exact ⟨by show st.dg.size ≤ _;omega,h.u,h.x,h.ls,h.len,h.wf,h.off,hz⟩
theorem Ok.takeE {st:St} {n:Nat} (h:Ok st n) (ws:List ByteArray) (he:(Txt.takeE st ws).1 = 0):Ok (Txt.takeE st ws).2 (n + 1):=by
 have hd:=h.dg
 unfold Txt.takeE at he ⊢
 simp only at he ⊢
 by_cases c:ws.length = 0
 ·rw [if_pos c];exact h.more
 ·rw [if_neg c]
  obtain ⟨a,b,f⟩:=entry_cases he c
  have za:=size_num a
  have zb:=size_num b
  have na:=numTo_le a
  have nb:=numTo_le b
  have hl:=follows_len f h.len
  have w1:WfP (entryOf ws):=⟨wf_num na.1 na.2,wf_num nb.1 nb.2⟩
  have o1:=Tab.follows_off f
  generalize entryOf ws = E at *
  generalize ws.getD 0 em = s0 at *
  generalize ws.getD 1 em = s1 at *
  refine ⟨?_,h.u,h.x,?_,?_,?_,?_,h.h⟩
  ·show (st.dg ++ (s0 ++ s1)).size ≤ _
   rw [ByteArray.size_append,ByteArray.size_append];omega
  ·show Tab.okUpTo (st.ls ++ [E]) (st.ls ++ [E]).length = true
   rw [List.length_append]
   show Tab.okUpTo (st.ls ++ [E]) (st.ls.length + 1) = true
   rw [Tab.okUpTo_succ _ _ (by simp),okUpTo_app _ _ _ (Nat.le_refl _),h.ls]
   simp only [List.take_left,List.getElem_concat_length,Bool.true_and]
   exact f
  ·show (st.ls ++ [E]).length ≤ 40
   rw [List.length_append];simp;omega
  ·intro p hp
   rcases List.mem_append.1 hp with hp | hp
   ·exact h.wf p hp
   ·simp at hp;subst hp;exact w1
  ·intro p hp
   rcases List.mem_append.1 hp with hp | hp
   ·exact h.off p hp
   ·simp at hp;subst hp;exact o1
theorem Ok.line {st:St} {n:Nat} (h:Ok st n) (s:ByteArray) (he:(Txt.line st s).1 = 0):Ok (Txt.line st s).2 (n + 1):=by
 unfold Txt.line at he ⊢
 generalize words (s.extract 2 s.size) = ws at *
 generalize words s = wt at *
 by_cases c1:beg s ⟨#[35,36]⟩ = true
 ·rw [if_pos c1] at he ⊢;exact h.takeU ws he
 ·rw [if_neg c1] at he ⊢
  by_cases c2:beg s ⟨#[35,64]⟩ = true
  ·rw [if_pos c2] at he ⊢;exact h.takeX ws he
  ·rw [if_neg c2] at he ⊢
   by_cases c3:beg s ⟨#[35,104]⟩ = true
   ·rw [if_pos c3] at he ⊢;exact h.takeH ws
   ·rw [if_neg c3] at he ⊢
    by_cases c4:beg s ⟨#[35]⟩ = true
    ·rw [if_pos c4] at he ⊢;exact h.more
    ·rw [if_neg c4] at he ⊢;exact h.takeE wt he
end Txt
theorem own_slice {w:World} {B e size n:Nat} {v:Value} {xs:List Value} (h:w.ownsRow B e size v n xs):∃ ao cap,v = .slice ao n cap:=by
 rcases h.2 with ⟨h,h0⟩ | ⟨g,cap,cur,h,_⟩
 ·exact ⟨none,0,by rw [h,h0]⟩
 ·exact ⟨_,_,h⟩
theorem own_lo {w:World} {B B' e size n:Nat} {v:Value} {xs:List Value} (h:w.ownsRow B e size v n xs) (hb:B' ≤ B):w.ownsRow B' e size v n xs:=by
 refine ⟨h.1,?_⟩
 rcases h.2 with h | ⟨g,cap,cur,rfl,a,b⟩
 ·exact .inl h
 ·exact .inr ⟨g,cap,cur,rfl,Nat.le_trans hb a,b⟩
structure Hd where
 said:Bool
 leap:Int
 ws:Int
 wf:Int
def flatH:List Hd → List Value
 | [] => []
 | h :: r => .bool h.said :: .int .i64 h.leap :: .int .i64 h.ws :: .int .i64 h.wf :: flatH r
theorem flatH_append (l r:List Hd):flatH (l ++ r) = flatH l ++ flatH r:=by
 induction l with
 | nil => rfl
 | cons p q ih => simp [flatH,ih]
structure Sv where
 mode:Int
 win:Int
 fresh:Int
 ns:Int
 nf:Int
 ld:Bool
 up:Int
 ex:Int
 done:List (Int × Int)
 began:List (Int × Int)
 com:List Cm
 ref:Int
 said:List Hd
theorem own_same {w w':World} {B e size n:Nat} {v:Value} {xs:List Value} (h:w.ownsRow B e size v n xs) (hk:∀ k,v.ownBlock = some k → w'.heap[k]? = w.heap[k]?):w'.ownsRow B e size v n xs:=by
 refine ⟨h.1,?_⟩
 rcases h.2 with h' | ⟨g,cap,cur,rfl,a,hh,b⟩
 ·exact .inl h'
 ·exact .inr ⟨g,cap,cur,rfl,a,(hk g rfl).trans hh,b⟩
theorem own_typ {w:World} {B e size n k:Nat} {v:Value} {xs:List Value} (h:w.ownsRow B e size v n xs) (hk:v.ownBlock = some k):∃ cs fr,w.heap[k]? = some (.cells cs e fr):=by
 rcases h.2 with ⟨rfl,_⟩ | ⟨g,cap,cur,rfl,_,hh,_⟩
 ·simp [Value.ownBlock] at hk
 ·obtain rfl:g = k:=by simpa [Value.ownBlock] using hk
  exact ⟨_,_,hh⟩
def isT (s f:Int):Bool:=decide (0 ≤ s ∧ s ≤ 34000000000 ∧ 0 ≤ f ∧ f < 4294967296)
def tLater (s f z g:Int):Bool:=decide (z < s ∨ (s = z ∧ g < f))
def tSum (s f z g:Int):Int × Int:=(s + z + (f + g) / 4294967296,(f + g) % 4294967296)
theorem ret_agg2 {a b c d:Int} (h:a = c) (h':b = d):Ending.returned (.agg #[.int .i64 a,.int .i64 b]) = .returned (.agg #[.int .i64 c,.int .i64 d]):=by rw [h,h']
def Sv.opens (x:Sv) (t:Int):Int × Int:=if tLater x.ns x.nf (t - x.win / 2) 0 = true then (x.ns,x.nf) else (t - x.win / 2,0)
theorem two_row {V:World} {b:Nat} {a x p q:Value} {t:TypeId} (h1:V.heap[b]? = some (.cells #[p,q] t (0,0))):((V.setCell ⟨b,0,none⟩ a).setCell ⟨b,1,none⟩ x).heap[b]? = some (.cells #[a,x] t (0,0)):=by
 have e1:=heap_setCell_same _ b 0 _ t a h1
 have e2:=heap_setCell_same _ b 1 _ t x e1
 simpa using e2
def Sv.utc (x:Sv):Int:=x.ns - (x.done.getD (Tab.lastAt x.done x.ns x.done.length).toNat (0,0)).2
theorem lies_of {w:World} {B e g n cap:Nat} {ls:List (Int × Int)} (h:w.ownsRow B e 2 (.slice (some ⟨g,0,none⟩) n cap) n (flat ls)) (hl:ls.length = n):Lies w g ls:=fun i hi =>
 ⟨(h.cellAt (i * 2) (by omega)).trans (flat_at0 ls i hi),(h.cellAt (i * 2 + 1) (by omega)).trans (flat_at1 ls i hi)⟩
def begunL (ns nf:Int):List Cm → List (Int × Int) → List (Int × Int) → List (Int × Int) × List (Int × Int) × List Cm
 | [],d,b => (d,b,[])
 | c :: r,d,b => if tLater c.bs c.bf ns nf = true then (d,b,c :: r) else begunL ns nf r (d ++ [(c.a,c.o)]) (b ++ [(c.bs,c.bf)])
def Sv.begun (x:Sv):Sv:={ x with done:=(begunL x.ns x.nf x.com x.done x.began).1,began:=(begunL x.ns x.nf x.com x.done x.began).2.1,com:=(begunL x.ns x.nf x.com x.done x.began).2.2 }
def Sv.one (x:Sv) (c:Cm) (r:List Cm):Sv:={ x with done:=x.done ++ [(c.a,c.o)],began:=x.began ++ [(c.bs,c.bf)],com:=r }
theorem Sv.begun_one (x:Sv) (c:Cm) (r:List Cm) (hc:x.com = c :: r) (h:tLater c.bs c.bf x.ns x.nf = false):x.begun = (x.one c r).begun:=by
 unfold Sv.begun Sv.one
 simp only [hc,begunL,h,Bool.false_eq_true,if_false]
theorem Sv.begun_stop (x:Sv) (c:Cm) (r:List Cm) (hc:x.com = c :: r) (h:tLater c.bs c.bf x.ns x.nf = true):x.begun = x:=by
 unfold Sv.begun
 simp only [hc,begunL,h,if_true]
 rw [← hc]
theorem Sv.begun_end (x:Sv) (hc:x.com = []):x.begun = x:=by
 unfold Sv.begun
 simp only [hc,begunL]
 rw [← hc]
abbrev noHd:Hd:=⟨false,0,0,0⟩
def Sv.counts (x:Sv) (h:Hd):Bool:=h.said && !tLater x.ns x.nf (tSum h.ws h.wf x.fresh 0).1 (tSum h.ws h.wf x.fresh 0).2 && h.leap != 3
def Sv.tally (x:Sv):Nat → Int × Int × Int
 | 0 => (0,0,0)
 | k + 1 => if x.counts (x.said.getD k noHd) = true then ((x.tally k).1 + 1,(if (x.said.getD k noHd).leap = 1 then (x.tally k).2.1 + 1 else (x.tally k).2.1),(if (x.said.getD k noHd).leap = 2 then (x.tally k).2.2 + 1 else (x.tally k).2.2)) else x.tally k
def Sv.most (x:Sv):Int:=if 2 * (x.tally x.said.length).2.1 > (x.tally x.said.length).1 then 1 else if 2 * (x.tally x.said.length).2.2 > (x.tally x.said.length).1 then -1 else 0
theorem Sv.tally_bd (x:Sv) (k:Nat):(0 ≤ (x.tally k).1 ∧ (x.tally k).1 ≤ k) ∧ (0 ≤ (x.tally k).2.1 ∧ (x.tally k).2.1 ≤ k) ∧ 0 ≤ (x.tally k).2.2 ∧ (x.tally k).2.2 ≤ k:=by
 induction k with
 | zero => simp [Sv.tally]
 | succ k ih =>
  unfold Sv.tally
  split
  ·simp only
   split <;> split <;> omega
  ·omega
theorem flatH_at (l:List Hd) (k:Nat) (h:k < l.length) (j:Nat) (hj:j < 4):(flatH l)[k * 4 + j]? = #[.bool l[k].said,.int .i64 l[k].leap,.int .i64 l[k].ws,.int .i64 l[k].wf][j]?:=by
 induction l generalizing k with
 | nil => simp at h
 | cons p r ih =>
  cases k with
  | zero =>
   simp only [flatH,Nat.zero_mul,Nat.zero_add,List.getElem_cons_zero]
   match j,hj with
   | 0,_ => rfl
   | 1,_ => rfl
   | 2,_ => rfl
   | 3,_ => rfl
  | succ k =>
   have h':k < r.length:=by simpa using h
   have e:(k + 1) * 4 + j = (k * 4 + j) + 4:=by omega
   rw [e]
   simp only [flatH,List.getElem_cons_succ]
   exact ih k h'
def Hd.Ok (h:Hd):Prop:=0 ≤ h.ws ∧ h.ws ≤ 34000000000 ∧ 0 ≤ h.wf ∧ h.wf < 4294967296
def nextOf (y m:Int):Int:=if m = 12 then (if y = 2999 then -1 else (Cal.yb (y + 1) + Cal.cum (y + 1) 1) * 86400) else (Cal.yb y + Cal.cum y (m + 1)) * 86400
def nextS (sec:Int):Int:=match Cal.find (sec / 86400) with
 | none => -1
 | some p => nextOf p.1 p.2
theorem nextS_eq {sec y m:Int} (h:Cal.In y m (sec / 86400)):nextS sec = nextOf y m:=by
 unfold nextS
 rw [Cal.find_eq h]
theorem nextOf_bd {y m n:Int} (h:Cal.In y m n):-1 ≤ nextOf y m ∧ nextOf y m ≤ 40000000000:=by
 have:=h.y1
 have:=h.y2
 have:=h.m1
 have:=h.m2
 unfold nextOf
 split
 ·split
  ·omega
  ·have a:=Cal.yb_bd (y + 1) (by omega) (by omega)
   have b:=Cal.cum_bd (y + 1) 1 (by omega) (by omega)
   omega
 ·have a:=Cal.yb_bd y (by omega) (by omega)
  have b:=Cal.cum_bd y (m + 1) (by omega) (by omega)
  omega
def Sv.old (x:Sv):Int:=(x.done.getD (x.done.length - 1) (0,0)).2
def Sv.sign (x:Sv):Int:=if x.utc < x.ex then 0 else x.most
def Sv.atN (x:Sv):Int:=nextS x.utc
def Sv.whenN (x:Sv):Int:=if x.sign < 0 then x.atN + x.old + x.sign else x.atN + x.old
def Sv.okN (x:Sv):Bool:=decide (0 < x.atN) && x.sign != 0 && Tab.follows x.done x.atN (x.old + x.sign)
def Sv.filed (x:Sv):Bool:=match x.com with
 | [] => false
 | c :: _ => !c.v
def Sv.voted (x:Sv):Sv:=if x.okN = false ∨ x.whenN ≤ x.ns then { x with com:=[] } else ({ x with com:=[⟨x.atN,x.old + x.sign,(x.opens x.whenN).1,(x.opens x.whenN).2,true⟩] }:Sv).begun
def Sv.weigh (x:Sv):Sv:=if x.ld = false then x else if x.begun.filed = true then x.begun else x.begun.voted
structure Sv.Can (x:Sv):Prop where
 fine:Fine x.done
 len:x.done.length ≤ 900
 hold:0 ≤ Tab.lastAt x.done x.ns x.done.length
 n0:0 ≤ x.ns
 n1:x.ns ≤ 34000000000
 u0:0 ≤ x.utc
 u1:x.utc ≤ 34000000000
 said:x.said.length ≤ 100
 sok:∀ h ∈ x.said,h.Ok
 f0:0 ≤ x.fresh
 f1:x.fresh ≤ 1000000
 w0:0 ≤ x.win
 w1:x.win ≤ 1000000
 bl:x.began.length ≤ 900
 cl:x.com.length ≤ 90
theorem Sv.most_bd (x:Sv):x.most = 1 ∨ x.most = -1 ∨ x.most = 0:=by
 unfold Sv.most
 split
 ·exact .inl rfl
 ·split
  ·exact .inr (.inl rfl)
  ·exact .inr (.inr rfl)
theorem Sv.sign_bd (x:Sv):x.sign = 1 ∨ x.sign = -1 ∨ x.sign = 0:=by
 unfold Sv.sign
 split
 ·exact .inr (.inr rfl)
 ·exact x.most_bd
theorem ex_year (n:Int) (h0:0 ≤ n) (k:Nat) (h:n < Cal.yb (1900 + (k:Int))):∃ y,1900 ≤ y ∧ y < 1900 + (k:Int) ∧ Cal.yb y ≤ n ∧ n < Cal.yb (y + 1):=by
 induction k with
 | zero =>
  have e:(1900:Int) + ((0:Nat):Int) = 1900:=rfl
  rw [e,Cal.yb_first] at h;omega
 | succ k ih =>
  by_cases c:n < Cal.yb (1900 + (k:Int))
  ·obtain ⟨y,a,b,d,e⟩:=ih c
   exact ⟨y,a,by omega,d,e⟩
  ·refine ⟨1900 + (k:Int),by omega,by omega,by omega,?_⟩
   have e:(1900:Int) + ((k + 1:Nat):Int) = 1900 + (k:Int) + 1:=by omega
   rw [e] at h;exact h
theorem ex_month (y r:Int) (h0:0 ≤ r) (k:Nat) (h:r < Cal.cum y (1 + (k:Int))):∃ m,1 ≤ m ∧ m ≤ (k:Int) ∧ Cal.cum y m ≤ r ∧ r < Cal.cum y (m + 1):=by
 induction k with
 | zero =>
  have e:(1:Int) + ((0:Nat):Int) = 1:=rfl
  rw [e,Cal.cum_one] at h;omega
 | succ k ih =>
  by_cases c:r < Cal.cum y (1 + (k:Int))
  ·obtain ⟨m,a,b,d,e⟩:=ih c
   exact ⟨m,a,by omega,d,e⟩
  ·refine ⟨1 + (k:Int),by omega,by omega,by omega,?_⟩
   have e:(1:Int) + ((k + 1:Nat):Int) = 1 + (k:Int) + 1:=by omega
   rw [e] at h;exact h
theorem in_cal {u:Int} (h0:0 ≤ u) (h1:u ≤ 34000000000):∃ y m,Cal.In y m (u / 86400):=by
 have h3:Cal.yb 3000 = 401767:=by decide
 obtain ⟨y,a,b,c,d⟩:=ex_year (u / 86400) (by omega) 1100 (by rw [show (1900:Int) + ((1100:Nat):Int) = 3000 from rfl];omega)
 have ys:=Cal.yb_succ y
 obtain ⟨m,e,f,g,h⟩:=ex_month y (u / 86400 - Cal.yb y) (by omega) 12 (by rw [show (1:Int) + ((12:Nat):Int) = 13 from rfl,Cal.cum_end];omega)
 have cs:=Cal.cum_succ y m e (by omega)
 exact ⟨y,m,a,by omega,e,by omega,by omega,by omega⟩
theorem wrap_small {x:Int} (h0:0 ≤ x) (h1:x ≤ 1000000):IntKind.i64.wrap x = x:=by
 rw [IntKind.wrap_i64];omega
theorem wf_at {x:Int} (h0:-1000000000000 ≤ x) (h1:x ≤ 1000000000000):(Lit.int .i64 x).wf = true:=by
 simp [Lit.wf,IntKind.min,IntKind.max,IntKind.signed,IntKind.bits]
 omega
def Sv.at' (x:Sv) (s f:Int):Sv:={ x with ns:=s,nf:=f }
def Sv.adv (x:Sv) (s f:Int):Int × Sv :=
 if isT s f = false then (9,x) else if isT (tSum x.ns x.nf s f).1 (tSum x.ns x.nf s f).2 = false then (9,x) else (0,(x.at' (tSum x.ns x.nf s f).1 (tSum x.ns x.nf s f).2).weigh)
theorem isT_bd {s f:Int} (h:isT s f = true):0 ≤ s ∧ s ≤ 34000000000 ∧ 0 ≤ f ∧ f < 4294967296:=of_decide_eq_true h
def Sv.agrees (x:Sv) (ls:List (Int × Int)):Bool :=
 if x.ld = false then decide (Tab.when ls 0 ≤ x.ns) else if ls.length < x.done.length then false else if ls.take x.done.length = x.done then decide (ls.length = x.done.length) || decide (x.ns < Tab.when ls x.done.length) else false
theorem take_same {a c:List (Int × Int)} (n:Nat) (h:n < c.length) (hl:c.length ≤ a.length) (ht:a.take n = c.take n) (e:a.getD n (0,0) = c.getD n (0,0)):a.take (n + 1) = c.take (n + 1):=by
 rw [List.take_succ_eq_append_getElem (by omega),List.take_succ_eq_append_getElem h,ht]
 rw [getD_at n (by omega),getD_at n h] at e
 rw [e]
theorem take_not {a c:List (Int × Int)} (n:Nat) (h:n < c.length) (hl:c.length ≤ a.length) (e:a.getD n (0,0) ≠ c.getD n (0,0)):¬ a.take c.length = c:=by
 intro q
 apply e
 rw [getD_at n (by omega),getD_at n h]
 have h1:(a.take c.length)[n]? = c[n]?:=by rw [q]
 rw [List.getElem?_take_of_lt h,List.getElem?_eq_getElem (by omega),List.getElem?_eq_getElem h] at h1
 exact Option.some.inj h1
def Sv.known (x:Sv):List (Int × Int):=x.done ++ (match x.com with
 | [] => []
 | c :: _ => [(c.a,c.o)])
def Sv.ind (x:Sv) (d:Int):Int:=if 86400 < Tab.length x.known d then 1 else if Tab.length x.known d < 86400 then 2 else 0
def stepB (mode win:Int):Bool:=decide (mode = 0 ∧ win = 0)
def smearB (mode win:Int):Bool:=decide ((mode = 1 ∨ mode = 2) ∧ 3600 ≤ win ∧ win ≤ 604800 ∧ win.tmod 2 = 0)
def cfgB (mode win src fresh s f:Int):Bool:=(stepB mode win || smearB mode win) && decide (0 ≤ src ∧ src ≤ 8 ∧ 1 ≤ fresh ∧ fresh ≤ 604800) && isT s f
def Sv.init (mode win fresh s f:Int) (n:Nat):Sv:=⟨mode,win,fresh,s,f,false,0,0,[],[],[],0,List.replicate n noHd⟩
theorem rep_succ (n:Nat):List.replicate n noHd ++ [noHd] = List.replicate (n + 1) noHd:=by
 rw [List.replicate_succ']
theorem flatH_set (l:List Hd) (k:Nat) (h:Hd):flatH (l.set k h) = ((((flatH l).set (k * 4) (.bool h.said)).set (k * 4 + 1) (.int .i64 h.leap)).set (k * 4 + 2) (.int .i64 h.ws)).set (k * 4 + 3) (.int .i64 h.wf):=by
 induction l generalizing k with
 | nil => rfl
 | cons p r ih =>
  cases k with
  | zero => rfl
  | succ k =>
   rw [show (k + 1) * 4 = k * 4 + 1 + 1 + 1 + 1 from by omega]
   simp [flatH,ih]
def Sv.says (x:Sv) (k:Nat) (leap:Int):Sv:={ x with said:=x.said.set k ⟨true,leap,x.ns,x.nf⟩ }
def Sv.hear (x:Sv) (src leap:Int):Int × Sv:=if src < 0 ∨ (x.said.length:Int) ≤ src then (13,x) else if leap < 0 ∨ 3 < leap then (14,x) else (0,(x.says src.toNat leap).weigh)
theorem Txt.parse_whole {t:ByteArray} (h:(Txt.parse t).err = 0):Tab.whole (Txt.parse t).up (Txt.parse t).ex (Txt.parse t).ls = true ∧ (Txt.parse t).num = 0:=by
 unfold Txt.parse at h ⊢
 split at h
 ·cases h
 ·rename_i h2
  split at h
  ·rename_i h3
   rw [if_neg h2,if_pos h3]
   unfold Txt.done at h ⊢
   split at h
   ·rename_i hf
    rw [if_pos hf]
    refine ⟨?_,rfl⟩
    unfold Txt.fin at hf
    split at hf
    ·cases hf
    ·split at hf
     ·cases hf
     ·rename_i hw;simpa using hw
   ·rename_i hf;exact absurd h hf
  ·rename_i h3;exact absurd h h3
def Sv.loadErr (x:Sv) (g:Txt.Got):Int:=if g.err ≠ 0 then g.err else if x.ld = true ∧ g.up < x.up then 11 else if x.agrees g.ls = false then 12 else 0
def Sv.refuse (x:Sv):Sv:={ x with ref:=x.ref + 1 }
def Sv.till (x:Sv) (i:Nat):Bool:=tLater (tSum (x.began.getD i (0,0)).1 (x.began.getD i (0,0)).2 x.win 0).1 (tSum (x.began.getD i (0,0)).1 (x.began.getD i (0,0)).2 x.win 0).2 x.ns x.nf
def Sv.WinAt (x:Sv) (i:Int):Prop:=(i = -1 ∧ ∀ j,1 ≤ j → j < x.done.length → x.till j = false) ∨ ∃ k:Nat,i = k ∧ 1 ≤ k ∧ k < x.done.length ∧ x.till k = true ∧ ∀ j,1 ≤ j → j < k → x.till j = false
structure Sv.BegOk (x:Sv):Prop where
 len:x.began.length = x.done.length
 ok:∀ p ∈ x.began,-1000000 ≤ p.1 ∧ p.1 ≤ 35000000000 ∧ 0 ≤ p.2 ∧ p.2 < 4294967296
 w0:0 ≤ x.win
 w1:x.win ≤ 1000000
def gZ (i:Int):Int:=4 * i * i * (3072 - 2 * i)
theorem gZ_step (i:Int):gZ (i + 1) = gZ i + 24 * (i * (1023 - i)) + 12280:=by
 unfold gZ;grind
theorem gZ_le_succ {i:Int} (h0:0 ≤ i) (h1:i ≤ 1023):gZ i ≤ gZ (i + 1):=by
 have:0 ≤ i * (1023 - i):=Int.mul_nonneg h0 (by omega)
 rw [gZ_step];omega
theorem gZ_top (k:Nat) (hk:k ≤ 1024):gZ (1024 - k) ≤ 4294967296:=by
 induction k with
 | zero => decide
 | succ k ih =>
  have:=ih (by omega)
  have e:(1024:Int) - k = (1024 - ((k + 1:Nat):Int)) + 1:=by omega
  rw [e] at this
  have:=gZ_le_succ (i:=1024 - ((k + 1:Nat):Int)) (by omega) (by omega)
  omega
theorem gZ_bd {i:Int} (h0:0 ≤ i) (h1:i ≤ 1024):0 ≤ gZ i ∧ gZ i ≤ 4294967296:=by
 refine ⟨?_,?_⟩
 ·unfold gZ
  have a:0 ≤ 4 * i * i:=Int.mul_nonneg (by omega) h0
  exact Int.mul_nonneg a (by omega)
 ·have:=gZ_top (1024 - i).toNat (by omega)
  have e:(1024:Int) - ((1024 - i).toNat:Int) = i:=by omega
  rwa [e] at this
def pX (W:Int):Int:=W * 4294967296
def pI (W n:Int):Int:=1024 * n / pX W
def pR (W n:Int):Int:=1024 * n - pI W n * pX W
def pullU (mode W n:Int):Int:=if mode = 1 then n else gZ (pI W n) * pX W + (gZ (pI W n + 1) - gZ (pI W n)) * pR W n
def pullD (mode W:Int):Int:=if mode = 1 then W else pX W
structure PullOk (W n:Int):Prop where
 w0:0 < W
 w1:W ≤ 604800
 n0:0 ≤ n
 n1:n < pX W
theorem PullOk.x {W n:Int} (h:PullOk W n):0 < pX W ∧ pX W ≤ 2597596220620800:=by
 have:=h.w0;have:=h.w1;unfold pX;omega
theorem PullOk.i {W n:Int} (h:PullOk W n):0 ≤ pI W n ∧ pI W n ≤ 1023:=by
 have hx:=h.x
 have:=h.n0
 have:=h.n1
 unfold pI
 refine ⟨Int.ediv_nonneg (by omega) (by omega),?_⟩
 have:1024 * n / pX W < 1024:=Int.ediv_lt_of_lt_mul hx.1 (by omega)
 omega
theorem PullOk.r {W n:Int} (h:PullOk W n):0 ≤ pR W n ∧ pR W n < pX W:=by
 have hx:=h.x
 have e:pR W n = 1024 * n % pX W:=by
  unfold pR pI
  rw [Int.emod_def,Int.mul_comm (pX W)]
 rw [e]
 exact ⟨Int.emod_nonneg _ (by omega),Int.emod_lt_of_pos _ hx.1⟩
theorem PullOk.ix {W n:Int} (h:PullOk W n):0 ≤ pI W n * pX W ∧ pI W n * pX W ≤ 1024 * n:=by
 have hi:=h.i
 have hx:=h.x
 have hr:=h.r
 refine ⟨Int.mul_nonneg hi.1 (by omega),?_⟩
 have:=hr.1
 unfold pR at this
 omega
theorem PullOk.u {W n:Int} (h:PullOk W n) (mode:Int):0 ≤ pullU mode W n ∧ pullU mode W n ≤ 4294967296 * pullD mode W ∧ 0 < pullD mode W ∧ pullD mode W ≤ 2597596220620800:=by
 have hx:=h.x
 unfold pullU pullD
 by_cases c:mode = 1
 ·rw [if_pos c,if_pos c]
  have h1:=h.n1
  have h0:=h.n0
  have:=h.w0
  have:=h.w1
  unfold pX at h1
  omega
 ·rw [if_neg c,if_neg c]
  have hi:=h.i
  have hr:=h.r
  have g0:=gZ_bd (i:=pI W n) hi.1 (by omega)
  have g1:=gZ_bd (i:=pI W n + 1) (by omega) (by omega)
  have gl:=gZ_le_succ hi.1 hi.2
  generalize gZ (pI W n) = a at *
  generalize gZ (pI W n + 1) = b at *
  generalize pR W n = r at *
  generalize pX W = X at *
  have m1:0 ≤ a * X:=Int.mul_nonneg g0.1 (by omega)
  have m2:0 ≤ (b - a) * r:=Int.mul_nonneg (by omega) hr.1
  have m3:(b - a) * r ≤ (b - a) * X:=Int.mul_le_mul_of_nonneg_left (by omega) (by omega)
  have m4:a * X + (b - a) * X = b * X:=by grind
  have m5:b * X ≤ 4294967296 * X:=Int.mul_le_mul_of_nonneg_right (by omega) (by omega)
  omega
def Sv.gap (x:Sv) (k:Nat):Int:=(x.ns - (x.began.getD k (0,0)).1) * 4294967296 + x.nf - (x.began.getD k (0,0)).2
def Sv.pulled (x:Sv) (k:Nat):Nat:=(pullU x.mode x.win (x.gap k)).toNat / (pullD x.mode x.win).toNat
def Sv.pulledUp (x:Sv) (k:Nat):Nat:=if x.pulled k * (pullD x.mode x.win).toNat < (pullU x.mode x.win (x.gap k)).toNat then x.pulled k + 1 else x.pulled k
def Sv.smeared (x:Sv) (k:Nat):Int × Int :=
 if (x.done.getD k (0,0)).2 < (x.done.getD (k - 1) (0,0)).2 then tSum (x.ns - (x.done.getD (k - 1) (0,0)).2) x.nf 0 (x.pulled k)
 else tSum (x.ns - (x.done.getD (k - 1) (0,0)).2 - 1) x.nf 0 (4294967296 - (x.pulledUp k:Int))
theorem alloc_sz (W:World) (o:Obj):(W.alloc o).heap.size = W.heap.size + 1:=by simp
structure Ws (w:World) (v:Value) (ws:List ByteArray):Prop where
 own:∃ B,w.ownsRow B 9 1 v ws.length (ws.map Value.string)
 len:ws.length ≤ 100000
 sz:∀ i,(ws.getD i Txt.em).size ≤ 100000
theorem Ws.form {w:World} {v:Value} {ws:List ByteArray} (h:Ws w v ws):∃ ao cap,v = .slice ao ws.length cap:=by
 obtain ⟨B,h⟩:=h.own
 rcases h.2 with ⟨rfl,e⟩ | ⟨g,cap,cur,rfl,_⟩
 ·exact ⟨_,_,by rw [e]⟩
 ·exact ⟨_,_,rfl⟩
theorem Ws.at' {w:World} {v:Value} {ws:List ByteArray} (h:Ws w v ws) (h0:0 < ws.length) :
  ∃ g cap,v = .slice (some ⟨g,0,none⟩) ws.length cap ∧ g < w.heap.size ∧ ∀ i,i < ws.length → w.cell? ⟨g,i,none⟩ = some (.string (ws.getD i Txt.em)):=by
 obtain ⟨B,h⟩:=h.own
 obtain ⟨g,cap,rfl⟩:=own_some h h0
 refine ⟨g,cap,rfl,(h.lt _ rfl).2,fun i hi => ?_⟩
 rw [h.cellAt i (by omega),List.getElem?_map,List.getElem?_eq_getElem hi,List.getD_eq_getElem?_getD,List.getElem?_eq_getElem hi]
 rfl
def Rd (w:World) (bR:Nat) (st:Txt.St):Prop:=∃ lv,w.heap[bR]? = some (.cells #[.string st.u,.string st.x,.string st.h,lv,.string st.dg] 179 (0,0)) ∧ w.ownsRow (bR + 1) 84 2 lv st.ls.length (flat st.ls)
def onceS (ws:List ByteArray) (b:ByteArray):ByteArray:=if Txt.once ws b = 0 then ws.getD 0 Txt.em else Txt.em
def onceV (ws:List ByteArray) (b:ByteArray):Value:=.tuple #[.string (onceS ws b),.int .i64 (Txt.once ws b)]
theorem onceV_no {ws:List ByteArray} {b:ByteArray} {n:Int} (h:Txt.once ws b = n) (hn:n ≠ 0):onceV ws b = .tuple #[.string Txt.em,.int .i64 n]:=by
 unfold onceV onceS;rw [if_neg (by rw [h];exact hn),h]
theorem onceV_yes {ws:List ByteArray} {b:ByteArray} (h:Txt.once ws b = 0):onceV ws b = .tuple #[.string (ws.getD 0 Txt.em),.int .i64 0]:=by
 unfold onceV onceS;rw [if_pos h,h]
theorem no_err {a b:Int} {P:Prop} (h:a = b) (hb:b ≠ 0):a = 0 → P:=fun e => absurd (h.symm.trans e) hb
theorem em_test {b:ByteArray} (h:¬ b = Txt.em):b.toList.isEmpty = false:=Txt.not_empty h
set_option maxRecDepth 100000 in
theorem number_once (v:Value) (ws:List ByteArray) (b:ByteArray) (w:World) (hW:Ws w v ws) :
  Calls Tryz.prog 186 #[v,.string b] w fun e w' => e = .returned (onceV ws b) ∧ w' = w:=by
 have hlen:=hW.len
 by_cases h1:ws.length = 1
 ·obtain ⟨g,cap,rfl,_,hc⟩:=hW.at' (by omega)
  have c0:=hc 0 (by omega)
  have hsz:=hW.sz 0
  have HN:=hid' (is_number (ws.getD 0 Txt.em) w (by omega))
  rw [h1]
  clear hc hW hlen
  cases hn:Txt.isNum (ws.getD 0 Txt.em) with
  | false =>
   have H:Hid (onceV ws b = _):=onceV_no (n:=3) (by unfold Txt.once;rw [if_neg (by omega),if_pos hn]) (by decide)
   rw [hn] at HN
   clear hn h1
   generalize ws.getD 0 Txt.em = s0 at *
   go_enter Tryz.func186,Tryz.ntmps186
   go_wp2_with (go_at_call 190;refine HN.out.mono ?_;rintro e w' ⟨rfl,rfl⟩)
   go_ret2
   exact ⟨congrArg Ending.returned H.out.symm,rfl⟩
  | true =>
   rw [hn] at HN
   by_cases hb:b = Txt.em
   ·have H:Hid (onceV ws b = _):=onceV_yes (by unfold Txt.once;rw [if_neg (by omega),if_neg (by rw [hn];decide),if_neg (by simpa using hb)])
    subst hb
    clear hn h1
    generalize ws.getD 0 Txt.em = s0 at *
    go_enter Tryz.func186,Tryz.ntmps186
    go_wp2_with (go_at_call 190;refine HN.out.mono ?_;rintro e w' ⟨rfl,rfl⟩)
    go_ret2
    exact ⟨congrArg Ending.returned H.out.symm,rfl⟩
   ·have H:Hid (onceV ws b = _):=onceV_no (n:=4) (by unfold Txt.once;rw [if_neg (by omega),if_neg (by rw [hn];decide),if_pos hb]) (by decide)
    have hbe:=em_test hb
    clear hn h1 hb
    generalize ws.getD 0 Txt.em = s0 at *
    go_enter Tryz.func186,Tryz.ntmps186
    go_wp2_with (go_at_call 190;refine HN.out.mono ?_;rintro e w' ⟨rfl,rfl⟩)
    go_ret2
    exact ⟨congrArg Ending.returned H.out.symm,rfl⟩
 ·have H:Hid (onceV ws b = _):=onceV_no (n:=3) (by unfold Txt.once;rw [if_pos h1]) (by decide)
  obtain ⟨ao,cap,rfl⟩:=hW.form
  have h1':((ws.length:Int) != 1) = true:=bne_iff_ne.2 (by omega)
  clear h1 hW
  go_enter Tryz.func186,Tryz.ntmps186
  go_wp2
  go_ret2
  exact ⟨congrArg Ending.returned H.out.symm,rfl⟩
set_option maxRecDepth 100000 in
set_option maxHeartbeats 1000000 in
theorem take_update (bR:Nat) (st:Txt.St) (v:Value) (ws:List ByteArray) (w:World) (n:Nat) (hR:Rd w bR st) (hO:Txt.Ok st n) (hn:n ≤ 100000) (hW:Ws w v ws) :
  Calls Tryz.prog 160 #[.pointer (some ⟨bR,0,none⟩),v] w fun e w' => e = .returned (.int .i64 (Txt.takeU st ws).1) ∧ ((Txt.takeU st ws).1 = 0 → Rd w' bR (Txt.takeU st ws).2) ∧ Below bR w w':=by
 obtain ⟨lv,hrow,hown⟩:=hR
 have c0:=cell_of_row _ _ 0 _ _ _ hrow
 have c4:=cell_of_row _ _ 4 _ _ _ hrow
 simp at c0 c4
 have f0:=frozen_of_row _ _ 0 _ _ hrow
 have f4:=frozen_of_row _ _ 4 _ _ hrow
 have HN:=hid' (number_once v ws st.u w hW)
 have HR:=hid' hrow
 have HO:=hid' hown
 have hdg:=hO.dg
 have hsz:(onceS ws st.u).size ≤ 100000:=by unfold onceS;split;exact hW.sz 0;decide
 have hu:st.u.size ≤ 11:=by rcases hO.u with h | h;rw [h];decide;exact Txt.size_num h
 have HT:Hid (Txt.once ws st.u = 0 → st.u ++ onceS ws st.u = ws.getD 0 Txt.em):=fun h => by
  unfold onceS;rw [if_pos h,(Txt.once_cases h).2.2];exact ByteArray.empty_append
 have HD:Hid (Txt.once ws st.u = 0 → st.dg ++ onceS ws st.u = st.dg ++ ws.getD 0 Txt.em):=fun h => by unfold onceS;rw [if_pos h]
 unfold onceV at HN
 have H:Hid ((Txt.takeU st ws).1 = Txt.once ws st.u):=rfl
 have HS:Hid ((Txt.takeU st ws).2 = { st with u:=ws.getD 0 Txt.em,dg:=st.dg ++ ws.getD 0 Txt.em }):=rfl
 clear hrow hown hO hW
 generalize onceS ws st.u = r at *
 generalize Txt.once ws st.u = er at *
 go_enter Tryz.func160,Tryz.ntmps160
 go_wp2_with (go_at_call 186;refine HN.out.mono ?_;rintro e w' ⟨rfl,rfl⟩)
 go_ret
 refine ⟨ret_int H.out.symm,fun h => ?_,?_⟩
 ·rw [H.out] at h
  rw [HS.out,← HD.out h,← HT.out h]
  have e1:=heap_setCell_same _ bR 0 _ _ (.string (st.u ++ r)) HR.out
  have e2:=heap_setCell_same _ bR 4 _ _ (.string (st.dg ++ r)) e1
  refine ⟨lv,by simpa using e2,own_set (p:=⟨bR,4,none⟩) (own_set (p:=⟨bR,0,none⟩) HO.out HR.out (by decide) _) e1 (by decide) _⟩
 ·exact ((Below.refl bR _).setCell (p:=⟨bR,0,none⟩) (Nat.le_refl _) _).setCell (p:=⟨bR,4,none⟩) (Nat.le_refl _) _
set_option maxRecDepth 100000 in
set_option maxHeartbeats 1000000 in
theorem take_expiry (bR:Nat) (st:Txt.St) (v:Value) (ws:List ByteArray) (w:World) (n:Nat) (hR:Rd w bR st) (hO:Txt.Ok st n) (hn:n ≤ 100000) (hW:Ws w v ws) :
  Calls Tryz.prog 162 #[.pointer (some ⟨bR,0,none⟩),v] w fun e w' => e = .returned (.int .i64 (Txt.takeX st ws).1) ∧ ((Txt.takeX st ws).1 = 0 → Rd w' bR (Txt.takeX st ws).2) ∧ Below bR w w':=by
 obtain ⟨lv,hrow,hown⟩:=hR
 have c0:=cell_of_row _ _ 1 _ _ _ hrow
 have c4:=cell_of_row _ _ 4 _ _ _ hrow
 simp at c0 c4
 have f0:=frozen_of_row _ _ 1 _ _ hrow
 have f4:=frozen_of_row _ _ 4 _ _ hrow
 have HN:=hid' (number_once v ws st.x w hW)
 have HR:=hid' hrow
 have HO:=hid' hown
 have hdg:=hO.dg
 have hsz:(onceS ws st.x).size ≤ 100000:=by unfold onceS;split;exact hW.sz 0;decide
 have hu:st.x.size ≤ 11:=by rcases hO.x with h | h;rw [h];decide;exact Txt.size_num h
 have HT:Hid (Txt.once ws st.x = 0 → st.x ++ onceS ws st.x = ws.getD 0 Txt.em):=fun h => by
  unfold onceS;rw [if_pos h,(Txt.once_cases h).2.2];exact ByteArray.empty_append
 have HD:Hid (Txt.once ws st.x = 0 → st.dg ++ onceS ws st.x = st.dg ++ ws.getD 0 Txt.em):=fun h => by unfold onceS;rw [if_pos h]
 unfold onceV at HN
 have H:Hid ((Txt.takeX st ws).1 = Txt.once ws st.x):=rfl
 have HS:Hid ((Txt.takeX st ws).2 = { st with x:=ws.getD 0 Txt.em,dg:=st.dg ++ ws.getD 0 Txt.em }):=rfl
 clear hrow hown hO hW
 generalize onceS ws st.x = r at *
 generalize Txt.once ws st.x = er at *
 go_enter Tryz.func162,Tryz.ntmps162
 go_wp2_with (go_at_call 186;refine HN.out.mono ?_;rintro e w' ⟨rfl,rfl⟩)
 go_ret
 refine ⟨ret_int H.out.symm,fun h => ?_,?_⟩
 ·rw [H.out] at h
  rw [HS.out,← HD.out h,← HT.out h]
  have e1:=heap_setCell_same _ bR 1 _ _ (.string (st.x ++ r)) HR.out
  have e2:=heap_setCell_same _ bR 4 _ _ (.string (st.dg ++ r)) e1
  refine ⟨lv,by simpa using e2,own_set (p:=⟨bR,4,none⟩) (own_set (p:=⟨bR,1,none⟩) HO.out HR.out (by decide) _) e1 (by decide) _⟩
 ·exact ((Below.refl bR _).setCell (p:=⟨bR,1,none⟩) (Nat.le_refl _) _).setCell (p:=⟨bR,4,none⟩) (Nat.le_refl _) _
set_option maxRecDepth 100000 in
set_option maxHeartbeats 1000000 in
theorem take_hash (bR:Nat) (st:Txt.St) (v:Value) (ws:List ByteArray) (w:World) (n:Nat) (hR:Rd w bR st) (hO:Txt.Ok st n) (hW:Ws w v ws) :
  Calls Tryz.prog 163 #[.pointer (some ⟨bR,0,none⟩),v] w fun e w' => e = .returned (.int .i64 (Txt.takeH st ws).1) ∧ ((Txt.takeH st ws).1 = 0 → Rd w' bR (Txt.takeH st ws).2) ∧ Below bR w w':=by
 obtain ⟨lv,hrow,hown⟩:=hR
 have c2:=cell_of_row _ _ 2 _ _ _ hrow
 simp at c2
 have f2:=frozen_of_row _ _ 2 _ _ hrow
 have HR:=hid' hrow
 have HO:=hid' hown
 have hlen:=hW.len
 have HSZ:=hid' hW.sz
 have hh:=hO.h
 clear hrow hown hO
 have H:Hid ((Txt.takeH st ws).1 = Txt.hashErr ws st.h):=rfl
 have HS:Hid ((Txt.takeH st ws).2 = { st with h:=Txt.hexTo ws 5 }):=rfl
 by_cases h5:ws.length = 5
 ·obtain ⟨g,cap,rfl,hgl,hc⟩:=hW.at' (by omega)
  rw [h5] at hc ⊢
  have HC:=hid' hc
  clear hc hW hlen
  go_enter Tryz.func163,Tryz.ntmps163
  go_wp2
  go_loop [5,6] (fun t i => ∃ k:Nat,k ≤ 5 ∧ i = .int .i64 k ∧ t = .string (Txt.hexTo ws k) ∧ Txt.Hexed ws k) (fun _ i => 5 - (intOf i).toNat)
  case atStart => exact ⟨0,by omega,rfl,rfl,fun i hi => by omega⟩
  case round =>
   obtain ⟨k,hk,rfl,rfl,hhex⟩:=hrel
   have HHX:=hid' hhex
   have hts:=Txt.size_hexTo ws k
   clear hhex
   by_cases hlt:k < 5
   ·have ck:=HC.out k hlt
    have hsz:=HSZ.out k
    have HX:=hid' (is_hex (ws.getD k Txt.em) w (by omega))
    cases hx:Txt.isHex (ws.getD k Txt.em) with
    | false =>
     have hE:Txt.hashErr ws st.h = 3:=by
      unfold Txt.hashErr
      rw [if_neg (by omega),if_pos (Txt.hexedB_no (fun h => by have:=h k hlt;rw [hx] at this;cases this))]
     rw [hE] at H
     rw [hx] at HX
     clear hx hE
     generalize ws.getD k Txt.em = sk at *
     generalize Txt.hexTo ws k = tk at *
     go_wp2_with (go_at_call 188;refine HX.out.mono ?_;rintro e w' ⟨rfl,rfl⟩)
     go_ret
     exact ⟨ret_int H.out.symm,no_err H.out (by decide),Below.refl _ _⟩
    | true =>
     have h8:(ws.getD k Txt.em).size ≤ 8:=by have:=(Txt.isHex_is hx).1;omega
     have hfw:=full_hex (ws.getD k Txt.em) w h8
     rw [← Txt.word_of hx] at hfw
     have HFW:=hid' hfw
     have HK:Hid (Txt.hexTo ws (k + 1) = Txt.hexTo ws k ++ Txt.word (ws.getD k Txt.em)):=rfl
     have hws:=Txt.size_word (s:=ws.getD k Txt.em)
     have HH2:Hid (Txt.Hexed ws (k + 1)):=fun i hi => by
      by_cases e:i = k
      ·subst e;exact hx
      ·exact HHX.out i (by omega)
     rw [hx] at HX
     clear hx hfw
     generalize ws.getD k Txt.em = sk at *
     generalize Txt.hexTo ws k = tk at *
     generalize Txt.word sk = wk at *
     go_wp2_with (first
      | (go_at_call 188;refine HX.out.mono ?_;rintro e w' ⟨rfl,rfl⟩)
      | (go_at_call 189;refine HFW.out.mono ?_;rintro e w' ⟨rfl,rfl⟩))
     exact ⟨⟨k + 1,by omega,by go_num,by rw [HK.out],HH2.out⟩,by simp [intOf];omega⟩
   ·have ek:k = 5:=by omega
    have hD:¬ (Txt.hexedB ws 5 = false):=by
     rw [(Txt.hexedB_iff ws 5).2 (by rw [← ek];exact HHX.out)];decide
    by_cases hb:st.h = Txt.em
    ·have hE:Txt.hashErr ws st.h = 0:=by unfold Txt.hashErr;rw [if_neg (by omega),if_neg hD,if_neg (by simpa using hb)]
     rw [hE] at H
     have HT:Hid (Txt.hexTo ws k = Txt.hexTo ws 5):=by show _ = _;rw [ek]
     rw [hb] at c2 HR
     clear hE hD ek
     generalize Txt.hexTo ws k = tk at *
     go_wp2
     go_ret
     refine ⟨ret_int H.out.symm,fun h => ?_,(Below.refl bR _).setCell (p:=⟨bR,2,none⟩) (Nat.le_refl _) _⟩
     rw [HS.out,← HT.out]
     have e1:=heap_setCell_same _ bR 2 _ _ (.string tk) HR.out
     exact ⟨lv,by simpa using e1,own_set (p:=⟨bR,2,none⟩) HO.out HR.out (by decide) _⟩
    ·have hE:Txt.hashErr ws st.h = 4:=by unfold Txt.hashErr;rw [if_neg (by omega),if_neg hD,if_pos hb]
     rw [hE] at H
     have hbe:=em_test hb
     clear hE hD ek hb
     generalize Txt.hexTo ws k = tk at *
     go_wp2
     go_ret
     exact ⟨ret_int H.out.symm,no_err H.out (by decide),Below.refl _ _⟩
 ·have hE:Txt.hashErr ws st.h = 3:=by unfold Txt.hashErr;rw [if_pos h5]
  rw [hE] at H
  obtain ⟨ao,cap,rfl⟩:=hW.form
  have h5':((ws.length:Int) != 5) = true:=bne_iff_ne.2 (by omega)
  clear h5 hW hE
  go_enter Tryz.func163,Tryz.ntmps163
  go_wp2
  go_ret
  exact ⟨ret_int H.out.symm,no_err H.out (by decide),Below.refl _ _⟩
theorem begins_month (sec:Int) (w:World) (w0:(Lit.int .i64 sec).wf = true) :
  Calls Tryz.prog 191 #[.int .i64 sec] w fun e w' => e = .returned (.bool (Tab.first sec)) ∧ w' = w:=by
 have hb:=bounds_i64 w0
 clear w0
 by_cases h0:sec < 0
 ·have H:Hid (Tab.first sec = false):=Tab.first_no fun h => by have:=h.1;omega
  by_cases h1:sec.tmod 86400 = 0
  ·have h1':(sec.tmod 86400 != 0) = false:=by rw [bne_eq_false_iff_eq];exact h1
   have hd:sec.tdiv 86400 < 0:=by
    have:=Int.mul_tdiv_add_tmod sec 86400
    omega
   go_enter Tryz.func191,Tryz.ntmps191
   go_wp2_with fail
   refine (civil_no (sec.tdiv 86400) _ (.inl hd)).mono ?_
   rintro e w' ⟨rfl,rfl⟩
   go_wp2
   go_ret
   exact ⟨ret_bool H.out.symm,rfl⟩
  ·have h1':(sec.tmod 86400 != 0) = true:=bne_iff_ne.2 h1
   go_enter Tryz.func191,Tryz.ntmps191
   go_wp2
   go_ret
   exact ⟨ret_bool H.out.symm,rfl⟩
 ·by_cases h1:sec % 86400 = 0
  ·by_cases h2:401767 ≤ sec / 86400
   ·have H:Hid (Tab.first sec = false):=Tab.first_no fun h => by
     obtain ⟨_,_,y,m,hi,_⟩:=h
     have a:=hi.year
     have b:=Cal.yb_mono (y + 1) 3000 (by have:=hi.y2;omega)
     rw [Cal.yb_last] at b
     omega
    go_enter Tryz.func191,Tryz.ntmps191
    go_wp2_with fail
    refine (civil_no (sec / 86400) _ (.inr h2)).mono ?_
    rintro e w' ⟨rfl,rfl⟩
    go_wp2
    go_ret
    exact ⟨ret_bool H.out.symm,rfl⟩
   ·go_enter Tryz.func191,Tryz.ntmps191
    go_wp2_with fail
    refine (civil_yes (sec / 86400) _ (by omega) (by omega)).mono ?_
    rintro e w' ⟨⟨y,m,rfl,hin⟩,rfl⟩
    have HI:=hid' hin
    clear hin
    by_cases h3:sec / 86400 = Cal.yb y + Cal.cum y m
    ·have H:Hid (Tab.first sec = true):=Tab.first_yes ⟨by omega,h1,y,m,HI.out,h3⟩
     have hd:(sec / 86400 - Cal.yb y - Cal.cum y m + 1 == 1) = true:=by rw [beq_iff_eq];omega
     generalize sec / 86400 - Cal.yb y - Cal.cum y m + 1 = v at *
     clear h3
     go_wp2
     go_ret
     exact ⟨ret_bool H.out.symm,rfl⟩
    ·have H:Hid (Tab.first sec = false):=Tab.first_no fun h => by
      obtain ⟨_,_,z,o,hi,hq⟩:=h
      obtain ⟨rfl,rfl⟩:=hi.only HI.out
      exact h3 hq
     have hd:(sec / 86400 - Cal.yb y - Cal.cum y m + 1 == 1) = false:=by rw [beq_eq_false_iff_ne];omega
     generalize sec / 86400 - Cal.yb y - Cal.cum y m + 1 = v at *
     clear h3
     go_wp2
     go_ret
     exact ⟨ret_bool H.out.symm,rfl⟩
  ·have H:Hid (Tab.first sec = false):=Tab.first_no fun h => h1 h.2.1
   have h1':(sec % 86400 != 0) = true:=bne_iff_ne.2 h1
   go_enter Tryz.func191,Tryz.ntmps191
   go_wp2
   go_ret
   exact ⟨ret_bool H.out.symm,rfl⟩
set_option maxRecDepth 100000 in
set_option maxHeartbeats 1000000 in
theorem can_follow_nil (ao:Option Addr) (cap:Nat) (a o:Int) (w:World) (wa:(Lit.int .i64 a).wf = true) (wo:(Lit.int .i64 o).wf = true) :
  Calls Tryz.prog 169 #[.slice ao 0 cap,.agg #[.int .i64 a,.int .i64 o]] w fun e w' => e = .returned (.bool (Tab.follows [] a o)) ∧ Below w.heap.size w w':=by
 have HFst:=hid' (begins_month a (w.alloc (.cells #[.int .i64 a,.int .i64 o] 84)) wa)
 have bo:=bounds_i64 wo
 have HBel:=hid' ((Below.refl w.heap.size w).alloc (Nat.le_refl _) (.cells #[.int .i64 a,.int .i64 o] 84))
 clear wa wo
 cases hf:Tab.first a with
 | false =>
  rw [hf] at HFst
  have H:Hid (Tab.follows [] a o = false):=Tab.follows_no1 hf
  clear hf
  go_enter Tryz.func169,Tryz.ntmps169
  go_wp2_with (go_at_call 191;refine HFst.out.mono ?_;rintro e w' ⟨rfl,rfl⟩)
  go_ret
  exact ⟨ret_bool H.out.symm,HBel.out⟩
 | true =>
  rw [hf] at HFst
  by_cases h0:o < 0
  ·have H:Hid (Tab.follows [] a o = false):=Tab.follows_no2 h0
   clear hf
   go_enter Tryz.func169,Tryz.ntmps169
   go_wp2_with (go_at_call 191;refine HFst.out.mono ?_;rintro e w' ⟨rfl,rfl⟩)
   go_ret
   exact ⟨ret_bool H.out.symm,HBel.out⟩
  ·by_cases h1:200 < o
   ·have H:Hid (Tab.follows [] a o = false):=Tab.follows_no3 h1
    clear hf
    go_enter Tryz.func169,Tryz.ntmps169
    go_wp2_with (go_at_call 191;refine HFst.out.mono ?_;rintro e w' ⟨rfl,rfl⟩)
    go_ret
    exact ⟨ret_bool H.out.symm,HBel.out⟩
   ·have H:Hid (Tab.follows [] a o = true):=Tab.follows_nil hf (by omega) (by omega)
    clear hf
    go_enter Tryz.func169,Tryz.ntmps169
    go_wp2_with (go_at_call 191;refine HFst.out.mono ?_;rintro e w' ⟨rfl,rfl⟩)
    go_ret
    exact ⟨ret_bool H.out.symm,HBel.out⟩
set_option maxRecDepth 100000 in
set_option maxHeartbeats 1000000 in
theorem can_follow_some (g cap q:Nat) (ls:List (Int × Int)) (a o:Int) (w:World) (wa:(Lit.int .i64 a).wf = true) (wo:(Lit.int .i64 o).wf = true)
  (hq:ls.length = q + 1) (h40:q < 40) (hl:Lies w g ls) (hg:g < w.heap.size) (hok:∀ p ∈ ls,0 ≤ p.2 ∧ p.2 ≤ 200) :
  Calls Tryz.prog 169 #[.slice (some ⟨g,0,none⟩) ((q + 1:Nat)) cap,.agg #[.int .i64 a,.int .i64 o]] w fun e w' => e = .returned (.bool (Tab.follows ls a o)) ∧ Below w.heap.size w w':=by
 have HFst:=hid' (begins_month a (w.alloc (.cells #[.int .i64 a,.int .i64 o] 84)) wa)
 have bo:=bounds_i64 wo
 have HBel:=hid' ((Below.refl w.heap.size w).alloc (Nat.le_refl _) (.cells #[.int .i64 a,.int .i64 o] 84))
 have hp:=hok (ls[q]'(by omega)) (List.getElem_mem _)
 have c1:=(HBel.out.cell (p:=⟨g,q * 2,none⟩) hg).trans (hl q (by omega)).1
 have c2:=(HBel.out.cell (p:=⟨g,q * 2 + 1,none⟩) hg).trans (hl q (by omega)).2
 have hlast:=fun h h0 h1 h2 => Tab.follows_last (ls:=ls) (a:=a) (o:=o) h h0 h1 h2 q hq
 have HLAST:=hid' hlast
 clear hlast wa wo
 generalize ls[q]'(by omega) = p at *
 obtain ⟨pa,po⟩:=p
 simp only at hp c1 c2
 have hq40:ls.length = 40 ↔ q = 39:=by omega
 have H40:=hid' hq40
 clear hok hq hq40 hl
 by_cases h2:q = 39
 ·have H:Hid (Tab.follows ls a o = false):=Tab.follows_no4 (H40.out.2 h2)
  clear c1 c2 H40 HLAST
  subst h2
  go_enter Tryz.func169,Tryz.ntmps169
  go_wp2
  go_ret
  exact ⟨ret_bool H.out.symm,HBel.out⟩
 have h39:q < 39:=by omega
 clear h40
 cases hf:Tab.first a with
 | false =>
  rw [hf] at HFst
  have H:Hid (Tab.follows ls a o = false):=Tab.follows_no1 hf
  clear hf c1 c2
  go_enter Tryz.func169,Tryz.ntmps169
  go_wp2_with (go_at_call 191;refine HFst.out.mono ?_;rintro e w' ⟨rfl,rfl⟩)
  go_ret
  exact ⟨ret_bool H.out.symm,HBel.out⟩
 | true =>
  rw [hf] at HFst
  by_cases h0:o < 0
  ·have H:Hid (Tab.follows ls a o = false):=Tab.follows_no2 h0
   clear hf c1 c2
   go_enter Tryz.func169,Tryz.ntmps169
   go_wp2_with (go_at_call 191;refine HFst.out.mono ?_;rintro e w' ⟨rfl,rfl⟩)
   go_ret
   exact ⟨ret_bool H.out.symm,HBel.out⟩
  ·by_cases h1:200 < o
   ·have H:Hid (Tab.follows ls a o = false):=Tab.follows_no3 h1
    clear hf c1 c2
    go_enter Tryz.func169,Tryz.ntmps169
    go_wp2_with (go_at_call 191;refine HFst.out.mono ?_;rintro e w' ⟨rfl,rfl⟩)
    go_ret
    exact ⟨ret_bool H.out.symm,HBel.out⟩
   ·have H:Hid (Tab.follows ls a o = Tab.behindB (pa,po) a o):=HLAST.out hf (by omega) (by omega) (fun h => h2 (H40.out.1 h))
    clear hf HLAST H40 h2
    go_enter Tryz.func169,Tryz.ntmps169
    go_wp2_with (go_at_call 191;refine HFst.out.mono ?_;rintro e w' ⟨rfl,rfl⟩)
    all_goals
     go_ret
     refine ⟨ret_bool ?_,((Below.refl w.heap.size w).alloc (Nat.le_refl _) _).alloc (by simp) _⟩
     rw [H.out]
     unfold Tab.behindB
     simp
     try omega
theorem can_follow (g cap k:Nat) (ls:List (Int × Int)) (a o:Int) (w:World) (wa:(Lit.int .i64 a).wf = true) (wo:(Lit.int .i64 o).wf = true)
  (hk:k ≤ ls.length) (h40:k ≤ 40) (hl:Lies w g ls) (hg:g < w.heap.size) (hok:∀ p ∈ ls.take k,0 ≤ p.2 ∧ p.2 ≤ 200) :
  Calls Tryz.prog 169 #[.slice (some ⟨g,0,none⟩) k cap,.agg #[.int .i64 a,.int .i64 o]] w fun e w' => e = .returned (.bool (Tab.follows (ls.take k) a o)) ∧ Below w.heap.size w w':=by
 cases k with
 | zero => rw [List.take_zero];exact can_follow_nil _ cap a o w wa wo
 | succ q =>
  have hlen:(ls.take (q + 1)).length = q + 1:=by simp;omega
  exact can_follow_some g cap q (ls.take (q + 1)) a o w wa wo hlen (by omega) (fun i hi => by
   rw [hlen] at hi
   have:=hl i (by omega)
   simpa using this) hg hok
def Held (w:World) (lv:Value) (ls:List (Int × Int)):Prop :=
 (ls = [] ∧ ∃ ao cap,lv = .slice ao 0 cap) ∨ (0 < ls.length ∧ ∃ g cap,lv = .slice (some ⟨g,0,none⟩) ls.length cap ∧ ls.length ≤ cap ∧ g < w.heap.size ∧ Lies w g ls)
theorem leap_size:∀ w:World,(sizeOf (Tryz.prog.elem 76)).run Tryz.prog w = .ok 2 w:=fun _ => by kernel_rfl
theorem head_run (g L cap k:Nat) (h:k ≤ cap) (w:World) :
  (Instr.slice 76 (.slice (some ⟨g,0,none⟩) L cap) none (some (.int .i64 (k:Int))) none).run Tryz.prog w = .ok (.slice (some ⟨g,0,none⟩) k cap) w:=by
 rw [run_slice_h (P:=Tryz.prog) w 76 (some ⟨g,0,none⟩) L cap (by kernel_rfl) .i64 (k:Int) (by omega) (by omega),leap_size]
 simp [sliced,Addr.add,Result.andThen]
set_option maxRecDepth 100000 in
set_option maxHeartbeats 3200000 in
theorem is_table (lv:Value) (ls:List (Int × Int)) (up ex:Int) (w:World) (wu:(Lit.int .i64 up).wf = true) (wx:(Lit.int .i64 ex).wf = true)
  (hv:Held w lv ls) (hn:ls.length ≤ 100000) (hwf:∀ p ∈ ls,WfP p) :
  Calls Tryz.prog 127 #[.agg #[.int .i64 up,.int .i64 ex,lv]] w fun e w' => e = .returned (.bool (Tab.whole up ex ls)) ∧ Below w.heap.size w w':=by
 have bu:=bounds_i64 wu
 have bx:=bounds_i64 wx
 clear wu wx
 have HBel:=hid' ((Below.refl w.heap.size w).alloc (Nat.le_refl _) (.cells #[.int .i64 up,.int .i64 ex,lv] 78))
 rcases hv with ⟨rfl,ao,cap,rfl⟩ | ⟨h3,g,cap,rfl,hcap,hgl,hlies⟩
 ·have H:Hid (Tab.whole up ex [] = false):=Tab.whole_no4 rfl
  clear hwf hn
  by_cases h0:up < 0
  ·go_enter Tryz.func127,Tryz.ntmps127
   go_wp2
   go_ret
   exact ⟨ret_bool H.out.symm,HBel.out⟩
  ·by_cases h1:ex ≤ up
   ·go_enter Tryz.func127,Tryz.ntmps127
    go_wp2
    go_ret
    exact ⟨ret_bool H.out.symm,HBel.out⟩
   ·by_cases h2:34000000000 < ex
    ·go_enter Tryz.func127,Tryz.ntmps127
     go_wp2
     go_ret
     exact ⟨ret_bool H.out.symm,HBel.out⟩
    ·go_enter Tryz.func127,Tryz.ntmps127
     go_wp2
     go_ret
     exact ⟨ret_bool H.out.symm,HBel.out⟩
 ·have HLI:=hid' hlies
  have HWF:=hid' hwf
  clear hlies hwf
  by_cases h0:up < 0
  ·have H:Hid (Tab.whole up ex ls = false):=Tab.whole_no1 h0
   go_enter Tryz.func127,Tryz.ntmps127
   go_wp2
   go_ret
   exact ⟨ret_bool H.out.symm,HBel.out⟩
  by_cases h1:ex ≤ up
  ·have H:Hid (Tab.whole up ex ls = false):=Tab.whole_no2 h1
   go_enter Tryz.func127,Tryz.ntmps127
   go_wp2
   go_ret
   exact ⟨ret_bool H.out.symm,HBel.out⟩
  by_cases h2:34000000000 < ex
  ·have H:Hid (Tab.whole up ex ls = false):=Tab.whole_no3 h2
   go_enter Tryz.func127,Tryz.ntmps127
   go_wp2
   go_ret
   exact ⟨ret_bool H.out.symm,HBel.out⟩
  by_cases h4:40 < ls.length
  ·have H:Hid (Tab.whole up ex ls = false):=by
    show _ = _
    cases hw:Tab.whole up ex ls with
    | false => rfl
    | true => have:=(Tab.good_of_whole hw).len;omega
   go_enter Tryz.func127,Tryz.ntmps127
   go_wp2
   go_ret
   exact ⟨ret_bool H.out.symm,HBel.out⟩
  have H:Hid (Tab.whole up ex ls = Tab.okUpTo ls ls.length):=Tab.whole_is h0 h1 h2 (by omega)
  have HROW:=hid' (heap_alloc_new w (.cells #[.int .i64 up,.int .i64 ex,.slice (some ⟨g,0,none⟩) ls.length cap] 78))
  generalize hln:ls.length = n at *
  have HLN:=hid' hln
  clear hln
  go_enter Tryz.func127,Tryz.ntmps127
  go_wp2_with fail
  go_loopw [3] (fun i wr => ∃ k:Nat,k ≤ n ∧ i = .int .i64 k ∧ Tab.okUpTo ls k = true ∧ Below w.heap.size w wr ∧ wr.heap[w.heap.size]? = some (.cells #[.int .i64 up,.int .i64 ex,.slice (some ⟨g,0,none⟩) n cap] 78 (0,0))) (fun i _ => n - (intOf i).toNat)
  case atStart => exact ⟨0,by omega,rfl,rfl,HBel.out,HROW.out⟩
  case round =>
   obtain ⟨k,hk,rfl,hokk,hbw,hrow⟩:=hrel
   have t2:=cell_of_row _ _ 2 _ _ _ hrow
   simp at t2
   have hsw:=lt_of_heap hrow
   have HOK:=hid' hokk
   have HBW:=hid' hbw
   have HR:=hid' hrow
   clear hokk hbw hrow HROW
   by_cases hlt:k < n
   ·have hkl:k < ls.length:=by rw [HLN.out];exact hlt
    have hwp:=HWF.out _ (List.getElem_mem hkl)
    have HLW:=hid' (HLI.out.below hgl HBW.out)
    obtain ⟨c1,c2⟩:=HLW.out k hkl
    have hgw:g < wr.heap.size:=by have:=HBW.out.size;omega
    have hfo:=fun W (hL:Lies W g ls) (hW:g < W.heap.size) => can_follow g cap k ls ls[k].1 ls[k].2 W hwp.1 hwp.2 (by omega) (by omega) hL hW (Tab.okUpTo_off k (by omega) HOK.out)
    have HFO:=hid' hfo
    have HSU:=hid' (Tab.okUpTo_succ ls k hkl)
    clear hfo hwp
    generalize ls[k] = p at *
    clear hkl
    obtain ⟨pa,po⟩:=p
    simp only at c1 c2
    have hsl:=fun W => head_run g n cap k (by omega) W
    cases hf:Tab.follows (ls.take k) pa po with
    | false =>
     simp only [hf] at HFO HSU
     have H2:Hid (Tab.whole up ex ls = false):=by
      show _ = _;rw [H.out];exact Tab.okUpTo_no (k:=k + 1) (by rw [HSU.out];simp) (by omega)
     clear hf
     go_wp2_with fail
     go_region_with (go_at_call 169;refine (HFO.out _ (by exact HLW.out) (by exact hgw)).mono ?_;rintro e w2 ⟨rfl,hb2⟩;have HB2:=hid' hb2;clear hb2)
     all_goals
      go_wp2
      go_ret
      exact ⟨ret_bool H2.out.symm,HBW.out.drew.trans (HB2.out.mono (by exact HBW.out.size))⟩
    | true =>
     simp only [hf] at HFO HSU
     have H2:Hid (Tab.okUpTo ls (k + 1) = true):=by show _ = _;rw [HSU.out,HOK.out];rfl
     clear hf HSU
     go_wp2_with fail
     go_region_with (go_at_call 169;refine (HFO.out _ (by exact HLW.out) (by exact hgw)).mono ?_;rintro e w2 ⟨rfl,hb2⟩;have HB2:=hid' hb2;clear hb2)
     all_goals
      go_wp2
      go_roundw
      case rel => exact ⟨k + 1,by omega,by go_num,H2.out,HBW.out.drew.trans (HB2.out.mono (by exact HBW.out.size)),(HB2.out.block _ (by exact hsw)).trans HR.out⟩
      case measure => simp [intOf];omega
   ·have ek:k = n:=by omega
    have H2:Hid (Tab.whole up ex ls = true):=by show _ = _;rw [H.out,← ek];exact HOK.out
    have hnk:¬ (k:Int) < (n:Int):=by omega
    clear ek
    go_wp2
    go_ret
    exact ⟨ret_bool H2.out.symm,HBW.out⟩
end Go.Proofs.YtmmkhodaljpjgaaGreatDoor
