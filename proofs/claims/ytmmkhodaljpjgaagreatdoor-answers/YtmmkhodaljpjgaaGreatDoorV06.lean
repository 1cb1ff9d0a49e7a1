import Derived.Test.YtmmkhodaljpjgaaGreatDoorV03
namespace Go.Proofs.YtmmkhodaljpjgaaGreatDoor
open Go.RowKit
namespace Cal
def inB (y m n:Int):Bool:=decide (1900 ≤ y ∧ y ≤ 2999 ∧ 1 ≤ m ∧ m ≤ 12 ∧ yb y + cum y m ≤ n ∧ n < yb y + cum y m + dim y m)
theorem inB_in {y m n:Int} (h:inB y m n = true):In y m n:=by
 obtain ⟨a,b,c,d,e,f⟩:=of_decide_eq_true h
 exact ⟨a,b,c,d,e,f⟩
def allMonths:List (Int × Int):=(List.range 13200).map fun (k:Nat) => (1900 + (k:Int) / 12,1 + (k:Int) % 12)
def find (n:Int):Option (Int × Int):=allMonths.find? fun p => inB p.1 p.2 n
theorem find_in {n:Int} {p:Int × Int} (h:find n = some p):In p.1 p.2 n:=by
 have q:=List.find?_some (show List.find? (fun p => inB p.1 p.2 n) allMonths = some p from h)
 exact inB_in q
theorem find_eq {y m n:Int} (h:In y m n):find n = some (y,m):=by
 cases e:find n with
 | none =>
  have mem:(y,m) ∈ allMonths:=by
   have:=h.y1
   have:=h.y2
   have:=h.m1
   have:=h.m2
   refine List.mem_map.2 ⟨((y - 1900) * 12 + (m - 1)).toNat,List.mem_range.2 (by omega),?_⟩
   have e:((((y - 1900) * 12 + (m - 1)).toNat:Nat):Int) = (y - 1900) * 12 + (m - 1):=by omega
   rw [e]
   exact Prod.ext (by simp only;omega) (by simp only;omega)
  have:=List.find?_eq_none.1 e _ mem
  exact absurd (decide_eq_true ⟨h.y1,h.y2,h.m1,h.m2,h.lo,h.hi⟩) this
 | some p =>
  have o:=(find_in e).only h
  exact congrArg some (Prod.ext o.1 o.2)
end Cal
namespace Tab
def IsFirst (sec:Int):Prop:=0 ≤ sec ∧ sec % 86400 = 0 ∧ ∃ y m,Cal.In y m (sec / 86400) ∧ sec / 86400 = Cal.yb y + Cal.cum y m
def first (sec:Int):Bool:=decide (0 ≤ sec ∧ sec % 86400 = 0) && (match Cal.find (sec / 86400) with | none => false | some p => decide (sec / 86400 = Cal.yb p.1 + Cal.cum p.1 p.2))
theorem first_iff (sec:Int):first sec = true ↔ IsFirst sec:=by
 unfold first IsFirst
 rw [Bool.and_eq_true,decide_eq_true_eq]
 refine ⟨fun ⟨⟨a,b⟩,c⟩ => ⟨a,b,?_⟩,fun ⟨a,b,y,m,hi,e⟩ => ⟨⟨a,b⟩,?_⟩⟩
 ·cases hf:Cal.find (sec / 86400) with
  | none => rw [hf] at c;cases c
  | some p => rw [hf] at c;exact ⟨p.1,p.2,Cal.find_in hf,of_decide_eq_true c⟩
 ·rw [Cal.find_eq hi];exact decide_eq_true e
theorem first_yes {sec:Int} (h:IsFirst sec):first sec = true:=(first_iff sec).2 h
theorem first_no {sec:Int} (h:¬ IsFirst sec):first sec = false:=by
 cases e:first sec with
 | false => rfl
 | true => exact absurd ((first_iff sec).1 e) h
def behindB (p:Int × Int) (a o:Int):Bool:=decide (p.1 < a) && (o == p.2 + 1 || o == p.2 - 1)
def follows (ls:List (Int × Int)) (a o:Int):Bool :=
 first a && (decide (0 ≤ o) && (decide (o ≤ 200) && ((!(ls.length == 40)) && (match ls.getLast? with | none => true | some p => behindB p a o))))
end Tab
namespace Tab
theorem follows_no1 {ls:List (Int × Int)} {a o:Int} (h:first a = false):follows ls a o = false:=by simp [follows,h]
theorem follows_no2 {ls:List (Int × Int)} {a o:Int} (h:o < 0):follows ls a o = false:=by
 have:decide (0 ≤ o) = false:=by simp;omega
 simp [follows,this]
theorem follows_no3 {ls:List (Int × Int)} {a o:Int} (h:200 < o):follows ls a o = false:=by
 have:decide (o ≤ 200) = false:=by simp;omega
 simp [follows,this]
theorem follows_no4 {ls:List (Int × Int)} {a o:Int} (h:ls.length = 40):follows ls a o = false:=by simp [follows,h]
theorem follows_nil {a o:Int} (h:first a = true) (h0:0 ≤ o) (h1:o ≤ 200):follows [] a o = true:=by simp [follows,h,h0,h1]
theorem follows_last {ls:List (Int × Int)} {a o:Int} (h:first a = true) (h0:0 ≤ o) (h1:o ≤ 200) (h2:ls.length ≠ 40) (q:Nat) (hq:ls.length = q + 1) :
  follows ls a o = behindB (ls[q]'(by omega)) a o:=by
 have hl:ls.getLast? = some (ls[q]'(by omega)):=by
  rw [List.getLast?_eq_getElem?,List.getElem?_eq_getElem (by omega)]
  congr 1
  simp [hq]
 unfold follows
 rw [hl,h]
 simp [h0,h1,h2]
end Tab
namespace Tab
def okUpTo (ls:List (Int × Int)):Nat → Bool
 | 0 => true
 | k + 1 => okUpTo ls k && (match ls[k]? with | none => true | some p => follows (ls.take k) p.1 p.2)
def whole (up ex:Int) (ls:List (Int × Int)):Bool :=
 decide (0 ≤ up) && (decide (up < ex) && (decide (ex ≤ 34000000000) && ((!(ls.length == 0)) && okUpTo ls ls.length)))
theorem okUpTo_succ (ls:List (Int × Int)) (k:Nat) (h:k < ls.length):okUpTo ls (k + 1) = (okUpTo ls k && follows (ls.take k) ls[k].1 ls[k].2):=by
 simp only [okUpTo];rw [List.getElem?_eq_getElem h]
theorem okUpTo_no {ls:List (Int × Int)} {k m:Nat} (h:okUpTo ls k = false) (hm:k ≤ m):okUpTo ls m = false:=by
 induction m with
 | zero => have:k = 0:=by omega
           subst this;exact h
 | succ m ih =>
  by_cases e:k = m + 1
  ·subst e;exact h
  ·simp [okUpTo,ih (by omega)]
theorem follows_off {ls:List (Int × Int)} {a o:Int} (h:follows ls a o = true):0 ≤ o ∧ o ≤ 200:=by
 by_cases h0:o < 0
 ·rw [follows_no2 h0] at h;cases h
 ·by_cases h1:200 < o
  ·rw [follows_no3 h1] at h;cases h
  ·omega
theorem okUpTo_off {ls:List (Int × Int)} (k:Nat) (hk:k ≤ ls.length) (h:okUpTo ls k = true):∀ p ∈ ls.take k,0 ≤ p.2 ∧ p.2 ≤ 200:=by
 induction k with
 | zero => intro p hp;simp at hp
 | succ k ih =>
  rw [okUpTo_succ ls k (by omega)] at h
  simp only [Bool.and_eq_true] at h
  intro p hp
  rw [List.take_succ_eq_append_getElem (by omega)] at hp
  rcases List.mem_append.1 hp with hp | hp
  ·exact ih (by omega) h.1 p hp
  ·simp at hp;subst hp;exact follows_off h.2
theorem whole_no1 {up ex:Int} {ls:List (Int × Int)} (h:up < 0):whole up ex ls = false:=by
 have:decide (0 ≤ up) = false:=by simp;omega
 simp [whole,this]
theorem whole_no2 {up ex:Int} {ls:List (Int × Int)} (h:ex ≤ up):whole up ex ls = false:=by
 have:decide (up < ex) = false:=by simp;omega
 simp [whole,this]
theorem whole_no3 {up ex:Int} {ls:List (Int × Int)} (h:34000000000 < ex):whole up ex ls = false:=by
 have:decide (ex ≤ 34000000000) = false:=by simp;omega
 simp [whole,this]
theorem whole_no4 {up ex:Int} {ls:List (Int × Int)} (h:ls.length = 0):whole up ex ls = false:=by simp [whole,h]
theorem whole_is {up ex:Int} {ls:List (Int × Int)} (h0:¬ up < 0) (h1:¬ ex ≤ up) (h2:¬ 34000000000 < ex) (h3:¬ ls.length = 0):whole up ex ls = okUpTo ls ls.length:=by
 have a:decide (0 ≤ up) = true:=by simp;omega
 have b:decide (up < ex) = true:=by simp;omega
 have c:decide (ex ≤ 34000000000) = true:=by simp;omega
 have d:(ls.length == 0) = false:=by rw [beq_eq_false_iff_ne];exact h3
 simp only [whole,a,b,c,d,Bool.not_false,Bool.true_and]
end Tab
def Lies (w:World) (g:Nat) (ls:List (Int × Int)):Prop:=∀ i (h:i < ls.length),w.cell? ⟨g,i * 2,none⟩ = some (.int .i64 ls[i].1) ∧ w.cell? ⟨g,i * 2 + 1,none⟩ = some (.int .i64 ls[i].2)
def Fine (ls:List (Int × Int)):Prop:=∀ p ∈ ls,(0 ≤ p.1 ∧ p.1 ≤ 34712668800) ∧ (0 ≤ p.2 ∧ p.2 ≤ 200)
theorem Tab.first_bd {a:Int} (h:Tab.IsFirst a):0 ≤ a ∧ a ≤ 34712668800:=by
 obtain ⟨h0,_,y,m,hi,_⟩:=h
 have a:=hi.year
 have b:=Cal.yb_mono (y + 1) 3000 (by have:=hi.y2;omega)
 rw [Cal.yb_last] at b
 omega
theorem Tab.follows_first {ls:List (Int × Int)} {a o:Int} (h:Tab.follows ls a o = true):Tab.IsFirst a:=by
 cases hf:Tab.first a with
 | false => rw [Tab.follows_no1 hf] at h;cases h
 | true => exact (Tab.first_iff a).1 hf
theorem Tab.okUpTo_at {ls:List (Int × Int)} (k:Nat) (hk:k ≤ ls.length) (h:Tab.okUpTo ls k = true):∀ i (hi:i < k),Tab.follows (ls.take i) (ls[i]'(by omega)).1 (ls[i]'(by omega)).2 = true:=by
 induction k with
 | zero => intro i hi;omega
 | succ k ih =>
  rw [Tab.okUpTo_succ ls k (by omega)] at h
  simp only [Bool.and_eq_true] at h
  intro i hi
  by_cases e:i = k
  ·subst e;exact h.2
  ·exact ih (by omega) h.1 i (by omega)
theorem Tab.whole_ok {up ex:Int} {ls:List (Int × Int)} (h:Tab.whole up ex ls = true):Tab.okUpTo ls ls.length = true ∧ 0 < ls.length:=by
 unfold Tab.whole at h
 simp only [Bool.and_eq_true,Bool.not_eq_true',beq_eq_false_iff_ne,ne_eq] at h
 exact ⟨h.2.2.2.2,by omega⟩
theorem Tab.fine_of_whole {up ex:Int} {ls:List (Int × Int)} (h:Tab.whole up ex ls = true):Fine ls:=fun p hp => by
 obtain ⟨i,hi,rfl⟩:=List.getElem_of_mem hp
 have:=Tab.okUpTo_at ls.length (Nat.le_refl _) (Tab.whole_ok h).1 i hi
 exact ⟨Tab.first_bd (Tab.follows_first this),Tab.follows_off this⟩
def Tab.when (ls:List (Int × Int)) (i:Nat):Int :=
 (ls.getD i (0,0)).1 + (if 0 < i ∧ (ls.getD (i - 1) (0,0)).2 < (ls.getD i (0,0)).2 then (ls.getD (i - 1) (0,0)).2 else (ls.getD i (0,0)).2)
theorem getD_at {ls:List (Int × Int)} (i:Nat) (h:i < ls.length):ls.getD i (0,0) = ls[i]:=by
 rw [List.getD_eq_getElem?_getD,List.getElem?_eq_getElem h];rfl
def Tab.lastAt (ls:List (Int × Int)) (sec:Int):Nat → Int
 | 0 => -1
 | k + 1 => if Tab.when ls k ≤ sec then (k:Int) else Tab.lastAt ls sec k
theorem Tab.lastAt_bd (ls:List (Int × Int)) (sec:Int) (k:Nat):-1 ≤ Tab.lastAt ls sec k ∧ Tab.lastAt ls sec k < k:=by
 induction k with
 | zero => simp [Tab.lastAt]
 | succ k ih => simp only [Tab.lastAt];split <;> omega
def Tab.offset (up ex:Int) (ls:List (Int × Int)) (sec:Int):Int × Int :=
 if Tab.whole up ex ls = false then (0,8) else if 34000000000 < sec then (0,9)
 else if Tab.lastAt ls sec ls.length < 0 then (0,9) else ((ls.getD (Tab.lastAt ls sec ls.length).toNat (0,0)).2,0)
theorem Lies.below {w w':World} {g:Nat} {ls:List (Int × Int)} (h:Lies w g ls) (hg:g < w.heap.size) (hb:Below w.heap.size w w'):Lies w' g ls:=fun i hi =>
 ⟨(hb.cell (p:=⟨g,i * 2,none⟩) hg).trans (h i hi).1,(hb.cell (p:=⟨g,i * 2 + 1,none⟩) hg).trans (h i hi).2⟩
def Tab.offAt (ls:List (Int × Int)) (D:Int):Nat → Int
 | 0 => (ls.getD 0 (0,0)).2
 | k + 1 => if (ls.getD (k + 1) (0,0)).1 ≤ D then (ls.getD (k + 1) (0,0)).2 else Tab.offAt ls D k
def Tab.begins (ls:List (Int × Int)) (d:Int):Int :=
 if d * 86400 < (ls.getD 0 (0,0)).1 then -1 else d * 86400 + Tab.offAt ls (d * 86400) (ls.length - 1)
def Tab.lenFrom (ls:List (Int × Int)) (D:Int) (i:Nat):Nat → Int
 | 0 => 86400
 | m + 1 => if (ls.getD i (0,0)).1 = D then 86400 + (ls.getD i (0,0)).2 - (ls.getD (i - 1) (0,0)).2 else Tab.lenFrom ls D (i + 1) m
def Tab.length (ls:List (Int × Int)) (d:Int):Int:=Tab.lenFrom ls ((d + 1) * 86400) 1 (ls.length - 1)
theorem Tab.offAt_bd {ls:List (Int × Int)} (hf:Fine ls) (D:Int) (k:Nat) (hk:k < ls.length):0 ≤ Tab.offAt ls D k ∧ Tab.offAt ls D k ≤ 200:=by
 induction k with
 | zero => simp only [Tab.offAt];rw [getD_at 0 hk];exact (hf _ (List.getElem_mem hk)).2
 | succ k ih =>
  simp only [Tab.offAt]
  split
  ·rw [getD_at (k + 1) hk];exact (hf _ (List.getElem_mem hk)).2
  ·exact ih (by omega)
theorem Tab.lenFrom_bd {ls:List (Int × Int)} (hf:Fine ls) (D:Int) (m i:Nat) (hi:1 ≤ i) (hm:i + m ≤ ls.length):86200 ≤ Tab.lenFrom ls D i m ∧ Tab.lenFrom ls D i m ≤ 86600:=by
 induction m generalizing i with
 | zero => simp [Tab.lenFrom]
 | succ m ih =>
  simp only [Tab.lenFrom]
  split
  ·rw [getD_at i (by omega),getD_at (i - 1) (by omega)]
   have a:=(hf _ (List.getElem_mem (show i < ls.length by omega))).2
   have b:=(hf _ (List.getElem_mem (show i - 1 < ls.length by omega))).2
   omega
  ·exact ih (i + 1) (by omega) (by omega)
def Tab.second (up ex:Int) (ls:List (Int × Int)) (d s:Int):Int × Int :=
 if Tab.whole up ex ls = false then (0,8) else if d < 0 ∨ 401767 ≤ d then (0,9)
 else if Tab.begins ls d < 0 ∨ s < 0 ∨ Tab.length ls d ≤ s ∨ 34000000000 < Tab.begins ls d + s then (0,9) else (Tab.begins ls d + s,0)
theorem Tab.begins_bd {ls:List (Int × Int)} (hf:Fine ls) (hp:0 < ls.length) (d:Int):-1 ≤ Tab.begins ls d ∧ (Tab.begins ls d = -1 ∨ (d * 86400 ≤ Tab.begins ls d ∧ Tab.begins ls d ≤ d * 86400 + 200)):=by
 have h0:=(hf _ (List.getElem_mem hp)).1
 have ho:=Tab.offAt_bd hf (d * 86400) (ls.length - 1) (by omega)
 unfold Tab.begins
 rw [getD_at 0 hp]
 split <;> omega
theorem Tab.length_bd {ls:List (Int × Int)} (hf:Fine ls) (hp:0 < ls.length) (d:Int):86200 ≤ Tab.length ls d ∧ Tab.length ls d ≤ 86600 :=
 Tab.lenFrom_bd hf _ _ _ (Nat.le_refl _) (by omega)
theorem Tab.offset_ok {up ex:Int} {ls:List (Int × Int)} {sec:Int} (h:(Tab.offset up ex ls sec).2 = 0):Tab.whole up ex ls = true ∧ sec ≤ 34000000000 ∧ 0 ≤ Tab.lastAt ls sec ls.length:=by
 unfold Tab.offset at h
 split at h
 ·simp at h
 ·split at h
  ·simp at h
  ·split at h
   ·simp at h
   ·refine ⟨by simp_all,by omega,by omega⟩
namespace Tab
structure Good (ls:List (Int × Int)):Prop where
 pos:0 < ls.length
 fine:Fine ls
 day:∀ i,i < ls.length → (ls.getD i (0,0)).1 % 86400 = 0
 up:∀ i,i + 1 < ls.length → (ls.getD i (0,0)).1 < (ls.getD (i + 1) (0,0)).1
 off:∀ i,i + 1 < ls.length → (ls.getD (i + 1) (0,0)).2 = (ls.getD i (0,0)).2 + 1 ∨ (ls.getD (i + 1) (0,0)).2 = (ls.getD i (0,0)).2 - 1
 len:ls.length ≤ 40
theorem good_of_whole {up ex:Int} {ls:List (Int × Int)} (h:whole up ex ls = true):Good ls:=by
 obtain ⟨hok,hpos⟩:=whole_ok h
 have hat:=okUpTo_at ls.length (Nat.le_refl _) hok
 have hlast:∀ i (hi:i + 1 < ls.length),behindB ls[i] ls[i + 1].1 ls[i + 1].2 = true:=fun i hi => by
  have hfl:=hat (i + 1) hi
  have hne:(ls.take (i + 1)).length ≠ 40:=fun e => by rw [follows_no4 e] at hfl;cases hfl
  have hfi:first ls[i + 1].1 = true:=by
   cases hf:first ls[i + 1].1 with
   | false => rw [follows_no1 hf] at hfl;cases hfl
   | true => rfl
  have ho:=follows_off hfl
  have:=follows_last (ls:=ls.take (i + 1)) hfi ho.1 ho.2 hne i (by simp;omega)
  rw [this] at hfl
  simpa using hfl
 refine ⟨hpos,fine_of_whole h,fun i hi => ?_,fun i hi => ?_,fun i hi => ?_,?_⟩
 ·rw [getD_at i hi];exact (follows_first (hat i hi)).2.1
 ·rw [getD_at i (by omega),getD_at (i + 1) hi]
  have:=hlast i hi
  simp only [behindB,Bool.and_eq_true,decide_eq_true_eq] at this
  exact this.1
 ·rw [getD_at i (by omega),getD_at (i + 1) hi]
  have:=hlast i hi
  simp only [behindB,Bool.and_eq_true,Bool.or_eq_true,beq_iff_eq] at this
  exact this.2
 ·by_cases c:ls.length ≤ 40
  ·exact c
  ·have hfl:=hat 40 (by omega)
   rw [follows_no4 (by simp;omega)] at hfl
   cases hfl
theorem Good.lt {ls:List (Int × Int)} (h:Good ls) (i j:Nat) (hij:i < j) (hj:j < ls.length):(ls.getD i (0,0)).1 < (ls.getD j (0,0)).1:=by
 induction j with
 | zero => omega
 | succ j ih =>
  by_cases e:i = j
  ·subst e;exact h.up i hj
  ·have:=ih (by omega) (by omega);have:=h.up j hj;omega
theorem Good.last {ls:List (Int × Int)} (_:Good ls) (D:Int) (h0:(ls.getD 0 (0,0)).1 ≤ D) (k:Nat) (hk:k < ls.length) :
  ∃ j,j ≤ k ∧ (ls.getD j (0,0)).1 ≤ D ∧ ∀ i,j < i → i ≤ k → D < (ls.getD i (0,0)).1:=by
 induction k with
 | zero => exact ⟨0,Nat.le_refl _,h0,fun i a b => by omega⟩
 | succ k ih =>
  by_cases c:(ls.getD (k + 1) (0,0)).1 ≤ D
  ·exact ⟨k + 1,Nat.le_refl _,c,fun i a b => by omega⟩
  ·obtain ⟨j,hj,hd,hr⟩:=ih (by omega)
   refine ⟨j,by omega,hd,fun i a b => ?_⟩
   by_cases e:i = k + 1
   ·subst e;omega
   ·exact hr i a (by omega)
theorem offAt_eq (ls:List (Int × Int)) (D:Int) (j k:Nat) (hjk:j ≤ k) (hd:(ls.getD j (0,0)).1 ≤ D) (hr:∀ i,j < i → i ≤ k → D < (ls.getD i (0,0)).1):offAt ls D k = (ls.getD j (0,0)).2:=by
 induction k with
 | zero => have:j = 0:=by omega
           subst this;rfl
 | succ k ih =>
  simp only [offAt]
  by_cases e:j = k + 1
  ·subst e;rw [if_pos hd]
  ·have:=hr (k + 1) (by omega) (Nat.le_refl _)
   rw [if_neg (by omega)]
   exact ih (by omega) (fun i a b => hr i a (by omega))
theorem lenFrom_no (ls:List (Int × Int)) (E:Int) (m i:Nat) (h:∀ t,i ≤ t → t < i + m → (ls.getD t (0,0)).1 ≠ E):lenFrom ls E i m = 86400:=by
 induction m generalizing i with
 | zero => rfl
 | succ m ih =>
  simp only [lenFrom]
  rw [if_neg (h i (Nat.le_refl _) (by omega))]
  exact ih (i + 1) (fun t a b => h t (by omega) (by omega))
theorem lenFrom_yes (ls:List (Int × Int)) (E:Int) (m i t:Nat) (h0:i ≤ t) (h1:t < i + m) (ht:(ls.getD t (0,0)).1 = E) (h:∀ q,i ≤ q → q < t → (ls.getD q (0,0)).1 ≠ E) :
  lenFrom ls E i m = 86400 + (ls.getD t (0,0)).2 - (ls.getD (t - 1) (0,0)).2:=by
 induction m generalizing i with
 | zero => omega
 | succ m ih =>
  simp only [lenFrom]
  by_cases e:i = t
  ·subst e;rw [if_pos ht]
  ·rw [if_neg (h i (Nat.le_refl _) (by omega))]
   exact ih (i + 1) (by omega) (by omega) (fun q a b => h q (by omega) b)
theorem Good.next {ls:List (Int × Int)} (h:Good ls) (d:Int) (h0:(ls.getD 0 (0,0)).1 ≤ d * 86400):begins ls (d + 1) = begins ls d + length ls d:=by
 have hp:=h.pos
 obtain ⟨j,hj,hd,hr⟩:=h.last (d * 86400) h0 (ls.length - 1) (by omega)
 have e1:begins ls d = d * 86400 + (ls.getD j (0,0)).2:=by
  unfold begins;rw [if_neg (by omega),offAt_eq ls (d * 86400) j (ls.length - 1) hj hd hr]
 have hb:∀ i,j < i → i < ls.length → (d + 1) * 86400 ≤ (ls.getD i (0,0)).1:=fun i a b => by
  have x:=hr i a (by omega)
  have y:=h.day i b
  omega
 by_cases c:j + 1 < ls.length ∧ (ls.getD (j + 1) (0,0)).1 = (d + 1) * 86400
 ·have e2:begins ls (d + 1) = (d + 1) * 86400 + (ls.getD (j + 1) (0,0)).2:=by
   unfold begins
   rw [if_neg (by omega),offAt_eq ls ((d + 1) * 86400) (j + 1) (ls.length - 1) (by omega) (by omega) (fun i a b => by have:=h.lt (j + 1) i a (by omega);omega)]
  have e3:length ls d = 86400 + (ls.getD (j + 1) (0,0)).2 - (ls.getD j (0,0)).2:=by
   unfold length
   exact lenFrom_yes ls ((d + 1) * 86400) (ls.length - 1) 1 (j + 1) (by omega) (by omega) c.2 (fun q a b => by have:=h.lt q (j + 1) b c.1;omega)
  omega
 ·have hb':∀ i,j < i → i < ls.length → (d + 1) * 86400 < (ls.getD i (0,0)).1:=fun i a b => by
   by_cases e:i = j + 1
   ·subst e
    have:=hb (j + 1) (by omega) b
    have:(ls.getD (j + 1) (0,0)).1 ≠ (d + 1) * 86400:=fun q => c ⟨b,q⟩
    omega
   ·have:=hb (j + 1) (by omega) (by omega)
    have:=h.lt (j + 1) i (by omega) b
    omega
  have e2:begins ls (d + 1) = (d + 1) * 86400 + (ls.getD j (0,0)).2:=by
   unfold begins
   rw [if_neg (by omega),offAt_eq ls ((d + 1) * 86400) j (ls.length - 1) hj (by omega) (fun i a b => hb' i a (by omega))]
  have e3:length ls d = 86400:=by
   unfold length
   refine lenFrom_no ls ((d + 1) * 86400) (ls.length - 1) 1 fun t a b => ?_
   by_cases e:t ≤ j
   ·by_cases e':t = j
    ·subst e';omega
    ·have:=h.lt t j (by omega) (by omega);omega
   ·have:=hb' t (by omega) (by omega);omega
  omega
structure Day (ls:List (Int × Int)) (sec d:Int):Prop where
 from':(ls.getD 0 (0,0)).1 ≤ d * 86400
 lo:begins ls d ≤ sec
 hi:sec < begins ls d + length ls d
theorem Good.begins_ge {ls:List (Int × Int)} (h:Good ls) (d:Int) (h0:(ls.getD 0 (0,0)).1 ≤ d * 86400):d * 86400 ≤ begins ls d ∧ begins ls d ≤ d * 86400 + 200:=by
 have ho:=offAt_bd h.fine (d * 86400) (ls.length - 1) (by have:=h.pos;omega)
 unfold begins
 rw [if_neg (by omega)]
 omega
theorem Good.mono {ls:List (Int × Int)} (h:Good ls) (d:Int) (h0:(ls.getD 0 (0,0)).1 ≤ d * 86400) (m:Nat):begins ls d + 86200 * m ≤ begins ls (d + m):=by
 induction m with
 | zero => simp
 | succ m ih =>
  have a:=h.next (d + m) (by omega)
  have b:=length_bd h.fine h.pos (d + m)
  rw [show d + ((m + 1:Nat):Int) = d + m + 1 from by omega]
  omega
theorem Good.le {ls:List (Int × Int)} (h:Good ls) (d e:Int) (h0:(ls.getD 0 (0,0)).1 ≤ d * 86400) (hde:d < e):begins ls (d + 1) ≤ begins ls e:=by
 have:=h.mono (d + 1) (by omega) (e - (d + 1)).toNat
 rw [show d + 1 + (((e - (d + 1)).toNat:Nat):Int) = e from by omega] at this
 omega
theorem Good.only {ls:List (Int × Int)} (h:Good ls) {sec d e:Int} (a:Day ls sec d) (b:Day ls sec e):d = e:=by
 rcases Int.lt_trichotomy d e with c | c | c
 ·have:=h.le d e a.from' c
  have:=h.next d a.from'
  have:=a.hi
  have:=b.lo
  omega
 ·exact c
 ·have:=h.le e d b.from' c
  have:=h.next e b.from'
  have:=b.hi
  have:=a.lo
  omega
theorem Good.some {ls:List (Int × Int)} (h:Good ls) (sec:Int) (fuel:Nat) (d:Int) (h0:(ls.getD 0 (0,0)).1 ≤ d * 86400) (hb:begins ls d ≤ sec) (hf:sec - begins ls d < fuel):∃ e,Day ls sec e:=by
 induction fuel generalizing d with
 | zero => omega
 | succ fuel ih =>
  by_cases c:sec < begins ls d + length ls d
  ·exact ⟨d,h0,hb,c⟩
  ·have n:=h.next d h0
   have l:=length_bd h.fine h.pos d
   exact ih (d + 1) (by omega) (by omega) (by omega)
theorem Good.first_begins {ls:List (Int × Int)} (h:Good ls):begins ls ((ls.getD 0 (0,0)).1 / 86400) = (ls.getD 0 (0,0)).1 + (ls.getD 0 (0,0)).2:=by
 have hd:=h.day 0 h.pos
 have e:(ls.getD 0 (0,0)).1 / 86400 * 86400 = (ls.getD 0 (0,0)).1:=by omega
 unfold begins
 rw [e,if_neg (by omega),offAt_eq ls _ 0 (ls.length - 1) (by omega) (Int.le_refl _) (fun i a b => h.lt 0 i a (by have:=h.pos;omega))]
theorem Good.when_ge {ls:List (Int × Int)} (h:Good ls) (k:Nat) (hk:k < ls.length):when ls 0 ≤ when ls k:=by
 by_cases e:k = 0
 ·subst e;exact Int.le_refl _
 ·have a:=h.lt 0 k (by omega) hk
  have d0:=h.day 0 h.pos
  have dk:=h.day k hk
  have f0:=(h.fine _ (List.getElem_mem h.pos)).2
  rw [← getD_at 0 h.pos] at f0
  have fk:=(h.fine _ (List.getElem_mem hk)).2
  rw [← getD_at k hk] at fk
  have fp:=(h.fine _ (List.getElem_mem (show k - 1 < ls.length by omega))).2
  rw [← getD_at (k - 1) (by omega)] at fp
  have w0:when ls 0 = (ls.getD 0 (0,0)).1 + (ls.getD 0 (0,0)).2:=by unfold when;simp
  have wk:(ls.getD k (0,0)).1 ≤ when ls k:=by unfold when;split <;> omega
  omega
theorem Good.when_first {ls:List (Int × Int)} (h:Good ls) (sec:Int) (k:Nat) (hk:k ≤ ls.length) (hl:0 ≤ lastAt ls sec k):when ls 0 ≤ sec:=by
 induction k with
 | zero => simp [lastAt] at hl
 | succ k ih =>
  by_cases c:when ls k ≤ sec
  ·have:=h.when_ge k (by omega);omega
  ·simp only [lastAt] at hl
   rw [if_neg c] at hl
   exact ih (by omega) hl
theorem Good.has_day {ls:List (Int × Int)} (h:Good ls) (sec:Int) (hl:0 ≤ lastAt ls sec ls.length):∃ d,Day ls sec d:=by
 have hw:=h.when_first sec ls.length (Nat.le_refl _) hl
 have w0:when ls 0 = (ls.getD 0 (0,0)).1 + (ls.getD 0 (0,0)).2:=by unfold when;simp
 have hb:=h.first_begins
 have hd:=h.day 0 h.pos
 exact h.some sec ((sec - begins ls ((ls.getD 0 (0,0)).1 / 86400)).toNat + 1) ((ls.getD 0 (0,0)).1 / 86400) (by omega) (by omega) (by omega)
end Tab
namespace Tab
theorem first_gap {a b:Int} (ha:IsFirst a) (hb:IsFirst b) (h:a < b):a + 2419200 ≤ b:=by
 obtain ⟨a0,a1,y,m,hi,he⟩:=ha
 obtain ⟨b0,b1,z,o,gi,ge⟩:=hb
 have ym1:=hi.m1
 have ym2:=hi.m2
 have zm1:=gi.m1
 have zm2:=gi.m2
 have dm:=Cal.dim_bd y m
 have cs:=Cal.cum_succ y m ym1 ym2
 suffices hs:a / 86400 + 28 ≤ b / 86400 by omega
 rcases Int.lt_trichotomy y z with c | c | c
 ·have e13:=Cal.cum_mono y (m + 1) 13 (by omega)
  have ys:=Cal.yb_succ y
  have ce:=Cal.cum_end y
  have ymn:=Cal.yb_mono (y + 1) z (by omega)
  have cb:=Cal.cum_bd z o zm1 (by omega)
  omega
 ·subst c
  have hmo:m < o:=by
   by_cases q:o ≤ m
   ·have:=Cal.cum_mono y o m q;omega
   ·omega
  have:=Cal.cum_mono y (m + 1) o (by omega)
  omega
 ·have q1:=gi.year
  have q2:=Cal.yb_mono (z + 1) y (by omega)
  have q3:=hi.year
  omega
theorem whole_bds {up ex:Int} {ls:List (Int × Int)} (h:Tab.whole up ex ls = true):0 ≤ up ∧ up < ex ∧ ex ≤ 34000000000:=by
 unfold Tab.whole at h
 simp only [Bool.and_eq_true,decide_eq_true_eq] at h
 exact ⟨h.1,h.2.1,h.2.2.1⟩
def Fit (ls:List (Int × Int)):Prop:=0 < ls.length ∧ okUpTo ls ls.length = true
theorem Fit.whole {ls:List (Int × Int)} (h:Fit ls):whole 0 1 ls = true:=by
 rw [whole_is (by omega) (by omega) (by omega) (by have:=h.1;omega)];exact h.2
theorem Fit.good {ls:List (Int × Int)} (h:Fit ls):Good ls:=good_of_whole h.whole
theorem fit_of_whole {up ex:Int} {ls:List (Int × Int)} (h:Tab.whole up ex ls = true):Fit ls:=⟨(whole_ok h).2,(whole_ok h).1⟩
theorem Fit.isFirst {ls:List (Int × Int)} (h:Fit ls) (i:Nat) (hi:i < ls.length):IsFirst (ls.getD i (0,0)).1:=by
 rw [getD_at i hi];exact follows_first (okUpTo_at ls.length (Nat.le_refl _) h.2 i hi)
theorem Fit.gap {ls:List (Int × Int)} (h:Fit ls) (i:Nat) (hi:i + 1 < ls.length):(ls.getD i (0,0)).1 + 2419200 ≤ (ls.getD (i + 1) (0,0)).1 :=
 first_gap (h.isFirst i (by omega)) (h.isFirst (i + 1) hi) (h.good.up i hi)
theorem okUpTo_take (ls:List (Int × Int)) (k m:Nat) (hm:m ≤ k):okUpTo (ls.take k) m = okUpTo ls m:=by
 induction m with
 | zero => rfl
 | succ m ih =>
  simp only [okUpTo]
  rw [ih (by omega),List.getElem?_take_of_lt (by omega),List.take_take,Nat.min_eq_left (by omega)]
theorem okUpTo_append (ls r:List (Int × Int)) (m:Nat) (hm:m ≤ ls.length):okUpTo (ls ++ r) m = okUpTo ls m:=by
 have:=okUpTo_take (ls ++ r) ls.length m hm
 rw [List.take_left] at this
 exact this.symm
theorem Fit.take {ls:List (Int × Int)} (h:Fit ls) (k:Nat) (h0:0 < k) (hk:k ≤ ls.length):Fit (ls.take k):=by
 refine ⟨by simp;omega,?_⟩
 rw [okUpTo_take _ _ _ (by simp;omega)]
 cases hq:okUpTo ls (ls.take k).length with
 | true => rfl
 | false =>
  have:=okUpTo_no hq (show _ ≤ ls.length by simp;omega)
  rw [h.2] at this;cases this
theorem Fit.left {a b:List (Int × Int)} (h:Fit (a ++ b)) (h0:0 < a.length):Fit a:=by
 have:=h.take a.length h0 (by simp)
 rwa [List.take_left] at this
theorem Fit.grow {ls:List (Int × Int)} {a o:Int} (h:Fit ls) (hf:follows ls a o = true):Fit (ls ++ [(a,o)]):=by
 refine ⟨by simp,?_⟩
 rw [List.length_append,List.length_singleton,okUpTo_succ _ ls.length (by simp)]
 rw [okUpTo_append ls _ _ (Nat.le_refl _),h.2,List.take_left]
 simpa using hf
theorem getD_left (ls r:List (Int × Int)) (i:Nat) (hi:i < ls.length):(ls ++ r).getD i (0,0) = ls.getD i (0,0):=by
 rw [List.getD_eq_getElem?_getD,List.getD_eq_getElem?_getD,List.getElem?_append_left hi]
theorem when_append (ls r:List (Int × Int)) (i:Nat) (hi:i < ls.length):when (ls ++ r) i = when ls i:=by
 unfold when
 rw [getD_left _ _ i hi,getD_left _ _ (i - 1) (by omega)]
theorem Fit.bd {ls:List (Int × Int)} (h:Fit ls) (i:Nat) (hi:i < ls.length):(0 ≤ (ls.getD i (0,0)).1 ∧ (ls.getD i (0,0)).1 ≤ 34712668800) ∧ 0 ≤ (ls.getD i (0,0)).2 ∧ (ls.getD i (0,0)).2 ≤ 200:=by
 rw [getD_at i hi];exact h.good.fine _ (List.getElem_mem hi)
theorem Fit.when_bd {ls:List (Int × Int)} (h:Fit ls) (i:Nat) (hi:i < ls.length):(ls.getD i (0,0)).1 ≤ when ls i ∧ when ls i ≤ (ls.getD i (0,0)).1 + (ls.getD i (0,0)).2 ∧ (0 < i → (ls.getD i (0,0)).1 + (ls.getD i (0,0)).2 ≤ when ls i + 1) ∧ (i = 0 → when ls i = (ls.getD i (0,0)).1 + (ls.getD i (0,0)).2):=by
 have b:=h.bd i hi
 have c:=h.bd (i - 1) (by omega)
 unfold when
 split
 ·rename_i q
  have o:=h.good.off (i - 1) (by omega)
  rw [show i - 1 + 1 = i from by omega] at o
  omega
 ·rename_i q
  by_cases z:i = 0
  ·omega
  ·have o:=h.good.off (i - 1) (by omega)
   rw [show i - 1 + 1 = i from by omega] at o
   omega
theorem Fit.when_next {ls:List (Int × Int)} (h:Fit ls) (i:Nat) (hi:i + 1 < ls.length):when ls i + 2419000 ≤ when ls (i + 1):=by
 have a:=h.when_bd i (by omega)
 have b:=h.when_bd (i + 1) hi
 have c:=h.bd i (by omega)
 have g:=h.gap i hi
 omega
theorem Fit.when_lt {ls:List (Int × Int)} (h:Fit ls) (i j:Nat) (hij:i < j) (hj:j < ls.length):when ls i + 2419000 ≤ when ls j:=by
 induction j with
 | zero => omega
 | succ j ih =>
  by_cases e:i = j
  ·subst e;exact h.when_next i hj
  ·have:=ih (by omega) (by omega)
   have:=h.when_next j hj
   omega
theorem Fit.lastAt_iff {ls:List (Int × Int)} (h:Fit ls) (sec:Int) (k i:Nat) (hk:k ≤ ls.length) (hi:i < k):when ls i ≤ sec ↔ (i:Int) ≤ lastAt ls sec k:=by
 induction k with
 | zero => omega
 | succ k ih =>
  simp only [lastAt]
  by_cases c:when ls k ≤ sec
  ·rw [if_pos c]
   refine ⟨fun _ => by omega,fun _ => ?_⟩
   by_cases e:i = k
   ·subst e;exact c
   ·have:=h.when_lt i k (by omega) (by omega);omega
  ·rw [if_neg c]
   have lb:=lastAt_bd ls sec k
   by_cases e:i = k
   ·subst e
    exact ⟨fun q => absurd q c,fun q => by omega⟩
   ·exact ih (by omega) (by omega)
theorem Fit.lastAt_le {ls:List (Int × Int)} (h:Fit ls) (sec:Int) (h0:when ls 0 ≤ sec):0 ≤ lastAt ls sec ls.length ∧ lastAt ls sec ls.length < ls.length ∧ when ls (lastAt ls sec ls.length).toNat ≤ sec:=by
 have a:=(h.lastAt_iff sec ls.length 0 (Nat.le_refl _) h.1).1 h0
 have b:=lastAt_bd ls sec ls.length
 refine ⟨by omega,b.2,(h.lastAt_iff sec ls.length _ (Nat.le_refl _) (by omega)).2 (by omega)⟩
theorem Fit.utc_bd {ls:List (Int × Int)} (h:Fit ls) (sec:Int) (h0:when ls 0 ≤ sec):0 ≤ sec - (ls.getD (lastAt ls sec ls.length).toNat (0,0)).2 ∧ sec - (ls.getD (lastAt ls sec ls.length).toNat (0,0)).2 ≤ sec:=by
 obtain ⟨a,b,c⟩:=h.lastAt_le sec h0
 have k:(lastAt ls sec ls.length).toNat < ls.length:=by omega
 have w:=h.when_bd _ k
 have bd:=h.bd _ k
 generalize (lastAt ls sec ls.length).toNat = q at *
 by_cases z:q = 0
 ·have:=w.2.2.2 z;omega
 ·have:=w.2.2.1 (by omega)
  have g:=h.gap (q - 1) (by omega)
  rw [show q - 1 + 1 = q from by omega] at g
  have:=(h.bd (q - 1) (by omega)).1.1
  omega
end Tab
namespace Txt
def byte (s:ByteArray) (i:Nat):Int:=((s.data.toList.getD i 0).toNat:Int)
theorem byte_bd (s:ByteArray) (i:Nat):0 ≤ byte s i ∧ byte s i < 256:=by
 unfold byte;have:=(s.data.toList.getD i 0).toNat_lt;omega
theorem byte_at (s:ByteArray) (i:Nat) (h:i < s.size):byte s i = (s[i].toNat:Int):=by
 unfold byte;rw [getD_bytes s i h]
def numTo (s:ByteArray):Nat → Int
 | 0 => 0
 | k + 1 => 10 * numTo s k + (byte s k - 48)
def Digits (s:ByteArray) (k:Nat):Prop:=∀ i,i < k → 48 ≤ byte s i ∧ byte s i ≤ 57
def digitsB (s:ByteArray):Nat → Bool
 | 0 => true
 | k + 1 => digitsB s k && decide (48 ≤ byte s k ∧ byte s k ≤ 57)
theorem digitsB_iff (s:ByteArray) (k:Nat):digitsB s k = true ↔ Digits s k:=by
 induction k with
 | zero => exact ⟨fun _ i hi => by omega,fun _ => rfl⟩
 | succ k ih =>
  simp only [digitsB,Bool.and_eq_true,decide_eq_true_eq]
  rw [ih]
  refine ⟨fun h i hi => ?_,fun h => ⟨fun i hi => h i (by omega),h k (by omega)⟩⟩
  by_cases e:i = k
  ·subst e;exact h.2
  ·exact h.1 i (by omega)
def number (s:ByteArray):Int :=
 if s.size = 0 ∨ 11 < s.size then -1 else if digitsB s s.size = true then numTo s s.size else -1
theorem numTo_bd {s:ByteArray} (k:Nat) (h:Digits s k):0 ≤ numTo s k ∧ numTo s k < 10 ^ k:=by
 induction k with
 | zero => simp [numTo]
 | succ k ih =>
  have a:=ih (fun i hi => h i (by omega))
  have b:=h k (by omega)
  simp only [numTo]
  rw [Int.pow_succ]
  omega
theorem pow10_le (k:Nat) (h:k ≤ 10):(10:Int) ^ k ≤ 10000000000:=by
 match k,h with
 | 0,_ | 1,_ | 2,_ | 3,_ | 4,_ | 5,_ | 6,_ | 7,_ | 8,_ | 9,_ | 10,_ => decide
theorem number_no1 {s:ByteArray} (h:s.size = 0 ∨ 11 < s.size):number s = -1:=by unfold number;rw [if_pos h]
theorem number_no2 {s:ByteArray} (h:¬ Digits s s.size):number s = -1:=by
 unfold number
 split
 ·rfl
 ·rw [if_neg];exact fun e => h ((digitsB_iff _ _).1 e)
theorem number_yes {s:ByteArray} (h:¬ (s.size = 0 ∨ 11 < s.size)) (hd:Digits s s.size):number s = numTo s s.size:=by
 unfold number;rw [if_neg h,if_pos ((digitsB_iff _ _).2 hd)]
def HexB (c:Int):Prop:=(48 ≤ c ∧ c ≤ 57) ∨ (97 ≤ c ∧ c ≤ 102)
def Hexes (s:ByteArray) (k:Nat):Prop:=∀ i,i < k → HexB (byte s i)
def hexesB (s:ByteArray):Nat → Bool
 | 0 => true
 | k + 1 => hexesB s k && decide ((48 ≤ byte s k ∧ byte s k ≤ 57) ∨ (97 ≤ byte s k ∧ byte s k ≤ 102))
theorem hexesB_iff (s:ByteArray) (k:Nat):hexesB s k = true ↔ Hexes s k:=by
 induction k with
 | zero => exact ⟨fun _ i hi => by omega,fun _ => rfl⟩
 | succ k ih =>
  simp only [hexesB,Bool.and_eq_true,decide_eq_true_eq]
  rw [ih]
  refine ⟨fun h i hi => ?_,fun h => ⟨fun i hi => h i (by omega),h k (by omega)⟩⟩
  by_cases e:i = k
  ·subst e;exact h.2
  ·exact h.1 i (by omega)
def noughts:ByteArray:=⟨#[48,48,48,48,48,48,48,48]⟩
def word (s:ByteArray):ByteArray :=
 if s.size = 0 ∨ 8 < s.size then ⟨#[]⟩ else if hexesB s s.size = true then noughts.extract s.size 8 ++ s else ⟨#[]⟩
theorem word_no1 {s:ByteArray} (h:s.size = 0 ∨ 8 < s.size):word s = ⟨#[]⟩:=by unfold word;rw [if_pos h]
theorem word_no2 {s:ByteArray} (h:¬ Hexes s s.size):word s = ⟨#[]⟩:=by
 unfold word
 split
 ·rfl
 ·rw [if_neg];exact fun e => h ((hexesB_iff _ _).1 e)
theorem word_yes {s:ByteArray} (h:¬ (s.size = 0 ∨ 8 < s.size)) (hd:Hexes s s.size):word s = noughts.extract s.size 8 ++ s:=by
 unfold word;rw [if_neg h,if_pos ((hexesB_iff _ _).2 hd)]
def inWord (s:ByteArray) (k:Nat):Prop:=k < s.size ∧ byte s k ≠ 32 ∧ byte s k ≠ 9
def inWordD (s:ByteArray) (k:Nat):Decidable (inWord s k):=by unfold inWord;infer_instance
def scan (s:ByteArray):Nat → List ByteArray × ByteArray
 | 0 => ([],⟨#[]⟩)
 | k + 1 => @ite _ (inWord s k) (inWordD s k) ((scan s k).1,(scan s k).2 ++ s.extract k (k + 1)) <| if (scan s k).2 = ⟨#[]⟩ then scan s k else ((scan s k).1 ++ [(scan s k).2],⟨#[]⟩)
def words (s:ByteArray):List ByteArray:=(scan s (s.size + 1)).1
theorem size_ext (s:ByteArray) (k:Nat) (h:k < s.size):(s.extract k (k + 1)).size = 1:=by
 rw [ByteArray.size_extract];omega
theorem not_empty {s:ByteArray} (h:¬ s = ⟨#[]⟩):s.toList.isEmpty = false:=by
 rw [← decide_eq_emptyBytes]
 exact decide_eq_false h
theorem scan_bd (s:ByteArray) (k:Nat):(scan s k).1.length ≤ k ∧ (scan s k).2.size ≤ k:=by
 induction k with
 | zero => exact ⟨Nat.le_refl _,Nat.le_refl _⟩
 | succ k ih =>
  simp only [scan]
  split
  ·rename_i h
   have:=size_ext s k h.1
   refine ⟨by simp;omega,?_⟩
   simp only [ByteArray.size_append]
   omega
  ·split
   ·omega
   ·refine ⟨by simp;omega,by simp [ByteArray.size]⟩
def decF:Nat → Nat → List UInt8
 | 0,n => [UInt8.ofNat (48 + n)]
 | f + 1,n => if 9 < n then decF f (n / 10) ++ [UInt8.ofNat (48 + n % 10)] else [UInt8.ofNat (48 + n)]
theorem decF_succ (f n:Nat):decF (f + 1) n = if 9 < n then decF f (n / 10) ++ [UInt8.ofNat (48 + n % 10)] else [UInt8.ofNat (48 + n)]:=rfl
theorem decF_more (f n:Nat) (h:n ≤ f):decF (f + 1) n = decF f n:=by
 induction f generalizing n with
 | zero =>
  obtain rfl:n = 0:=by omega
  rfl
 | succ f ih =>
  rw [decF_succ,decF_succ f n]
  by_cases c:9 < n
  ·rw [if_pos c,if_pos c,ih (n / 10) (by omega)]
  ·rw [if_neg c,if_neg c]
theorem decF_all (n k:Nat):decF (n + k) n = decF n n:=by
 induction k with
 | zero => rfl
 | succ k ih => rw [← ih];exact decF_more (n + k) n (by omega)
def dec (n:Nat):List UInt8:=decF n n
theorem dec_low (n:Nat) (h:¬ 9 < n):dec n = [UInt8.ofNat (48 + n)]:=by
 unfold dec
 cases n with
 | zero => rfl
 | succ n => rw [decF_succ,if_neg h]
theorem dec_up (n:Nat) (h:9 < n):dec n = dec (n / 10) ++ [UInt8.ofNat (48 + n % 10)]:=by
 obtain ⟨m,rfl⟩:∃ m,n = m + 1:=⟨n - 1,by omega⟩
 have e:=decF_all ((m + 1) / 10) (m - (m + 1) / 10)
 rw [show (m + 1) / 10 + (m - (m + 1) / 10) = m from by omega] at e
 unfold dec
 rw [decF_succ,if_pos h,e]
theorem dec_high (n:Nat) (h:9 < n):dec n = dec (n / 10) ++ dec (n % 10):=by
 rw [dec_up n h,dec_low (n % 10) (by omega)]
theorem dec_len (n:Nat):(dec n).length ≤ n + 1:=by
 induction n using Nat.strongRecOn with
 | _ n ih =>
  by_cases h:9 < n
  ·rw [dec_up n h];have:=ih (n / 10) (by omega);simp;omega
  ·rw [dec_low n h];simp
end Txt
namespace Txt
def isDig (c:Int):Bool:=decide (48 ≤ c) && decide (c ≤ 57)
def isNum (s:ByteArray):Bool:=!decide (s.size = 0 ∨ 11 < s.size) && digitsB s s.size
theorem isNum_iff (s:ByteArray):isNum s = true ↔ ¬ (s.size = 0 ∨ 11 < s.size) ∧ Digits s s.size:=by
 unfold isNum
 rw [Bool.and_eq_true,digitsB_iff,Bool.not_eq_true',decide_eq_false_iff_not]
theorem isNum_yes {s:ByteArray} (h:¬ (s.size = 0 ∨ 11 < s.size)) (hd:Digits s s.size):isNum s = true:=(isNum_iff s).2 ⟨h,hd⟩
theorem isNum_no {s:ByteArray} (h:¬ (¬ (s.size = 0 ∨ 11 < s.size) ∧ Digits s s.size)):isNum s = false:=by
 cases e:isNum s with
 | false => rfl
 | true => exact absurd ((isNum_iff s).1 e) h
theorem isNum_is {s:ByteArray} (h:isNum s = true):¬ (s.size = 0 ∨ 11 < s.size) ∧ Digits s s.size:=(isNum_iff s).1 h
theorem isNum_not {s:ByteArray} (h:isNum s = false):¬ (¬ (s.size = 0 ∨ 11 < s.size) ∧ Digits s s.size):=fun e => by rw [(isNum_iff s).2 e] at h;cases h
theorem number_of {s:ByteArray} (h:isNum s = true):number s = numTo s s.size:=number_yes (isNum_is h).1 (isNum_is h).2
theorem number_neg {s:ByteArray} (h:isNum s = false):number s = -1:=by
 by_cases c:s.size = 0 ∨ 11 < s.size
 ·exact number_no1 c
 ·exact number_no2 fun d => isNum_not h ⟨c,d⟩
theorem numTo_le {s:ByteArray} (h:isNum s = true):0 ≤ numTo s s.size ∧ numTo s s.size < 100000000000:=by
 obtain ⟨h0,hd⟩:=isNum_is h
 have a:=numTo_bd _ hd
 refine ⟨a.1,Int.lt_of_lt_of_le a.2 ?_⟩
 have:s.size ≤ 11:=by omega
 by_cases e:s.size = 11
 ·rw [e];decide
 ·exact Int.le_trans (pow10_le s.size (by omega)) (by decide)
def isHex (s:ByteArray):Bool:=!decide (s.size = 0 ∨ 8 < s.size) && hexesB s s.size
theorem isHex_iff (s:ByteArray):isHex s = true ↔ ¬ (s.size = 0 ∨ 8 < s.size) ∧ Hexes s s.size:=by
 unfold isHex
 rw [Bool.and_eq_true,hexesB_iff,Bool.not_eq_true',decide_eq_false_iff_not]
theorem isHex_yes {s:ByteArray} (h:¬ (s.size = 0 ∨ 8 < s.size)) (hd:Hexes s s.size):isHex s = true:=(isHex_iff s).2 ⟨h,hd⟩
theorem isHex_no {s:ByteArray} (h:¬ (¬ (s.size = 0 ∨ 8 < s.size) ∧ Hexes s s.size)):isHex s = false:=by
 cases e:isHex s with
 | false => rfl
 | true => exact absurd ((isHex_iff s).1 e) h
theorem isHex_is {s:ByteArray} (h:isHex s = true):¬ (s.size = 0 ∨ 8 < s.size) ∧ Hexes s s.size:=(isHex_iff s).1 h
theorem isHex_not {s:ByteArray} (h:isHex s = false):¬ (¬ (s.size = 0 ∨ 8 < s.size) ∧ Hexes s s.size):=fun e => by rw [(isHex_iff s).2 e] at h;cases h
theorem word_of {s:ByteArray} (h:isHex s = true):word s = noughts.extract s.size 8 ++ s:=word_yes (isHex_is h).1 (isHex_is h).2
theorem word_none {s:ByteArray} (h:isHex s = false):word s = ⟨#[]⟩:=by
 by_cases c:s.size = 0 ∨ 8 < s.size
 ·exact word_no1 c
 ·exact word_no2 fun d => isHex_not h ⟨c,d⟩
theorem noughts_more:∀ a t:Fin 9,a.val + t.val < 8 → (ByteArray.mk #[48]) ++ noughts.extract a.val (a.val + t.val) = noughts.extract a.val (a.val + t.val + 1):=by decide +kernel
theorem noughts_none:∀ a:Fin 9,noughts.extract a.val (a.val + 0) = ByteArray.empty:=by decide +kernel
theorem noughts_size (a t:Nat) (h:a + t ≤ 8):(noughts.extract a (a + t)).size = t:=by
 rw [ByteArray.size_extract]
 have:noughts.size = 8:=rfl
 omega
end Txt
theorem is_digit (c:Int) (w:World):Calls Tryz.prog 201 #[.int .u8 c] w fun e w' => e = .returned (.bool (Txt.isDig c)) ∧ w' = w:=by
 by_cases h0:48 ≤ c
 ·by_cases h1:c ≤ 57
  ·have H:Hid (Txt.isDig c = true):=by show _ = _;unfold Txt.isDig;simp [h0,h1]
   go_enter Tryz.func201,Tryz.ntmps201
   go_wp2
   go_ret
   exact ⟨ret_bool H.out.symm,rfl⟩
  ·have H:Hid (Txt.isDig c = false):=by show _ = _;unfold Txt.isDig;simp [h0,h1]
   go_enter Tryz.func201,Tryz.ntmps201
   go_wp2
   go_ret
   exact ⟨ret_bool H.out.symm,rfl⟩
 ·have H:Hid (Txt.isDig c = false):=by show _ = _;unfold Txt.isDig;simp [h0]
  go_enter Tryz.func201,Tryz.ntmps201
  go_wp2
  go_ret
  exact ⟨ret_bool H.out.symm,rfl⟩
set_option maxRecDepth 100000 in
theorem is_number (s:ByteArray) (w:World) (hs:s.size ≤ 1000000000) :
  Calls Tryz.prog 190 #[.string s] w fun e w' => e = .returned (.bool (Txt.isNum s)) ∧ w' = w:=by
 by_cases h0:s.size < 1
 ·have H:Hid (Txt.isNum s = false):=Txt.isNum_no fun h => h.1 (.inl (by omega))
  go_enter Tryz.func190,Tryz.ntmps190
  go_wp2
  go_ret
  exact ⟨ret_bool H.out.symm,rfl⟩
 ·by_cases h1:11 < s.size
  ·have H:Hid (Txt.isNum s = false):=Txt.isNum_no fun h => h.1 (.inr h1)
   go_enter Tryz.func190,Tryz.ntmps190
   go_wp2
   go_ret
   exact ⟨ret_bool H.out.symm,rfl⟩
  ·go_enter Tryz.func190,Tryz.ntmps190
   go_wp2
   go_loop [3] (fun i => ∃ k:Nat,k ≤ s.size ∧ i = .int .i64 k ∧ Txt.Digits s k) (fun i => s.size - (intOf i).toNat)
   case atStart => exact ⟨0,by omega,rfl,fun i hi => by omega⟩
   case round =>
    obtain ⟨k,hk,rfl,hdg⟩:=hrel
    by_cases hlt:k < s.size
    ·have hby:=Txt.byte_at s k hlt
     have HBY:=hid' hby
     have HDG:=hid' hdg
     have h8:=s[k].toNat_lt
     have HD:=hid' (is_digit (s[k].toNat:Int) w)
     clear hdg hby
     by_cases c:48 ≤ (s[k].toNat:Int) ∧ (s[k].toNat:Int) ≤ 57
     ·have hd:Txt.isDig (s[k].toNat:Int) = true:=by unfold Txt.isDig;simp [c.1,c.2]
      rw [hd] at HD
      have HD2:Hid (Txt.Digits s (k + 1)):=fun i hi => by
       by_cases e:i = k
       ·subst e;rw [HBY.out];exact c
       ·exact HDG.out i (by omega)
      clear hd c
      go_wp2_with (go_at_call 201;refine HD.out.mono ?_;rintro e w' ⟨rfl,rfl⟩)
      exact ⟨⟨k + 1,by omega,by go_num,HD2.out⟩,by simp [intOf];omega⟩
     ·have hd:Txt.isDig (s[k].toNat:Int) = false:=by unfold Txt.isDig;simp;omega
      rw [hd] at HD
      have H:Hid (Txt.isNum s = false):=Txt.isNum_no fun h => by have:=h.2 k hlt;rw [HBY.out] at this;exact c this
      clear hd c
      go_wp2_with (go_at_call 201;refine HD.out.mono ?_;rintro e w' ⟨rfl,rfl⟩)
      go_ret
      exact ⟨ret_bool H.out.symm,rfl⟩
    ·have ek:k = s.size:=by omega
     have H:Hid (Txt.isNum s = true):=Txt.isNum_yes (by omega) (by rw [← ek];exact hdg)
     clear ek hdg
     go_wp2
     go_ret
     exact ⟨ret_bool H.out.symm,rfl⟩
set_option maxRecDepth 100000 in
theorem value_of (s:ByteArray) (w:World) (hs:Txt.isNum s = true) :
  Calls Tryz.prog 165 #[.string s] w fun e w' => e = .returned (.int .i64 (Txt.numTo s s.size)) ∧ w' = w:=by
 obtain ⟨h1,hd⟩:=Txt.isNum_is hs
 have h11:s.size ≤ 11:=by omega
 have HD:=hid' hd
 clear h1 hd hs
 go_enter Tryz.func165,Tryz.ntmps165
 go_wp2
 go_loop [3,4] (fun r i => ∃ k:Nat,k ≤ s.size ∧ i = .int .i64 k ∧ r = .int .i64 (Txt.numTo s k)) (fun _ i => s.size - (intOf i).toNat)
 case atStart => exact ⟨0,by omega,rfl,rfl⟩
 case round =>
  obtain ⟨k,hk,rfl,rfl⟩:=hrel
  by_cases hlt:k < s.size
  ·have hbd:=Txt.numTo_bd k (s:=s) (fun i hi => HD.out i (by omega))
   have hpw:=Txt.pow10_le k (by omega)
   have hdk:=HD.out k hlt
   rw [Txt.byte_at s k hlt] at hdk
   have HS:Hid (Txt.numTo s (k + 1) = 10 * Txt.numTo s k + ((s[k].toNat:Int) - 48)):=by show _ = _;simp only [Txt.numTo];rw [Txt.byte_at s k hlt]
   generalize Txt.numTo s k = v at *
   generalize hP:(10:Int) ^ k = p10 at *
   clear hP
   go_wp2
   exact ⟨⟨k + 1,by omega,by go_num,by rw [HS.out];congr 1;omega⟩,by simp [intOf];omega⟩
  ·have ek:k = s.size:=by omega
   have H:Hid (Txt.numTo s k = Txt.numTo s s.size):=by show _ = _;rw [ek]
   clear ek
   go_wp2
   go_ret
   exact ⟨ret_int H.out,rfl⟩
set_option maxRecDepth 100000 in
set_option maxHeartbeats 1000000 in
theorem is_hex (s:ByteArray) (w:World) (hs:s.size ≤ 1000000000) :
  Calls Tryz.prog 188 #[.string s] w fun e w' => e = .returned (.bool (Txt.isHex s)) ∧ w' = w:=by
 by_cases h0:s.size < 1
 ·have H:Hid (Txt.isHex s = false):=Txt.isHex_no fun h => h.1 (.inl (by omega))
  go_enter Tryz.func188,Tryz.ntmps188
  go_wp2
  go_ret
  exact ⟨ret_bool H.out.symm,rfl⟩
 ·by_cases h1:8 < s.size
  ·have H:Hid (Txt.isHex s = false):=Txt.isHex_no fun h => h.1 (.inr h1)
   go_enter Tryz.func188,Tryz.ntmps188
   go_wp2
   go_ret
   exact ⟨ret_bool H.out.symm,rfl⟩
  ·go_enter Tryz.func188,Tryz.ntmps188
   go_wp2
   go_loop [3] (fun i => ∃ k:Nat,k ≤ s.size ∧ i = .int .i64 k ∧ Txt.Hexes s k) (fun i => s.size - (intOf i).toNat)
   case atStart => exact ⟨0,by omega,rfl,fun i hi => by omega⟩
   case round =>
    obtain ⟨k,hk,rfl,hdg⟩:=hrel
    by_cases hlt:k < s.size
    ·have hby:=Txt.byte_at s k hlt
     have HBY:=hid' hby
     have HDG:=hid' hdg
     have h8:=s[k].toNat_lt
     have HD:=hid' (is_digit (s[k].toNat:Int) w)
     clear hdg hby
     by_cases c:Txt.HexB (s[k].toNat:Int)
     ·have HD2:Hid (Txt.Hexes s (k + 1)):=fun i hi => by
       by_cases e:i = k
       ·subst e;rw [HBY.out];exact c
       ·exact HDG.out i (by omega)
      rcases c with ⟨c1,c2⟩ | ⟨c1,c2⟩
      ·have hd:Txt.isDig (s[k].toNat:Int) = true:=by unfold Txt.isDig;simp [c1,c2]
       rw [hd] at HD
       clear hd
       go_wp2_with (go_at_call 201;refine HD.out.mono ?_;rintro e w' ⟨rfl,rfl⟩)
       exact ⟨⟨k + 1,by omega,by go_num,HD2.out⟩,by simp [intOf];omega⟩
      ·have hd:Txt.isDig (s[k].toNat:Int) = false:=by unfold Txt.isDig;simp;omega
       rw [hd] at HD
       clear hd
       go_wp2_with (go_at_call 201;refine HD.out.mono ?_;rintro e w' ⟨rfl,rfl⟩)
       exact ⟨⟨k + 1,by omega,by go_num,HD2.out⟩,by simp [intOf];omega⟩
     ·have H:Hid (Txt.isHex s = false):=Txt.isHex_no fun h => c (by have:=h.2 k hlt;rw [HBY.out] at this;exact this)
      unfold Txt.HexB at c
      have hd:Txt.isDig (s[k].toNat:Int) = false:=by unfold Txt.isDig;simp;omega
      rw [hd] at HD
      clear hd
      by_cases c2:(s[k].toNat:Int) < 97
      ·clear c
       go_wp2_with (go_at_call 201;refine HD.out.mono ?_;rintro e w' ⟨rfl,rfl⟩)
       go_ret
       exact ⟨ret_bool H.out.symm,rfl⟩
      ·have c4:(102:Int) < (s[k].toNat:Int):=by omega
       clear c
       go_wp2_with (go_at_call 201;refine HD.out.mono ?_;rintro e w' ⟨rfl,rfl⟩)
       go_ret
       exact ⟨ret_bool H.out.symm,rfl⟩
    ·have ek:k = s.size:=by omega
     have H:Hid (Txt.isHex s = true):=Txt.isHex_yes (by omega) (by rw [← ek];exact hdg)
     clear ek hdg
     go_wp2
     go_ret
     exact ⟨ret_bool H.out.symm,rfl⟩
set_option maxRecDepth 100000 in
theorem full_hex (s:ByteArray) (w:World) (hs:s.size ≤ 8) :
  Calls Tryz.prog 189 #[.string s] w fun e w' => e = .returned (.string (Txt.noughts.extract s.size 8 ++ s)) ∧ w' = w:=by
 go_enter Tryz.func189,Tryz.ntmps189
 go_wp2
 go_loop [3] (fun i => ∃ t:Nat,s.size + t ≤ 8 ∧ i = .string (Txt.noughts.extract s.size (s.size + t) ++ s)) (fun i => match i with | .string b => 8 - b.size | _ => 0)
 case atStart => exact ⟨0,by omega,by rw [Txt.noughts_none ⟨s.size,by omega⟩,ByteArray.empty_append]⟩
 case round =>
  obtain ⟨t,ht,rfl⟩:=hrel
  have hz:(Txt.noughts.extract s.size (s.size + t) ++ s).size = s.size + t:=by
   rw [ByteArray.size_append,Txt.noughts_size _ _ ht];omega
  by_cases hlt:s.size + t < 8
  ·have H:Hid ((ByteArray.mk #[48]) ++ (Txt.noughts.extract s.size (s.size + t) ++ s) = Txt.noughts.extract s.size (s.size + (t + 1)) ++ s):=by
    show _ = _
    rw [← ByteArray.append_assoc,Txt.noughts_more ⟨s.size,by omega⟩ ⟨t,by omega⟩ hlt]
    rfl
   generalize Txt.noughts.extract s.size (s.size + t) ++ s = f at *
   go_wp2
   refine ⟨⟨t + 1,by omega,by rw [← H.out]⟩,?_⟩
   show 8 - ((ByteArray.mk #[48]) ++ f).size < 8 - f.size
   rw [ByteArray.size_append,hz]
   have:(ByteArray.mk #[48]).size = 1:=rfl
   omega
  ·have e8:s.size + t = 8:=by omega
   have H:Hid (Txt.noughts.extract s.size (s.size + t) ++ s = Txt.noughts.extract s.size 8 ++ s):=by show _ = _;rw [e8]
   generalize Txt.noughts.extract s.size (s.size + t) ++ s = f at *
   go_wp2
   go_ret
   exact ⟨ret_str H.out,rfl⟩
namespace Txt
def isGap (c:Int):Bool:=c == 32 || c == 9
def beg (s p:ByteArray):Bool:=decide (p.size ≤ s.size ∧ s.extract 0 p.size = p)
def eolF (t:ByteArray):Nat → Nat → Nat
 | 0,b => b
 | f + 1,b => if b < t.size ∧ byte t b ≠ 10 then eolF t f (b + 1) else b
def eol (t:ByteArray) (b:Nat):Nat:=eolF t (t.size - b) b
theorem eol_go {t:ByteArray} {b:Nat} (h:b < t.size) (hn:byte t b ≠ 10):eol t b = eol t (b + 1):=by
 unfold eol
 rw [show t.size - b = (t.size - (b + 1)) + 1 from by omega,eolF,if_pos ⟨h,hn⟩]
theorem eol_stop {t:ByteArray} {b:Nat} (h:¬ (b < t.size ∧ byte t b ≠ 10)):eol t b = b:=by
 unfold eol
 cases hf:t.size - b with
 | zero => rfl
 | succ f => rw [eolF,if_neg h]
theorem eol_bd (t:ByteArray) (b:Nat) (h:b ≤ t.size):b ≤ eol t b ∧ eol t b ≤ t.size:=by
 unfold eol
 generalize hf:t.size - b = f
 induction f generalizing b with
 | zero => simp only [eolF];omega
 | succ f ih =>
  simp only [eolF]
  split
  ·have:=ih (b + 1) (by omega) (by omega);omega
  ·omega
theorem scan_word {s:ByteArray} {k:Nat} (h:inWord s k):scan s (k + 1) = ((scan s k).1,(scan s k).2 ++ s.extract k (k + 1)):=by rw [scan,if_pos h]
theorem scan_gap {s:ByteArray} {k:Nat} (h:¬ inWord s k) (he:(scan s k).2 = ⟨#[]⟩):scan s (k + 1) = scan s k:=by rw [scan,if_neg h,if_pos he]
theorem scan_end {s:ByteArray} {k:Nat} (h:¬ inWord s k) (he:¬ (scan s k).2 = ⟨#[]⟩):scan s (k + 1) = ((scan s k).1 ++ [(scan s k).2],⟨#[]⟩):=by rw [scan,if_neg h,if_neg he]
theorem extract_more (s:ByteArray) (b j:Nat) (h:b ≤ j):s.extract b j ++ s.extract j (j + 1) = s.extract b (j + 1):=by
 rw [ByteArray.extract_append_extract]
 congr 1 <;> omega
theorem extract_none (s:ByteArray) (b:Nat):s.extract b b = ⟨#[]⟩:=by
 have h:(s.extract b b).size = 0:=by rw [ByteArray.size_extract];omega
 generalize s.extract b b = x at *
 obtain ⟨d⟩:=x
 have:d = #[]:=by apply Array.eq_empty_of_size_eq_zero;exact h
 subst this;rfl
theorem extract_some (s:ByteArray) (b j:Nat) (h:b < j) (hj:j ≤ s.size):¬ s.extract b j = ⟨#[]⟩:=fun e => by
 have h1:(s.extract b j).size = 0:=by rw [e];rfl
 rw [ByteArray.size_extract] at h1
 omega
end Txt
theorem str_eq (a b:ByteArray):(a.toList == b.toList) = decide (a = b):=by
 rw [ByteArray.toList_eq,ByteArray.toList_eq]
 by_cases h:a = b
 ·subst h;simp
 ·have h':¬ a.data = b.data:=fun e => h (ByteArray.ext e)
  simp [h,h']
theorem is_gap (c:Int) (w:World):Calls Tryz.prog 187 #[.int .u8 c] w fun e w' => e = .returned (.bool (Txt.isGap c)) ∧ w' = w:=by
 by_cases h0:c = 32
 ·subst h0
  go_enter Tryz.func187,Tryz.ntmps187
  go_wp2
  go_ret
  exact ⟨rfl,rfl⟩
 ·have h0':(c == 32) = false:=by rw [beq_eq_false_iff_ne];exact h0
  have H:Hid (Txt.isGap c = (c == 9)):=by show _ = _;unfold Txt.isGap;rw [h0'];rfl
  go_enter Tryz.func187,Tryz.ntmps187
  go_wp2
  all_goals
   go_ret
   exact ⟨ret_bool H.out.symm,rfl⟩
set_option maxRecDepth 100000 in
theorem begins_any (s p:ByteArray) (w:World) :
  Calls Tryz.prog 159 #[.string s,.string p] w fun e w' => e = .returned (.bool (Txt.beg s p)) ∧ w' = w:=by
 by_cases h:p.size ≤ s.size
 ·have H:Hid (Txt.beg s p = decide (s.extract 0 p.size = p)):=by show _ = _;unfold Txt.beg;simp [h]
  go_enter Tryz.func159,Tryz.ntmps159
  go_wp2
  all_goals
   go_ret
   exact ⟨ret_bool (by rw [H.out,str_eq]),rfl⟩
 ·have H:Hid (Txt.beg s p = false):=by show _ = _;unfold Txt.beg;simp [h]
  go_enter Tryz.func159,Tryz.ntmps159
  go_wp2
  go_ret
  exact ⟨ret_bool H.out.symm,rfl⟩
set_option maxRecDepth 100000 in
theorem line_end (t:ByteArray) (b:Nat) (w:World) (hb:b ≤ t.size) (hs:t.size ≤ 1000000000) :
  Calls Tryz.prog 120 #[.string t,.int .i64 b] w fun e w' => e = .returned (.int .i64 (Txt.eol t b)) ∧ w' = w:=by
 go_enter Tryz.func120,Tryz.ntmps120
 go_wp2
 go_loop [5] (fun i => ∃ k:Nat,k ≤ t.size ∧ i = .int .i64 k ∧ Txt.eol t b = Txt.eol t k) (fun i => t.size - (intOf i).toNat)
 case atStart => exact ⟨b,by omega,rfl,rfl⟩
 case round =>
  obtain ⟨k,hk,rfl,hrl⟩:=hrel
  have HRL:=hid' hrl
  clear hrl
  by_cases hlt:k < t.size
  ·by_cases hn:(t[k].toNat:Int) = 10
   ·have H:Hid (Txt.eol t b = k):=by show _ = _;rw [HRL.out];exact Txt.eol_stop fun h => h.2 (by rw [Txt.byte_at t k hlt];exact hn)
    have hn':((t[k].toNat:Int) != 10) = false:=by rw [bne_eq_false_iff_eq];exact hn
    clear hn
    go_wp2
    go_ret
    exact ⟨ret_int (by rw [H.out]),rfl⟩
   ·have H:Hid (Txt.eol t b = Txt.eol t (k + 1)):=by show _ = _;rw [HRL.out];exact Txt.eol_go hlt (by rw [Txt.byte_at t k hlt];exact hn)
    have hn':((t[k].toNat:Int) != 10) = true:=bne_iff_ne.2 hn
    clear hn
    go_wp2
    exact ⟨⟨k + 1,by omega,by go_num,H.out⟩,by simp [intOf];omega⟩
  ·have H:Hid (Txt.eol t b = k):=by show _ = _;rw [HRL.out];exact Txt.eol_stop fun h => hlt h.1
   have hnl:¬ (k:Int) < (t.size:Int):=by omega
   go_wp2
   go_ret
   exact ⟨ret_int (by rw [H.out]),rfl⟩
theorem infoStr:(Tryz.prog.info? 9).map (fun i => (i.zero,i.size,i.bytes)) = some (some (.string ByteArray.empty),1,16):=by kernel_rfl
set_option maxRecDepth 100000 in
set_option maxHeartbeats 1000000 in
theorem words_of (s:ByteArray) (w:World) (hs:s.size ≤ 1000000) :
  Calls Tryz.prog 161 #[.string s] w fun e w' => ∃ v,e = .returned v ∧ w'.ownsRow w.heap.size 9 1 v (Txt.words s).length ((Txt.words s).map Value.string) ∧ Below w.heap.size w w':=by
 obtain ⟨i0,hi0,hz0,hz1,hz2⟩:=info_parts infoStr
 go_enter Tryz.func161,Tryz.ntmps161
 go_wp2
 go_loopw [3,4,5] (fun l i _ wr => ∃ b:Nat,b ≤ s.size + 1 ∧ i = .int .i64 b ∧ (Txt.scan s b).2 = ⟨#[]⟩ ∧ wr.ownsRow w.heap.size 9 1 l (Txt.scan s b).1.length ((Txt.scan s b).1.map Value.string) ∧ Below w.heap.size w wr) (fun _ i _ _ => s.size + 1 - (intOf i).toNat)
 case atStart => exact ⟨0,by omega,rfl,rfl,World.ownsRow_nil _ _ _ _,Below.refl _ _⟩
 case round =>
  obtain ⟨b,hb,rfl,hemp,hown,hbw⟩:=hrel
  have hsw:=hbw.size
  have OWN:=hid' hown
  have HBW:=hid' hbw
  have HEMP:=hid' hemp
  clear hown hbw hemp
  by_cases hlt:b < s.size
  ·go_wp2_with fail
   go_loop [5] (fun i => ∃ j:Nat,b ≤ j ∧ j ≤ s.size ∧ i = .int .i64 j ∧ (Txt.scan s j).1 = (Txt.scan s b).1 ∧ (Txt.scan s j).2 = s.extract b j) (fun i => s.size - (intOf i).toNat)
   case atStart => exact ⟨b,by omega,by omega,rfl,rfl,by rw [HEMP.out,Txt.extract_none]⟩
   case round =>
    obtain ⟨j,hbj,hj,rfl,hs1,hs2⟩:=hrel
    have HS1:=hid' hs1
    have HS2:=hid' hs2
    clear hs1 hs2
    by_cases hjl:j < s.size
    ·have HG:=hid' (is_gap (s[j].toNat:Int) wr)
     by_cases hg:Txt.isGap (s[j].toNat:Int) = true
     ·rw [hg] at HG
      have hnw:¬ Txt.inWord s j:=fun h => by
       have h1:=h.2.1
       have h2:=h.2.2
       rw [Txt.byte_at s j hjl] at h1 h2
       unfold Txt.isGap at hg
       simp at hg
       omega
      have HNW:=hid' hnw
      clear hnw hg
      have hbd:=Txt.scan_bd s b
      by_cases hwd:b < j
      ·have HSC:Hid (Txt.scan s (j + 1) = ((Txt.scan s b).1 ++ [s.extract b j],⟨#[]⟩)):=by show _ = _;rw [Txt.scan_end HNW.out (by rw [HS2.out];exact Txt.extract_some s b j hwd hj),HS1.out,HS2.out]
       go_wp2_with (first
        | (go_at_call 187;refine HG.out.mono ?_;rintro e w1 ⟨rfl,rfl⟩)
        | (at_builtin;refine wpList_append_lies _ (by rfl) (.tmp 27) (.tmp 32) 30 (by rfl) w.heap.size 9 i0 (.string ByteArray.empty) 1 16 Tryz.underlying30 hi0 hz0 hz1 hz2 rfl (by decide) u3 (Txt.scan s b).1.length ((Txt.scan s b).1.map Value.string) (by rfl) (OWN.out.alloc _) ⟨w1.heap.size,0,none⟩ 1 1 [.string (s.extract b j)] (by rfl) (by rfl) (World.news_of_block (cs:=#[.string (s.extract b j)]) (heap_alloc_new w1 _)) (by simp [Value.oneCell']) (by decide) (by unfold maxLen;omega) (by omega) (by simp;omega) (w1.heap.size + 1) (by simp) ?_;intro g3 cap3 w3 own3 hg3 _ hlt3;have HB3:=hid' ((HBW.out.alloc hsw _).grown hg3 (by simp;omega) (own_ge OWN.out));have OWN3:=hid' own3;clear own3 hg3))
       go_roundw
       case rel => exact ⟨j + 1,by omega,by go_num,by rw [HSC.out],by rw [HSC.out];simpa using OWN3.out,HB3.out⟩
       case measure => simp [intOf];omega
      ·have ebj:j = b:=by omega
       have HSC:Hid (Txt.scan s (j + 1) = Txt.scan s b):=by show _ = _;rw [ebj] at HNW ⊢;exact Txt.scan_gap HNW.out HEMP.out
       have hnb:¬ (b:Int) < (j:Int):=by omega
       clear ebj
       go_wp2_with ((go_at_call 187;refine HG.out.mono ?_;rintro e w1 ⟨rfl,rfl⟩))
       go_roundw
       case rel => exact ⟨j + 1,by omega,by go_num,by rw [HSC.out];exact HEMP.out,by rw [HSC.out];exact OWN.out,HBW.out⟩
       case measure => simp [intOf];omega
     ·have hg':Txt.isGap (s[j].toNat:Int) = false:=by simpa using hg
      rw [hg'] at HG
      have hiw:Txt.inWord s j:=by
       unfold Txt.isGap at hg'
       simp at hg'
       exact ⟨hjl,by rw [Txt.byte_at s j hjl];exact hg'.1,by rw [Txt.byte_at s j hjl];exact hg'.2⟩
      have H1:Hid ((Txt.scan s (j + 1)).1 = (Txt.scan s b).1):=by show _ = _;rw [Txt.scan_word hiw];exact HS1.out
      have H2:Hid ((Txt.scan s (j + 1)).2 = s.extract b (j + 1)):=by show _ = _;rw [Txt.scan_word hiw];simp only;rw [HS2.out,Txt.extract_more s b j hbj]
      clear hg hg' hiw
      go_wp2_with (go_at_call 187;refine HG.out.mono ?_;rintro e w' ⟨rfl,rfl⟩)
      exact ⟨⟨j + 1,by omega,by omega,by go_num,H1.out,H2.out⟩,by simp [intOf];omega⟩
    ·have ej:j = s.size:=by omega
     have hnl:¬ (j:Int) < (s.size:Int):=by omega
     have HNW:Hid (¬ Txt.inWord s j):=fun h => hjl h.1
     have hbd:=Txt.scan_bd s b
     clear ej
     by_cases hwd:b < j
     ·have HSC:Hid (Txt.scan s (j + 1) = ((Txt.scan s b).1 ++ [s.extract b j],⟨#[]⟩)):=by show _ = _;rw [Txt.scan_end HNW.out (by rw [HS2.out];exact Txt.extract_some s b j hwd hj),HS1.out,HS2.out]
      go_wp2_with (first
       | fail
       | (at_builtin;refine wpList_append_lies _ (by rfl) (.tmp 27) (.tmp 32) 30 (by rfl) w.heap.size 9 i0 (.string ByteArray.empty) 1 16 Tryz.underlying30 hi0 hz0 hz1 hz2 rfl (by decide) u3 (Txt.scan s b).1.length ((Txt.scan s b).1.map Value.string) (by rfl) (OWN.out.alloc _) ⟨wr.heap.size,0,none⟩ 1 1 [.string (s.extract b j)] (by rfl) (by rfl) (World.news_of_block (cs:=#[.string (s.extract b j)]) (heap_alloc_new wr _)) (by simp [Value.oneCell']) (by decide) (by unfold maxLen;omega) (by omega) (by simp;omega) (wr.heap.size + 1) (by simp) ?_;intro g3 cap3 w3 own3 hg3 _ hlt3;have HB3:=hid' ((HBW.out.alloc hsw _).grown hg3 (by simp;omega) (own_ge OWN.out));have OWN3:=hid' own3;clear own3 hg3))
      go_roundw
      case rel => exact ⟨j + 1,by omega,by go_num,by rw [HSC.out],by rw [HSC.out];simpa using OWN3.out,HB3.out⟩
      case measure => simp [intOf];omega
     ·have ebj:j = b:=by omega
      have HSC:Hid (Txt.scan s (j + 1) = Txt.scan s b):=by show _ = _;rw [ebj] at HNW ⊢;exact Txt.scan_gap HNW.out HEMP.out
      have hnb:¬ (b:Int) < (j:Int):=by omega
      clear ebj
      go_wp2_with (fail)
      go_roundw
      case rel => exact ⟨j + 1,by omega,by go_num,by rw [HSC.out];exact HEMP.out,by rw [HSC.out];exact OWN.out,HBW.out⟩
      case measure => simp [intOf];omega
  ·have HW:Hid ((Txt.scan s b).1 = Txt.words s):=by
    show _ = _
    unfold Txt.words
    by_cases e:b = s.size + 1
    ·rw [e]
    ·have eb:b = s.size:=by omega
     rw [← eb,Txt.scan_gap (fun h => hlt h.1) HEMP.out]
   have hnk:¬ (b:Int) < (s.size:Int):=by omega
   rw [HW.out] at OWN
   go_wp2
   go_ret
   exact ⟨_,rfl,OWN.out,HBW.out⟩
end Go.Proofs.YtmmkhodaljpjgaaGreatDoor
