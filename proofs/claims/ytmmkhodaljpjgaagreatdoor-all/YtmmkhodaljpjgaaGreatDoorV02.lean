import Derived.Test.YtmmkhodaljpjgaaGreatDoorV01
import Derived.Shelf.Strconv.Itoa3
import Derived.Shelf.Lay
import Derived.Ground.NamesProg
import Derived.Lib.AppendIntMem
import Derived.OwnWalk
import Derived.Lib.LaidTab
set_option maxRecDepth 100000
set_option maxHeartbeats 6400000
namespace Go.Proofs.YtmmkhodaljpjgaaGreatDoor
open Go.RowKit
def digsF:Nat → Nat → List Int
 | 0,_ => []
 | f + 1,n => if n = 0 then [] else ((n % 10000:Nat):Int) :: digsF f (n / 10000)
def digs (n:Nat):List Int:=digsF n n
theorem digsF_succ (f n:Nat):digsF (f + 1) n = if n = 0 then [] else ((n % 10000:Nat):Int) :: digsF f (n / 10000):=rfl
theorem digsF_more (f n:Nat) (h:n ≤ f):digsF (f + 1) n = digsF f n:=by
 induction f generalizing n with
 | zero =>
  obtain rfl:n = 0:=by omega
  rfl
 | succ f ih =>
  by_cases c:n = 0
  ·subst c;rfl
  ·rw [digsF_succ (f + 1) n,digsF_succ f n,if_neg c,if_neg c,ih (n / 10000) (by omega)]
theorem digsF_all (n k:Nat):digsF (n + k) n = digs n:=by
 induction k with
 | zero => rfl
 | succ k ih => rw [← Nat.add_assoc,digsF_more _ _ (by omega),ih]
def valD:List Int → Int
 | [] => 0
 | d :: r => d + 10000 * valD r
def Dg (l:List Int):Prop:=∀ d ∈ l,0 ≤ d ∧ d < 10000
def Nm (l:List Int):Prop:=l.getLast? ≠ some 0
theorem digs_zero:digs 0 = []:=rfl
theorem digs_pos {n:Nat} (h:0 < n):digs n = ((n % 10000:Nat):Int) :: digs (n / 10000):=by
 obtain ⟨m,rfl⟩:∃ m,n = m + 1:=⟨n - 1,by omega⟩
 have e:digsF m ((m + 1) / 10000) = digs ((m + 1) / 10000):=by
  have h2:(m + 1) / 10000 + (m - (m + 1) / 10000) = m:=by omega
  rw [← digsF_all ((m + 1) / 10000) (m - (m + 1) / 10000),h2]
 rw [digs,digsF_succ,if_neg (by omega),e]
theorem digs_nil {n:Nat} (h:digs n = []):n = 0:=by
 by_cases c:n = 0
 ·exact c
 ·rw [digs_pos (by omega)] at h;cases h
theorem digs_dg (n:Nat):Dg (digs n):=by
 induction n using Nat.strongRecOn with
 | _ n ih =>
  by_cases c:n = 0
  ·subst c;rw [digs_zero];intro d hd;cases hd
  ·rw [digs_pos (by omega)]
   intro d hd
   rcases List.mem_cons.1 hd with rfl | hd
   ·omega
   ·exact ih (n / 10000) (by omega) d hd
theorem digs_val (n:Nat):valD (digs n) = n:=by
 induction n using Nat.strongRecOn with
 | _ n ih =>
  by_cases c:n = 0
  ·subst c;rw [digs_zero];rfl
  ·rw [digs_pos (by omega)]
   show _ + 10000 * valD _ = _
   rw [ih (n / 10000) (by omega)]
   omega
theorem valD_nonneg {l:List Int} (h:Dg l):0 ≤ valD l:=by
 induction l with
 | nil => exact Int.le_refl _
 | cons d r ih =>
  have:=h d (by simp)
  have:=ih (fun x hx => h x (List.mem_cons_of_mem _ hx))
  show 0 ≤ d + 10000 * valD r
  omega
theorem valD_pos {l:List Int} (h:Dg l) (hn:Nm l) (hl:l ≠ []):0 < valD l:=by
 induction l with
 | nil => exact absurd rfl hl
 | cons d r ih =>
  have hd:=h d (by simp)
  have hr:Dg r:=fun x hx => h x (List.mem_cons_of_mem _ hx)
  show 0 < d + 10000 * valD r
  cases r with
  | nil =>
   unfold Nm at hn
   simp at hn
   simp [valD]
   omega
  | cons e q =>
   have:=ih hr (by unfold Nm at hn ⊢;rwa [List.getLast?_cons_cons] at hn) (by simp)
   omega
theorem canon {l:List Int} (h:Dg l) (hn:Nm l):l = digs (valD l).toNat:=by
 induction l with
 | nil => simp [valD,digs_zero]
 | cons d r ih =>
  have hp:=valD_pos h hn (by simp)
  have hd:=h d (by simp)
  have hr:Dg r:=fun x hx => h x (List.mem_cons_of_mem _ hx)
  have hrn:Nm r:=by
   cases r with
   | nil => simp [Nm]
   | cons e q => unfold Nm at hn ⊢;rwa [List.getLast?_cons_cons] at hn
  have h0:=valD_nonneg hr
  have e:=ih hr hrn
  have ev:valD (d :: r) = d + 10000 * valD r:=rfl
  rw [ev] at hp ⊢
  rw [digs_pos (by omega)]
  have e1:(((d + 10000 * valD r).toNat % 10000:Nat):Int) = d:=by omega
  have e2:(d + 10000 * valD r).toNat / 10000 = (valD r).toNat:=by omega
  rw [e1,e2,← e]
theorem digs_length {n k:Nat} (h:n < 10000 ^ k):(digs n).length ≤ k:=by
 induction k generalizing n with
 | zero => have:n = 0:=by simpa using h
      subst this;simp [digs_zero]
 | succ k ih =>
  by_cases c:n = 0
  ·subst c;simp [digs_zero]
  ·rw [digs_pos (by omega)]
   have:n / 10000 < 10000 ^ k:=by
    rw [Nat.div_lt_iff_lt_mul (by omega)];rwa [Nat.pow_succ] at h
   have:=ih this
   simp;omega
theorem digs_lt (n:Nat):n < 10000 ^ (digs n).length:=by
 induction n using Nat.strongRecOn with
 | _ n ih =>
  by_cases c:n = 0
  ·subst c;simp [digs_zero]
  ·rw [digs_pos (by omega)]
   have:=ih (n / 10000) (by omega)
   rw [List.length_cons,Nat.pow_succ]
   generalize 10000 ^ (digs (n / 10000)).length = q at *
   omega
theorem digs_ge {n:Nat} (h:0 < n):10000 ^ ((digs n).length - 1) ≤ n:=by
 induction n using Nat.strongRecOn with
 | _ n ih =>
  rw [digs_pos h]
  by_cases c:n / 10000 = 0
  ·rw [c,digs_zero];simp;omega
  ·have:=ih (n / 10000) (by omega) (by omega)
   have hl:0 < (digs (n / 10000)).length:=by rw [digs_pos (by omega)];simp
   rw [List.length_cons,Nat.add_sub_cancel]
   have e:10000 ^ (digs (n / 10000)).length = 10000 ^ ((digs (n / 10000)).length - 1) * 10000:=by
    rw [← Nat.pow_succ];congr 1;omega
   rw [e]
   generalize 10000 ^ ((digs (n / 10000)).length - 1) = q at *
   omega
theorem digs_tail {l:List Int} {i n:Nat} (h:l.drop i = digs n):l.drop (i + 1) = digs (n / 10000):=by
 have e:l.drop (i + 1) = (l.drop i).drop 1:=by rw [List.drop_drop]
 rw [e,h]
 by_cases c:n = 0
 ·subst c;simp [digs_zero]
 ·rw [digs_pos (by omega)];rfl
theorem digs_head {l:List Int} {i n:Nat} (h:l.drop i = digs n) (hi:i < l.length):l[i] = ((n % 10000:Nat):Int) ∧ 0 < n:=by
 have e:l.drop i = l[i] :: l.drop (i + 1):=List.drop_eq_getElem_cons hi
 by_cases c:n = 0
 ·subst c;rw [digs_zero] at h;rw [h] at e;cases e
 ·rw [h,digs_pos (by omega)] at e
  exact ⟨(List.cons.inj e).1.symm,by omega⟩
theorem digs_end {l:List Int} {i n:Nat} (h:l.drop i = digs n) (hi:l.length ≤ i):n = 0:=by
 rw [List.drop_eq_nil_of_le hi] at h;exact digs_nil h.symm
theorem digs_plus {a b c:Nat} (h:0 < a + b + c):digs (a + b + c) = (((a % 10000 + b % 10000 + c) % 10000:Nat):Int) :: digs (a / 10000 + b / 10000 + (a % 10000 + b % 10000 + c) / 10000):=by
 rw [digs_pos h]
 have e1:(a + b + c) % 10000 = (a % 10000 + b % 10000 + c) % 10000:=by omega
 have e2:(a + b + c) / 10000 = a / 10000 + b / 10000 + (a % 10000 + b % 10000 + c) / 10000:=by omega
 rw [e1,e2]
theorem valD_append (l r:List Int):valD (l ++ r) = valD l + 10000 ^ l.length * valD r:=by
 induction l with
 | nil => simp [valD]
 | cons d q ih =>
  show d + 10000 * valD (q ++ r) = d + 10000 * valD q + 10000 ^ (q.length + 1) * valD r
  rw [ih,Int.pow_succ]
  grind
theorem valD_lt {l:List Int} (h:Dg l):valD l < 10000 ^ l.length:=by
 induction l with
 | nil => simp [valD]
 | cons d q ih =>
  have:=h d (by simp)
  have:=ih (fun x hx => h x (List.mem_cons_of_mem _ hx))
  show d + 10000 * valD q < 10000 ^ (q.length + 1)
  rw [Int.pow_succ]
  generalize (10000:Int) ^ q.length = p at *
  omega
theorem valD_set (l:List Int) (j:Nat) (h:j < l.length) (x:Int):valD (l.set j x) = valD l + 10000 ^ j * (x - l[j]):=by
 induction l generalizing j with
 | nil => simp at h
 | cons d q ih =>
  cases j with
  | zero => show x + 10000 * valD q = d + 10000 * valD q + _ ;simp;omega
  | succ j =>
   show d + 10000 * valD (q.set j x) = d + 10000 * valD q + _
   rw [ih j (by simpa using h),Int.pow_succ]
   simp only [List.getElem_cons_succ]
   grind
theorem Dg.set {l:List Int} (h:Dg l) (j:Nat) {x:Int} (h0:0 ≤ x) (h1:x < 10000):Dg (l.set j x):=fun d hd => by
 rcases List.mem_or_eq_of_mem_set hd with q | rfl
 ·exact h d q
 ·exact ⟨h0,h1⟩
theorem Dg.take {l:List Int} (h:Dg l) (k:Nat):Dg (l.take k):=fun d hd => h d (List.mem_of_mem_take hd)
theorem Dg.drop {l:List Int} (h:Dg l) (k:Nat):Dg (l.drop k):=fun d hd => h d (List.mem_of_mem_drop hd)
theorem Dg.at {l:List Int} (h:Dg l) (k:Nat) (hk:k < l.length):0 ≤ l[k] ∧ l[k] < 10000:=h _ (List.getElem_mem hk)
theorem valD_zeros (k:Nat):valD (List.replicate k 0) = 0:=by
 induction k with
 | zero => rfl
 | succ k ih => rw [List.replicate_succ];show 0 + 10000 * valD _ = 0;rw [ih];rfl
theorem dg_zeros (k:Nat):Dg (List.replicate k 0):=fun d hd => by rw [(List.mem_replicate.1 hd).2];decide
theorem valD_take {l:List Int} {k:Nat} (h:∀ i (hi:i < l.length),k ≤ i → l[i] = 0):valD (l.take k) = valD l:=by
 have e:l = l.take k ++ l.drop k:=(List.take_append_drop k l).symm
 have z:l.drop k = List.replicate (l.drop k).length 0:=by
  refine List.eq_replicate_iff.2 ⟨rfl,fun b hb => ?_⟩
  obtain ⟨i,hi,rfl⟩:=List.getElem_of_mem hb
  rw [List.getElem_drop]
  exact h _ _ (by omega)
 have:=valD_append (l.take k) (l.drop k)
 rw [← e,z,valD_zeros] at this
 omega
theorem trim_nm {l:List Int} {k:Nat} (hk:k ≤ l.length) (h:∀ hk':0 < k,l[k - 1]'(by omega) ≠ 0):Nm (l.take k):=by
 unfold Nm
 rw [List.getLast?_take]
 intro e
 by_cases c:k = 0
 ·simp [c] at e
 ·rw [if_neg c,List.getElem?_eq_getElem (by omega)] at e
  simp at e
  exact h (by omega) e
theorem trim_digs {l:List Int} {k n:Nat} (hd:Dg l) (hv:valD l = n) (hk:k ≤ l.length) (hz:∀ i (hi:i < l.length),k ≤ i → l[i] = 0) (hn:∀ hk':0 < k,l[k - 1]'(by omega) ≠ 0):l.take k = digs n:=by
 have e:=canon (hd.take k) (trim_nm hk hn)
 rw [valD_take hz,hv] at e
 simpa using e
theorem above_len {a b:Nat} (h:(digs a).length ≠ (digs b).length):decide ((digs b).length < (digs a).length) = decide (b < a):=by
 have key:∀ x y:Nat,(digs x).length < (digs y).length → x < y:=fun x y hxy => by
  have h1:=digs_lt x
  have hy:0 < y:=by
   by_cases c:y = 0
   ·subst c;simp [digs_zero] at hxy
   ·omega
  have h2:=digs_ge hy
  have h3:10000 ^ (digs x).length ≤ 10000 ^ ((digs y).length - 1):=Nat.pow_le_pow_right (by omega) (by omega)
  omega
 by_cases c:(digs b).length < (digs a).length
 ·have:=key b a c
  simp [c,this]
 ·have:=key a b (by omega)
  have d:¬ b < a:=by omega
  simp [c,d]
theorem valD_split {l:List Int} {i:Nat} (h:i < l.length):valD l = valD (l.take i) + 10000 ^ i * (l[i] + 10000 * valD (l.drop (i + 1))):=by
 have e:l = l.take i ++ l.drop i:=(List.take_append_drop i l).symm
 have:=valD_append (l.take i) (l.drop i)
 rw [← e,List.drop_eq_getElem_cons h,List.length_take,Nat.min_eq_left (by omega)] at this
 exact this
theorem above_at {a b:Nat} {i:Nat} (ha:i < (digs a).length) (hb:i < (digs b).length) (ht:(digs a).drop (i + 1) = (digs b).drop (i + 1)) (hne:(digs a)[i] ≠ (digs b)[i]):decide ((digs b)[i] < (digs a)[i]) = decide (b < a):=by
 have key:∀ x y:Nat,∀ (hx:i < (digs x).length) (hy:i < (digs y).length),(digs x).drop (i + 1) = (digs y).drop (i + 1) → (digs x)[i] < (digs y)[i] → x < y:=fun x y hx hy hd hl => by
  have h1:=valD_split hx
  have h2:=valD_split hy
  rw [digs_val] at h1 h2
  have t1:=valD_lt ((digs_dg x).take i)
  have t2:=valD_nonneg ((digs_dg y).take i)
  rw [List.length_take,Nat.min_eq_left (by omega)] at t1
  rw [hd] at h1
  generalize valD ((digs y).drop (i + 1)) = D at *
  generalize (digs x)[i] = p at *
  generalize (digs y)[i] = q at *
  generalize valD ((digs x).take i) = u at *
  generalize valD ((digs y).take i) = v at *
  have hp:(0:Int) < 10000 ^ i:=Int.pow_pos (by decide)
  generalize (10000:Int) ^ i = P at *
  have:P * (p + 10000 * D) + P ≤ P * (q + 10000 * D):=by
   have:P * (p + 10000 * D + 1) ≤ P * (q + 10000 * D):=Int.mul_le_mul_of_nonneg_left (by omega) (by omega)
   have e:P * (p + 10000 * D + 1) = P * (p + 10000 * D) + P:=by grind
   omega
  omega
 by_cases c:(digs b)[i] < (digs a)[i]
 ·have:=key b a hb ha ht.symm c
  simp [c,this]
 ·have:=key a b ha hb ht (by omega)
  have d:¬ b < a:=by omega
  simp [c,d]
structure Tm (a b i:Nat) (O:List Int):Prop where
 dg:Dg O
 len:O.length = (digs a).length + (digs b).length + 1
 val:valD O = valD ((digs a).take i) * b
structure TmI (a b i k:Nat) (A c:Int) (O:List Int):Prop where
 dg:Dg O
 len:O.length = (digs a).length + (digs b).length + 1
 c0:0 ≤ c
 c1:c ≤ 9999
 a0:0 ≤ A
 a1:A ≤ 9999
 val:valD O + 10000 ^ (i + k) * (c + A * valD ((digs b).drop k)) = valD ((digs a).take (i + 1)) * b
theorem tm_start (a b:Nat):Tm a b 0 (List.replicate ((digs a).length + (digs b).length + 1) 0) :=
 ⟨dg_zeros _,by simp,by rw [valD_zeros];simp [valD]⟩
theorem Tm.enter {a b i:Nat} {O:List Int} (h:Tm a b i O) (hi:i < (digs a).length):TmI a b i 0 ((digs a)[i]) 0 O:=by
 have ha:=(digs_dg a).at i hi
 refine ⟨h.dg,h.len,by omega,by omega,ha.1,by omega,?_⟩
 rw [h.val,List.take_succ_eq_append_getElem hi,valD_append,List.drop_zero,digs_val,List.length_take,Nat.min_eq_left (by omega)]
 simp only [valD,Nat.add_zero,Int.zero_add,Int.mul_zero,Int.add_zero]
 grind
theorem TmI.room {a b i k:Nat} {A c:Int} {O:List Int} (h:TmI a b i k A c O) (hi:i < (digs a).length) (hk:k < (digs b).length ∨ 0 < c):i + k < O.length ∧ k ≤ (digs b).length:=by
 have hl:=h.len
 suffices hs:k ≤ (digs b).length from ⟨by omega,hs⟩
 rcases hk with hk | hk
 ·omega
 ·have hv:=h.val
  have h0:=valD_nonneg h.dg
  have h1:=valD_nonneg ((digs_dg b).drop k)
  have hp:(0:Int) < 10000 ^ (i + k):=Int.pow_pos (by decide)
  have h2:=valD_lt ((digs_dg a).take (i + 1))
  have h3:=valD_nonneg ((digs_dg a).take (i + 1))
  have h4:=valD_lt (digs_dg b)
  rw [digs_val] at h4
  rw [List.length_take,Nat.min_eq_left (by omega)] at h2
  have a0:=h.a0
  have hav:0 ≤ A * valD ((digs b).drop k):=Int.mul_nonneg a0 h1
  have m1:(10000:Int) ^ (i + k) * 1 ≤ 10000 ^ (i + k) * (c + A * valD ((digs b).drop k)):=Int.mul_le_mul_of_nonneg_left (by omega) (by omega)
  have hb0:(0:Int) ≤ b:=by omega
  have m2:valD ((digs a).take (i + 1)) * (b:Int) ≤ 10000 ^ (i + 1) * (b:Int):=Int.mul_le_mul_of_nonneg_right (by omega) hb0
  have hp2:(0:Int) < 10000 ^ (i + 1):=Int.pow_pos (by decide)
  have m3:(10000:Int) ^ (i + 1) * (b:Int) < 10000 ^ (i + 1) * 10000 ^ (digs b).length:=Int.mul_lt_mul_of_pos_left h4 hp2
  rw [← Int.pow_add] at m3
  have m4:(10000:Int) ^ (i + k) < 10000 ^ (i + 1 + (digs b).length):=by omega
  have m5:(10000:Nat) ^ (i + k) < 10000 ^ (i + 1 + (digs b).length):=Int.ofNat_lt.1 (by rw [Int.natCast_pow,Int.natCast_pow];exact m4)
  have:=(Nat.pow_lt_pow_iff_right (by decide:1 < 10000)).1 m5
  omega
def tmD (b k:Nat) (A:Int):Int:=if h:k < (digs b).length then A * (digs b)[k] else 0
theorem tmD_lt {b k:Nat} {A:Int} (h:k < (digs b).length):tmD b k A = A * (digs b)[k]:=by rw [tmD,dif_pos h]
theorem tmD_ge {b k:Nat} {A:Int} (h:¬ k < (digs b).length):tmD b k A = 0:=by rw [tmD,dif_neg h]
theorem tmD_bd {b k:Nat} {A:Int} (a0:0 ≤ A) (a1:A ≤ 9999):0 ≤ tmD b k A ∧ tmD b k A ≤ 99980001:=by
 by_cases h:k < (digs b).length
 ·rw [tmD_lt h]
  have:=(digs_dg b).at k h
  generalize (digs b)[k] = B at *
  refine ⟨Int.mul_nonneg a0 this.1,?_⟩
  have m1:A * B ≤ 9999 * B:=Int.mul_le_mul_of_nonneg_right a1 this.1
  omega
 ·rw [tmD_ge h];decide
theorem TmI.step {a b i k:Nat} {A c:Int} {O:List Int} (h:TmI a b i k A c O) (hr:i + k < O.length) :
  TmI a b i (k + 1) A ((c + tmD b k A + O[i + k]) / 10000) (O.set (i + k) ((c + tmD b k A + O[i + k]) % 10000)):=by
 have hb:=tmD_bd (b:=b) (k:=k) h.a0 h.a1
 have ho:=h.dg.at _ hr
 have c0:=h.c0
 have c1:=h.c1
 refine ⟨h.dg.set _ (by omega) (by omega),by rw [List.length_set];exact h.len,by omega,by omega,h.a0,h.a1,?_⟩
 rw [valD_set _ _ hr,← h.val]
 have hv:A * valD ((digs b).drop k) = tmD b k A + 10000 * (A * valD ((digs b).drop (k + 1))):=by
  by_cases hk:k < (digs b).length
  ·rw [tmD_lt hk,List.drop_eq_getElem_cons hk]
   show A * (_ + 10000 * valD _) = _
   grind
  ·rw [tmD_ge hk,List.drop_eq_nil_of_le (by omega),List.drop_eq_nil_of_le (by omega)];simp [valD]
 rw [hv,show i + (k + 1) = i + k + 1 from rfl,Int.pow_succ]
 generalize A * valD ((digs b).drop (k + 1)) = V at *
 generalize tmD b k A = t at *
 generalize O[i + k] = o at *
 generalize (10000:Int) ^ (i + k) = P at *
 have hq:(c + t + o) % 10000 + 10000 * ((c + t + o) / 10000) = c + t + o:=Int.emod_add_mul_ediv _ _
 generalize (c + t + o) % 10000 = r at *
 generalize (c + t + o) / 10000 = q at *
 have:r = c + t + o - 10000 * q:=by omega
 subst this
 grind
theorem TmI.leave {a b i k:Nat} {A c:Int} {O:List Int} (h:TmI a b i k A c O) (hk:¬ k < (digs b).length) (hc:¬ 0 < c):Tm a b (i + 1) O:=by
 refine ⟨h.dg,h.len,?_⟩
 have hv:=h.val
 have:c = 0:=by have:=h.c0;omega
 rw [List.drop_eq_nil_of_le (by omega),this] at hv
 simpa [valD] using hv
theorem Tm.done {a b:Nat} {O:List Int} (h:Tm a b (digs a).length O):valD O = ((a * b:Nat):Int):=by
 rw [h.val,List.take_length,digs_val];simp
theorem getD0 {l:List Int} {i:Nat} (h:i < l.length):l.getD i 0 = l[i]:=by rw [List.getD_eq_getElem?_getD,List.getElem?_eq_getElem h];rfl
theorem trim_digs' {l:List Int} {k n:Nat} (hd:Dg l) (hv:valD l = n) (hk:k ≤ l.length) (hz:∀ i,i < l.length → k ≤ i → l.getD i 0 = 0) (hn:0 < k → l.getD (k - 1) 0 ≠ 0):l.take k = digs n :=
 trim_digs hd hv hk (fun i hi hk => (getD0 hi).symm.trans (hz i hi hk)) (fun h e => hn h ((getD0 (by omega)).trans e))
theorem above_at' {a b:Nat} {i:Nat} (ha:i < (digs a).length) (hb:i < (digs b).length) (ht:(digs a).drop (i + 1) = (digs b).drop (i + 1)) (hne:(digs a).getD i 0 ≠ (digs b).getD i 0):decide ((digs b).getD i 0 < (digs a).getD i 0) = decide (b < a):=by
 rw [getD0 ha,getD0 hb] at hne ⊢;exact above_at ha hb ht hne
theorem drop_same {a b:List Int} {i:Nat} (ha:i < a.length) (hb:i < b.length) (ht:a.drop (i + 1) = b.drop (i + 1)) (he:a.getD i 0 = b.getD i 0):a.drop i = b.drop i:=by
 rw [getD0 ha,getD0 hb] at he
 rw [List.drop_eq_getElem_cons ha,List.drop_eq_getElem_cons hb,ht,he]
theorem digs_same {a b:Nat} (h:digs a = digs b):a = b:=by
 have h1:=digs_val a
 have h2:=digs_val b
 rw [h] at h1;omega
theorem dg_bd {l:List Int} (h:Dg l) (i:Nat):0 ≤ l.getD i 0 ∧ l.getD i 0 < 10000:=by
 by_cases c:i < l.length
 ·rw [getD0 c];exact h.at i c
 ·rw [List.getD_eq_getElem?_getD,List.getElem?_eq_none (by omega)];decide
theorem digs_head' {l:List Int} {i n:Nat} (h:l.drop i = digs n) (hi:i < l.length):l.getD i 0 = ((n % 10000:Nat):Int) ∧ 0 < n:=by
 rw [getD0 hi];exact digs_head h hi
theorem Tm.enter' {a b i:Nat} {O:List Int} (h:Tm a b i O) (hi:i < (digs a).length):TmI a b i 0 ((digs a).getD i 0) 0 O:=by
 rw [getD0 hi];exact h.enter hi
theorem tmD_lt' {b k:Nat} {A:Int} (h:k < (digs b).length):tmD b k A = A * (digs b).getD k 0:=by rw [getD0 h];exact tmD_lt h
theorem TmI.step' {a b i k:Nat} {A c:Int} {O:List Int} (h:TmI a b i k A c O) (hr:i + k < O.length) :
  TmI a b i (k + 1) A ((c + tmD b k A + O.getD (i + k) 0) / 10000) (O.set (i + k) ((c + tmD b k A + O.getD (i + k) 0) % 10000)):=by
 rw [getD0 hr];exact h.step hr
def nums (l:List Int):List Value:=l.map (Value.int .i64)
theorem nums_length (l:List Int):(nums l).length = l.length:=by simp [nums]
theorem nums_append (l r:List Int):nums (l ++ r) = nums l ++ nums r:=by simp [nums]
theorem nums_at (l:List Int) (i:Nat) (h:i < l.length):(nums l)[i]? = some (.int .i64 l[i]):=by simp [nums,List.getElem?_eq_getElem h]
def Num (B:Nat) (v:Value) (l:List Int) (w:World):Prop:=w.ownsRow B 3 1 v l.length (nums l)
theorem Num.slice {B:Nat} {v:Value} {l:List Int} {w:World} (h:Num B v l w):∃ ao cap,v = .slice ao l.length cap:=by
 rcases h.2 with ⟨rfl,e⟩ | ⟨g,cap,cur,rfl,_⟩
 ·exact ⟨none,0,by rw [e]⟩
 ·exact ⟨_,_,rfl⟩
theorem Num.lies {B:Nat} {v:Value} {l:List Int} {w:World} (h:Num B v l w) (hl:0 < l.length):∃ g cap,v = .slice (some ⟨g,0,none⟩) l.length cap ∧ g < w.heap.size ∧ B ≤ g ∧ l.length ≤ cap ∧ ∀ i,i < l.length → w.cell? ⟨g,i,none⟩ = some (.int .i64 (l.getD i 0)):=by
 obtain ⟨g,cap,rfl⟩:=own_some h hl
 refine ⟨g,cap,rfl,(h.lt _ rfl).2,(h.lt _ rfl).1,?_,fun i hi => ?_⟩
 ·rcases h.2 with ⟨e,_⟩ | ⟨g',cap',cur,e,_,_,h2,_⟩
  ·cases e
  ·cases e;exact h2
 ·rw [h.cellAt i (by omega),nums_at l i hi,List.getD_eq_getElem?_getD,List.getElem?_eq_getElem hi];rfl
theorem Num.below {B:Nat} {v:Value} {l:List Int} {w w':World} (h:Num B v l w) (hb:Below w.heap.size w w'):Num B v l w':=own_down h hb
theorem smear_civil_no (n:Int) (w:World) (h:n < 0 ∨ 401767 ≤ n) :
  Calls Tryz.prog 35 #[.int .i64 n] w fun e w' => e = .returned (.tuple #[.int .i64 0,.int .i64 0,.int .i64 0,.int .i64 1]) ∧ w' = w:=by
 go_enter Tryz.func35,Tryz.ntmps35
 go_wp2_with (go_at_call 71;refine (civil_no _ _ h).mono ?_;rintro e w' ⟨rfl,rfl⟩)
 refine bodyPost_ret (results_four rfl _ _ _) rfl ?_
 exact ⟨rfl,rfl⟩
theorem smear_civil_yes (n:Int) (w:World) (h0:0 ≤ n) (h1:n < 401767) :
  Calls Tryz.prog 35 #[.int .i64 n] w fun e w' => (∃ y m:Int,e = .returned (.tuple #[.int .i64 y,.int .i64 m,.int .i64 (n - Cal.yb y - Cal.cum y m + 1),.int .i64 0]) ∧ Cal.In y m n) ∧ w' = w:=by
 go_enter Tryz.func35,Tryz.ntmps35
 go_wp2_with (go_at_call 71;refine (civil_yes _ _ h0 h1).mono ?_;rintro e w' ⟨⟨y,m,rfl,hin⟩,rfl⟩)
 refine bodyPost_ret (results_four rfl _ _ _) rfl ?_
 exact ⟨⟨y,m,rfl,hin⟩,rfl⟩
structure Cm where
 a:Int
 o:Int
 bs:Int
 bf:Int
 v:Bool
def flatC:List Cm → List Value
 | [] => []
 | c :: r => .int .i64 c.a :: .int .i64 c.o :: .int .i64 c.bs :: .int .i64 c.bf :: .bool c.v :: flatC r
theorem flatC_length (l:List Cm):(flatC l).length = l.length * 5:=by
 induction l with
 | nil => rfl
 | cons p r ih => simp [flatC,ih];omega
theorem flatC_append (l r:List Cm):flatC (l ++ r) = flatC l ++ flatC r:=by
 induction l with
 | nil => rfl
 | cons p q ih => simp [flatC,ih]
theorem flatC_one (l:List Cm):∀ u ∈ flatC l,u.oneCell' = true:=by
 induction l with
 | nil => intro u h;cases h
 | cons p r ih =>
  intro u h
  simp [flatC] at h
  rcases h with rfl | rfl | rfl | rfl | rfl | h
  ·rfl
  ·rfl
  ·rfl
  ·rfl
  ·rfl
  ·exact ih u h
def Cm.cells (c:Cm):Array Value:=#[.int .i64 c.a,.int .i64 c.o,.int .i64 c.bs,.int .i64 c.bf,.bool c.v]
theorem flatC_at (l:List Cm) (k:Nat) (h:k < l.length) (j:Nat) (hj:j < 5):(flatC l)[k * 5 + j]? = l[k].cells[j]?:=by
 induction l generalizing k with
 | nil => simp at h
 | cons p r ih =>
  cases k with
  | zero =>
   simp only [flatC,Nat.zero_mul,Nat.zero_add,List.getElem_cons_zero]
   match j,hj with
   | 0,_ => rfl
   | 1,_ => rfl
   | 2,_ => rfl
   | 3,_ => rfl
   | 4,_ => rfl
  | succ k =>
   have h':k < r.length:=by simpa using h
   have e:(k + 1) * 5 + j = (k * 5 + j) + 5:=by omega
   rw [e]
   simp only [flatC,List.getElem_cons_succ]
   exact ih k h'
theorem flat_set (l:List (Int × Int)) (k:Nat) (a b:Int):flat (l.set k (a,b)) = ((flat l).set (k * 2) (.int .i64 a)).set (k * 2 + 1) (.int .i64 b):=by
 induction l generalizing k with
 | nil => rfl
 | cons p r ih =>
  cases k with
  | zero => rfl
  | succ k =>
   rw [show (k + 1) * 2 = k * 2 + 1 + 1 from by omega]
   simp [flat,ih]
theorem flatC_set (l:List Cm) (k:Nat) (c:Cm):flatC (l.set k c) = (((((flatC l).set (k * 5) (.int .i64 c.a)).set (k * 5 + 1) (.int .i64 c.o)).set (k * 5 + 2) (.int .i64 c.bs)).set (k * 5 + 3) (.int .i64 c.bf)).set (k * 5 + 4) (.bool c.v):=by
 induction l generalizing k with
 | nil => rfl
 | cons p r ih =>
  cases k with
  | zero => rfl
  | succ k =>
   rw [show (k + 1) * 5 = k * 5 + 1 + 1 + 1 + 1 + 1 from by omega]
   simp [flatC,ih]
theorem own_put {w:World} {B e size g n cap:Nat} {xs:List Value} (h:w.ownsRow B e size (.slice (some ⟨g,0,none⟩) n cap) n xs) (j:Nat) (u:Value) :
  (w.setCell ⟨g,j,none⟩ u).ownsRow B e size (.slice (some ⟨g,0,none⟩) n cap) n (xs.set j u):=by
 refine ⟨by rw [List.length_set];exact h.1,?_⟩
 rcases h.2 with ⟨h0,_⟩ | ⟨g',cap',cur,hv,hb,hg,h1,h2,h3,h4⟩
 ·cases h0
 ·cases hv
  refine .inr ⟨g,cap,cur.setIfInBounds j u,rfl,hb,heap_setCell_same _ _ _ _ _ _ hg,h1,h2,by simpa using h3,?_⟩
  rw [← h4,Array.toList_setIfInBounds,List.take_set]
theorem own_free {w:World} {B e size g n cap:Nat} {xs:List Value} (h:w.ownsRow B e size (.slice (some ⟨g,0,none⟩) n cap) n xs) (j:Nat):w.frozen? ⟨g,j,none⟩ = false:=by
 rcases h.2 with ⟨h0,_⟩ | ⟨g',cap',cur,hv,hb,hg,_⟩
 ·cases h0
 ·cases hv;exact frozen_of_row _ _ _ _ _ hg
def mkTo (l:List (Int × Int)) (m:Int):Nat → List (Int × Int)
 | 0 => l
 | k + 1 => (mkTo l m k).set k (m + k,m + k)
theorem mkTo_length (l:List (Int × Int)) (m:Int) (k:Nat):(mkTo l m k).length = l.length:=by
 induction k with
 | zero => rfl
 | succ k ih => rw [mkTo,List.length_set,ih]
theorem mkTo_at (l:List (Int × Int)) (m:Int) (k i:Nat) (hi:i < k) (hl:i < l.length):(mkTo l m k)[i]? = some (m + i,m + i):=by
 induction k with
 | zero => omega
 | succ k ih =>
  rw [mkTo,List.getElem?_set]
  by_cases c:k = i
  ·subst c;rw [if_pos rfl,mkTo_length,if_pos hl]
  ·rw [if_neg c];exact ih (by omega)
def mkC (m:Int):Cm:=⟨m,m,0,0,false⟩
def mkToC (l:List Cm) (m:Int):Nat → List Cm
 | 0 => l
 | k + 1 => (mkToC l m k).set k (mkC (m + k))
theorem mkToC_length (l:List Cm) (m:Int) (k:Nat):(mkToC l m k).length = l.length:=by
 induction k with
 | zero => rfl
 | succ k ih => rw [mkToC,List.length_set,ih]
theorem mkToC_at (l:List Cm) (m:Int) (k i:Nat) (hi:i < k) (hl:i < l.length):(mkToC l m k)[i]? = some (mkC (m + i)):=by
 induction k with
 | zero => omega
 | succ k ih =>
  rw [mkToC,List.getElem?_set]
  by_cases c:k = i
  ·subst c;rw [if_pos rfl,mkToC_length,if_pos hl]
  ·rw [if_neg c];exact ih (by omega)
structure Vw where
 d:Value
 c:Value
 m:Int
 b:Int
def flatV:List Vw → List Value
 | [] => []
 | v :: r => v.d :: v.c :: .int .i64 v.m :: .int .i64 v.b :: flatV r
theorem flatV_append (l r:List Vw):flatV (l ++ r) = flatV l ++ flatV r:=by
 induction l with
 | nil => rfl
 | cons p q ih => simp [flatV,ih]
theorem flatV_at (l:List Vw) (k:Nat) (h:k < l.length) (j:Nat) (hj:j < 4):(flatV l)[k * 4 + j]? = #[l[k].d,l[k].c,.int .i64 l[k].m,.int .i64 l[k].b][j]?:=by
 induction l generalizing k with
 | nil => simp at h
 | cons p r ih =>
  cases k with
  | zero =>
   simp only [flatV,Nat.zero_mul,Nat.zero_add,List.getElem_cons_zero]
   match j,hj with
   | 0,_ => rfl
   | 1,_ => rfl
   | 2,_ => rfl
   | 3,_ => rfl
  | succ k =>
   have h':k < r.length:=by simpa using h
   have e:(k + 1) * 4 + j = (k * 4 + j) + 4:=by omega
   rw [e]
   simp only [flatV,List.getElem_cons_succ]
   exact ih k h'
theorem infoALeap:(Tryz.prog.info? 84).map (fun i => (i.zero,i.size,i.bytes)) = some (some (.agg #[.int .i64 0,.int .i64 0]),2,16):=by kernel_rfl
theorem infoAComing:(Tryz.prog.info? 121).map (fun i => (i.zero,i.size,i.bytes)) = some (some (.agg #[.int .i64 0,.int .i64 0,.int .i64 0,.int .i64 0,.bool false]),5,40):=by kernel_rfl
end Go.Proofs.YtmmkhodaljpjgaaGreatDoor
namespace Go.Proofs
open Go.Shelf
shelf_lay LaysM.n171 Nm 171 at Tryz as Tryz.laysItoa
end Go.Proofs
namespace Go.Proofs.YtmmkhodaljpjgaaGreatDoor
open Go.RowKit
def Pows (w : World) : Prop := Lib.TabIs Tryz.prog w "internal/strconv.uint64pow10" .u64 Lib.pow10Tab
theorem Pows.below {w w':World} (h:Pows w) (hb:Below w.heap.size w w'):Pows w':=Lib.tabBelow_of_tabIs h w' hb
theorem dec_itoa (n:Nat):Lib.decDigits n = Txt.dec n:=by
 induction n using Nat.strongRecOn with
 | _ n ih =>
  rw [Lib.decDigits]
  by_cases h:n < 10
  ·rw [dif_pos h,Txt.dec_low n (by omega)]
  ·rw [dif_neg h,Txt.dec_up n (by omega),ih (n / 10) (by omega)]
theorem itoa_any (n:Nat) (w:World) (hn:n ≤ 1000000000000) (hP:Pows w) :
  Calls Tryz.prog 128 #[.int .i64 n] w fun e w' => e = .returned (.string ⟨(Txt.dec n).toArray⟩) ∧ Below w.heap.size w w':=by
 refine (Any.strconv_Itoa Tryz.laysItoa (n:Int) (by omega) (by omega) w hP).mono ?_
 rintro e w' ⟨rfl,k,os,rfl⟩
 refine ⟨?_,?_⟩
 ·have:Lib.itoa (n:Int) = Txt.dec n:=by
   unfold Lib.itoa
   rw [if_neg (by omega),Int.toNat_natCast,dec_itoa]
  rw [this]
 ·exact (below_drewN (Below.refl w.heap.size w) k).trans ⟨rfl,rfl,rfl,by simp,fun j hj => Sort.heap_grow_old _ _ hj⟩
end Go.Proofs.YtmmkhodaljpjgaaGreatDoor
namespace Go.Proofs.YtmmkhodaljpjgaaGreatDoor
open Go.RowKit
def NoDate (y m d:Int):Prop:=y < 1900 ∨ 2999 < y ∨ m < 1 ∨ 12 < m ∨ d < 1 ∨ Cal.dim y m < d
theorem day_no (y m d:Int) (w:World) (h:NoDate y m d) :
  Calls Tryz.prog 68 #[.int .i64 y,.int .i64 m,.int .i64 d] w fun e w' => e = .returned (.tuple #[.int .i64 0,.int .i64 1]) ∧ w' = w:=by
 unfold NoDate at h
 by_cases c1:y < 1900
 ·clear h
  go_enter Tryz.func68,Tryz.ntmps68
  go_wp2
  go_ret2
  exact ⟨rfl,rfl⟩
 by_cases c2:2999 < y
 ·clear h
  go_enter Tryz.func68,Tryz.ntmps68
  go_wp2
  go_ret2
  exact ⟨rfl,rfl⟩
 by_cases c3:m < 1
 ·clear h
  go_enter Tryz.func68,Tryz.ntmps68
  go_wp2
  go_ret2
  exact ⟨rfl,rfl⟩
 by_cases c4:12 < m
 ·clear h
  go_enter Tryz.func68,Tryz.ntmps68
  go_wp2
  go_ret2
  exact ⟨rfl,rfl⟩
 by_cases c5:d < 1
 ·clear h
  go_enter Tryz.func68,Tryz.ntmps68
  go_wp2
  go_ret2
  exact ⟨rfl,rfl⟩
 ·have c6:Cal.dim y m < d:=by omega
  clear h
  go_enter Tryz.func68,Tryz.ntmps68
  go_wp2_with (go_at_call 114;refine (dim_any _ _ _ (by omega)).mono ?_;rintro e w' ⟨rfl,rfl⟩)
  go_ret2
  exact ⟨rfl,rfl⟩
theorem day_yes (y m d:Int) (w:World) (hy1:1900 ≤ y) (hy2:y ≤ 2999) (hm1:1 ≤ m) (hm2:m ≤ 12) (hd1:1 ≤ d) (hd2:d ≤ Cal.dim y m) :
  Calls Tryz.prog 68 #[.int .i64 y,.int .i64 m,.int .i64 d] w fun e w' => e = .returned (.tuple #[.int .i64 (Cal.yb y + Cal.cum y m + d - 1),.int .i64 0]) ∧ w' = w:=by
 have db:=Cal.dim_bd y m
 have yb0:=Cal.yb_bd y hy1 (by omega)
 go_enter Tryz.func68,Tryz.ntmps68
 go_wp2_with (first | (go_at_call 114;refine (dim_any _ _ _ (by omega)).mono ?_;rintro e w' ⟨rfl,rfl⟩) | (go_at_call 115;refine (begin_any _ _ (by omega) (by omega)).mono ?_;rintro e w' ⟨rfl,rfl⟩))
 go_loop [8,9] (fun s k => ∃ q:Int,1 ≤ q ∧ q ≤ m ∧ k = .int .i64 q ∧ s = .int .i64 (Cal.yb y + Cal.cum y q)) (fun _ k => (12 - intOf k).toNat)
 case atStart => exact ⟨1,by omega,by omega,rfl,by rw [Cal.cum_one];simp⟩
 case round =>
  obtain ⟨q,hq1,hq2,rfl,rfl⟩:=hrel
  have cb:=Cal.cum_bd y q hq1 (by omega)
  have dq:=Cal.dim_bd y q
  have HC:Hid (Cal.cum y (q + 1) = Cal.cum y q + Cal.dim y q):=Cal.cum_succ y q hq1 (by omega)
  by_cases hlt:q < m
  ·go_wp2_with (go_at_call 114;refine (dim_any _ _ _ (by omega)).mono ?_;rintro e w' ⟨rfl,rfl⟩)
   go_round
   case rel => exact ⟨q + 1,by omega,by omega,rfl,by rw [HC.out];go_num⟩
   case measure => simp [intOf];omega
  ·have e:q = m:=by omega
   subst e
   go_wp2
   go_ret2
   exact ⟨rfl,rfl⟩
theorem smear_day_no (y m d:Int) (w:World) (h:NoDate y m d) :
  Calls Tryz.prog 32 #[.int .i64 y,.int .i64 m,.int .i64 d] w fun e w' => e = .returned (.tuple #[.int .i64 0,.int .i64 1]) ∧ w' = w:=by
 go_enter Tryz.func32,Tryz.ntmps32
 go_wp2_with (go_at_call 68;refine (day_no _ _ _ _ h).mono ?_;rintro e w' ⟨rfl,rfl⟩)
 go_ret2
 exact ⟨rfl,rfl⟩
theorem smear_day_yes (y m d:Int) (w:World) (hy1:1900 ≤ y) (hy2:y ≤ 2999) (hm1:1 ≤ m) (hm2:m ≤ 12) (hd1:1 ≤ d) (hd2:d ≤ Cal.dim y m) :
  Calls Tryz.prog 32 #[.int .i64 y,.int .i64 m,.int .i64 d] w fun e w' => e = .returned (.tuple #[.int .i64 (Cal.yb y + Cal.cum y m + d - 1),.int .i64 0]) ∧ w' = w:=by
 go_enter Tryz.func32,Tryz.ntmps32
 go_wp2_with (go_at_call 68;refine (day_yes _ _ _ _ hy1 hy2 hm1 hm2 hd1 hd2).mono ?_;rintro e w' ⟨rfl,rfl⟩)
 go_ret2
 exact ⟨rfl,rfl⟩
namespace Cal
def inB (y m n:Int):Bool:=decide (1900 ≤ y ∧ y ≤ 2999 ∧ 1 ≤ m ∧ m ≤ 12 ∧ yb y + cum y m ≤ n ∧ n < yb y + cum y m + dim y m)
theorem inB_in {y m n:Int} (h:inB y m n = true):In y m n:=by
 obtain ⟨a,b,c,d,e,f⟩:=of_decide_eq_true h
 exact ⟨a,b,c,d,e,f⟩
def allMonths:List (Int × Int):=(List.range 13200).map fun (k:Nat) => (1900 + (k:Int) / 12,1 + (k:Int) % 12)
def find (n:Int):Option (Int × Int):=allMonths.find? fun p => inB p.1 p.2 n
theorem find_in {n:Int} {p:Int × Int} (h:find n = some p):In p.1 p.2 n:=by
 have q:=List.find?_some (show List.find? (fun p => inB p.1 p.2 n) allMonths = some p from h)
 exact inB_in q
theorem find_eq {y m n:Int} (h:In y m n):find n = some (y,m):=by
 cases e:find n with
 | none =>
  have mem:(y,m) ∈ allMonths:=by
   have:=h.y1
   have:=h.y2
   have:=h.m1
   have:=h.m2
   refine List.mem_map.2 ⟨((y - 1900) * 12 + (m - 1)).toNat,List.mem_range.2 (by omega),?_⟩
   have e:((((y - 1900) * 12 + (m - 1)).toNat:Nat):Int) = (y - 1900) * 12 + (m - 1):=by omega
   rw [e]
   exact Prod.ext (by simp only;omega) (by simp only;omega)
  have:=List.find?_eq_none.1 e _ mem
  exact absurd (decide_eq_true ⟨h.y1,h.y2,h.m1,h.m2,h.lo,h.hi⟩) this
 | some p =>
  have o:=(find_in e).only h
  exact congrArg some (Prod.ext o.1 o.2)
end Cal
namespace Tab
def IsFirst (sec:Int):Prop:=0 ≤ sec ∧ sec % 86400 = 0 ∧ ∃ y m,Cal.In y m (sec / 86400) ∧ sec / 86400 = Cal.yb y + Cal.cum y m
def first (sec:Int):Bool:=decide (0 ≤ sec ∧ sec % 86400 = 0) && (match Cal.find (sec / 86400) with | none => false | some p => decide (sec / 86400 = Cal.yb p.1 + Cal.cum p.1 p.2))
theorem first_iff (sec:Int):first sec = true ↔ IsFirst sec:=by
 unfold first IsFirst
 rw [Bool.and_eq_true,decide_eq_true_eq]
 refine ⟨fun ⟨⟨a,b⟩,c⟩ => ⟨a,b,?_⟩,fun ⟨a,b,y,m,hi,e⟩ => ⟨⟨a,b⟩,?_⟩⟩
 ·cases hf:Cal.find (sec / 86400) with
  | none => rw [hf] at c;cases c
  | some p => rw [hf] at c;exact ⟨p.1,p.2,Cal.find_in hf,of_decide_eq_true c⟩
 ·rw [Cal.find_eq hi];exact decide_eq_true e
theorem first_yes {sec:Int} (h:IsFirst sec):first sec = true:=(first_iff sec).2 h
theorem first_no {sec:Int} (h:¬ IsFirst sec):first sec = false:=by
 cases e:first sec with
 | false => rfl
 | true => exact absurd ((first_iff sec).1 e) h
def behindB (p:Int × Int) (a o:Int):Bool:=decide (p.1 < a) && (o == p.2 + 1 || o == p.2 - 1)
def follows (ls:List (Int × Int)) (a o:Int):Bool :=
 first a && (decide (0 ≤ o) && (decide (o ≤ 200) && ((!(ls.length == 40)) && (match ls.getLast? with | none => true | some p => behindB p a o))))
end Tab
namespace Tab
theorem follows_no1 {ls:List (Int × Int)} {a o:Int} (h:first a = false):follows ls a o = false:=by simp [follows,h]
theorem follows_no2 {ls:List (Int × Int)} {a o:Int} (h:o < 0):follows ls a o = false:=by
 have:decide (0 ≤ o) = false:=by simp;omega
 simp [follows,this]
theorem follows_no3 {ls:List (Int × Int)} {a o:Int} (h:200 < o):follows ls a o = false:=by
 have:decide (o ≤ 200) = false:=by simp;omega
 simp [follows,this]
theorem follows_no4 {ls:List (Int × Int)} {a o:Int} (h:ls.length = 40):follows ls a o = false:=by simp [follows,h]
theorem follows_nil {a o:Int} (h:first a = true) (h0:0 ≤ o) (h1:o ≤ 200):follows [] a o = true:=by simp [follows,h,h0,h1]
theorem follows_last {ls:List (Int × Int)} {a o:Int} (h:first a = true) (h0:0 ≤ o) (h1:o ≤ 200) (h2:ls.length ≠ 40) (q:Nat) (hq:ls.length = q + 1) :
  follows ls a o = behindB (ls[q]'(by omega)) a o:=by
 have hl:ls.getLast? = some (ls[q]'(by omega)):=by
  rw [List.getLast?_eq_getElem?,List.getElem?_eq_getElem (by omega)]
  congr 1
  simp [hq]
 unfold follows
 rw [hl,h]
 simp [h0,h1,h2]
end Tab
namespace Tab
def okUpTo (ls:List (Int × Int)):Nat → Bool
 | 0 => true
 | k + 1 => okUpTo ls k && (match ls[k]? with | none => true | some p => follows (ls.take k) p.1 p.2)
def whole (up ex:Int) (ls:List (Int × Int)):Bool :=
 decide (0 ≤ up) && (decide (up < ex) && (decide (ex ≤ 34000000000) && ((!(ls.length == 0)) && okUpTo ls ls.length)))
theorem okUpTo_succ (ls:List (Int × Int)) (k:Nat) (h:k < ls.length):okUpTo ls (k + 1) = (okUpTo ls k && follows (ls.take k) ls[k].1 ls[k].2):=by
 simp only [okUpTo];rw [List.getElem?_eq_getElem h]
theorem okUpTo_no {ls:List (Int × Int)} {k m:Nat} (h:okUpTo ls k = false) (hm:k ≤ m):okUpTo ls m = false:=by
 induction m with
 | zero => have:k = 0:=by omega
      subst this;exact h
 | succ m ih =>
  by_cases e:k = m + 1
  ·subst e;exact h
  ·simp [okUpTo,ih (by omega)]
theorem follows_off {ls:List (Int × Int)} {a o:Int} (h:follows ls a o = true):0 ≤ o ∧ o ≤ 200:=by
 by_cases h0:o < 0
 ·rw [follows_no2 h0] at h;cases h
 ·by_cases h1:200 < o
  ·rw [follows_no3 h1] at h;cases h
  ·omega
theorem okUpTo_off {ls:List (Int × Int)} (k:Nat) (hk:k ≤ ls.length) (h:okUpTo ls k = true):∀ p ∈ ls.take k,0 ≤ p.2 ∧ p.2 ≤ 200:=by
 induction k with
 | zero => intro p hp;simp at hp
 | succ k ih =>
  rw [okUpTo_succ ls k (by omega)] at h
  simp only [Bool.and_eq_true] at h
  intro p hp
  rw [List.take_succ_eq_append_getElem (by omega)] at hp
  rcases List.mem_append.1 hp with hp | hp
  ·exact ih (by omega) h.1 p hp
  ·simp at hp;subst hp;exact follows_off h.2
theorem whole_no1 {up ex:Int} {ls:List (Int × Int)} (h:up < 0):whole up ex ls = false:=by
 have:decide (0 ≤ up) = false:=by simp;omega
 simp [whole,this]
theorem whole_no2 {up ex:Int} {ls:List (Int × Int)} (h:ex ≤ up):whole up ex ls = false:=by
 have:decide (up < ex) = false:=by simp;omega
 simp [whole,this]
theorem whole_no3 {up ex:Int} {ls:List (Int × Int)} (h:34000000000 < ex):whole up ex ls = false:=by
 have:decide (ex ≤ 34000000000) = false:=by simp;omega
 simp [whole,this]
theorem whole_no4 {up ex:Int} {ls:List (Int × Int)} (h:ls.length = 0):whole up ex ls = false:=by simp [whole,h]
theorem whole_is {up ex:Int} {ls:List (Int × Int)} (h0:¬ up < 0) (h1:¬ ex ≤ up) (h2:¬ 34000000000 < ex) (h3:¬ ls.length = 0):whole up ex ls = okUpTo ls ls.length:=by
 have a:decide (0 ≤ up) = true:=by simp;omega
 have b:decide (up < ex) = true:=by simp;omega
 have c:decide (ex ≤ 34000000000) = true:=by simp;omega
 have d:(ls.length == 0) = false:=by rw [beq_eq_false_iff_ne];exact h3
 simp only [whole,a,b,c,d,Bool.not_false,Bool.true_and]
end Tab
def Lies (w:World) (g:Nat) (ls:List (Int × Int)):Prop:=∀ i (h:i < ls.length),w.cell? ⟨g,i * 2,none⟩ = some (.int .i64 ls[i].1) ∧ w.cell? ⟨g,i * 2 + 1,none⟩ = some (.int .i64 ls[i].2)
def Fine (ls:List (Int × Int)):Prop:=∀ p ∈ ls,(0 ≤ p.1 ∧ p.1 ≤ 34712668800) ∧ (0 ≤ p.2 ∧ p.2 ≤ 200)
theorem Tab.first_bd {a:Int} (h:Tab.IsFirst a):0 ≤ a ∧ a ≤ 34712668800:=by
 obtain ⟨h0,_,y,m,hi,_⟩:=h
 have a:=hi.year
 have b:=Cal.yb_mono (y + 1) 3000 (by have:=hi.y2;omega)
 rw [Cal.yb_last] at b
 omega
theorem Tab.follows_first {ls:List (Int × Int)} {a o:Int} (h:Tab.follows ls a o = true):Tab.IsFirst a:=by
 cases hf:Tab.first a with
 | false => rw [Tab.follows_no1 hf] at h;cases h
 | true => exact (Tab.first_iff a).1 hf
theorem Tab.okUpTo_at {ls:List (Int × Int)} (k:Nat) (hk:k ≤ ls.length) (h:Tab.okUpTo ls k = true):∀ i (hi:i < k),Tab.follows (ls.take i) (ls[i]'(by omega)).1 (ls[i]'(by omega)).2 = true:=by
 induction k with
 | zero => intro i hi;omega
 | succ k ih =>
  rw [Tab.okUpTo_succ ls k (by omega)] at h
  simp only [Bool.and_eq_true] at h
  intro i hi
  by_cases e:i = k
  ·subst e;exact h.2
  ·exact ih (by omega) h.1 i (by omega)
theorem Tab.whole_ok {up ex:Int} {ls:List (Int × Int)} (h:Tab.whole up ex ls = true):Tab.okUpTo ls ls.length = true ∧ 0 < ls.length:=by
 unfold Tab.whole at h
 simp only [Bool.and_eq_true,Bool.not_eq_true',beq_eq_false_iff_ne,ne_eq] at h
 exact ⟨h.2.2.2.2,by omega⟩
theorem Tab.fine_of_whole {up ex:Int} {ls:List (Int × Int)} (h:Tab.whole up ex ls = true):Fine ls:=fun p hp => by
 obtain ⟨i,hi,rfl⟩:=List.getElem_of_mem hp
 have:=Tab.okUpTo_at ls.length (Nat.le_refl _) (Tab.whole_ok h).1 i hi
 exact ⟨Tab.first_bd (Tab.follows_first this),Tab.follows_off this⟩
def Tab.when (ls:List (Int × Int)) (i:Nat):Int :=
 (ls.getD i (0,0)).1 + (if 0 < i ∧ (ls.getD (i - 1) (0,0)).2 < (ls.getD i (0,0)).2 then (ls.getD (i - 1) (0,0)).2 else (ls.getD i (0,0)).2)
theorem getD_at {ls:List (Int × Int)} (i:Nat) (h:i < ls.length):ls.getD i (0,0) = ls[i]:=by
 rw [List.getD_eq_getElem?_getD,List.getElem?_eq_getElem h];rfl
def Tab.lastAt (ls:List (Int × Int)) (sec:Int):Nat → Int
 | 0 => -1
 | k + 1 => if Tab.when ls k ≤ sec then (k:Int) else Tab.lastAt ls sec k
theorem Tab.lastAt_bd (ls:List (Int × Int)) (sec:Int) (k:Nat):-1 ≤ Tab.lastAt ls sec k ∧ Tab.lastAt ls sec k < k:=by
 induction k with
 | zero => simp [Tab.lastAt]
 | succ k ih => simp only [Tab.lastAt];split <;> omega
def Tab.offset (up ex:Int) (ls:List (Int × Int)) (sec:Int):Int × Int :=
 if Tab.whole up ex ls = false then (0,8) else if 34000000000 < sec then (0,9)
 else if Tab.lastAt ls sec ls.length < 0 then (0,9) else ((ls.getD (Tab.lastAt ls sec ls.length).toNat (0,0)).2,0)
theorem Lies.below {w w':World} {g:Nat} {ls:List (Int × Int)} (h:Lies w g ls) (hg:g < w.heap.size) (hb:Below w.heap.size w w'):Lies w' g ls:=fun i hi =>
 ⟨(hb.cell (p:=⟨g,i * 2,none⟩) hg).trans (h i hi).1,(hb.cell (p:=⟨g,i * 2 + 1,none⟩) hg).trans (h i hi).2⟩
def Tab.offAt (ls:List (Int × Int)) (D:Int):Nat → Int
 | 0 => (ls.getD 0 (0,0)).2
 | k + 1 => if (ls.getD (k + 1) (0,0)).1 ≤ D then (ls.getD (k + 1) (0,0)).2 else Tab.offAt ls D k
def Tab.begins (ls:List (Int × Int)) (d:Int):Int :=
 if d * 86400 < (ls.getD 0 (0,0)).1 then -1 else d * 86400 + Tab.offAt ls (d * 86400) (ls.length - 1)
def Tab.lenFrom (ls:List (Int × Int)) (D:Int) (i:Nat):Nat → Int
 | 0 => 86400
 | m + 1 => if (ls.getD i (0,0)).1 = D then 86400 + (ls.getD i (0,0)).2 - (ls.getD (i - 1) (0,0)).2 else Tab.lenFrom ls D (i + 1) m
def Tab.length (ls:List (Int × Int)) (d:Int):Int:=Tab.lenFrom ls ((d + 1) * 86400) 1 (ls.length - 1)
theorem Tab.offAt_bd {ls:List (Int × Int)} (hf:Fine ls) (D:Int) (k:Nat) (hk:k < ls.length):0 ≤ Tab.offAt ls D k ∧ Tab.offAt ls D k ≤ 200:=by
 induction k with
 | zero => simp only [Tab.offAt];rw [getD_at 0 hk];exact (hf _ (List.getElem_mem hk)).2
 | succ k ih =>
  simp only [Tab.offAt]
  split
  ·rw [getD_at (k + 1) hk];exact (hf _ (List.getElem_mem hk)).2
  ·exact ih (by omega)
theorem Tab.lenFrom_bd {ls:List (Int × Int)} (hf:Fine ls) (D:Int) (m i:Nat) (hi:1 ≤ i) (hm:i + m ≤ ls.length):86200 ≤ Tab.lenFrom ls D i m ∧ Tab.lenFrom ls D i m ≤ 86600:=by
 induction m generalizing i with
 | zero => simp [Tab.lenFrom]
 | succ m ih =>
  simp only [Tab.lenFrom]
  split
  ·rw [getD_at i (by omega),getD_at (i - 1) (by omega)]
   have a:=(hf _ (List.getElem_mem (show i < ls.length by omega))).2
   have b:=(hf _ (List.getElem_mem (show i - 1 < ls.length by omega))).2
   omega
  ·exact ih (i + 1) (by omega) (by omega)
def Tab.second (up ex:Int) (ls:List (Int × Int)) (d s:Int):Int × Int :=
 if Tab.whole up ex ls = false then (0,8) else if d < 0 ∨ 401767 ≤ d then (0,9)
 else if Tab.begins ls d < 0 ∨ s < 0 ∨ Tab.length ls d ≤ s ∨ 34000000000 < Tab.begins ls d + s then (0,9) else (Tab.begins ls d + s,0)
theorem Tab.begins_bd {ls:List (Int × Int)} (hf:Fine ls) (hp:0 < ls.length) (d:Int):-1 ≤ Tab.begins ls d ∧ (Tab.begins ls d = -1 ∨ (d * 86400 ≤ Tab.begins ls d ∧ Tab.begins ls d ≤ d * 86400 + 200)):=by
 have h0:=(hf _ (List.getElem_mem hp)).1
 have ho:=Tab.offAt_bd hf (d * 86400) (ls.length - 1) (by omega)
 unfold Tab.begins
 rw [getD_at 0 hp]
 split <;> omega
theorem Tab.length_bd {ls:List (Int × Int)} (hf:Fine ls) (hp:0 < ls.length) (d:Int):86200 ≤ Tab.length ls d ∧ Tab.length ls d ≤ 86600 :=
 Tab.lenFrom_bd hf _ _ _ (Nat.le_refl _) (by omega)
theorem Tab.offset_ok {up ex:Int} {ls:List (Int × Int)} {sec:Int} (h:(Tab.offset up ex ls sec).2 = 0):Tab.whole up ex ls = true ∧ sec ≤ 34000000000 ∧ 0 ≤ Tab.lastAt ls sec ls.length:=by
 unfold Tab.offset at h
 split at h
 ·simp at h
 ·split at h
  ·simp at h
  ·split at h
   ·simp at h
   ·refine ⟨by simp_all,by omega,by omega⟩
theorem zero5:(∀ w,(zeroValue 73).run Tryz.prog w = .ok (.agg (zeros 5)) w) ∧ (Tryz.prog.info? 73).map (·.size) = some 5 :=
 zero_of_info (by kernel_rfl)
structure Table (w:World):Prop where
 c0:w.cell? ⟨0,0,none⟩ = some (.int .u32 1518500249)
 c1:w.cell? ⟨0,1,none⟩ = some (.int .u32 1859775393)
 c2:w.cell? ⟨0,2,none⟩ = some (.int .u32 2400959708)
 c3:w.cell? ⟨0,3,none⟩ = some (.int .u32 3395469782)
theorem Table.at' {w:World} (h:Table w) (t:Nat) (ht:t < 80):w.cell? ⟨0,t / 20,none⟩ = some (.int .u32 (Sha.K t)):=by
 unfold Sha.K
 by_cases c0:t < 20
 ·rw [if_pos c0,show t / 20 = 0 from by omega];exact h.c0
 by_cases c1:t < 40
 ·rw [if_neg c0,if_pos c1,show t / 20 = 1 from by omega];exact h.c1
 by_cases c2:t < 60
 ·rw [if_neg c0,if_neg c1,if_pos c2,show t / 20 = 2 from by omega];exact h.c2
 ·rw [if_neg c0,if_neg c1,if_neg c2,show t / 20 = 3 from by omega];exact h.c3
theorem Table.pos {w:World} (h:Table w):0 < w.heap.size:=block_lt_of_cell h.c0
theorem Table.below {w w':World} (h:Table w) (hb:Below w.heap.size w w'):Table w':=by
 have hp:=h.pos
 exact ⟨by rw [hb.cell hp];exact h.c0,by rw [hb.cell hp];exact h.c1,by rw [hb.cell hp];exact h.c2,by rw [hb.cell hp];exact h.c3⟩
theorem mix_any (x:Sha.St) (l:List Int) (w:World) (hx:x.Ok) (hl:l.length = 80) (hlb:∀ j,0 ≤ l.getD j 0 ∧ l.getD j 0 < 4294967296) (hT:Table w) :
  Calls Tryz.prog 74 #[.agg #[.int .u32 x.a,.int .u32 x.b,.int .u32 x.c,.int .u32 x.d,.int .u32 x.e],.agg (l.map (Value.int .u32)).toArray] w fun q w' => q = .returned (.agg (Sha.mixed l x).cells) ∧ Below w.heap.size w w':=by
 have hz:=zero5.1
 have hp:=hT.pos
 generalize hcs:(l.map (Value.int .u32)).toArray = cs
 have hsz:cs.size = 80:=by rw [← hcs];simp [hl]
 have hat:∀ j,j < 80 → cs[j]? = some (.int .u32 (l.getD j 0)):=by
  intro j hj
  rw [← hcs]
  simp [List.getD_eq_getElem?_getD,hl,hj]
 clear hcs
 have HAT:=hid hat
 have HLB:=hid hlb
 have HT:=hid hT
 have HX:=hid hx
 have HSZ:=hid hsz
 clear hat hlb hT hl hx hsz
 go_enter Tryz.func74,Tryz.ntmps74
 go_wp2_with fail
 go_quiet (fail)
 go_wp2_with fail
 clear hz
 go_loopw [5,6,7,8,9,10,11,12] (fun a b c d e i _ _ wr => ∃ t n:Nat,t ≤ 80 ∧ i = .int .i64 t ∧ a = .int .u32 (Sha.rounds l x t).a ∧ b = .int .u32 (Sha.rounds l x t).b ∧ c = .int .u32 (Sha.rounds l x t).c ∧ d = .int .u32 (Sha.rounds l x t).d ∧ e = .int .u32 (Sha.rounds l x t).e
   ∧ wr = (((w.alloc (.cells #[.int .u32 x.a,.int .u32 x.b,.int .u32 x.c,.int .u32 x.d,.int .u32 x.e] 73)).alloc (.cells cs 135)).alloc (.cells (zeros 5) 73)).drewN n) (fun _ _ _ _ _ i _ _ _ => 80 - (intOf i).toNat)
 case atStart => exact ⟨0,nq,by omega,rfl,rfl,rfl,rfl,rfl,rfl,rfl⟩
 case round =>
  obtain ⟨t,n,ht,rfl,rfl,rfl,rfl,rfl,rfl,rfl⟩:=hrel
  by_cases hlt:t < 80
  ·have hok:=Sha.rounds_ok l x HX.out t
   have HR:Hid (Sha.rounds l x (t + 1) = Sha.step (Sha.rounds l x t) t (l.getD t 0)):=rfl
   have g:=HAT.out t hlt
   have gb:=HLB.out t
   have hk:(((w.alloc (.cells #[.int .u32 x.a,.int .u32 x.b,.int .u32 x.c,.int .u32 x.d,.int .u32 x.e] 73)).alloc (.cells cs 135)).alloc (.cells (zeros 5) 73)).cell? ⟨0,t / 20,none⟩ = some (.int .u32 (Sha.K t)):=by
    refine (Table.below HT.out ?_).at' t hlt
    exact ((((Below.refl _ _).alloc (Nat.le_refl _) _).alloc (by simp) _).alloc (by simp;omega) _)
   obtain ⟨q,hq⟩:∃ q,t / 20 = q:=⟨_,rfl⟩
   have hq4:(q:Int) < 4:=by omega
   have hqw:IntKind.i64.wrap ((t:Int) / 20) = (q:Int):=by rw [IntKind.wrap_i64];omega
   rw [hq] at hk
   clear hq
   generalize Sha.rounds l x t = y at *
   obtain ⟨a,b,c,d,e⟩:=y
   generalize l.getD t 0 = wt at *
   have HK:Hid (Sha.K t = Sha.K t):=rfl
   generalize hkt:Sha.K t = kt at *
   have HKT:=hid hkt
   clear hkt HK
   obtain ⟨ha,hb,hc,hd,he⟩:=hok
   simp only at ha hb hc hd he
   go_wp2_with (go_at_call 119;refine (combine_any t _ _ _ _ hlt).mono ?_;rintro q w' ⟨rfl,rfl⟩)
   go_quiet (fail)
   go_wp2
   refine ⟨⟨t + 1,n + nq,by omega,by go_num,?_,?_,?_,?_,?_,rfl⟩,by simp [intOf];omega⟩
   ·rw [HR.out]
    simp only [Sha.step,Sha.rol5,HKT.out]
    congr 1
    omega
   ·rw [HR.out];rfl
   ·rw [HR.out];rfl
   ·rw [HR.out];rfl
   ·rw [HR.out];rfl
  ·have e80:t = 80:=by omega
   subst e80
   have G:Hid (((((w.alloc (.cells #[.int .u32 x.a,.int .u32 x.b,.int .u32 x.c,.int .u32 x.d,.int .u32 x.e] 73)).alloc (.cells cs 135)).alloc (.cells (zeros 5) 73)).drewN n).heap[w.heap.size + 1 + 1]? = some (.cells (zeros 5) 73 (0,0))):=by
    have e2:((w.alloc (.cells #[.int .u32 x.a,.int .u32 x.b,.int .u32 x.c,.int .u32 x.d,.int .u32 x.e] 73)).alloc (.cells cs 135)).heap.size = w.heap.size + 1 + 1:=by simp
    show (((w.alloc (.cells #[.int .u32 x.a,.int .u32 x.b,.int .u32 x.c,.int .u32 x.d,.int .u32 x.e] 73)).alloc (.cells cs 135)).alloc (.cells (zeros 5) 73)).heap[w.heap.size + 1 + 1]? = _
    rw [← e2];exact heap_alloc_new _ _
   have I:Hid ((Tryz.prog.info? 73).map (·.size) = some (Sha.mixed l x).cells.size):=zero5.2
   have H1:Hid ((Sha.mixed l x).cells.all (·.oneCell') = true):=by show _ = _;simp [Sha.St.cells,Value.oneCell']
   have HB:=hid (below_drewN ((((Below.refl w.heap.size w).alloc (Nat.le_refl _) (.cells #[.int .u32 x.a,.int .u32 x.b,.int .u32 x.c,.int .u32 x.d,.int .u32 x.e] 73)).alloc (by simp) (.cells cs 135)).alloc (by simp;omega) (.cells (zeros 5) 73)) n)
   go_wp2_with ((with_reducible refine wpl_store (g:=w.heap.size + 1 + 1) (cells:=(Sha.mixed l x).cells) G.out I.out ?_ H1.out ?_ ?_ ?_);(rw [zeros_size];exact rfl);exact rfl;exact rfl)
   refine bodyPost_ret (v:=.agg (Sha.mixed l x).cells) (results_cell_row rfl _ _ (w.heap.size + 1 + 1) 73 (Sha.mixed l x).cells (0,0) _ rfl (setRow_heap _ _ _ _ _ _ G.out) Tryz.underlying73 rfl I.out) rfl ?_
   exact ⟨rfl,below_setRow HB.out (by omega)⟩
theorem laid_mem {P:Program} {w:World} {n:String} {d:DataW Unit}:∀ {l:List (String × DataW Unit)} {ps:List MemPlace},DataW.LaidVars P w l ps → (n,d) ∈ l →
  ∃ g t cs fuel p,P.globalNamed n = some g ∧ (P.globals[g]?).map (·.type) = some t ∧ w.var? P n = some cs ∧ DataW.trod (fun _ => ()) P w 0 (fun _ => true) false fuel t cs.toList = some (d,p)
 | [],_,_,hm => by cases hm
 | (m,e) :: r,ps,h,hm => by
  obtain ⟨g,t,cs,fuel,p,q,a,b,c,f,hr,_⟩:=h
  rcases List.mem_cons.1 hm with hm | hm
  ·cases hm;exact ⟨g,t,cs,fuel,p,a,b,c,f⟩
  ·exact laid_mem hr hm
theorem tab_of_laid {P:Program} {W:World} {name:String} {k:IntKind} {zs:List Int} {laid:List (String × DataW Unit)} {g:Nat} {t e:TypeId} {n:Nat}
  (hg:P.globalNamed name = some g) (hty:(P.globals[g]?).map (·.type) = some t) (ht:P.underlying t = some (.array n e)) (he:P.underlying e = some (.int k)) (hce:P.cellsOf e = 1) (hct:P.cellsOf t = n)
  (hm:(name,Lib.tabData k zs) ∈ laid) (h:laidMet P laid W):Lib.TabIs P W name k zs:=by
 obtain ⟨ps,hl,_⟩:=h
 obtain ⟨g',t',cs,fuel,p,hg',ht',hvar,hd⟩:=laid_mem hl hm
 obtain rfl:=Option.some.inj (hg.symm.trans hg')
 obtain rfl:=Option.some.inj (hty.symm.trans ht')
 unfold Lib.TabIs
 rw [hvar,← Lib.cells_of_tab ht he hce hct hd]
theorem table_of_laid {W : World} {laid : List (String × DataW Unit)} (hm : ("smear/digest.roundConstants", Lib.tabData .u32 [1518500249, 1859775393, 2400959708, 3395469782]) ∈ laid) (h : laidMet Tryz.prog laid W) : Table W := by
 have ht:=tab_of_laid (P:=Tryz.prog) (g:=0) (by kernel_rfl) (by kernel_rfl) Tryz.underlying177 Tryz.underlying72 (by kernel_rfl) (by kernel_rfl) hm h
 have hg : Tryz.prog.globalNamed "smear/digest.roundConstants" = some 0 := by kernel_rfl
 exact ⟨ht.cell hg 0 (by decide),ht.cell hg 1 (by decide),ht.cell hg 2 (by decide),ht.cell hg 3 (by decide)⟩
end Go.Proofs.YtmmkhodaljpjgaaGreatDoor
