import Derived.Test.YtmmkhodaljpjgaaGreatDoorV32
import Derived.Deep.QuietTactic
import Derived.BigQuiet
import Derived.Deep.Cut
import Derived.Deep.CutBlock
import Derived.Deep.CutRange
namespace Go.Proofs.YtmmkhodaljpjgaaGreatDoor
open Go.RowKit
set_option maxRecDepth 100000 in
set_option maxHeartbeats 3200000 in
theorem ref_served_out (b:Nat) (x:Sv) (dv bv cv hv:Value) (w:World) (hr:RSrv b x dv bv cv hv w) (hld:x.ld = true) (hm:x.mode ≠ 0) (hc:x.Can) (hb:x.BegOk) (hw:x.WinAt (-1)) :
  Calls Tryz.prog 56 #[.pointer (some ⟨b,0,none⟩)] w fun e w' => e = .returned (.tuple #[.agg #[.int .i64 x.utc,.int .i64 x.nf],.int .i64 0,.int .i64 0]) ∧ Below w.heap.size w w':=by
 have HR:=hid' hr
 have HCan:=hid' hc
 have RN:=hid' (heap_alloc_new w (.cells #[.int .i64 0,.int .i64 0] 35))
 have BN:=hid' ((Below.refl w.heap.size w).alloc (Nat.le_refl _) (.cells #[.int .i64 0,.int .i64 0] 35))
 have q5:=cell_of_row _ _ 5 _ _ _ hr.row
 have q0:=cell_of_row _ _ 0 _ _ _ hr.row
 have lb:=lt_of_heap hr.row
 simp at q5 q0
 rw [hld] at q5
 have nm:(x.mode == 0) = false:=beq_eq_false_iff_ne.2 hm
 have UT:=hid' (fun (W:World) h => ref_utc b x dv bv cv hv W h HCan.out.fine (by have:=HCan.out.len;omega) HCan.out.hold HCan.out.n0 (by have:=HCan.out.n1;omega))
 have WI:=hid' (fun (W:World) h => ref_window b x dv bv cv hv (-1) W h (by have:=HCan.out.len;omega) hb hw)
 clear hr hc hld hm hb hw
 generalize x.utc = u at *
 go_enter Tryz.func56,Tryz.ntmps56
 go_wp2_with fail
 refine (WI.out _ (HR.out.below BN.out)).mono ?_
 rintro e w1 ⟨rfl,hb1⟩
 have B1:=hid' (BN.out.trans (hb1.mono BN.out.size))
 have RN1:=hid' ((hb1.block _ (lt_of_heap RN.out)).trans RN.out)
 have R1:=hid' (HR.out.below B1.out)
 have q4:=cell_of_row _ _ 4 _ _ _ R1.out.row
 have t0:=cell_of_row _ _ 0 _ _ _ RN1.out
 have t1:=cell_of_row _ _ 1 _ _ _ RN1.out
 have f0:=frozen_of_row _ _ 0 _ _ RN1.out
 have f1:=frozen_of_row _ _ 1 _ _ RN1.out
 simp at q4 t0 t1
 clear hb1 q5 q0 WI RN BN
 go_wp2_with fail
 go_region_with (go_at_call 92;refine (UT.out _ (by exact R1.out.below (below_drewN (Below.refl _ _) _))).mono ?_;rintro e w2 ⟨rfl,m2,rfl⟩)
 all_goals
  go_wp2
  try simp only [Exit.inBlock,Exit.then]
  refine bodyPost_ret (results_row_tt (p:=2) (u:=3) (v:=4) rfl _ _ w.heap.size #[.int .i64 u,.int .i64 x.nf] rfl (load_time (two_row RN1.out) rfl)) rfl ?_
  exact ⟨rfl,((below_drewN B1.out _).setCell (p:=⟨w.heap.size,0,none⟩) (Nat.le_refl _) _).setCell (p:=⟨w.heap.size,1,none⟩) (Nat.le_refl _) _⟩
def digsF:Nat → Nat → List Int
 | 0,_ => []
 | f + 1,n => if n = 0 then [] else ((n % 10000:Nat):Int) :: digsF f (n / 10000)
def digs (n:Nat):List Int:=digsF n n
theorem digsF_succ (f n:Nat):digsF (f + 1) n = if n = 0 then [] else ((n % 10000:Nat):Int) :: digsF f (n / 10000):=rfl
theorem digsF_more (f n:Nat) (h:n ≤ f):digsF (f + 1) n = digsF f n:=by
 induction f generalizing n with
 | zero =>
  obtain rfl:n = 0:=by omega
  rfl
 | succ f ih =>
  by_cases c:n = 0
  ·subst c;rfl
  ·rw [digsF_succ (f + 1) n,digsF_succ f n,if_neg c,if_neg c,ih (n / 10000) (by omega)]
theorem digsF_all (n k:Nat):digsF (n + k) n = digs n:=by
 induction k with
 | zero => rfl
 | succ k ih => rw [← Nat.add_assoc,digsF_more _ _ (by omega),ih]
def valD:List Int → Int
 | [] => 0
 | d :: r => d + 10000 * valD r
def Dg (l:List Int):Prop:=∀ d ∈ l,0 ≤ d ∧ d < 10000
def Nm (l:List Int):Prop:=l.getLast? ≠ some 0
theorem digs_zero:digs 0 = []:=rfl
theorem digs_pos {n:Nat} (h:0 < n):digs n = ((n % 10000:Nat):Int) :: digs (n / 10000):=by
 obtain ⟨m,rfl⟩:∃ m,n = m + 1:=⟨n - 1,by omega⟩
 have e:digsF m ((m + 1) / 10000) = digs ((m + 1) / 10000):=by
  have h2:(m + 1) / 10000 + (m - (m + 1) / 10000) = m:=by omega
  rw [← digsF_all ((m + 1) / 10000) (m - (m + 1) / 10000),h2]
 rw [digs,digsF_succ,if_neg (by omega),e]
theorem digs_nil {n:Nat} (h:digs n = []):n = 0:=by
 by_cases c:n = 0
 ·exact c
 ·rw [digs_pos (by omega)] at h;cases h
theorem digs_dg (n:Nat):Dg (digs n):=by
 induction n using Nat.strongRecOn with
 | _ n ih =>
  by_cases c:n = 0
  ·subst c;rw [digs_zero];intro d hd;cases hd
  ·rw [digs_pos (by omega)]
   intro d hd
   rcases List.mem_cons.1 hd with rfl | hd
   ·omega
   ·exact ih (n / 10000) (by omega) d hd
theorem digs_val (n:Nat):valD (digs n) = n:=by
 induction n using Nat.strongRecOn with
 | _ n ih =>
  by_cases c:n = 0
  ·subst c;rw [digs_zero];rfl
  ·rw [digs_pos (by omega)]
   show _ + 10000 * valD _ = _
   rw [ih (n / 10000) (by omega)]
   omega
theorem valD_nonneg {l:List Int} (h:Dg l):0 ≤ valD l:=by
 induction l with
 | nil => exact Int.le_refl _
 | cons d r ih =>
  have:=h d (by simp)
  have:=ih (fun x hx => h x (List.mem_cons_of_mem _ hx))
  show 0 ≤ d + 10000 * valD r
  omega
theorem valD_pos {l:List Int} (h:Dg l) (hn:Nm l) (hl:l ≠ []):0 < valD l:=by
 induction l with
 | nil => exact absurd rfl hl
 | cons d r ih =>
  have hd:=h d (by simp)
  have hr:Dg r:=fun x hx => h x (List.mem_cons_of_mem _ hx)
  show 0 < d + 10000 * valD r
  cases r with
  | nil =>
   unfold Nm at hn
   simp at hn
   simp [valD]
   omega
  | cons e q =>
   have:=ih hr (by unfold Nm at hn ⊢;rwa [List.getLast?_cons_cons] at hn) (by simp)
   omega
theorem canon {l:List Int} (h:Dg l) (hn:Nm l):l = digs (valD l).toNat:=by
 induction l with
 | nil => simp [valD,digs_zero]
 | cons d r ih =>
  have hp:=valD_pos h hn (by simp)
  have hd:=h d (by simp)
  have hr:Dg r:=fun x hx => h x (List.mem_cons_of_mem _ hx)
  have hrn:Nm r:=by
   cases r with
   | nil => simp [Nm]
   | cons e q => unfold Nm at hn ⊢;rwa [List.getLast?_cons_cons] at hn
  have h0:=valD_nonneg hr
  have e:=ih hr hrn
  have ev:valD (d :: r) = d + 10000 * valD r:=rfl
  rw [ev] at hp ⊢
  rw [digs_pos (by omega)]
  have e1:(((d + 10000 * valD r).toNat % 10000:Nat):Int) = d:=by omega
  have e2:(d + 10000 * valD r).toNat / 10000 = (valD r).toNat:=by omega
  rw [e1,e2,← e]
theorem digs_length {n k:Nat} (h:n < 10000 ^ k):(digs n).length ≤ k:=by
 induction k generalizing n with
 | zero => have:n = 0:=by simpa using h
           subst this;simp [digs_zero]
 | succ k ih =>
  by_cases c:n = 0
  ·subst c;simp [digs_zero]
  ·rw [digs_pos (by omega)]
   have:n / 10000 < 10000 ^ k:=by
    rw [Nat.div_lt_iff_lt_mul (by omega)];rwa [Nat.pow_succ] at h
   have:=ih this
   simp;omega
theorem digs_lt (n:Nat):n < 10000 ^ (digs n).length:=by
 induction n using Nat.strongRecOn with
 | _ n ih =>
  by_cases c:n = 0
  ·subst c;simp [digs_zero]
  ·rw [digs_pos (by omega)]
   have:=ih (n / 10000) (by omega)
   rw [List.length_cons,Nat.pow_succ]
   generalize 10000 ^ (digs (n / 10000)).length = q at *
   omega
theorem digs_ge {n:Nat} (h:0 < n):10000 ^ ((digs n).length - 1) ≤ n:=by
 induction n using Nat.strongRecOn with
 | _ n ih =>
  rw [digs_pos h]
  by_cases c:n / 10000 = 0
  ·rw [c,digs_zero];simp;omega
  ·have:=ih (n / 10000) (by omega) (by omega)
   have hl:0 < (digs (n / 10000)).length:=by rw [digs_pos (by omega)];simp
   rw [List.length_cons,Nat.add_sub_cancel]
   have e:10000 ^ (digs (n / 10000)).length = 10000 ^ ((digs (n / 10000)).length - 1) * 10000:=by
    rw [← Nat.pow_succ];congr 1;omega
   rw [e]
   generalize 10000 ^ ((digs (n / 10000)).length - 1) = q at *
   omega
theorem digs_tail {l:List Int} {i n:Nat} (h:l.drop i = digs n):l.drop (i + 1) = digs (n / 10000):=by
 have e:l.drop (i + 1) = (l.drop i).drop 1:=by rw [List.drop_drop]
 rw [e,h]
 by_cases c:n = 0
 ·subst c;simp [digs_zero]
 ·rw [digs_pos (by omega)];rfl
theorem digs_head {l:List Int} {i n:Nat} (h:l.drop i = digs n) (hi:i < l.length):l[i] = ((n % 10000:Nat):Int) ∧ 0 < n:=by
 have e:l.drop i = l[i] :: l.drop (i + 1):=List.drop_eq_getElem_cons hi
 by_cases c:n = 0
 ·subst c;rw [digs_zero] at h;rw [h] at e;cases e
 ·rw [h,digs_pos (by omega)] at e
  exact ⟨(List.cons.inj e).1.symm,by omega⟩
theorem digs_end {l:List Int} {i n:Nat} (h:l.drop i = digs n) (hi:l.length ≤ i):n = 0:=by
 rw [List.drop_eq_nil_of_le hi] at h;exact digs_nil h.symm
theorem digs_plus {a b c:Nat} (h:0 < a + b + c):digs (a + b + c) = (((a % 10000 + b % 10000 + c) % 10000:Nat):Int) :: digs (a / 10000 + b / 10000 + (a % 10000 + b % 10000 + c) / 10000):=by
 rw [digs_pos h]
 have e1:(a + b + c) % 10000 = (a % 10000 + b % 10000 + c) % 10000:=by omega
 have e2:(a + b + c) / 10000 = a / 10000 + b / 10000 + (a % 10000 + b % 10000 + c) / 10000:=by omega
 rw [e1,e2]
theorem valD_append (l r:List Int):valD (l ++ r) = valD l + 10000 ^ l.length * valD r:=by
 induction l with
 | nil => simp [valD]
 | cons d q ih =>
  show d + 10000 * valD (q ++ r) = d + 10000 * valD q + 10000 ^ (q.length + 1) * valD r
  rw [ih,Int.pow_succ]
  grind
theorem valD_lt {l:List Int} (h:Dg l):valD l < 10000 ^ l.length:=by
 induction l with
 | nil => simp [valD]
 | cons d q ih =>
  have:=h d (by simp)
  have:=ih (fun x hx => h x (List.mem_cons_of_mem _ hx))
  show d + 10000 * valD q < 10000 ^ (q.length + 1)
  rw [Int.pow_succ]
  generalize (10000:Int) ^ q.length = p at *
  omega
theorem valD_set (l:List Int) (j:Nat) (h:j < l.length) (x:Int):valD (l.set j x) = valD l + 10000 ^ j * (x - l[j]):=by
 induction l generalizing j with
 | nil => simp at h
 | cons d q ih =>
  cases j with
  | zero => show x + 10000 * valD q = d + 10000 * valD q + _ ;simp;omega
  | succ j =>
   show d + 10000 * valD (q.set j x) = d + 10000 * valD q + _
   rw [ih j (by simpa using h),Int.pow_succ]
   simp only [List.getElem_cons_succ]
   grind
theorem Dg.set {l:List Int} (h:Dg l) (j:Nat) {x:Int} (h0:0 ≤ x) (h1:x < 10000):Dg (l.set j x):=fun d hd => by
 rcases List.mem_or_eq_of_mem_set hd with q | rfl
 ·exact h d q
 ·exact ⟨h0,h1⟩
theorem Dg.take {l:List Int} (h:Dg l) (k:Nat):Dg (l.take k):=fun d hd => h d (List.mem_of_mem_take hd)
theorem Dg.drop {l:List Int} (h:Dg l) (k:Nat):Dg (l.drop k):=fun d hd => h d (List.mem_of_mem_drop hd)
theorem Dg.at {l:List Int} (h:Dg l) (k:Nat) (hk:k < l.length):0 ≤ l[k] ∧ l[k] < 10000:=h _ (List.getElem_mem hk)
theorem valD_zeros (k:Nat):valD (List.replicate k 0) = 0:=by
 induction k with
 | zero => rfl
 | succ k ih => rw [List.replicate_succ];show 0 + 10000 * valD _ = 0;rw [ih];rfl
theorem dg_zeros (k:Nat):Dg (List.replicate k 0):=fun d hd => by rw [(List.mem_replicate.1 hd).2];decide
theorem valD_take {l:List Int} {k:Nat} (h:∀ i (hi:i < l.length),k ≤ i → l[i] = 0):valD (l.take k) = valD l:=by
 have e:l = l.take k ++ l.drop k:=(List.take_append_drop k l).symm
 have z:l.drop k = List.replicate (l.drop k).length 0:=by
  refine List.eq_replicate_iff.2 ⟨rfl,fun b hb => ?_⟩
  obtain ⟨i,hi,rfl⟩:=List.getElem_of_mem hb
  rw [List.getElem_drop]
  exact h _ _ (by omega)
 have:=valD_append (l.take k) (l.drop k)
 rw [← e,z,valD_zeros] at this
 omega
theorem trim_nm {l:List Int} {k:Nat} (hk:k ≤ l.length) (h:∀ hk':0 < k,l[k - 1]'(by omega) ≠ 0):Nm (l.take k):=by
 unfold Nm
 rw [List.getLast?_take]
 intro e
 by_cases c:k = 0
 ·simp [c] at e
 ·rw [if_neg c,List.getElem?_eq_getElem (by omega)] at e
  simp at e
  exact h (by omega) e
theorem trim_digs {l:List Int} {k n:Nat} (hd:Dg l) (hv:valD l = n) (hk:k ≤ l.length) (hz:∀ i (hi:i < l.length),k ≤ i → l[i] = 0) (hn:∀ hk':0 < k,l[k - 1]'(by omega) ≠ 0):l.take k = digs n:=by
 have e:=canon (hd.take k) (trim_nm hk hn)
 rw [valD_take hz,hv] at e
 simpa using e
theorem above_len {a b:Nat} (h:(digs a).length ≠ (digs b).length):decide ((digs b).length < (digs a).length) = decide (b < a):=by
 have key:∀ x y:Nat,(digs x).length < (digs y).length → x < y:=fun x y hxy => by
  have h1:=digs_lt x
  have hy:0 < y:=by
   by_cases c:y = 0
   ·subst c;simp [digs_zero] at hxy
   ·omega
  have h2:=digs_ge hy
  have h3:10000 ^ (digs x).length ≤ 10000 ^ ((digs y).length - 1):=Nat.pow_le_pow_right (by omega) (by omega)
  omega
 by_cases c:(digs b).length < (digs a).length
 ·have:=key b a c
  simp [c,this]
 ·have:=key a b (by omega)
  have d:¬ b < a:=by omega
  simp [c,d]
theorem valD_split {l:List Int} {i:Nat} (h:i < l.length):valD l = valD (l.take i) + 10000 ^ i * (l[i] + 10000 * valD (l.drop (i + 1))):=by
 have e:l = l.take i ++ l.drop i:=(List.take_append_drop i l).symm
 have:=valD_append (l.take i) (l.drop i)
 rw [← e,List.drop_eq_getElem_cons h,List.length_take,Nat.min_eq_left (by omega)] at this
 exact this
theorem above_at {a b:Nat} {i:Nat} (ha:i < (digs a).length) (hb:i < (digs b).length) (ht:(digs a).drop (i + 1) = (digs b).drop (i + 1)) (hne:(digs a)[i] ≠ (digs b)[i]):decide ((digs b)[i] < (digs a)[i]) = decide (b < a):=by
 have key:∀ x y:Nat,∀ (hx:i < (digs x).length) (hy:i < (digs y).length),(digs x).drop (i + 1) = (digs y).drop (i + 1) → (digs x)[i] < (digs y)[i] → x < y:=fun x y hx hy hd hl => by
  have h1:=valD_split hx
  have h2:=valD_split hy
  rw [digs_val] at h1 h2
  have t1:=valD_lt ((digs_dg x).take i)
  have t2:=valD_nonneg ((digs_dg y).take i)
  rw [List.length_take,Nat.min_eq_left (by omega)] at t1
  rw [hd] at h1
  generalize valD ((digs y).drop (i + 1)) = D at *
  generalize (digs x)[i] = p at *
  generalize (digs y)[i] = q at *
  generalize valD ((digs x).take i) = u at *
  generalize valD ((digs y).take i) = v at *
  have hp:(0:Int) < 10000 ^ i:=Int.pow_pos (by decide)
  generalize (10000:Int) ^ i = P at *
  have:P * (p + 10000 * D) + P ≤ P * (q + 10000 * D):=by
   have:P * (p + 10000 * D + 1) ≤ P * (q + 10000 * D):=Int.mul_le_mul_of_nonneg_left (by omega) (by omega)
   have e:P * (p + 10000 * D + 1) = P * (p + 10000 * D) + P:=by grind
   omega
  omega
 by_cases c:(digs b)[i] < (digs a)[i]
 ·have:=key b a hb ha ht.symm c
  simp [c,this]
 ·have:=key a b ha hb ht (by omega)
  have d:¬ b < a:=by omega
  simp [c,d]
structure Tm (a b i:Nat) (O:List Int):Prop where
 dg:Dg O
 len:O.length = (digs a).length + (digs b).length + 1
 val:valD O = valD ((digs a).take i) * b
structure TmI (a b i k:Nat) (A c:Int) (O:List Int):Prop where
 dg:Dg O
 len:O.length = (digs a).length + (digs b).length + 1
 c0:0 ≤ c
 c1:c ≤ 9999
 a0:0 ≤ A
 a1:A ≤ 9999
 val:valD O + 10000 ^ (i + k) * (c + A * valD ((digs b).drop k)) = valD ((digs a).take (i + 1)) * b
theorem tm_start (a b:Nat):Tm a b 0 (List.replicate ((digs a).length + (digs b).length + 1) 0) :=
 ⟨dg_zeros _,by simp,by rw [valD_zeros];simp [valD]⟩
theorem Tm.enter {a b i:Nat} {O:List Int} (h:Tm a b i O) (hi:i < (digs a).length):TmI a b i 0 ((digs a)[i]) 0 O:=by
 have ha:=(digs_dg a).at i hi
 refine ⟨h.dg,h.len,by omega,by omega,ha.1,by omega,?_⟩
 rw [h.val,List.take_succ_eq_append_getElem hi,valD_append,List.drop_zero,digs_val,List.length_take,Nat.min_eq_left (by omega)]
 simp only [valD,Nat.add_zero,Int.zero_add,Int.mul_zero,Int.add_zero]
 grind
theorem TmI.room {a b i k:Nat} {A c:Int} {O:List Int} (h:TmI a b i k A c O) (hi:i < (digs a).length) (hk:k < (digs b).length ∨ 0 < c):i + k < O.length ∧ k ≤ (digs b).length:=by
 have hl:=h.len
 suffices hs:k ≤ (digs b).length from ⟨by omega,hs⟩
 rcases hk with hk | hk
 ·omega
 ·have hv:=h.val
  have h0:=valD_nonneg h.dg
  have h1:=valD_nonneg ((digs_dg b).drop k)
  have hp:(0:Int) < 10000 ^ (i + k):=Int.pow_pos (by decide)
  have h2:=valD_lt ((digs_dg a).take (i + 1))
  have h3:=valD_nonneg ((digs_dg a).take (i + 1))
  have h4:=valD_lt (digs_dg b)
  rw [digs_val] at h4
  rw [List.length_take,Nat.min_eq_left (by omega)] at h2
  have a0:=h.a0
  have hav:0 ≤ A * valD ((digs b).drop k):=Int.mul_nonneg a0 h1
  have m1:(10000:Int) ^ (i + k) * 1 ≤ 10000 ^ (i + k) * (c + A * valD ((digs b).drop k)):=Int.mul_le_mul_of_nonneg_left (by omega) (by omega)
  have hb0:(0:Int) ≤ b:=by omega
  have m2:valD ((digs a).take (i + 1)) * (b:Int) ≤ 10000 ^ (i + 1) * (b:Int):=Int.mul_le_mul_of_nonneg_right (by omega) hb0
  have hp2:(0:Int) < 10000 ^ (i + 1):=Int.pow_pos (by decide)
  have m3:(10000:Int) ^ (i + 1) * (b:Int) < 10000 ^ (i + 1) * 10000 ^ (digs b).length:=Int.mul_lt_mul_of_pos_left h4 hp2
  rw [← Int.pow_add] at m3
  have m4:(10000:Int) ^ (i + k) < 10000 ^ (i + 1 + (digs b).length):=by omega
  have m5:(10000:Nat) ^ (i + k) < 10000 ^ (i + 1 + (digs b).length):=Int.ofNat_lt.1 (by rw [Int.natCast_pow,Int.natCast_pow];exact m4)
  have:=(Nat.pow_lt_pow_iff_right (by decide:1 < 10000)).1 m5
  omega
def tmD (b k:Nat) (A:Int):Int:=if h:k < (digs b).length then A * (digs b)[k] else 0
theorem tmD_lt {b k:Nat} {A:Int} (h:k < (digs b).length):tmD b k A = A * (digs b)[k]:=by rw [tmD,dif_pos h]
theorem tmD_ge {b k:Nat} {A:Int} (h:¬ k < (digs b).length):tmD b k A = 0:=by rw [tmD,dif_neg h]
theorem tmD_bd {b k:Nat} {A:Int} (a0:0 ≤ A) (a1:A ≤ 9999):0 ≤ tmD b k A ∧ tmD b k A ≤ 99980001:=by
 by_cases h:k < (digs b).length
 ·rw [tmD_lt h]
  have:=(digs_dg b).at k h
  generalize (digs b)[k] = B at *
  refine ⟨Int.mul_nonneg a0 this.1,?_⟩
  have m1:A * B ≤ 9999 * B:=Int.mul_le_mul_of_nonneg_right a1 this.1
  omega
 ·rw [tmD_ge h];decide
theorem TmI.step {a b i k:Nat} {A c:Int} {O:List Int} (h:TmI a b i k A c O) (hr:i + k < O.length) :
  TmI a b i (k + 1) A ((c + tmD b k A + O[i + k]) / 10000) (O.set (i + k) ((c + tmD b k A + O[i + k]) % 10000)):=by
 have hb:=tmD_bd (b:=b) (k:=k) h.a0 h.a1
 have ho:=h.dg.at _ hr
 have c0:=h.c0
 have c1:=h.c1
 refine ⟨h.dg.set _ (by omega) (by omega),by rw [List.length_set];exact h.len,by omega,by omega,h.a0,h.a1,?_⟩
 rw [valD_set _ _ hr,← h.val]
 have hv:A * valD ((digs b).drop k) = tmD b k A + 10000 * (A * valD ((digs b).drop (k + 1))):=by
  by_cases hk:k < (digs b).length
  ·rw [tmD_lt hk,List.drop_eq_getElem_cons hk]
   show A * (_ + 10000 * valD _) = _
   grind
  ·rw [tmD_ge hk,List.drop_eq_nil_of_le (by omega),List.drop_eq_nil_of_le (by omega)];simp [valD]
 rw [hv,show i + (k + 1) = i + k + 1 from rfl,Int.pow_succ]
 generalize A * valD ((digs b).drop (k + 1)) = V at *
 generalize tmD b k A = t at *
 generalize O[i + k] = o at *
 generalize (10000:Int) ^ (i + k) = P at *
 have hq:(c + t + o) % 10000 + 10000 * ((c + t + o) / 10000) = c + t + o:=Int.emod_add_mul_ediv _ _
 generalize (c + t + o) % 10000 = r at *
 generalize (c + t + o) / 10000 = q at *
 have:r = c + t + o - 10000 * q:=by omega
 subst this
 grind
theorem TmI.leave {a b i k:Nat} {A c:Int} {O:List Int} (h:TmI a b i k A c O) (hk:¬ k < (digs b).length) (hc:¬ 0 < c):Tm a b (i + 1) O:=by
 refine ⟨h.dg,h.len,?_⟩
 have hv:=h.val
 have:c = 0:=by have:=h.c0;omega
 rw [List.drop_eq_nil_of_le (by omega),this] at hv
 simpa [valD] using hv
theorem Tm.done {a b:Nat} {O:List Int} (h:Tm a b (digs a).length O):valD O = ((a * b:Nat):Int):=by
 rw [h.val,List.take_length,digs_val];simp
theorem getD0 {l:List Int} {i:Nat} (h:i < l.length):l.getD i 0 = l[i]:=by rw [List.getD_eq_getElem?_getD,List.getElem?_eq_getElem h];rfl
theorem trim_digs' {l:List Int} {k n:Nat} (hd:Dg l) (hv:valD l = n) (hk:k ≤ l.length) (hz:∀ i,i < l.length → k ≤ i → l.getD i 0 = 0) (hn:0 < k → l.getD (k - 1) 0 ≠ 0):l.take k = digs n :=
 trim_digs hd hv hk (fun i hi hk => (getD0 hi).symm.trans (hz i hi hk)) (fun h e => hn h ((getD0 (by omega)).trans e))
theorem above_at' {a b:Nat} {i:Nat} (ha:i < (digs a).length) (hb:i < (digs b).length) (ht:(digs a).drop (i + 1) = (digs b).drop (i + 1)) (hne:(digs a).getD i 0 ≠ (digs b).getD i 0):decide ((digs b).getD i 0 < (digs a).getD i 0) = decide (b < a):=by
 rw [getD0 ha,getD0 hb] at hne ⊢;exact above_at ha hb ht hne
theorem drop_same {a b:List Int} {i:Nat} (ha:i < a.length) (hb:i < b.length) (ht:a.drop (i + 1) = b.drop (i + 1)) (he:a.getD i 0 = b.getD i 0):a.drop i = b.drop i:=by
 rw [getD0 ha,getD0 hb] at he
 rw [List.drop_eq_getElem_cons ha,List.drop_eq_getElem_cons hb,ht,he]
theorem digs_same {a b:Nat} (h:digs a = digs b):a = b:=by
 have h1:=digs_val a
 have h2:=digs_val b
 rw [h] at h1;omega
theorem dg_bd {l:List Int} (h:Dg l) (i:Nat):0 ≤ l.getD i 0 ∧ l.getD i 0 < 10000:=by
 by_cases c:i < l.length
 ·rw [getD0 c];exact h.at i c
 ·rw [List.getD_eq_getElem?_getD,List.getElem?_eq_none (by omega)];decide
theorem digs_head' {l:List Int} {i n:Nat} (h:l.drop i = digs n) (hi:i < l.length):l.getD i 0 = ((n % 10000:Nat):Int) ∧ 0 < n:=by
 rw [getD0 hi];exact digs_head h hi
theorem Tm.enter' {a b i:Nat} {O:List Int} (h:Tm a b i O) (hi:i < (digs a).length):TmI a b i 0 ((digs a).getD i 0) 0 O:=by
 rw [getD0 hi];exact h.enter hi
theorem tmD_lt' {b k:Nat} {A:Int} (h:k < (digs b).length):tmD b k A = A * (digs b).getD k 0:=by rw [getD0 h];exact tmD_lt h
theorem TmI.step' {a b i k:Nat} {A c:Int} {O:List Int} (h:TmI a b i k A c O) (hr:i + k < O.length) :
  TmI a b i (k + 1) A ((c + tmD b k A + O.getD (i + k) 0) / 10000) (O.set (i + k) ((c + tmD b k A + O.getD (i + k) 0) % 10000)):=by
 rw [getD0 hr];exact h.step hr
def nums (l:List Int):List Value:=l.map (Value.int .i64)
theorem nums_length (l:List Int):(nums l).length = l.length:=by simp [nums]
theorem nums_append (l r:List Int):nums (l ++ r) = nums l ++ nums r:=by simp [nums]
theorem nums_at (l:List Int) (i:Nat) (h:i < l.length):(nums l)[i]? = some (.int .i64 l[i]):=by simp [nums,List.getElem?_eq_getElem h]
def Num (B:Nat) (v:Value) (l:List Int) (w:World):Prop:=w.ownsRow B 3 1 v l.length (nums l)
theorem Num.slice {B:Nat} {v:Value} {l:List Int} {w:World} (h:Num B v l w):∃ ao cap,v = .slice ao l.length cap:=by
 rcases h.2 with ⟨rfl,e⟩ | ⟨g,cap,cur,rfl,_⟩
 ·exact ⟨none,0,by rw [e]⟩
 ·exact ⟨_,_,rfl⟩
theorem Num.lies {B:Nat} {v:Value} {l:List Int} {w:World} (h:Num B v l w) (hl:0 < l.length):∃ g cap,v = .slice (some ⟨g,0,none⟩) l.length cap ∧ g < w.heap.size ∧ B ≤ g ∧ l.length ≤ cap ∧ ∀ i,i < l.length → w.cell? ⟨g,i,none⟩ = some (.int .i64 (l.getD i 0)):=by
 obtain ⟨g,cap,rfl⟩:=own_some h hl
 refine ⟨g,cap,rfl,(h.lt _ rfl).2,(h.lt _ rfl).1,?_,fun i hi => ?_⟩
 ·rcases h.2 with ⟨e,_⟩ | ⟨g',cap',cur,e,_,_,h2,_⟩
  ·cases e
  ·cases e;exact h2
 ·rw [h.cellAt i (by omega),nums_at l i hi,List.getD_eq_getElem?_getD,List.getElem?_eq_getElem hi];rfl
theorem Num.below {B:Nat} {v:Value} {l:List Int} {w w':World} (h:Num B v l w) (hb:Below w.heap.size w w'):Num B v l w':=own_down h hb
theorem infoInt:(Tryz.prog.info? 3).map (fun i => (i.zero,i.size,i.bytes)) = some (some (.int .i64 0),1,8):=by kernel_rfl
set_option maxRecDepth 100000 in
set_option maxHeartbeats 3200000 in
theorem ref_nat (N:Nat) (hN:N < 10000 ^ 5) (w:World) :
  Calls Tryz.prog 98 #[.int .i64 N] w fun e w' => ∃ v,e = .returned v ∧ Num w.heap.size v (digs N) w' ∧ Below w.heap.size w w':=by
 obtain ⟨i0,hi0,hz0,hz1,hz2⟩:=info_parts infoInt
 have HL:=hid' (digs_length hN)
 have hN2:N < 100000000000000000000:=by simpa using hN
 clear hN
 go_enter Tryz.func98,Tryz.ntmps98
 go_wp2
 go_loopw [0,3] (fun n v wr => ∃ (m:Nat) (xs:List Int),m ≤ N ∧ n = .int .i64 m ∧ Num w.heap.size v xs wr ∧ xs ++ digs m = digs N ∧ Below w.heap.size w wr) (fun n _ _ => (intOf n).toNat)
 case atStart => exact ⟨N,[],Nat.le_refl _,rfl,World.ownsRow_nil _ _ _ _,rfl,Below.refl _ _⟩
 case round =>
  obtain ⟨m,xs,hm,rfl,own,hx,hb⟩:=hrel
  have OWN:=hid' own
  have HB:=hid' hb
  have HX:=hid' hx
  have hsz:=hb.size
  by_cases c:0 < m
  ·have hlen:xs.length + 1 ≤ 5:=by
    have:=HL.out
    rw [← hx,digs_pos c] at this
    simp at this
    omega
   obtain ⟨va,vcp,hv⟩:=own.slice
   subst hv
   have hli:(0:Int) < (m:Int):=by omega
   obtain ⟨q,hq⟩:∃ q:Nat,m / 10000 = q:=⟨_,rfl⟩
   obtain ⟨r,hr⟩:∃ r:Nat,m % 10000 = r:=⟨_,rfl⟩
   have HD:Hid (digs m = (r:Int) :: digs q):=by rw [← hq,← hr];exact digs_pos c
   have q1:(m:Int) / 10000 = (q:Int):=by omega
   have r1:(m:Int) % 10000 = (r:Int):=by omega
   have q2:q < m:=by omega
   have q3:q < 1000000000000000000:=by omega
   have r2:r < 10000:=by omega
   clear own hb hx hq hr
   go_wp2_with (at_builtin;refine wpList_append_own _ (by rfl) (.tmp 6) (.tmp 9) 24 (by rfl) w.heap.size 3 i0 (.int .i64 0) 1 8 Tryz.underlying24 hi0 hz0 hz1 hz2 rfl (by decide) (.slice va xs.length vcp) xs.length (nums xs) (by rfl) (OWN.out.alloc _) ⟨wr.heap.size,0,none⟩ 1 1 [.int .i64 r] (by rfl) (by rfl) (World.news_of_block (cs:=#[.int .i64 r]) (t:=3) (fr:=(0,0)) (heap_alloc_new wr _)) (by simp [Value.oneCell']) (by unfold maxLen;omega) (by omega) (by simp <;> omega) ?_;intro v3 w3 own3 hg3 hn3;have OWN3:=hid' own3;have HG3:=hid' hg3;clear own3 hg3 hn3)
   go_roundw
   case rel =>
    refine ⟨q,xs ++ [(r:Int)],by omega,rfl,?_,?_,(HB.out.alloc hsz _).grown HG3.out (by simp;omega) (own_ge OWN.out)⟩
    ·show World.ownsRow _ _ _ _ _ _ _
     rw [nums_append,List.length_append];exact OWN3.out
    ·rw [List.append_assoc];rw [← HX.out,HD.out];rfl
   case measure => simp [intOf];omega
  ·have hnl:¬ (0:Int) < (m:Int):=by omega
   obtain rfl:m = 0:=by omega
   clear own hb hx
   go_wp2
   go_ret
   refine ⟨_,rfl,?_,HB.out⟩
   have:=HX.out
   rw [digs_zero,List.append_nil] at this
   rw [← this]
   exact OWN.out
theorem int_size:∀ w:World,(sizeOf (Tryz.prog.elem 24)).run Tryz.prog w = .ok 1 w:=fun _ => by kernel_rfl
theorem cut_nums (g L cap k:Nat) (h:k ≤ cap) (w:World) :
  (Instr.slice 24 (.slice (some ⟨g,0,none⟩) L cap) none (some (.int .i64 (k:Int))) none).run Tryz.prog w = .ok (.slice (some ⟨g,0,none⟩) k cap) w:=by
 rw [run_slice_h (P:=Tryz.prog) w 24 (some ⟨g,0,none⟩) L cap (by kernel_rfl) .i64 (k:Int) (by omega) (by omega),int_size]
 simp [sliced,Addr.add,Result.andThen]
theorem Num.take {B g n cap:Nat} {l:List Int} {w:World} (h:Num B (.slice (some ⟨g,0,none⟩) n cap) l w) (k:Nat) (hk:k ≤ l.length):Num B (.slice (some ⟨g,0,none⟩) k cap) (l.take k) w:=by
 have hl:(l.take k).length = k:=by rw [List.length_take];omega
 refine ⟨by rw [nums_length];omega,.inr ?_⟩
 rcases h.2 with ⟨e,_⟩ | ⟨g',cap',cur,e,a,b,c,d,f,q⟩
 ·cases e
 ·cases e
  refine ⟨g,cap,cur,by rw [hl],a,b,by omega,d,f,?_⟩
  rw [hl]
  have:nums (l.take k) = (nums l).take (k * 1):=by simp [nums,List.map_take]
  rw [this,← q,List.take_take]
  congr 1
  omega
set_option maxRecDepth 100000 in
set_option maxHeartbeats 3200000 in
theorem ref_trim (B g L cap:Nat) (l:List Int) (n:Nat) (w:World) (h:Num B (.slice (some ⟨g,0,none⟩) L cap) l w) (hL:l.length = L) (hd:Dg l) (hv:valD l = n) (hl:L ≤ 10000) :
  Calls Tryz.prog 143 #[.slice (some ⟨g,0,none⟩) L cap] w fun e w' => ∃ v,e = .returned v ∧ Num B v (digs n) w' ∧ w' = w:=by
 have hc:∀ i,i < L → w.cell? ⟨g,i,none⟩ = some (.int .i64 (l.getD i 0)):=fun i hi => by
  obtain ⟨g',cap',hs,_,_,_,hc⟩:=h.lies (by omega)
  obtain ⟨hgg,_,_⟩:=Value.slice.inj hs
  obtain rfl:g = g':=by simpa using hgg
  exact hc i (by omega)
 have lc:L ≤ cap:=by
  rcases h.2 with ⟨e,_⟩ | ⟨g',cap',cur,e,_,_,h2,_⟩
  ·cases e
  ·obtain ⟨_,_,rfl⟩:=Value.slice.inj e;omega
 have H:=hid' h
 have HC:=hid' hc
 have HD:=hid' hd
 have HV:=hid' hv
 have HL:=hid' hL
 clear h hc hd hv hL
 go_enter Tryz.func143,Tryz.ntmps143
 go_wp2
 go_loopw [3] (fun i wr => wr = w ∧ ∃ k:Nat,k ≤ L ∧ i = .int .i64 k ∧ ∀ j,j < l.length → k ≤ j → l.getD j 0 = 0) (fun i _ => (intOf i).toNat)
 case atStart => exact ⟨rfl,L,Nat.le_refl _,rfl,fun j hj hk => by have:=HL.out;omega⟩
 case round =>
  obtain ⟨rfl,k,hk,rfl,hz⟩:=hrel
  have HZ:=hid' hz
  have hcut:=fun W => cut_nums g L cap k (by omega) W
  clear hz
  by_cases c1:0 < k
  ·have a0:=HC.out (k - 1) (by omega)
   have hli:decide ((0:Int) < (k:Int)) = true:=by simp;omega
   generalize hj:k - 1 = j at *
   have HJ:=hid' hj
   have hsub:(k:Int) - 1 = (j:Int):=by omega
   have z0:(0:Int) ≤ (j:Int):=by omega
   have z1:(j:Int) < (L:Int):=by omega
   clear hj
   obtain ⟨x,hx⟩:∃ x,l.getD j 0 = x:=⟨_,rfl⟩
   have HX:=hid' hx
   rw [hx] at a0
   clear hx
   by_cases c2:x = 0
   ·subst c2
    go_wp2
    go_roundw
    case rel =>
     refine ⟨by trivial,j,by have:=HJ.out;omega,by go_num,fun i hi hk2 => ?_⟩
     by_cases e:i = j
     ·subst e
      exact HX.out
     ·exact HZ.out i hi (by have:=HJ.out;omega)
    case measure => have:=HJ.out;simp [intOf];omega
   ·have ne:(x == 0) = false:=beq_eq_false_iff_ne.2 c2
    go_wp2
    go_ret
    refine ⟨_,rfl,?_,rfl⟩
    have e:=trim_digs' (k:=k) HD.out HV.out (by have:=HL.out;omega) HZ.out (fun _ h0 => by
     have e1:=HX.out
     have e2:=HJ.out
     rw [e2] at h0
     exact c2 (e1.symm.trans h0))
    rw [← e]
    exact H.out.take k (by have:=HL.out;omega)
  ·have hli:decide ((0:Int) < (k:Int)) = false:=by simp;omega
   obtain rfl:k = 0:=by omega
   go_wp2
   go_ret
   refine ⟨_,rfl,?_,rfl⟩
   have e:=trim_digs' (k:=0) HD.out HV.out (by omega) HZ.out (fun h => absurd h (by omega))
   rw [← e]
   exact H.out.take 0 (by omega)
set_option maxRecDepth 100000 in
set_option maxHeartbeats 3200000 in
theorem ref_above (B C:Nat) (a b:Nat) (va vb:Value) (w:World) (ha:Num B va (digs a) w) (hb:Num C vb (digs b) w) (la:(digs a).length ≤ 1000) (lb:(digs b).length ≤ 1000) :
  Calls Tryz.prog 100 #[va,vb] w fun e w' => e = .returned (.bool (decide (b < a))) ∧ Below w.heap.size w w':=by
 obtain ⟨aa,ac,rfl⟩:=ha.slice
 obtain ⟨ba,bc,rfl⟩:=hb.slice
 have HA:=hid' ha
 have HB:=hid' hb
 have HN:=hid' (above_len (a:=a) (b:=b))
 clear ha hb
 obtain ⟨L,hL⟩:∃ L,(digs a).length = L:=⟨_,rfl⟩
 obtain ⟨M,hM⟩:∃ M,(digs b).length = M:=⟨_,rfl⟩
 have HLA':=hid' hL
 have HLB':=hid' hM
 rw [hL] at la HN ⊢
 rw [hM] at lb HN ⊢
 clear hL hM
 go_enter Tryz.func100,Tryz.ntmps100
 by_cases c:L = M
 case neg =>
  have ne:((L:Int) != (M:Int)) = true:=bne_iff_ne.2 (by omega)
  have e:=HN.out c
  go_wp2
  go_ret
  refine ⟨?_,Below.refl _ _⟩
  rw [← e]
  congr 2
 subst c
 go_wp2
 go_loopw [5] (fun i wr => Below w.heap.size w wr ∧ ∃ k:Int,-1 ≤ k ∧ k < L ∧ i = .int .i64 k ∧ (digs a).drop (k + 1).toNat = (digs b).drop (k + 1).toNat) (fun i _ => (intOf i + 1).toNat)
 case atStart => exact ⟨Below.refl _ _,(L:Int) - 1,by omega,by omega,rfl,by rw [List.drop_eq_nil_of_le (by have:=HLA'.out;omega),List.drop_eq_nil_of_le (by have:=HLB'.out;omega)]⟩
 case round =>
  obtain ⟨hbl,k,hk,hk2,rfl,hz⟩:=hrel
  have HBL:=hid' hbl
  have HZ:=hid' hz
  clear hz
  by_cases c1:0 ≤ k
  ·obtain ⟨j,rfl⟩:∃ j:Nat,k = j:=⟨k.toNat,by omega⟩
   obtain ⟨ga,ca,e1,lga,_,_,qa⟩:=HA.out.lies (by have:=HLA'.out;omega)
   obtain ⟨gb,cb,e2,lgb,_,_,qb⟩:=HB.out.lies (by have:=HLB'.out;omega)
   obtain ⟨rfl,_,rfl⟩:=Value.slice.inj e1
   obtain ⟨rfl,_,rfl⟩:=Value.slice.inj e2
   have a0:=(hbl.cell (p:=⟨ga,j,none⟩) lga).trans (qa j (by have:=HLA'.out;omega))
   have b0:=(hbl.cell (p:=⟨gb,j,none⟩) lgb).trans (qb j (by have:=HLB'.out;omega))
   have HAT:=hid' (above_at' (a:=a) (b:=b) (i:=j) (by have:=HLA'.out;omega) (by have:=HLB'.out;omega) HZ.out)
   have HDS:=hid' (drop_same (a:=digs a) (b:=digs b) (i:=j) (by have:=HLA'.out;omega) (by have:=HLB'.out;omega) HZ.out)
   clear hbl qa qb e1 e2
   generalize (digs a).getD j 0 = x at HAT HDS a0
   generalize (digs b).getD j 0 = y at HAT HDS b0
   by_cases c2:x = y
   ·subst c2
    have HDS2:=hid' (HDS.out rfl)
    have ne:(x != x) = false:=by simp
    clear HDS HAT
    go_wp2_with fail
    go_quiet (fail)
    go_wp2
    go_roundw
    case rel => exact ⟨below_drewN HBL.out nq,(j:Int) - 1,by omega,by omega,by go_num,(by rw [show ((j:Int) - 1 + 1).toNat = j from by omega];exact HDS2.out)⟩
    case measure => simp [intOf]
   ·have ne:(x != y) = true:=bne_iff_ne.2 c2
    have e:=hid' (HAT.out c2)
    clear HAT HDS
    go_wp2_with fail
    go_quiet (fail)
    go_wp2_with fail
    go_quiet (fail)
    go_wp2
    go_ret
    refine ⟨?_,below_drewN (below_drewN HBL.out _) _⟩
    rw [← e.out]
    rfl
  ·obtain rfl:k = -1:=by omega
   have he:a = b:=digs_same (by have:=HZ.out;simpa using this)
   clear hbl
   go_wp2
   go_ret
   refine ⟨?_,HBL.out⟩
   subst he;simp
set_option maxRecDepth 100000 in
set_option maxHeartbeats 6400000 in
theorem ref_plus (B C:Nat) (a b:Nat) (va vb:Value) (w:World) (ha:Num B va (digs a) w) (hb:Num C vb (digs b) w) (la:(digs a).length ≤ 1000) (lb:(digs b).length ≤ 1000) (ls:(digs (a + b)).length ≤ 3000) :
  Calls Tryz.prog 142 #[va,vb] w fun e w' => ∃ v,e = .returned v ∧ Num w.heap.size v (digs (a + b)) w' ∧ Below w.heap.size w w':=by
 obtain ⟨i0,hi0,hz0,hz1,hz2⟩:=info_parts infoInt
 obtain ⟨aa,ac,rfl⟩:=ha.slice
 obtain ⟨ba,bc,rfl⟩:=hb.slice
 have HA:=hid' ha
 have HB:=hid' hb
 clear ha hb
 obtain ⟨L,hL⟩:∃ L,(digs a).length = L:=⟨_,rfl⟩
 obtain ⟨M,hM⟩:∃ M,(digs b).length = M:=⟨_,rfl⟩
 have HLA:=hid' hL
 have HLB:=hid' hM
 have HLS:=hid' ls
 rw [hL] at la ⊢
 rw [hM] at lb ⊢
 clear hL hM ls
 go_enter Tryz.func142,Tryz.ntmps142
 go_wp2
 go_loopw [5,6,7] (fun v cv iv wr => ∃ (i a' b' c:Nat) (xs:List Int),Num w.heap.size v xs wr ∧ xs.length = i ∧ i ≤ 3000 ∧ c ≤ 1 ∧ iv = .int .i64 i ∧ cv = .int .i64 c ∧ (digs a).drop i = digs a' ∧ (digs b).drop i = digs b' ∧ xs ++ digs (a' + b' + c) = digs (a + b) ∧ Below w.heap.size w wr) (fun _ _ iv _ => (digs (a + b)).length - (intOf iv).toNat)
 case atStart => exact ⟨0,a,b,0,[],World.ownsRow_nil _ _ _ _,rfl,by omega,by omega,rfl,rfl,rfl,rfl,rfl,Below.refl _ _⟩
 case round =>
  obtain ⟨i,a',b',c,xs,own,hxl,hi,hc,rfl,rfl,hda,hdb,hx,hbl⟩:=hrel
  have OWN:=hid' own
  have HBL:=hid' hbl
  have HDA:=hid' hda
  have HDB:=hid' hdb
  have HX:=hid' hx
  have HXL:=hid' hxl
  have hsz:=hbl.size
  obtain ⟨vo,vcp,hv⟩:=own.slice
  rw [hxl] at hv
  subst hv
  have DA:=hid' (digs_tail hda)
  have DB:=hid' (digs_tail hdb)
  have LEN:Hid (0 < a' + b' + c → i + 1 ≤ (digs (a + b)).length):=fun hp => by
   rw [← hx,List.length_append,hxl,digs_plus hp];simp
  have XX:Hid (0 < a' + b' + c → xs ++ [(((a' % 10000 + b' % 10000 + c) % 10000:Nat):Int)] ++ digs (a' / 10000 + b' / 10000 + (a' % 10000 + b' % 10000 + c) / 10000) = digs (a + b)):=fun hp => by
   rw [← hx,digs_plus hp,List.append_assoc];rfl
  clear own hxl hx
  generalize hP:wr.heap.size = P at *
  by_cases cA:i < L
  ·by_cases cB:i < M
   ·skip
    have hiA:decide ((i:Int) < (L:Int)) = true:=by simp;omega
    have hiA2:(i:Int) < (L:Int):=by omega
    obtain ⟨ga,ca,e1,lga,_,_,qa⟩:=HA.out.lies (by have:=HLA.out;omega)
    obtain ⟨rfl,_,rfl⟩:=Value.slice.inj e1
    have a0:=(hbl.cell (p:=⟨ga,i,none⟩) lga).trans (qa i (by have:=HLA.out;omega))
    have hxa:=digs_head' hda (by have:=HLA.out;omega)
    rw [hxa.1] at a0
    have pos:0 < a' + b' + c:=by omega
    clear e1 qa
    have hiB:decide ((i:Int) < (M:Int)) = true:=by simp;omega
    have hiB2:(i:Int) < (M:Int):=by omega
    obtain ⟨gb,cb,e2,lgb,_,_,qb⟩:=HB.out.lies (by have:=HLB.out;omega)
    obtain ⟨rfl,_,rfl⟩:=Value.slice.inj e2
    have b0:=(hbl.cell (p:=⟨gb,i,none⟩) lgb).trans (qb i (by have:=HLB.out;omega))
    have hxb:=digs_head' hdb (by have:=HLB.out;omega)
    rw [hxb.1] at b0
    clear e2 qb
    have XX2:=hid' (XX.out pos)
    have LEN2:=LEN.out pos
    have HLS2:=HLS.out
    clear XX LEN HLS
    obtain ⟨x,hx⟩:∃ x:Nat,a' % 10000 = x:=⟨_,rfl⟩
    rw [hx] at a0 XX2
    have x1:x < 10000:=by omega
    obtain ⟨y,hy⟩:∃ y:Nat,b' % 10000 = y:=⟨_,rfl⟩
    rw [hy] at b0 XX2
    have y1:y < 10000:=by omega
    obtain ⟨q,hq⟩:∃ q:Nat,(x + y + c) / 10000 = q:=⟨_,rfl⟩
    obtain ⟨r,hr⟩:∃ r:Nat,(x + y + c) % 10000 = r:=⟨_,rfl⟩
    rw [hq,hr] at XX2
    have q1:((c:Int) + (x:Int) + (y:Int)) / 10000 = (q:Int):=by omega
    have r1:((c:Int) + (x:Int) + (y:Int)) % 10000 = (r:Int):=by omega
    have q2:q ≤ 1:=by omega
    have r2:r < 10000:=by omega
    clear hbl hda hdb hq hr hx hxa hy hxb
    go_wp2_with (at_builtin;refine wpList_append_own _ (by rfl) (.tmp 44) (.tmp 47) 24 (by rfl) w.heap.size 3 i0 (.int .i64 0) 1 8 Tryz.underlying24 hi0 hz0 hz1 hz2 rfl (by decide) (.slice vo i vcp) i (nums xs) (by rfl) (by have o:=OWN.out;rw [Num,HXL.out] at o;exact o.alloc _) ⟨P,0,none⟩ 1 1 [.int .i64 r] (by rfl) (by rfl) (by rw [← hP];exact World.news_of_block (cs:=#[.int .i64 r]) (t:=3) (fr:=(0,0)) (heap_alloc_new wr _)) (by simp [Value.oneCell']) (by unfold maxLen;omega) (by omega) (by simp <;> omega) ?_;intro v3 w3 own3 hg3 hn3;have OWN3:=hid' own3;have HG3:=hid' hg3;clear own3 hg3 hn3)
    go_roundw
    case rel =>
     refine ⟨i + 1,a' / 10000,b' / 10000,q,xs ++ [(r:Int)],?_,by rw [List.length_append,HXL.out];rfl,by omega,by omega,by go_num,(by first | rfl | rw [q1]),DA.out,DB.out,XX2.out,?_⟩
     ·show World.ownsRow _ _ _ _ _ _ _
      rw [nums_append,List.length_append,HXL.out];exact OWN3.out
     ·exact (HBL.out.alloc (by omega) _).grown HG3.out (by simp;omega) (own_ge OWN.out)
    case measure => simp [intOf];omega
   ·skip
    have hiA:decide ((i:Int) < (L:Int)) = true:=by simp;omega
    have hiA2:(i:Int) < (L:Int):=by omega
    obtain ⟨ga,ca,e1,lga,_,_,qa⟩:=HA.out.lies (by have:=HLA.out;omega)
    obtain ⟨rfl,_,rfl⟩:=Value.slice.inj e1
    have a0:=(hbl.cell (p:=⟨ga,i,none⟩) lga).trans (qa i (by have:=HLA.out;omega))
    have hxa:=digs_head' hda (by have:=HLA.out;omega)
    rw [hxa.1] at a0
    have pos:0 < a' + b' + c:=by omega
    clear e1 qa
    have hiB:decide ((i:Int) < (M:Int)) = false:=by simp;omega
    have hiB2:¬ (i:Int) < (M:Int):=by omega
    have eb:b' = 0:=digs_end hdb (by have:=HLB.out;omega)
    subst eb
    have XX2:=hid' (XX.out pos)
    have LEN2:=LEN.out pos
    have HLS2:=HLS.out
    clear XX LEN HLS
    obtain ⟨x,hx⟩:∃ x:Nat,a' % 10000 = x:=⟨_,rfl⟩
    rw [hx] at a0 XX2
    have x1:x < 10000:=by omega
    obtain ⟨q,hq⟩:∃ q:Nat,(x + 0 % 10000 + c) / 10000 = q:=⟨_,rfl⟩
    obtain ⟨r,hr⟩:∃ r:Nat,(x + 0 % 10000 + c) % 10000 = r:=⟨_,rfl⟩
    rw [hq,hr] at XX2
    have q1:((c:Int) + (x:Int)) / 10000 = (q:Int):=by omega
    have r1:((c:Int) + (x:Int)) % 10000 = (r:Int):=by omega
    have q2:q ≤ 1:=by omega
    have r2:r < 10000:=by omega
    clear hbl hda hdb hq hr hx hxa
    go_wp2_with (at_builtin;refine wpList_append_own _ (by rfl) (.tmp 44) (.tmp 47) 24 (by rfl) w.heap.size 3 i0 (.int .i64 0) 1 8 Tryz.underlying24 hi0 hz0 hz1 hz2 rfl (by decide) (.slice vo i vcp) i (nums xs) (by rfl) (by have o:=OWN.out;rw [Num,HXL.out] at o;exact o.alloc _) ⟨P,0,none⟩ 1 1 [.int .i64 r] (by rfl) (by rfl) (by rw [← hP];exact World.news_of_block (cs:=#[.int .i64 r]) (t:=3) (fr:=(0,0)) (heap_alloc_new wr _)) (by simp [Value.oneCell']) (by unfold maxLen;omega) (by omega) (by simp <;> omega) ?_;intro v3 w3 own3 hg3 hn3;have OWN3:=hid' own3;have HG3:=hid' hg3;clear own3 hg3 hn3)
    go_roundw
    case rel =>
     refine ⟨i + 1,a' / 10000,0 / 10000,q,xs ++ [(r:Int)],?_,by rw [List.length_append,HXL.out];rfl,by omega,by omega,by go_num,(by first | rfl | rw [q1]),DA.out,DB.out,XX2.out,?_⟩
     ·show World.ownsRow _ _ _ _ _ _ _
      rw [nums_append,List.length_append,HXL.out];exact OWN3.out
     ·exact (HBL.out.alloc (by omega) _).grown HG3.out (by simp;omega) (own_ge OWN.out)
    case measure => simp [intOf];omega
  ·by_cases cB:i < M
   ·skip
    have hiA:decide ((i:Int) < (L:Int)) = false:=by simp;omega
    have hiA2:¬ (i:Int) < (L:Int):=by omega
    have ea:a' = 0:=digs_end hda (by have:=HLA.out;omega)
    subst ea
    have hiB:decide ((i:Int) < (M:Int)) = true:=by simp;omega
    have hiB2:(i:Int) < (M:Int):=by omega
    obtain ⟨gb,cb,e2,lgb,_,_,qb⟩:=HB.out.lies (by have:=HLB.out;omega)
    obtain ⟨rfl,_,rfl⟩:=Value.slice.inj e2
    have b0:=(hbl.cell (p:=⟨gb,i,none⟩) lgb).trans (qb i (by have:=HLB.out;omega))
    have hxb:=digs_head' hdb (by have:=HLB.out;omega)
    rw [hxb.1] at b0
    have pos:0 < 0 + b' + c:=by omega
    clear e2 qb
    have XX2:=hid' (XX.out pos)
    have LEN2:=LEN.out pos
    have HLS2:=HLS.out
    clear XX LEN HLS
    obtain ⟨y,hy⟩:∃ y:Nat,b' % 10000 = y:=⟨_,rfl⟩
    rw [hy] at b0 XX2
    have y1:y < 10000:=by omega
    obtain ⟨q,hq⟩:∃ q:Nat,(0 % 10000 + y + c) / 10000 = q:=⟨_,rfl⟩
    obtain ⟨r,hr⟩:∃ r:Nat,(0 % 10000 + y + c) % 10000 = r:=⟨_,rfl⟩
    rw [hq,hr] at XX2
    have q1:((c:Int) + (y:Int)) / 10000 = (q:Int):=by omega
    have r1:((c:Int) + (y:Int)) % 10000 = (r:Int):=by omega
    have q2:q ≤ 1:=by omega
    have r2:r < 10000:=by omega
    clear hbl hda hdb hq hr hy hxb
    go_wp2_with (at_builtin;refine wpList_append_own _ (by rfl) (.tmp 44) (.tmp 47) 24 (by rfl) w.heap.size 3 i0 (.int .i64 0) 1 8 Tryz.underlying24 hi0 hz0 hz1 hz2 rfl (by decide) (.slice vo i vcp) i (nums xs) (by rfl) (by have o:=OWN.out;rw [Num,HXL.out] at o;exact o.alloc _) ⟨P,0,none⟩ 1 1 [.int .i64 r] (by rfl) (by rfl) (by rw [← hP];exact World.news_of_block (cs:=#[.int .i64 r]) (t:=3) (fr:=(0,0)) (heap_alloc_new wr _)) (by simp [Value.oneCell']) (by unfold maxLen;omega) (by omega) (by simp <;> omega) ?_;intro v3 w3 own3 hg3 hn3;have OWN3:=hid' own3;have HG3:=hid' hg3;clear own3 hg3 hn3)
    go_roundw
    case rel =>
     refine ⟨i + 1,0 / 10000,b' / 10000,q,xs ++ [(r:Int)],?_,by rw [List.length_append,HXL.out];rfl,by omega,by omega,by go_num,(by first | rfl | rw [q1]),DA.out,DB.out,XX2.out,?_⟩
     ·show World.ownsRow _ _ _ _ _ _ _
      rw [nums_append,List.length_append,HXL.out];exact OWN3.out
     ·exact (HBL.out.alloc (by omega) _).grown HG3.out (by simp;omega) (own_ge OWN.out)
    case measure => simp [intOf];omega
   ·skip
    have hiA:decide ((i:Int) < (L:Int)) = false:=by simp;omega
    have hiA2:¬ (i:Int) < (L:Int):=by omega
    have ea:a' = 0:=digs_end hda (by have:=HLA.out;omega)
    subst ea
    have hiB:decide ((i:Int) < (M:Int)) = false:=by simp;omega
    have hiB2:¬ (i:Int) < (M:Int):=by omega
    have eb:b' = 0:=digs_end hdb (by have:=HLB.out;omega)
    subst eb
    by_cases c4:0 < c
    ·have hc4:decide ((0:Int) < (c:Int)) = true:=by simp;omega
     have hc5:(0:Int) < (c:Int):=by omega
     have pos:0 < 0 + 0 + c:=by omega
     have XX2:=hid' (XX.out pos)
     have LEN2:=LEN.out pos
     have HLS2:=HLS.out
     clear XX LEN HLS
     obtain ⟨q,hq⟩:∃ q:Nat,(0 % 10000 + 0 % 10000 + c) / 10000 = q:=⟨_,rfl⟩
     obtain ⟨r,hr⟩:∃ r:Nat,(0 % 10000 + 0 % 10000 + c) % 10000 = r:=⟨_,rfl⟩
     rw [hq,hr] at XX2
     have q1:((c:Int)) / 10000 = (q:Int):=by omega
     have r1:((c:Int)) % 10000 = (r:Int):=by omega
     have q2:q ≤ 1:=by omega
     have r2:r < 10000:=by omega
     clear hbl hda hdb hq hr
     go_wp2_with (at_builtin;refine wpList_append_own _ (by rfl) (.tmp 44) (.tmp 47) 24 (by rfl) w.heap.size 3 i0 (.int .i64 0) 1 8 Tryz.underlying24 hi0 hz0 hz1 hz2 rfl (by decide) (.slice vo i vcp) i (nums xs) (by rfl) (by have o:=OWN.out;rw [Num,HXL.out] at o;exact o.alloc _) ⟨P,0,none⟩ 1 1 [.int .i64 r] (by rfl) (by rfl) (by rw [← hP];exact World.news_of_block (cs:=#[.int .i64 r]) (t:=3) (fr:=(0,0)) (heap_alloc_new wr _)) (by simp [Value.oneCell']) (by unfold maxLen;omega) (by omega) (by simp <;> omega) ?_;intro v3 w3 own3 hg3 hn3;have OWN3:=hid' own3;have HG3:=hid' hg3;clear own3 hg3 hn3)
     go_roundw
     case rel =>
      refine ⟨i + 1,0 / 10000,0 / 10000,q,xs ++ [(r:Int)],?_,by rw [List.length_append,HXL.out];rfl,by omega,by omega,by go_num,(by first | rfl | rw [q1]),DA.out,DB.out,XX2.out,?_⟩
      ·show World.ownsRow _ _ _ _ _ _ _
       rw [nums_append,List.length_append,HXL.out];exact OWN3.out
      ·exact (HBL.out.alloc (by omega) _).grown HG3.out (by simp;omega) (own_ge OWN.out)
     case measure => simp [intOf];omega
    ·have hc4:decide ((0:Int) < (c:Int)) = false:=by simp;omega
     have hc5:¬ (0:Int) < (c:Int):=by omega
     obtain rfl:c = 0:=by omega
     clear hbl hda hdb XX LEN
     go_wp2
     go_ret
     refine ⟨_,rfl,?_,HBL.out⟩
     have e:=HX.out
     rw [show (0 + 0 + 0:Nat) = 0 from rfl,digs_zero,List.append_nil] at e
     rw [← e]
     have o:=OWN.out
     exact o
theorem Num.set {B g n cap:Nat} {l:List Int} {w:World} (h:Num B (.slice (some ⟨g,0,none⟩) n cap) l w) (j:Nat) (x:Int):Num B (.slice (some ⟨g,0,none⟩) n cap) (l.set j x) (w.setCell ⟨g,j,none⟩ (.int .i64 x)):=by
 refine ⟨by rw [nums_length];omega,.inr ?_⟩
 rcases h.2 with ⟨e,_⟩ | ⟨g',cap',cur,e,a,b,c,d,f,q⟩
 ·cases e
 ·obtain ⟨e1,e2,rfl⟩:=Value.slice.inj e
  obtain rfl:g = g':=by simpa using e1
  refine ⟨g,cap,_,by rw [e2,List.length_set],a,heap_setCell_same _ _ _ _ _ _ b,by rw [List.length_set];exact c,d,by simp [f],?_⟩
  rw [List.length_set]
  simp only [Array.toList_setIfInBounds]
  rw [List.take_set,q]
  simp [nums,List.map_set]
theorem Num.reads {B g n cap:Nat} {l:List Int} {w:World} (h:Num B (.slice (some ⟨g,0,none⟩) n cap) l w) (j:Nat) (hj:j < l.length):w.cell? ⟨g,j,none⟩ = some (.int .i64 (l.getD j 0)):=by
 obtain ⟨g',cap',hs,_,_,_,hc⟩:=h.lies (by omega)
 obtain ⟨hgg,_,_⟩:=Value.slice.inj hs
 obtain rfl:g = g':=by simpa using hgg
 exact hc j hj
theorem Num.free {B g n cap:Nat} {l:List Int} {w:World} (h:Num B (.slice (some ⟨g,0,none⟩) n cap) l w) (j:Nat):w.frozen? ⟨g,j,none⟩ = false:=by
 rcases h.2 with ⟨e,_⟩ | ⟨g',cap',cur,e,a,b,c,d,f,q⟩
 ·cases e
 ·obtain ⟨e1,e2,rfl⟩:=Value.slice.inj e
  obtain rfl:g = g':=by simpa using e1
  exact frozen_of_row _ _ j _ _ b
theorem made_nums (n:Nat):(madeCells (Value.int .i64 0).cells (n * 1)).toList = nums (List.replicate n 0):=by
 have:(madeCells (Value.int .i64 0).cells (n * 1)).toList = List.replicate (n * 1) (Value.int .i64 0):=by
  refine List.eq_replicate_iff.2 ⟨by simp [madeCells],fun v hv => ?_⟩
  simp [madeCells,Value.cells,Nat.mod_one] at hv
  exact hv.2.symm
 rw [this];simp [nums]
set_option maxRecDepth 100000 in
set_option maxHeartbeats 6400000 in
theorem ref_times (B C:Nat) (a b:Nat) (va vb:Value) (w:World) (ha:Num B va (digs a) w) (hb:Num C vb (digs b) w) (la:(digs a).length ≤ 1000) (lb:(digs b).length ≤ 1000) :
  Calls Tryz.prog 99 #[va,vb] w fun e w' => ∃ v,e = .returned v ∧ Num w.heap.size v (digs (a * b)) w' ∧ Below w.heap.size w w':=by
 obtain ⟨i0,hi0,hz0,hz1,hz2⟩:=info_parts infoInt
 obtain ⟨aa,ac,rfl⟩:=ha.slice
 obtain ⟨ba,bc,rfl⟩:=hb.slice
 have HA:=hid' ha
 have HB:=hid' hb
 clear ha hb
 have TS:=hid' (tm_start a b)
 have HLE:=hid' (fun i k (A c:Int) O (h:TmI a b i k A c O) => h.len)
 have HLO:=hid' (fun i O (h:Tm a b i O) => h.len)
 obtain ⟨L,hL⟩:∃ L,(digs a).length = L:=⟨_,rfl⟩
 obtain ⟨M,hM⟩:∃ M,(digs b).length = M:=⟨_,rfl⟩
 have HLA:=hid' hL
 have HLB:=hid' hM
 rw [hL] at la ⊢
 rw [hM] at lb ⊢
 rw [hL,hM] at TS
 simp only [hL,hM] at HLE HLO
 clear hL hM
 obtain ⟨N,hN⟩:∃ N,L + M + 1 = N:=⟨_,rfl⟩
 have hN1:(L:Int) + (M:Int) + 1 = (N:Int):=by omega
 have hN2:N ≤ 2001:=by omega
 rw [hN] at TS HLE HLO
 have HN:=hid' hN
 clear hN
 go_enter Tryz.func99,Tryz.ntmps99
 go_wp2_with (first
  | (at_make;refine wpList_make_full _ rfl _ _ 24 rfl w.heap.size 3 i0 (.int .i64 0) 1 Tryz.underlying24 hi0 hz0 hz1 .i64 .i64 _ _ N rfl rfl (by simp) (by simp) (by rw [hz2];omega) (by unfold maxLen;omega) (Nat.le_refl _) ?_;intro W hown hgr;have HOWN:=hid' hown;have HGR:=hid' hgr;clear hown hgr))
 have N0:Hid (Num w.heap.size (.slice (some ⟨w.heap.size,0,none⟩) N N) (List.replicate N 0) W):=by
  show World.ownsRow _ _ _ _ _ _ _
  rw [List.length_replicate,← made_nums];exact HOWN.out
 have B0:=hid' ((Below.refl w.heap.size w).grown HGR.out (Nat.le_refl _) (fun k hk => by cases hk))
 clear HOWN HGR hi0 hz0 hz1 hz2
 generalize hG:w.heap.size = G at *
 go_loopw [6] (fun iv wr => ∃ (i:Nat) (O:List Int),i ≤ L ∧ iv = .int .i64 i ∧ Num G (.slice (some ⟨G,0,none⟩) N N) O wr ∧ Tm a b i O ∧ Below G w wr) (fun iv _ => L - (intOf iv).toNat)
 case atStart => exact ⟨0,_,by omega,rfl,N0.out,TS.out,B0.out⟩
 case round =>
  clear N0 B0 TS
  obtain ⟨i,O,hi,rfl,own,htm,hbl⟩:=hrel
  have OWN:=hid' own
  have HBL:=hid' hbl
  have HTM:=hid' htm
  by_cases cA:i < L
  ·have hiA:(i:Int) < (L:Int):=by omega
   obtain ⟨ga,ca,e1,lga,_,_,qa⟩:=HA.out.lies (by have:=HLA.out;omega)
   obtain ⟨rfl,_,rfl⟩:=Value.slice.inj e1
   have QA:=hid' (qa i (by have:=HLA.out;omega))
   have HE:=hid' (htm.enter' (by have:=HLA.out;omega))
   generalize (digs a).getD i 0 = A at QA HE
   clear own hbl htm e1 qa
   go_wp2
   go_loopw [7,8] (fun cv kv wr => ∃ (k:Nat) (c:Int) (O:List Int),k ≤ M + 1 ∧ kv = .int .i64 k ∧ cv = .int .i64 c ∧ Num G (.slice (some ⟨G,0,none⟩) N N) O wr ∧ TmI a b i k A c O ∧ Below G w wr) (fun _ kv _ => M + 2 - (intOf kv).toNat)
   case atStart => exact ⟨0,0,O,by omega,rfl,rfl,OWN.out,HE.out,HBL.out⟩
   case round =>
    clear HE HTM OWN HBL
    rename World => wq
    obtain ⟨k,c,O2,hk,rfl,rfl,own2,htmi,hbl2⟩:=hrel
    have OWN2:=hid' own2
    have HBL2:=hid' hbl2
    have HTMI:=hid' htmi
    have c0:=htmi.c0
    have c1:=htmi.c1
    have A0:=htmi.a0
    have A1:=htmi.a1
    have HD:=hid' htmi.dg
    by_cases cE:k < M ∨ 0 < c
    ·obtain ⟨rm1,rm2⟩:=htmi.room (by have:=HLA.out;omega) (by have:=HLB.out;omega)
     have HST:=hid' (htmi.step' rm1)
     have rm3:k ≤ M:=by have:=HLB.out;omega
     have hlen:=HLE.out _ _ _ _ _ htmi
     have o0:=own2.reads (i + k) rm1
     have f0:=own2.free (i + k)
     have obd:=dg_bd HD.out (i + k)
     obtain ⟨j,hj⟩:∃ j,i + k = j:=⟨_,rfl⟩
     have hj1:(i:Int) + (k:Int) = (j:Int):=by omega
     have z0:(0:Int) ≤ (j:Int):=by omega
     have z1:(j:Int) < (N:Int):=by omega
     have z2:j < N:=by omega
     have HJ:=hid' hj
     rw [hj] at o0 f0 obd HST
     generalize O2.getD j 0 = o at o0 obd HST
     by_cases cB:k < M
     ·have hiB:decide ((k:Int) < (M:Int)) = true:=by simp;omega
      have hiB2:(k:Int) < (M:Int):=by omega
      obtain ⟨gb,cb,e2,lgb,_,_,qb⟩:=HB.out.lies (by have:=HLB.out;omega)
      obtain ⟨rfl,_,rfl⟩:=Value.slice.inj e2
      have a0:=(hbl2.cell (p:=⟨ga,i,none⟩) (show ga < G by omega)).trans QA.out
      have b0:=(hbl2.cell (p:=⟨gb,k,none⟩) (show gb < G by omega)).trans (qb k (by have:=HLB.out;omega))
      have tb:=tmD_bd (b:=b) (k:=k) A0 A1
      have te:=tmD_lt' (b:=b) (k:=k) (A:=A) (by have:=HLB.out;omega)
      rw [te] at tb HST
      generalize (digs b).getD k 0 = y at b0 tb HST te
      obtain ⟨t,ht⟩:∃ t,A * y = t:=⟨_,rfl⟩
      rw [ht] at tb HST
      obtain ⟨q,hq⟩:∃ q,(c + t + o) / 10000 = q:=⟨_,rfl⟩
      obtain ⟨r,hr⟩:∃ r,(c + t + o) % 10000 = r:=⟨_,rfl⟩
      rw [hq,hr] at HST
      have q1:0 ≤ q ∧ q ≤ 9999:=by omega
      have r1:0 ≤ r ∧ r ≤ 9999:=by omega
      clear own2 hbl2 htmi hj te e2 qb hlen rm1 rm2 HLE HLO
      go_upto_region 10 with fail
      go_quiet (fail)
      go_wp2
      go_roundw
      case rel =>
       refine ⟨k + 1,q,_,by omega,by go_num,(by first | rfl | (rw [hq])),?_,HST.out,?_⟩
       ·exact OWN2.out.set j r
       ·first
         | exact below_drewN (HBL2.out.setCell (p:=⟨G,j,none⟩) (Nat.le_refl _) (.int .i64 r)) nq
         | exact (below_drewN HBL2.out nq).setCell (p:=⟨G,j,none⟩) (Nat.le_refl _) (.int .i64 r)
      case measure => simp [intOf];omega
     ·have hiB:decide ((k:Int) < (M:Int)) = false:=by simp;omega
      have hiB2:¬ (k:Int) < (M:Int):=by omega
      have hc4:decide ((0:Int) < c) = true:=by simp;omega
      have hc5:(0:Int) < c:=by omega
      rw [tmD_ge (by have:=HLB.out;omega),Int.add_zero] at HST
      obtain ⟨q,hq⟩:∃ q,(c + o) / 10000 = q:=⟨_,rfl⟩
      obtain ⟨r,hr⟩:∃ r,(c + o) % 10000 = r:=⟨_,rfl⟩
      rw [hq,hr] at HST
      have q1:0 ≤ q ∧ q ≤ 9999:=by omega
      have r1:0 ≤ r ∧ r ≤ 9999:=by omega
      clear own2 hbl2 htmi hj hlen rm1 rm2 HLE HLO
      go_wp2
      go_roundw
      case rel =>
       refine ⟨k + 1,q,_,by omega,by go_num,(by first | rfl | (rw [hq])),?_,HST.out,?_⟩
       ·exact OWN2.out.set j r
       ·exact HBL2.out.setCell (p:=⟨G,j,none⟩) (Nat.le_refl _) (.int .i64 r)
      case measure => simp [intOf];omega
    ·have hiB:decide ((k:Int) < (M:Int)) = false:=by simp;omega
     have hiB2:¬ (k:Int) < (M:Int):=by omega
     have hc4:decide ((0:Int) < c) = false:=by simp;omega
     have hc5:¬ (0:Int) < c:=by omega
     have HTL:=hid' (htmi.leave (by have:=HLB.out;omega) hc5)
     clear own2 hbl2 htmi HLE HLO
     go_wp2
     go_roundw
     case rel => exact ⟨i + 1,O2,by omega,by go_num,OWN2.out,HTL.out,HBL2.out⟩
     case measure => simp [intOf];omega
  ·have hiA:¬ (i:Int) < (L:Int):=by omega
   obtain rfl:i = L:=by omega
   have hlen:=HLO.out _ _ htm
   have hval:=(show Tm a b (digs a).length O by rw [HLA.out];exact htm).done
   have TR:=hid' (ref_trim G G N N O (a * b) wr own hlen htm.dg hval (by omega))
   clear own hbl htm HLE HLO hlen hval
   go_wp2_with fail
   refine TR.out.mono ?_
   rintro e w2 ⟨v,rfl,hnum,rfl⟩
   have HNUM:=hid' hnum
   clear hnum TR
   go_wp2
   go_ret
   exact ⟨v,rfl,by rw [hG];exact HNUM.out,by rw [hG];exact HBL.out⟩
structure Wh (U D n k:Nat):Prop where
 k33:k ≤ 33
 lo:n * D ≤ U
 hi:U < (n + 2 ^ k) * D
 nb:n + 2 ^ k ≤ 2 ^ 33
theorem Wh.start {U D:Nat} (h:U < 2 ^ 33 * D):Wh U D 0 33:=⟨Nat.le_refl _,by simp,by simpa using h,by simp⟩
theorem Wh.up {U D n k:Nat} (h:Wh U D n (k + 1)) (hl:(n + 2 ^ k) * D ≤ U):Wh U D (n + 2 ^ k) k:=by
 have h1:=h.hi
 have h2:=h.nb
 have h3:=h.k33
 rw [Nat.pow_succ] at h1 h2
 refine ⟨by omega,hl,?_,by omega⟩
 have e:n + 2 ^ k + 2 ^ k = n + 2 ^ k * 2:=by omega
 rw [e];exact h1
theorem Wh.stay {U D n k:Nat} (h:Wh U D n (k + 1)) (hl:U < (n + 2 ^ k) * D):Wh U D n k:=by
 have h2:=h.nb
 have h3:=h.k33
 rw [Nat.pow_succ] at h2
 exact ⟨by omega,h.lo,hl,by omega⟩
theorem Wh.done {U D n:Nat} (h:Wh U D n 0):n = U / D:=by
 have h1:=h.hi
 have h2:=h.lo
 have hD:0 < D:=by
  by_cases c:D = 0
  ·subst c;simp at h1
  ·omega
 have e:(n + 2 ^ 0) * D = (n + 1) * D:=by simp
 rw [e] at h1
 have a1:U / D < n + 1:=(Nat.div_lt_iff_lt_mul hD).2 h1
 have a2:n ≤ U / D:=(Nat.le_div_iff_mul_le hD).2 h2
 omega
set_option maxRecDepth 100000 in
set_option maxHeartbeats 6400000 in
theorem ref_whole (B C:Nat) (U D:Nat) (vu vd:Value) (w:World) (hu:Num B vu (digs U) w) (hd:Num C vd (digs D) w) (hlt:U < 2 ^ 33 * D) (lu:(digs U).length ≤ 1000) (ld:(digs D).length ≤ 100) :
  Calls Tryz.prog 97 #[vu,vd] w fun e w' => e = .returned (.int .i64 ((U / D:Nat):Int)) ∧ Below w.heap.size w w':=by
 have HU:=hid' hu
 have HD:=hid' hd
 have HS:=hid' (Wh.start hlt)
 have HLU:=hid' lu
 have HLD:=hid' ld
 clear hu hd hlt lu ld
 go_enter Tryz.func97,Tryz.ntmps97
 go_wp2
 go_loopw [5,6] (fun nv bv wr => ∃ (n:Nat) (k:Int),-1 ≤ k ∧ nv = .int .i64 n ∧ bv = .int .i64 k ∧ Wh U D n (k + 1).toNat ∧ Below w.heap.size w wr) (fun _ bv _ => (intOf bv + 1).toNat)
 case atStart => exact ⟨0,32,by decide,rfl,rfl,HS.out,Below.refl _ _⟩
 case round =>
  clear HS
  obtain ⟨n,k,hk,rfl,rfl,hw,hbl⟩:=hrel
  have HBL:=hid' hbl
  by_cases c:0 ≤ k
  ·obtain ⟨j,rfl⟩:∃ j:Nat,k = j:=⟨k.toNat,by omega⟩
   have ej:((j:Int) + 1).toNat = j + 1:=by omega
   rw [ej] at hw
   have HW:=hid' hw
   have k33:=hw.k33
   have nb:=hw.nb
   rw [Nat.pow_succ] at nb
   have HUP:=hid' hw.up
   have HST:=hid' hw.stay
   obtain ⟨p,hp⟩:∃ p:Nat,2 ^ j = p:=⟨_,rfl⟩
   rw [hp] at nb HUP HST
   have hp1:wrap64 ((2:Int) ^ j) = (p:Int):=by
    have e:(2:Int) ^ j = (p:Int):=by rw [← hp];simp
    rw [e]
    simp only [wrap64]
    omega
   obtain ⟨m,hm⟩:∃ m:Nat,n + p = m:=⟨_,rfl⟩
   have hm1:(n:Int) + (p:Int) = (m:Int):=by omega
   have hm2:m ≤ 8589934592:=by omega
   rw [hm] at HUP HST
   have hm3:(digs m).length ≤ 5:=digs_length (by omega)
   have hmd:(digs (m * D)).length ≤ 1000:=by
    refine Nat.le_trans (digs_length (k:=5 + 100) ?_) (by omega)
    have d1:=digs_lt D
    have d2:10000 ^ (digs D).length ≤ 10000 ^ 100:=Nat.pow_le_pow_right (by omega) HLD.out
    rw [Nat.pow_add]
    exact Nat.mul_lt_mul'' (by omega) (by omega)
   have HM3:=hid' hm3
   have HMD:=hid' hmd
   clear hw hbl hm3 hmd hp
   go_wp2_with fail
   refine (ref_nat m (by omega) wr).mono ?_
   rintro e w1 ⟨v1,rfl,n1,b1⟩
   have N1:=hid' n1
   have B1:=hid' (HBL.out.trans (b1.mono HBL.out.size))
   clear n1 b1
   go_wp2_with fail
   refine (ref_times _ _ m D v1 vd w1 N1.out (HD.out.below (B1.out.mono (Nat.le_refl _))) (by have:=HM3.out;omega) (by have:=HLD.out;omega)).mono ?_
   rintro e w2 ⟨v2,rfl,n2,b2⟩
   have N2:=hid' n2
   have B2:=hid' (B1.out.trans (b2.mono B1.out.size))
   clear n2 b2
   go_wp2_with fail
   refine (ref_above _ _ (m * D) U v2 vu w2 N2.out (HU.out.below B2.out) HMD.out HLU.out).mono ?_
   rintro e w3 ⟨rfl,b3⟩
   have B3:=hid' (B2.out.trans (b3.mono B2.out.size))
   clear b3
   by_cases c2:U < m * D
   ·have hdec:decide (U < m * D) = true:=by simp [c2]
    go_wp2
    go_roundw
    case rel => exact ⟨n,(j:Int) - 1,by omega,rfl,by go_num,by rw [show ((j:Int) - 1 + 1).toNat = j from by omega];exact HST.out c2,B3.out⟩
    case measure => simp [intOf]
   ·have hdec:decide (U < m * D) = false:=by simp [c2]
    go_wp2
    go_roundw
    case rel => exact ⟨m,(j:Int) - 1,by omega,rfl,by go_num,by rw [show ((j:Int) - 1 + 1).toNat = j from by omega];exact HUP.out (by omega),B3.out⟩
    case measure => simp [intOf]
  ·obtain rfl:k = -1:=by omega
   have e:=hw.done
   clear hw hbl
   go_wp2
   go_ret
   exact ⟨rfl,HBL.out⟩
set_option maxRecDepth 100000 in
theorem ref_curve (i:Int) (w:World) (h0:0 ≤ i) (h1:i ≤ 1024) :
  Calls Tryz.prog 141 #[.int .i64 i] w fun e w' => e = .returned (.int .i64 (gZ i)) ∧ w' = w:=by
 have a0:0 ≤ 4 * i * i:=Int.mul_nonneg (by omega) h0
 have a1:4 * i * i ≤ 4 * i * 1024:=Int.mul_le_mul_of_nonneg_left h1 (by omega)
 have HG:Hid (gZ i = 4 * i * i * (3072 - 2 * i)):=rfl
 have gb:=gZ_bd h0 h1
 rw [HG.out] at gb
 obtain ⟨a,ha⟩:∃ a,4 * i * i = a:=⟨_,rfl⟩
 rw [ha] at a0 a1 HG gb
 obtain ⟨c,hc⟩:∃ c,a * (3072 - 2 * i) = c:=⟨_,rfl⟩
 rw [hc] at HG gb
 rw [HG.out]
 have a2:a ≤ 4194304:=by omega
 clear HG
 go_enter Tryz.func141,Tryz.ntmps141
 go_wp2
 go_ret
 exact ⟨rfl,rfl⟩
set_option maxRecDepth 100000 in
theorem ref_gap (s f z g:Int) (w:World) (h0:0 ≤ z - s) (h1:z - s ≤ 700000) (f0:0 ≤ f) (f1:f < 4294967296) (g0:0 ≤ g) (g1:g < 4294967296) :
  Calls Tryz.prog 95 #[.agg #[.int .i64 s,.int .i64 f],.agg #[.int .i64 z,.int .i64 g]] w fun e w' => e = .returned (.int .i64 ((z - s) * 4294967296 + g - f)) ∧ Below w.heap.size w w':=by
 have B0:=hid' (((Below.refl w.heap.size w).alloc (Nat.le_refl _) (.cells #[.int .i64 s,.int .i64 f] 35)).alloc (by simp) (.cells #[.int .i64 z,.int .i64 g] 35))
 go_enter Tryz.func95,Tryz.ntmps95
 go_wp2
 go_ret
 exact ⟨rfl,B0.out⟩
end Go.Proofs.YtmmkhodaljpjgaaGreatDoor
