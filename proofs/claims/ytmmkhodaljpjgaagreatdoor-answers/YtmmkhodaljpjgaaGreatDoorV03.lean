import Derived.Test.YtmmkhodaljpjgaaGreatDoorV02
import Derived.Deep.QuietTactic
import Derived.BigQuiet
set_option maxRecDepth 100000
set_option maxHeartbeats 6400000
namespace Go.Proofs.YtmmkhodaljpjgaaGreatDoor
open Go.RowKit
namespace Tab
structure Good (ls:List (Int × Int)):Prop where
 pos:0 < ls.length
 fine:Fine ls
 day:∀ i,i < ls.length → (ls.getD i (0,0)).1 % 86400 = 0
 up:∀ i,i + 1 < ls.length → (ls.getD i (0,0)).1 < (ls.getD (i + 1) (0,0)).1
 off:∀ i,i + 1 < ls.length → (ls.getD (i + 1) (0,0)).2 = (ls.getD i (0,0)).2 + 1 ∨ (ls.getD (i + 1) (0,0)).2 = (ls.getD i (0,0)).2 - 1
 len:ls.length ≤ 40
theorem good_of_whole {up ex:Int} {ls:List (Int × Int)} (h:whole up ex ls = true):Good ls:=by
 obtain ⟨hok,hpos⟩:=whole_ok h
 have hat:=okUpTo_at ls.length (Nat.le_refl _) hok
 have hlast:∀ i (hi:i + 1 < ls.length),behindB ls[i] ls[i + 1].1 ls[i + 1].2 = true:=fun i hi => by
  have hfl:=hat (i + 1) hi
  have hne:(ls.take (i + 1)).length ≠ 40:=fun e => by rw [follows_no4 e] at hfl;cases hfl
  have hfi:first ls[i + 1].1 = true:=by
   cases hf:first ls[i + 1].1 with
   | false => rw [follows_no1 hf] at hfl;cases hfl
   | true => rfl
  have ho:=follows_off hfl
  have:=follows_last (ls:=ls.take (i + 1)) hfi ho.1 ho.2 hne i (by simp;omega)
  rw [this] at hfl
  simpa using hfl
 refine ⟨hpos,fine_of_whole h,fun i hi => ?_,fun i hi => ?_,fun i hi => ?_,?_⟩
 ·rw [getD_at i hi];exact (follows_first (hat i hi)).2.1
 ·rw [getD_at i (by omega),getD_at (i + 1) hi]
  have:=hlast i hi
  simp only [behindB,Bool.and_eq_true,decide_eq_true_eq] at this
  exact this.1
 ·rw [getD_at i (by omega),getD_at (i + 1) hi]
  have:=hlast i hi
  simp only [behindB,Bool.and_eq_true,Bool.or_eq_true,beq_iff_eq] at this
  exact this.2
 ·by_cases c:ls.length ≤ 40
  ·exact c
  ·have hfl:=hat 40 (by omega)
   rw [follows_no4 (by simp;omega)] at hfl
   cases hfl
theorem Good.lt {ls:List (Int × Int)} (h:Good ls) (i j:Nat) (hij:i < j) (hj:j < ls.length):(ls.getD i (0,0)).1 < (ls.getD j (0,0)).1:=by
 induction j with
 | zero => omega
 | succ j ih =>
  by_cases e:i = j
  ·subst e;exact h.up i hj
  ·have:=ih (by omega) (by omega);have:=h.up j hj;omega
theorem Good.last {ls:List (Int × Int)} (_:Good ls) (D:Int) (h0:(ls.getD 0 (0,0)).1 ≤ D) (k:Nat) (hk:k < ls.length) :
  ∃ j,j ≤ k ∧ (ls.getD j (0,0)).1 ≤ D ∧ ∀ i,j < i → i ≤ k → D < (ls.getD i (0,0)).1:=by
 induction k with
 | zero => exact ⟨0,Nat.le_refl _,h0,fun i a b => by omega⟩
 | succ k ih =>
  by_cases c:(ls.getD (k + 1) (0,0)).1 ≤ D
  ·exact ⟨k + 1,Nat.le_refl _,c,fun i a b => by omega⟩
  ·obtain ⟨j,hj,hd,hr⟩:=ih (by omega)
   refine ⟨j,by omega,hd,fun i a b => ?_⟩
   by_cases e:i = k + 1
   ·subst e;omega
   ·exact hr i a (by omega)
theorem offAt_eq (ls:List (Int × Int)) (D:Int) (j k:Nat) (hjk:j ≤ k) (hd:(ls.getD j (0,0)).1 ≤ D) (hr:∀ i,j < i → i ≤ k → D < (ls.getD i (0,0)).1):offAt ls D k = (ls.getD j (0,0)).2:=by
 induction k with
 | zero => have:j = 0:=by omega
      subst this;rfl
 | succ k ih =>
  simp only [offAt]
  by_cases e:j = k + 1
  ·subst e;rw [if_pos hd]
  ·have:=hr (k + 1) (by omega) (Nat.le_refl _)
   rw [if_neg (by omega)]
   exact ih (by omega) (fun i a b => hr i a (by omega))
theorem lenFrom_no (ls:List (Int × Int)) (E:Int) (m i:Nat) (h:∀ t,i ≤ t → t < i + m → (ls.getD t (0,0)).1 ≠ E):lenFrom ls E i m = 86400:=by
 induction m generalizing i with
 | zero => rfl
 | succ m ih =>
  simp only [lenFrom]
  rw [if_neg (h i (Nat.le_refl _) (by omega))]
  exact ih (i + 1) (fun t a b => h t (by omega) (by omega))
theorem lenFrom_yes (ls:List (Int × Int)) (E:Int) (m i t:Nat) (h0:i ≤ t) (h1:t < i + m) (ht:(ls.getD t (0,0)).1 = E) (h:∀ q,i ≤ q → q < t → (ls.getD q (0,0)).1 ≠ E) :
  lenFrom ls E i m = 86400 + (ls.getD t (0,0)).2 - (ls.getD (t - 1) (0,0)).2:=by
 induction m generalizing i with
 | zero => omega
 | succ m ih =>
  simp only [lenFrom]
  by_cases e:i = t
  ·subst e;rw [if_pos ht]
  ·rw [if_neg (h i (Nat.le_refl _) (by omega))]
   exact ih (i + 1) (by omega) (by omega) (fun q a b => h q (by omega) b)
theorem Good.next {ls:List (Int × Int)} (h:Good ls) (d:Int) (h0:(ls.getD 0 (0,0)).1 ≤ d * 86400):begins ls (d + 1) = begins ls d + length ls d:=by
 have hp:=h.pos
 obtain ⟨j,hj,hd,hr⟩:=h.last (d * 86400) h0 (ls.length - 1) (by omega)
 have e1:begins ls d = d * 86400 + (ls.getD j (0,0)).2:=by
  unfold begins;rw [if_neg (by omega),offAt_eq ls (d * 86400) j (ls.length - 1) hj hd hr]
 have hb:∀ i,j < i → i < ls.length → (d + 1) * 86400 ≤ (ls.getD i (0,0)).1:=fun i a b => by
  have x:=hr i a (by omega)
  have y:=h.day i b
  omega
 by_cases c:j + 1 < ls.length ∧ (ls.getD (j + 1) (0,0)).1 = (d + 1) * 86400
 ·have e2:begins ls (d + 1) = (d + 1) * 86400 + (ls.getD (j + 1) (0,0)).2:=by
   unfold begins
   rw [if_neg (by omega),offAt_eq ls ((d + 1) * 86400) (j + 1) (ls.length - 1) (by omega) (by omega) (fun i a b => by have:=h.lt (j + 1) i a (by omega);omega)]
  have e3:length ls d = 86400 + (ls.getD (j + 1) (0,0)).2 - (ls.getD j (0,0)).2:=by
   unfold length
   exact lenFrom_yes ls ((d + 1) * 86400) (ls.length - 1) 1 (j + 1) (by omega) (by omega) c.2 (fun q a b => by have:=h.lt q (j + 1) b c.1;omega)
  omega
 ·have hb':∀ i,j < i → i < ls.length → (d + 1) * 86400 < (ls.getD i (0,0)).1:=fun i a b => by
   by_cases e:i = j + 1
   ·subst e
    have:=hb (j + 1) (by omega) b
    have:(ls.getD (j + 1) (0,0)).1 ≠ (d + 1) * 86400:=fun q => c ⟨b,q⟩
    omega
   ·have:=hb (j + 1) (by omega) (by omega)
    have:=h.lt (j + 1) i (by omega) b
    omega
  have e2:begins ls (d + 1) = (d + 1) * 86400 + (ls.getD j (0,0)).2:=by
   unfold begins
   rw [if_neg (by omega),offAt_eq ls ((d + 1) * 86400) j (ls.length - 1) hj (by omega) (fun i a b => hb' i a (by omega))]
  have e3:length ls d = 86400:=by
   unfold length
   refine lenFrom_no ls ((d + 1) * 86400) (ls.length - 1) 1 fun t a b => ?_
   by_cases e:t ≤ j
   ·by_cases e':t = j
    ·subst e';omega
    ·have:=h.lt t j (by omega) (by omega);omega
   ·have:=hb' t (by omega) (by omega);omega
  omega
structure Day (ls:List (Int × Int)) (sec d:Int):Prop where
 from':(ls.getD 0 (0,0)).1 ≤ d * 86400
 lo:begins ls d ≤ sec
 hi:sec < begins ls d + length ls d
theorem Good.begins_ge {ls:List (Int × Int)} (h:Good ls) (d:Int) (h0:(ls.getD 0 (0,0)).1 ≤ d * 86400):d * 86400 ≤ begins ls d ∧ begins ls d ≤ d * 86400 + 200:=by
 have ho:=offAt_bd h.fine (d * 86400) (ls.length - 1) (by have:=h.pos;omega)
 unfold begins
 rw [if_neg (by omega)]
 omega
theorem Good.mono {ls:List (Int × Int)} (h:Good ls) (d:Int) (h0:(ls.getD 0 (0,0)).1 ≤ d * 86400) (m:Nat):begins ls d + 86200 * m ≤ begins ls (d + m):=by
 induction m with
 | zero => simp
 | succ m ih =>
  have a:=h.next (d + m) (by omega)
  have b:=length_bd h.fine h.pos (d + m)
  rw [show d + ((m + 1:Nat):Int) = d + m + 1 from by omega]
  omega
theorem Good.le {ls:List (Int × Int)} (h:Good ls) (d e:Int) (h0:(ls.getD 0 (0,0)).1 ≤ d * 86400) (hde:d < e):begins ls (d + 1) ≤ begins ls e:=by
 have:=h.mono (d + 1) (by omega) (e - (d + 1)).toNat
 rw [show d + 1 + (((e - (d + 1)).toNat:Nat):Int) = e from by omega] at this
 omega
theorem Good.only {ls:List (Int × Int)} (h:Good ls) {sec d e:Int} (a:Day ls sec d) (b:Day ls sec e):d = e:=by
 rcases Int.lt_trichotomy d e with c | c | c
 ·have:=h.le d e a.from' c
  have:=h.next d a.from'
  have:=a.hi
  have:=b.lo
  omega
 ·exact c
 ·have:=h.le e d b.from' c
  have:=h.next e b.from'
  have:=b.hi
  have:=a.lo
  omega
theorem Good.some {ls:List (Int × Int)} (h:Good ls) (sec:Int) (fuel:Nat) (d:Int) (h0:(ls.getD 0 (0,0)).1 ≤ d * 86400) (hb:begins ls d ≤ sec) (hf:sec - begins ls d < fuel):∃ e,Day ls sec e:=by
 induction fuel generalizing d with
 | zero => omega
 | succ fuel ih =>
  by_cases c:sec < begins ls d + length ls d
  ·exact ⟨d,h0,hb,c⟩
  ·have n:=h.next d h0
   have l:=length_bd h.fine h.pos d
   exact ih (d + 1) (by omega) (by omega) (by omega)
theorem Good.first_begins {ls:List (Int × Int)} (h:Good ls):begins ls ((ls.getD 0 (0,0)).1 / 86400) = (ls.getD 0 (0,0)).1 + (ls.getD 0 (0,0)).2:=by
 have hd:=h.day 0 h.pos
 have e:(ls.getD 0 (0,0)).1 / 86400 * 86400 = (ls.getD 0 (0,0)).1:=by omega
 unfold begins
 rw [e,if_neg (by omega),offAt_eq ls _ 0 (ls.length - 1) (by omega) (Int.le_refl _) (fun i a b => h.lt 0 i a (by have:=h.pos;omega))]
theorem Good.when_ge {ls:List (Int × Int)} (h:Good ls) (k:Nat) (hk:k < ls.length):when ls 0 ≤ when ls k:=by
 by_cases e:k = 0
 ·subst e;exact Int.le_refl _
 ·have a:=h.lt 0 k (by omega) hk
  have d0:=h.day 0 h.pos
  have dk:=h.day k hk
  have f0:=(h.fine _ (List.getElem_mem h.pos)).2
  rw [← getD_at 0 h.pos] at f0
  have fk:=(h.fine _ (List.getElem_mem hk)).2
  rw [← getD_at k hk] at fk
  have fp:=(h.fine _ (List.getElem_mem (show k - 1 < ls.length by omega))).2
  rw [← getD_at (k - 1) (by omega)] at fp
  have w0:when ls 0 = (ls.getD 0 (0,0)).1 + (ls.getD 0 (0,0)).2:=by unfold when;simp
  have wk:(ls.getD k (0,0)).1 ≤ when ls k:=by unfold when;split <;> omega
  omega
theorem Good.when_first {ls:List (Int × Int)} (h:Good ls) (sec:Int) (k:Nat) (hk:k ≤ ls.length) (hl:0 ≤ lastAt ls sec k):when ls 0 ≤ sec:=by
 induction k with
 | zero => simp [lastAt] at hl
 | succ k ih =>
  by_cases c:when ls k ≤ sec
  ·have:=h.when_ge k (by omega);omega
  ·simp only [lastAt] at hl
   rw [if_neg c] at hl
   exact ih (by omega) hl
theorem Good.has_day {ls:List (Int × Int)} (h:Good ls) (sec:Int) (hl:0 ≤ lastAt ls sec ls.length):∃ d,Day ls sec d:=by
 have hw:=h.when_first sec ls.length (Nat.le_refl _) hl
 have w0:when ls 0 = (ls.getD 0 (0,0)).1 + (ls.getD 0 (0,0)).2:=by unfold when;simp
 have hb:=h.first_begins
 have hd:=h.day 0 h.pos
 exact h.some sec ((sec - begins ls ((ls.getD 0 (0,0)).1 / 86400)).toNat + 1) ((ls.getD 0 (0,0)).1 / 86400) (by omega) (by omega) (by omega)
end Tab
theorem infoInt:(Tryz.prog.info? 3).map (fun i => (i.zero,i.size,i.bytes)) = some (some (.int .i64 0),1,8):=by kernel_rfl
theorem ref_nat (N:Nat) (hN:N < 10000 ^ 5) (w:World) :
  Calls Tryz.prog 98 #[.int .i64 N] w fun e w' => ∃ v,e = .returned v ∧ Num w.heap.size v (digs N) w' ∧ Below w.heap.size w w':=by
 obtain ⟨i0,hi0,hz0,hz1,hz2⟩:=info_parts infoInt
 have HL:=hid' (digs_length hN)
 have hN2:N < 100000000000000000000:=by simpa using hN
 clear hN
 go_enter Tryz.func98,Tryz.ntmps98
 go_wp2
 go_loopw [0,3] (fun n v wr => ∃ (m:Nat) (xs:List Int),m ≤ N ∧ n = .int .i64 m ∧ Num w.heap.size v xs wr ∧ xs ++ digs m = digs N ∧ Below w.heap.size w wr) (fun n _ _ => (intOf n).toNat)
 case atStart => exact ⟨N,[],Nat.le_refl _,rfl,World.ownsRow_nil _ _ _ _,rfl,Below.refl _ _⟩
 case round =>
  obtain ⟨m,xs,hm,rfl,own,hx,hb⟩:=hrel
  have OWN:=hid' own
  have HB:=hid' hb
  have HX:=hid' hx
  have hsz:=hb.size
  by_cases c:0 < m
  ·have hlen:xs.length + 1 ≤ 5:=by
    have:=HL.out
    rw [← hx,digs_pos c] at this
    simp at this
    omega
   obtain ⟨va,vcp,hv⟩:=own.slice
   subst hv
   have hli:(0:Int) < (m:Int):=by omega
   obtain ⟨q,hq⟩:∃ q:Nat,m / 10000 = q:=⟨_,rfl⟩
   obtain ⟨r,hr⟩:∃ r:Nat,m % 10000 = r:=⟨_,rfl⟩
   have HD:Hid (digs m = (r:Int) :: digs q):=by rw [← hq,← hr];exact digs_pos c
   have q1:(m:Int) / 10000 = (q:Int):=by omega
   have r1:(m:Int) % 10000 = (r:Int):=by omega
   have q2:q < m:=by omega
   have q3:q < 1000000000000000000:=by omega
   have r2:r < 10000:=by omega
   clear own hb hx hq hr
   go_wp2_with (at_builtin;refine wpList_append_own _ (by rfl) (.tmp 6) (.tmp 9) 24 (by rfl) w.heap.size 3 i0 (.int .i64 0) 1 8 Tryz.underlying24 hi0 hz0 hz1 hz2 rfl (by decide) (.slice va xs.length vcp) xs.length (nums xs) (by rfl) (OWN.out.alloc _) ⟨wr.heap.size,0,none⟩ 1 1 [.int .i64 r] (by rfl) (by rfl) (World.news_of_block (cs:=#[.int .i64 r]) (t:=3) (fr:=(0,0)) (heap_alloc_new wr _)) (by simp [Value.oneCell']) (by unfold maxLen;omega) (by omega) (by simp <;> omega) ?_;intro v3 w3 own3 hg3 hn3;have OWN3:=hid' own3;have HG3:=hid' hg3;clear own3 hg3 hn3)
   go_roundw
   case rel =>
    refine ⟨q,xs ++ [(r:Int)],by omega,rfl,?_,?_,(HB.out.alloc hsz _).grown HG3.out (by simp;omega) (own_ge OWN.out)⟩
    ·show World.ownsRow _ _ _ _ _ _ _
     rw [nums_append,List.length_append];exact OWN3.out
    ·rw [List.append_assoc];rw [← HX.out,HD.out];rfl
   case measure => simp [intOf];omega
  ·have hnl:¬ (0:Int) < (m:Int):=by omega
   obtain rfl:m = 0:=by omega
   clear own hb hx
   go_wp2
   go_ret
   refine ⟨_,rfl,?_,HB.out⟩
   have:=HX.out
   rw [digs_zero,List.append_nil] at this
   rw [← this]
   exact OWN.out
theorem int_size:∀ w:World,(sizeOf (Tryz.prog.elem 24)).run Tryz.prog w = .ok 1 w:=fun _ => by kernel_rfl
theorem cut_nums (g L cap k:Nat) (h:k ≤ cap) (w:World) :
  (Instr.slice 24 (.slice (some ⟨g,0,none⟩) L cap) none (some (.int .i64 (k:Int))) none).run Tryz.prog w = .ok (.slice (some ⟨g,0,none⟩) k cap) w:=by
 rw [run_slice_h (P:=Tryz.prog) w 24 (some ⟨g,0,none⟩) L cap (by kernel_rfl) .i64 (k:Int) (by omega) (by omega),int_size]
 simp [sliced,Addr.add,Result.andThen]
theorem Num.take {B g n cap:Nat} {l:List Int} {w:World} (h:Num B (.slice (some ⟨g,0,none⟩) n cap) l w) (k:Nat) (hk:k ≤ l.length):Num B (.slice (some ⟨g,0,none⟩) k cap) (l.take k) w:=by
 have hl:(l.take k).length = k:=by rw [List.length_take];omega
 refine ⟨by rw [nums_length];omega,.inr ?_⟩
 rcases h.2 with ⟨e,_⟩ | ⟨g',cap',cur,e,a,b,c,d,f,q⟩
 ·cases e
 ·cases e
  refine ⟨g,cap,cur,by rw [hl],a,b,by omega,d,f,?_⟩
  rw [hl]
  have:nums (l.take k) = (nums l).take (k * 1):=by simp [nums,List.map_take]
  rw [this,← q,List.take_take]
  congr 1
  omega
theorem ref_trim (B g L cap:Nat) (l:List Int) (n:Nat) (w:World) (h:Num B (.slice (some ⟨g,0,none⟩) L cap) l w) (hL:l.length = L) (hd:Dg l) (hv:valD l = n) (hl:L ≤ 10000) :
  Calls Tryz.prog 143 #[.slice (some ⟨g,0,none⟩) L cap] w fun e w' => ∃ v,e = .returned v ∧ Num B v (digs n) w' ∧ w' = w:=by
 have hc:∀ i,i < L → w.cell? ⟨g,i,none⟩ = some (.int .i64 (l.getD i 0)):=fun i hi => by
  obtain ⟨g',cap',hs,_,_,_,hc⟩:=h.lies (by omega)
  obtain ⟨hgg,_,_⟩:=Value.slice.inj hs
  obtain rfl:g = g':=by simpa using hgg
  exact hc i (by omega)
 have lc:L ≤ cap:=by
  rcases h.2 with ⟨e,_⟩ | ⟨g',cap',cur,e,_,_,h2,_⟩
  ·cases e
  ·obtain ⟨_,_,rfl⟩:=Value.slice.inj e;omega
 have H:=hid' h
 have HC:=hid' hc
 have HD:=hid' hd
 have HV:=hid' hv
 have HL:=hid' hL
 clear h hc hd hv hL
 go_enter Tryz.func143,Tryz.ntmps143
 go_wp2
 go_loopw [3] (fun i wr => wr = w ∧ ∃ k:Nat,k ≤ L ∧ i = .int .i64 k ∧ ∀ j,j < l.length → k ≤ j → l.getD j 0 = 0) (fun i _ => (intOf i).toNat)
 case atStart => exact ⟨rfl,L,Nat.le_refl _,rfl,fun j hj hk => by have:=HL.out;omega⟩
 case round =>
  obtain ⟨rfl,k,hk,rfl,hz⟩:=hrel
  have HZ:=hid' hz
  have hcut:=fun W => cut_nums g L cap k (by omega) W
  clear hz
  by_cases c1:0 < k
  ·have a0:=HC.out (k - 1) (by omega)
   have hli:decide ((0:Int) < (k:Int)) = true:=by simp;omega
   generalize hj:k - 1 = j at *
   have HJ:=hid' hj
   have hsub:(k:Int) - 1 = (j:Int):=by omega
   have z0:(0:Int) ≤ (j:Int):=by omega
   have z1:(j:Int) < (L:Int):=by omega
   clear hj
   obtain ⟨x,hx⟩:∃ x,l.getD j 0 = x:=⟨_,rfl⟩
   have HX:=hid' hx
   rw [hx] at a0
   clear hx
   by_cases c2:x = 0
   ·subst c2
    go_wp2
    go_roundw
    case rel =>
     refine ⟨by trivial,j,by have:=HJ.out;omega,by go_num,fun i hi hk2 => ?_⟩
     by_cases e:i = j
     ·subst e
      exact HX.out
     ·exact HZ.out i hi (by have:=HJ.out;omega)
    case measure => have:=HJ.out;simp [intOf];omega
   ·have ne:(x == 0) = false:=beq_eq_false_iff_ne.2 c2
    go_wp2
    go_ret
    refine ⟨_,rfl,?_,rfl⟩
    have e:=trim_digs' (k:=k) HD.out HV.out (by have:=HL.out;omega) HZ.out (fun _ h0 => by
     have e1:=HX.out
     have e2:=HJ.out
     rw [e2] at h0
     exact c2 (e1.symm.trans h0))
    rw [← e]
    exact H.out.take k (by have:=HL.out;omega)
  ·have hli:decide ((0:Int) < (k:Int)) = false:=by simp;omega
   obtain rfl:k = 0:=by omega
   go_wp2
   go_ret
   refine ⟨_,rfl,?_,rfl⟩
   have e:=trim_digs' (k:=0) HD.out HV.out (by omega) HZ.out (fun h => absurd h (by omega))
   rw [← e]
   exact H.out.take 0 (by omega)
theorem ref_above (B C:Nat) (a b:Nat) (va vb:Value) (w:World) (ha:Num B va (digs a) w) (hb:Num C vb (digs b) w) (la:(digs a).length ≤ 1000) (lb:(digs b).length ≤ 1000) :
  Calls Tryz.prog 100 #[va,vb] w fun e w' => e = .returned (.bool (decide (b < a))) ∧ Below w.heap.size w w':=by
 obtain ⟨aa,ac,rfl⟩:=ha.slice
 obtain ⟨ba,bc,rfl⟩:=hb.slice
 have HA:=hid' ha
 have HB:=hid' hb
 have HN:=hid' (above_len (a:=a) (b:=b))
 clear ha hb
 obtain ⟨L,hL⟩:∃ L,(digs a).length = L:=⟨_,rfl⟩
 obtain ⟨M,hM⟩:∃ M,(digs b).length = M:=⟨_,rfl⟩
 have HLA':=hid' hL
 have HLB':=hid' hM
 rw [hL] at la HN ⊢
 rw [hM] at lb HN ⊢
 clear hL hM
 go_enter Tryz.func100,Tryz.ntmps100
 by_cases c:L = M
 case neg =>
  have ne:((L:Int) != (M:Int)) = true:=bne_iff_ne.2 (by omega)
  have e:=HN.out c
  go_wp2
  go_ret
  refine ⟨?_,Below.refl _ _⟩
  rw [← e]
  congr 2
 subst c
 go_wp2
 go_loopw [5] (fun i wr => Below w.heap.size w wr ∧ ∃ k:Int,-1 ≤ k ∧ k < L ∧ i = .int .i64 k ∧ (digs a).drop (k + 1).toNat = (digs b).drop (k + 1).toNat) (fun i _ => (intOf i + 1).toNat)
 case atStart => exact ⟨Below.refl _ _,(L:Int) - 1,by omega,by omega,rfl,by rw [List.drop_eq_nil_of_le (by have:=HLA'.out;omega),List.drop_eq_nil_of_le (by have:=HLB'.out;omega)]⟩
 case round =>
  obtain ⟨hbl,k,hk,hk2,rfl,hz⟩:=hrel
  have HBL:=hid' hbl
  have HZ:=hid' hz
  clear hz
  by_cases c1:0 ≤ k
  ·obtain ⟨j,rfl⟩:∃ j:Nat,k = j:=⟨k.toNat,by omega⟩
   obtain ⟨ga,ca,e1,lga,_,_,qa⟩:=HA.out.lies (by have:=HLA'.out;omega)
   obtain ⟨gb,cb,e2,lgb,_,_,qb⟩:=HB.out.lies (by have:=HLB'.out;omega)
   obtain ⟨rfl,_,rfl⟩:=Value.slice.inj e1
   obtain ⟨rfl,_,rfl⟩:=Value.slice.inj e2
   have a0:=(hbl.cell (p:=⟨ga,j,none⟩) lga).trans (qa j (by have:=HLA'.out;omega))
   have b0:=(hbl.cell (p:=⟨gb,j,none⟩) lgb).trans (qb j (by have:=HLB'.out;omega))
   have HAT:=hid' (above_at' (a:=a) (b:=b) (i:=j) (by have:=HLA'.out;omega) (by have:=HLB'.out;omega) HZ.out)
   have HDS:=hid' (drop_same (a:=digs a) (b:=digs b) (i:=j) (by have:=HLA'.out;omega) (by have:=HLB'.out;omega) HZ.out)
   clear hbl qa qb e1 e2
   generalize (digs a).getD j 0 = x at HAT HDS a0
   generalize (digs b).getD j 0 = y at HAT HDS b0
   by_cases c2:x = y
   ·subst c2
    have HDS2:=hid' (HDS.out rfl)
    have ne:(x != x) = false:=by simp
    clear HDS HAT
    go_wp2_with fail
    go_quiet (fail)
    go_wp2
    go_roundw
    case rel => exact ⟨below_drewN HBL.out nq,(j:Int) - 1,by omega,by omega,by go_num,(by rw [show ((j:Int) - 1 + 1).toNat = j from by omega];exact HDS2.out)⟩
    case measure => simp [intOf]
   ·have ne:(x != y) = true:=bne_iff_ne.2 c2
    have e:=hid' (HAT.out c2)
    clear HAT HDS
    go_wp2_with fail
    go_quiet (fail)
    go_wp2_with fail
    go_quiet (fail)
    go_wp2
    go_ret
    refine ⟨?_,below_drewN (below_drewN HBL.out _) _⟩
    rw [← e.out]
    rfl
  ·obtain rfl:k = -1:=by omega
   have he:a = b:=digs_same (by have:=HZ.out;simpa using this)
   clear hbl
   go_wp2
   go_ret
   refine ⟨?_,HBL.out⟩
   subst he;simp
namespace Txt
def isDig (c:Int):Bool:=decide (48 ≤ c) && decide (c ≤ 57)
def isNum (s:ByteArray):Bool:=!decide (s.size = 0 ∨ 11 < s.size) && digitsB s s.size
theorem isNum_iff (s:ByteArray):isNum s = true ↔ ¬ (s.size = 0 ∨ 11 < s.size) ∧ Digits s s.size:=by
 unfold isNum
 rw [Bool.and_eq_true,digitsB_iff,Bool.not_eq_true',decide_eq_false_iff_not]
theorem isNum_yes {s:ByteArray} (h:¬ (s.size = 0 ∨ 11 < s.size)) (hd:Digits s s.size):isNum s = true:=(isNum_iff s).2 ⟨h,hd⟩
theorem isNum_no {s:ByteArray} (h:¬ (¬ (s.size = 0 ∨ 11 < s.size) ∧ Digits s s.size)):isNum s = false:=by
 cases e:isNum s with
 | false => rfl
 | true => exact absurd ((isNum_iff s).1 e) h
theorem isNum_is {s:ByteArray} (h:isNum s = true):¬ (s.size = 0 ∨ 11 < s.size) ∧ Digits s s.size:=(isNum_iff s).1 h
theorem isNum_not {s:ByteArray} (h:isNum s = false):¬ (¬ (s.size = 0 ∨ 11 < s.size) ∧ Digits s s.size):=fun e => by rw [(isNum_iff s).2 e] at h;cases h
theorem number_of {s:ByteArray} (h:isNum s = true):number s = numTo s s.size:=number_yes (isNum_is h).1 (isNum_is h).2
theorem number_neg {s:ByteArray} (h:isNum s = false):number s = -1:=by
 by_cases c:s.size = 0 ∨ 11 < s.size
 ·exact number_no1 c
 ·exact number_no2 fun d => isNum_not h ⟨c,d⟩
theorem numTo_le {s:ByteArray} (h:isNum s = true):0 ≤ numTo s s.size ∧ numTo s s.size < 100000000000:=by
 obtain ⟨h0,hd⟩:=isNum_is h
 have a:=numTo_bd _ hd
 refine ⟨a.1,Int.lt_of_lt_of_le a.2 ?_⟩
 have:s.size ≤ 11:=by omega
 by_cases e:s.size = 11
 ·rw [e];decide
 ·exact Int.le_trans (pow10_le s.size (by omega)) (by decide)
def isHex (s:ByteArray):Bool:=!decide (s.size = 0 ∨ 8 < s.size) && hexesB s s.size
theorem isHex_iff (s:ByteArray):isHex s = true ↔ ¬ (s.size = 0 ∨ 8 < s.size) ∧ Hexes s s.size:=by
 unfold isHex
 rw [Bool.and_eq_true,hexesB_iff,Bool.not_eq_true',decide_eq_false_iff_not]
theorem isHex_yes {s:ByteArray} (h:¬ (s.size = 0 ∨ 8 < s.size)) (hd:Hexes s s.size):isHex s = true:=(isHex_iff s).2 ⟨h,hd⟩
theorem isHex_no {s:ByteArray} (h:¬ (¬ (s.size = 0 ∨ 8 < s.size) ∧ Hexes s s.size)):isHex s = false:=by
 cases e:isHex s with
 | false => rfl
 | true => exact absurd ((isHex_iff s).1 e) h
theorem isHex_is {s:ByteArray} (h:isHex s = true):¬ (s.size = 0 ∨ 8 < s.size) ∧ Hexes s s.size:=(isHex_iff s).1 h
theorem isHex_not {s:ByteArray} (h:isHex s = false):¬ (¬ (s.size = 0 ∨ 8 < s.size) ∧ Hexes s s.size):=fun e => by rw [(isHex_iff s).2 e] at h;cases h
theorem word_of {s:ByteArray} (h:isHex s = true):word s = noughts.extract s.size 8 ++ s:=word_yes (isHex_is h).1 (isHex_is h).2
theorem word_none {s:ByteArray} (h:isHex s = false):word s = ⟨#[]⟩:=by
 by_cases c:s.size = 0 ∨ 8 < s.size
 ·exact word_no1 c
 ·exact word_no2 fun d => isHex_not h ⟨c,d⟩
theorem noughts_more:∀ a t:Fin 9,a.val + t.val < 8 → (ByteArray.mk #[48]) ++ noughts.extract a.val (a.val + t.val) = noughts.extract a.val (a.val + t.val + 1):=by decide +kernel
theorem noughts_none:∀ a:Fin 9,noughts.extract a.val (a.val + 0) = ByteArray.empty:=by decide +kernel
theorem noughts_size (a t:Nat) (h:a + t ≤ 8):(noughts.extract a (a + t)).size = t:=by
 rw [ByteArray.size_extract]
 have:noughts.size = 8:=rfl
 omega
end Txt
theorem is_digit (c:Int) (w:World):Calls Tryz.prog 201 #[.int .u8 c] w fun e w' => e = .returned (.bool (Txt.isDig c)) ∧ w' = w:=by
 by_cases h0:48 ≤ c
 ·by_cases h1:c ≤ 57
  ·have H:Hid (Txt.isDig c = true):=by show _ = _;unfold Txt.isDig;simp [h0,h1]
   go_enter Tryz.func201,Tryz.ntmps201
   go_wp2
   go_ret
   exact ⟨ret_bool H.out.symm,rfl⟩
  ·have H:Hid (Txt.isDig c = false):=by show _ = _;unfold Txt.isDig;simp [h0,h1]
   go_enter Tryz.func201,Tryz.ntmps201
   go_wp2
   go_ret
   exact ⟨ret_bool H.out.symm,rfl⟩
 ·have H:Hid (Txt.isDig c = false):=by show _ = _;unfold Txt.isDig;simp [h0]
  go_enter Tryz.func201,Tryz.ntmps201
  go_wp2
  go_ret
  exact ⟨ret_bool H.out.symm,rfl⟩
theorem is_number (s:ByteArray) (w:World) (hs:s.size ≤ 1000000000) :
  Calls Tryz.prog 190 #[.string s] w fun e w' => e = .returned (.bool (Txt.isNum s)) ∧ w' = w:=by
 by_cases h0:s.size < 1
 ·have H:Hid (Txt.isNum s = false):=Txt.isNum_no fun h => h.1 (.inl (by omega))
  go_enter Tryz.func190,Tryz.ntmps190
  go_wp2
  go_ret
  exact ⟨ret_bool H.out.symm,rfl⟩
 ·by_cases h1:11 < s.size
  ·have H:Hid (Txt.isNum s = false):=Txt.isNum_no fun h => h.1 (.inr h1)
   go_enter Tryz.func190,Tryz.ntmps190
   go_wp2
   go_ret
   exact ⟨ret_bool H.out.symm,rfl⟩
  ·go_enter Tryz.func190,Tryz.ntmps190
   go_wp2
   go_loop [3] (fun i => ∃ k:Nat,k ≤ s.size ∧ i = .int .i64 k ∧ Txt.Digits s k) (fun i => s.size - (intOf i).toNat)
   case atStart => exact ⟨0,by omega,rfl,fun i hi => by omega⟩
   case round =>
    obtain ⟨k,hk,rfl,hdg⟩:=hrel
    by_cases hlt:k < s.size
    ·have hby:=Txt.byte_at s k hlt
     have HBY:=hid' hby
     have HDG:=hid' hdg
     have h8:=s[k].toNat_lt
     have HD:=hid' (is_digit (s[k].toNat:Int) w)
     clear hdg hby
     by_cases c:48 ≤ (s[k].toNat:Int) ∧ (s[k].toNat:Int) ≤ 57
     ·have hd:Txt.isDig (s[k].toNat:Int) = true:=by unfold Txt.isDig;simp [c.1,c.2]
      rw [hd] at HD
      have HD2:Hid (Txt.Digits s (k + 1)):=fun i hi => by
       by_cases e:i = k
       ·subst e;rw [HBY.out];exact c
       ·exact HDG.out i (by omega)
      clear hd c
      go_wp2_with (go_at_call 201;refine HD.out.mono ?_;rintro e w' ⟨rfl,rfl⟩)
      exact ⟨⟨k + 1,by omega,by go_num,HD2.out⟩,by simp [intOf];omega⟩
     ·have hd:Txt.isDig (s[k].toNat:Int) = false:=by unfold Txt.isDig;simp;omega
      rw [hd] at HD
      have H:Hid (Txt.isNum s = false):=Txt.isNum_no fun h => by have:=h.2 k hlt;rw [HBY.out] at this;exact c this
      clear hd c
      go_wp2_with (go_at_call 201;refine HD.out.mono ?_;rintro e w' ⟨rfl,rfl⟩)
      go_ret
      exact ⟨ret_bool H.out.symm,rfl⟩
    ·have ek:k = s.size:=by omega
     have H:Hid (Txt.isNum s = true):=Txt.isNum_yes (by omega) (by rw [← ek];exact hdg)
     clear ek hdg
     go_wp2
     go_ret
     exact ⟨ret_bool H.out.symm,rfl⟩
theorem value_of (s:ByteArray) (w:World) (hs:Txt.isNum s = true) :
  Calls Tryz.prog 165 #[.string s] w fun e w' => e = .returned (.int .i64 (Txt.numTo s s.size)) ∧ w' = w:=by
 obtain ⟨h1,hd⟩:=Txt.isNum_is hs
 have h11:s.size ≤ 11:=by omega
 have HD:=hid' hd
 clear h1 hd hs
 go_enter Tryz.func165,Tryz.ntmps165
 go_wp2
 go_loop [3,4] (fun r i => ∃ k:Nat,k ≤ s.size ∧ i = .int .i64 k ∧ r = .int .i64 (Txt.numTo s k)) (fun _ i => s.size - (intOf i).toNat)
 case atStart => exact ⟨0,by omega,rfl,rfl⟩
 case round =>
  obtain ⟨k,hk,rfl,rfl⟩:=hrel
  by_cases hlt:k < s.size
  ·have hbd:=Txt.numTo_bd k (s:=s) (fun i hi => HD.out i (by omega))
   have hpw:=Txt.pow10_le k (by omega)
   have hdk:=HD.out k hlt
   rw [Txt.byte_at s k hlt] at hdk
   have HS:Hid (Txt.numTo s (k + 1) = 10 * Txt.numTo s k + ((s[k].toNat:Int) - 48)):=by show _ = _;simp only [Txt.numTo];rw [Txt.byte_at s k hlt]
   generalize Txt.numTo s k = v at *
   generalize hP:(10:Int) ^ k = p10 at *
   clear hP
   go_wp2
   exact ⟨⟨k + 1,by omega,by go_num,by rw [HS.out];congr 1;omega⟩,by simp [intOf];omega⟩
  ·have ek:k = s.size:=by omega
   have H:Hid (Txt.numTo s k = Txt.numTo s s.size):=by show _ = _;rw [ek]
   clear ek
   go_wp2
   go_ret
   exact ⟨ret_int H.out,rfl⟩
theorem is_hex (s:ByteArray) (w:World) (hs:s.size ≤ 1000000000) :
  Calls Tryz.prog 188 #[.string s] w fun e w' => e = .returned (.bool (Txt.isHex s)) ∧ w' = w:=by
 by_cases h0:s.size < 1
 ·have H:Hid (Txt.isHex s = false):=Txt.isHex_no fun h => h.1 (.inl (by omega))
  go_enter Tryz.func188,Tryz.ntmps188
  go_wp2
  go_ret
  exact ⟨ret_bool H.out.symm,rfl⟩
 ·by_cases h1:8 < s.size
  ·have H:Hid (Txt.isHex s = false):=Txt.isHex_no fun h => h.1 (.inr h1)
   go_enter Tryz.func188,Tryz.ntmps188
   go_wp2
   go_ret
   exact ⟨ret_bool H.out.symm,rfl⟩
  ·go_enter Tryz.func188,Tryz.ntmps188
   go_wp2
   go_loop [3] (fun i => ∃ k:Nat,k ≤ s.size ∧ i = .int .i64 k ∧ Txt.Hexes s k) (fun i => s.size - (intOf i).toNat)
   case atStart => exact ⟨0,by omega,rfl,fun i hi => by omega⟩
   case round =>
    obtain ⟨k,hk,rfl,hdg⟩:=hrel
    by_cases hlt:k < s.size
    ·have hby:=Txt.byte_at s k hlt
     have HBY:=hid' hby
     have HDG:=hid' hdg
     have h8:=s[k].toNat_lt
     have HD:=hid' (is_digit (s[k].toNat:Int) w)
     clear hdg hby
     by_cases c:Txt.HexB (s[k].toNat:Int)
     ·have HD2:Hid (Txt.Hexes s (k + 1)):=fun i hi => by
       by_cases e:i = k
       ·subst e;rw [HBY.out];exact c
       ·exact HDG.out i (by omega)
      rcases c with ⟨c1,c2⟩ | ⟨c1,c2⟩
      ·have hd:Txt.isDig (s[k].toNat:Int) = true:=by unfold Txt.isDig;simp [c1,c2]
       rw [hd] at HD
       clear hd
       go_wp2_with (go_at_call 201;refine HD.out.mono ?_;rintro e w' ⟨rfl,rfl⟩)
       exact ⟨⟨k + 1,by omega,by go_num,HD2.out⟩,by simp [intOf];omega⟩
      ·have hd:Txt.isDig (s[k].toNat:Int) = false:=by unfold Txt.isDig;simp;omega
       rw [hd] at HD
       clear hd
       go_wp2_with (go_at_call 201;refine HD.out.mono ?_;rintro e w' ⟨rfl,rfl⟩)
       exact ⟨⟨k + 1,by omega,by go_num,HD2.out⟩,by simp [intOf];omega⟩
     ·have H:Hid (Txt.isHex s = false):=Txt.isHex_no fun h => c (by have:=h.2 k hlt;rw [HBY.out] at this;exact this)
      unfold Txt.HexB at c
      have hd:Txt.isDig (s[k].toNat:Int) = false:=by unfold Txt.isDig;simp;omega
      rw [hd] at HD
      clear hd
      by_cases c2:(s[k].toNat:Int) < 97
      ·clear c
       go_wp2_with (go_at_call 201;refine HD.out.mono ?_;rintro e w' ⟨rfl,rfl⟩)
       go_ret
       exact ⟨ret_bool H.out.symm,rfl⟩
      ·have c4:(102:Int) < (s[k].toNat:Int):=by omega
       clear c
       go_wp2_with (go_at_call 201;refine HD.out.mono ?_;rintro e w' ⟨rfl,rfl⟩)
       go_ret
       exact ⟨ret_bool H.out.symm,rfl⟩
    ·have ek:k = s.size:=by omega
     have H:Hid (Txt.isHex s = true):=Txt.isHex_yes (by omega) (by rw [← ek];exact hdg)
     clear ek hdg
     go_wp2
     go_ret
     exact ⟨ret_bool H.out.symm,rfl⟩
theorem full_hex (s:ByteArray) (w:World) (hs:s.size ≤ 8) :
  Calls Tryz.prog 189 #[.string s] w fun e w' => e = .returned (.string (Txt.noughts.extract s.size 8 ++ s)) ∧ w' = w:=by
 go_enter Tryz.func189,Tryz.ntmps189
 go_wp2
 go_loop [3] (fun i => ∃ t:Nat,s.size + t ≤ 8 ∧ i = .string (Txt.noughts.extract s.size (s.size + t) ++ s)) (fun i => match i with | .string b => 8 - b.size | _ => 0)
 case atStart => exact ⟨0,by omega,by rw [Txt.noughts_none ⟨s.size,by omega⟩,ByteArray.empty_append]⟩
 case round =>
  obtain ⟨t,ht,rfl⟩:=hrel
  have hz:(Txt.noughts.extract s.size (s.size + t) ++ s).size = s.size + t:=by
   rw [ByteArray.size_append,Txt.noughts_size _ _ ht];omega
  by_cases hlt:s.size + t < 8
  ·have H:Hid ((ByteArray.mk #[48]) ++ (Txt.noughts.extract s.size (s.size + t) ++ s) = Txt.noughts.extract s.size (s.size + (t + 1)) ++ s):=by
    show _ = _
    rw [← ByteArray.append_assoc,Txt.noughts_more ⟨s.size,by omega⟩ ⟨t,by omega⟩ hlt]
    rfl
   generalize Txt.noughts.extract s.size (s.size + t) ++ s = f at *
   go_wp2
   refine ⟨⟨t + 1,by omega,by rw [← H.out]⟩,?_⟩
   show 8 - ((ByteArray.mk #[48]) ++ f).size < 8 - f.size
   rw [ByteArray.size_append,hz]
   have:(ByteArray.mk #[48]).size = 1:=rfl
   omega
  ·have e8:s.size + t = 8:=by omega
   have H:Hid (Txt.noughts.extract s.size (s.size + t) ++ s = Txt.noughts.extract s.size 8 ++ s):=by show _ = _;rw [e8]
   generalize Txt.noughts.extract s.size (s.size + t) ++ s = f at *
   go_wp2
   go_ret
   exact ⟨ret_str H.out,rfl⟩
theorem long_yes (y:Int) (w:World) (h0:0 ≤ y) (h:Cal.lp y = 1) :
  Calls Tryz.prog 116 #[.int .i64 y] w fun e w' => e = .returned (.bool true) ∧ w' = w:=by
 have h4:y % 4 = 0:=by unfold Cal.lp at h;split at h <;> omega
 have hr:¬ y % 100 = 0 ∨ y % 400 = 0:=by unfold Cal.lp at h;split at h <;> omega
 clear h
 by_cases c:y % 100 = 0
 ·have d:y % 400 = 0:=by omega
  clear hr
  go_enter Tryz.func116,Tryz.ntmps116
  go_wp2
  go_ret
  exact ⟨rfl,rfl⟩
 ·clear hr
  go_enter Tryz.func116,Tryz.ntmps116
  go_wp2
  go_ret
  exact ⟨rfl,rfl⟩
theorem long_no (y:Int) (w:World) (h0:0 ≤ y) (h:Cal.lp y = 0) :
  Calls Tryz.prog 116 #[.int .i64 y] w fun e w' => e = .returned (.bool false) ∧ w' = w:=by
 have hr:¬ y % 4 = 0 ∨ (y % 100 = 0 ∧ ¬ y % 400 = 0):=by unfold Cal.lp at h;split at h <;> omega
 clear h
 by_cases c:y % 4 = 0
 ·have d:y % 100 = 0:=by omega
  have f:(y % 400 == 0) = false:=by rw [beq_eq_false_iff_ne];omega
  clear hr
  go_enter Tryz.func116,Tryz.ntmps116
  go_wp2
  go_ret
  exact ⟨rfl,rfl⟩
 ·have f:(y % 400 == 0) = false:=by rw [beq_eq_false_iff_ne];omega
  clear hr
  go_enter Tryz.func116,Tryz.ntmps116
  go_wp2
  go_ret
  exact ⟨rfl,rfl⟩
theorem year_len (y:Int) (w:World) (h0:0 ≤ y) :
  Calls Tryz.prog 70 #[.int .i64 y] w fun e w' => e = .returned (.int .i64 (365 + Cal.lp y)) ∧ w' = w:=by
 by_cases hl:Cal.lp y = 1
 ·have H:Hid (365 + Cal.lp y = 366):=by show _ = _;omega
  go_enter Tryz.func70,Tryz.ntmps70
  go_wp2_with (go_at_call 116;refine (long_yes _ _ h0 hl).mono ?_;rintro e w' ⟨rfl,rfl⟩)
  go_ret
  exact ⟨ret_int H.out.symm,rfl⟩
 ·have hz:Cal.lp y = 0:=by have:=Cal.lp_01 y;omega
  have H:Hid (365 + Cal.lp y = 365):=by show _ = _;omega
  go_enter Tryz.func70,Tryz.ntmps70
  go_wp2_with (go_at_call 116;refine (long_no _ _ h0 hz).mono ?_;rintro e w' ⟨rfl,rfl⟩)
  go_ret
  exact ⟨ret_int H.out.symm,rfl⟩
theorem month_len (y m:Int) (w:World) (h0:0 ≤ y) :
  Calls Tryz.prog 69 #[.int .i64 y,.int .i64 m] w fun e w' => e = .returned (.int .i64 (Cal.dim y m)) ∧ w' = w:=by
 by_cases hl:Cal.lp y = 1
 ·by_cases h2:m = 2
  ·subst h2
   have H:Hid (Cal.dim y 2 = 29):=by show _ = _;unfold Cal.dim;rw [if_pos rfl];omega
   go_enter Tryz.func69,Tryz.ntmps69
   go_wp2_with (go_at_call 116;refine (long_yes _ _ h0 hl).mono ?_;rintro e w' ⟨rfl,rfl⟩)
   go_ret
   exact ⟨ret_int H.out.symm,rfl⟩
  ·by_cases h3:m = 4 ∨ m = 6 ∨ m = 9 ∨ m = 11
   ·rcases h3 with rfl | rfl | rfl | rfl
    all_goals
     go_enter Tryz.func69,Tryz.ntmps69
     go_wp2_with (go_at_call 116;refine (long_yes _ _ h0 hl).mono ?_;rintro e w' ⟨rfl,rfl⟩)
     go_ret
     exact ⟨rfl,rfl⟩
   ·have H:Hid (Cal.dim y m = 31):=by show _ = _;unfold Cal.dim;rw [if_neg h2,if_neg h3]
    have a2:(m == 2) = false:=by rw [beq_eq_false_iff_ne];omega
    have a4:(m == 4) = false:=by rw [beq_eq_false_iff_ne];omega
    have a6:(m == 6) = false:=by rw [beq_eq_false_iff_ne];omega
    have a9:(m == 9) = false:=by rw [beq_eq_false_iff_ne];omega
    have a11:(m == 11) = false:=by rw [beq_eq_false_iff_ne];omega
    clear h3 h2
    go_enter Tryz.func69,Tryz.ntmps69
    go_wp2_with (go_at_call 116;refine (long_yes _ _ h0 hl).mono ?_;rintro e w' ⟨rfl,rfl⟩)
    go_ret
    exact ⟨ret_int H.out.symm,rfl⟩
 ·have hz:Cal.lp y = 0:=by have:=Cal.lp_01 y;omega
  by_cases h2:m = 2
  ·subst h2
   have H:Hid (Cal.dim y 2 = 28):=by show _ = _;unfold Cal.dim;rw [if_pos rfl];omega
   go_enter Tryz.func69,Tryz.ntmps69
   go_wp2_with (go_at_call 116;refine (long_no _ _ h0 hz).mono ?_;rintro e w' ⟨rfl,rfl⟩)
   go_ret
   exact ⟨ret_int H.out.symm,rfl⟩
  ·by_cases h3:m = 4 ∨ m = 6 ∨ m = 9 ∨ m = 11
   ·rcases h3 with rfl | rfl | rfl | rfl
    all_goals
     go_enter Tryz.func69,Tryz.ntmps69
     go_wp2_with (go_at_call 116;refine (long_no _ _ h0 hz).mono ?_;rintro e w' ⟨rfl,rfl⟩)
     go_ret
     exact ⟨rfl,rfl⟩
   ·have H:Hid (Cal.dim y m = 31):=by show _ = _;unfold Cal.dim;rw [if_neg h2,if_neg h3]
    have a2:(m == 2) = false:=by rw [beq_eq_false_iff_ne];omega
    have a4:(m == 4) = false:=by rw [beq_eq_false_iff_ne];omega
    have a6:(m == 6) = false:=by rw [beq_eq_false_iff_ne];omega
    have a9:(m == 9) = false:=by rw [beq_eq_false_iff_ne];omega
    have a11:(m == 11) = false:=by rw [beq_eq_false_iff_ne];omega
    clear h3 h2
    go_enter Tryz.func69,Tryz.ntmps69
    go_wp2_with (go_at_call 116;refine (long_no _ _ h0 hz).mono ?_;rintro e w' ⟨rfl,rfl⟩)
    go_ret
    exact ⟨ret_int H.out.symm,rfl⟩
namespace Tab
theorem first_gap {a b:Int} (ha:IsFirst a) (hb:IsFirst b) (h:a < b):a + 2419200 ≤ b:=by
 obtain ⟨a0,a1,y,m,hi,he⟩:=ha
 obtain ⟨b0,b1,z,o,gi,ge⟩:=hb
 have ym1:=hi.m1
 have ym2:=hi.m2
 have zm1:=gi.m1
 have zm2:=gi.m2
 have dm:=Cal.dim_bd y m
 have cs:=Cal.cum_succ y m ym1 ym2
 suffices hs:a / 86400 + 28 ≤ b / 86400 by omega
 rcases Int.lt_trichotomy y z with c | c | c
 ·have e13:=Cal.cum_mono y (m + 1) 13 (by omega)
  have ys:=Cal.yb_succ y
  have ce:=Cal.cum_end y
  have ymn:=Cal.yb_mono (y + 1) z (by omega)
  have cb:=Cal.cum_bd z o zm1 (by omega)
  omega
 ·subst c
  have hmo:m < o:=by
   by_cases q:o ≤ m
   ·have:=Cal.cum_mono y o m q;omega
   ·omega
  have:=Cal.cum_mono y (m + 1) o (by omega)
  omega
 ·have q1:=gi.year
  have q2:=Cal.yb_mono (z + 1) y (by omega)
  have q3:=hi.year
  omega
theorem whole_bds {up ex:Int} {ls:List (Int × Int)} (h:Tab.whole up ex ls = true):0 ≤ up ∧ up < ex ∧ ex ≤ 34000000000:=by
 unfold Tab.whole at h
 simp only [Bool.and_eq_true,decide_eq_true_eq] at h
 exact ⟨h.1,h.2.1,h.2.2.1⟩
def Fit (ls:List (Int × Int)):Prop:=0 < ls.length ∧ okUpTo ls ls.length = true
theorem Fit.whole {ls:List (Int × Int)} (h:Fit ls):whole 0 1 ls = true:=by
 rw [whole_is (by omega) (by omega) (by omega) (by have:=h.1;omega)];exact h.2
theorem Fit.good {ls:List (Int × Int)} (h:Fit ls):Good ls:=good_of_whole h.whole
theorem fit_of_whole {up ex:Int} {ls:List (Int × Int)} (h:Tab.whole up ex ls = true):Fit ls:=⟨(whole_ok h).2,(whole_ok h).1⟩
theorem Fit.isFirst {ls:List (Int × Int)} (h:Fit ls) (i:Nat) (hi:i < ls.length):IsFirst (ls.getD i (0,0)).1:=by
 rw [getD_at i hi];exact follows_first (okUpTo_at ls.length (Nat.le_refl _) h.2 i hi)
theorem Fit.gap {ls:List (Int × Int)} (h:Fit ls) (i:Nat) (hi:i + 1 < ls.length):(ls.getD i (0,0)).1 + 2419200 ≤ (ls.getD (i + 1) (0,0)).1 :=
 first_gap (h.isFirst i (by omega)) (h.isFirst (i + 1) hi) (h.good.up i hi)
theorem okUpTo_take (ls:List (Int × Int)) (k m:Nat) (hm:m ≤ k):okUpTo (ls.take k) m = okUpTo ls m:=by
 induction m with
 | zero => rfl
 | succ m ih =>
  simp only [okUpTo]
  rw [ih (by omega),List.getElem?_take_of_lt (by omega),List.take_take,Nat.min_eq_left (by omega)]
theorem okUpTo_append (ls r:List (Int × Int)) (m:Nat) (hm:m ≤ ls.length):okUpTo (ls ++ r) m = okUpTo ls m:=by
 have:=okUpTo_take (ls ++ r) ls.length m hm
 rw [List.take_left] at this
 exact this.symm
theorem Fit.take {ls:List (Int × Int)} (h:Fit ls) (k:Nat) (h0:0 < k) (hk:k ≤ ls.length):Fit (ls.take k):=by
 refine ⟨by simp;omega,?_⟩
 rw [okUpTo_take _ _ _ (by simp;omega)]
 cases hq:okUpTo ls (ls.take k).length with
 | true => rfl
 | false =>
  have:=okUpTo_no hq (show _ ≤ ls.length by simp;omega)
  rw [h.2] at this;cases this
theorem Fit.left {a b:List (Int × Int)} (h:Fit (a ++ b)) (h0:0 < a.length):Fit a:=by
 have:=h.take a.length h0 (by simp)
 rwa [List.take_left] at this
theorem Fit.grow {ls:List (Int × Int)} {a o:Int} (h:Fit ls) (hf:follows ls a o = true):Fit (ls ++ [(a,o)]):=by
 refine ⟨by simp,?_⟩
 rw [List.length_append,List.length_singleton,okUpTo_succ _ ls.length (by simp)]
 rw [okUpTo_append ls _ _ (Nat.le_refl _),h.2,List.take_left]
 simpa using hf
theorem getD_left (ls r:List (Int × Int)) (i:Nat) (hi:i < ls.length):(ls ++ r).getD i (0,0) = ls.getD i (0,0):=by
 rw [List.getD_eq_getElem?_getD,List.getD_eq_getElem?_getD,List.getElem?_append_left hi]
theorem when_append (ls r:List (Int × Int)) (i:Nat) (hi:i < ls.length):when (ls ++ r) i = when ls i:=by
 unfold when
 rw [getD_left _ _ i hi,getD_left _ _ (i - 1) (by omega)]
theorem Fit.bd {ls:List (Int × Int)} (h:Fit ls) (i:Nat) (hi:i < ls.length):(0 ≤ (ls.getD i (0,0)).1 ∧ (ls.getD i (0,0)).1 ≤ 34712668800) ∧ 0 ≤ (ls.getD i (0,0)).2 ∧ (ls.getD i (0,0)).2 ≤ 200:=by
 rw [getD_at i hi];exact h.good.fine _ (List.getElem_mem hi)
theorem Fit.when_bd {ls:List (Int × Int)} (h:Fit ls) (i:Nat) (hi:i < ls.length):(ls.getD i (0,0)).1 ≤ when ls i ∧ when ls i ≤ (ls.getD i (0,0)).1 + (ls.getD i (0,0)).2 ∧ (0 < i → (ls.getD i (0,0)).1 + (ls.getD i (0,0)).2 ≤ when ls i + 1) ∧ (i = 0 → when ls i = (ls.getD i (0,0)).1 + (ls.getD i (0,0)).2):=by
 have b:=h.bd i hi
 have c:=h.bd (i - 1) (by omega)
 unfold when
 split
 ·rename_i q
  have o:=h.good.off (i - 1) (by omega)
  rw [show i - 1 + 1 = i from by omega] at o
  omega
 ·rename_i q
  by_cases z:i = 0
  ·omega
  ·have o:=h.good.off (i - 1) (by omega)
   rw [show i - 1 + 1 = i from by omega] at o
   omega
theorem Fit.when_next {ls:List (Int × Int)} (h:Fit ls) (i:Nat) (hi:i + 1 < ls.length):when ls i + 2419000 ≤ when ls (i + 1):=by
 have a:=h.when_bd i (by omega)
 have b:=h.when_bd (i + 1) hi
 have c:=h.bd i (by omega)
 have g:=h.gap i hi
 omega
theorem Fit.when_lt {ls:List (Int × Int)} (h:Fit ls) (i j:Nat) (hij:i < j) (hj:j < ls.length):when ls i + 2419000 ≤ when ls j:=by
 induction j with
 | zero => omega
 | succ j ih =>
  by_cases e:i = j
  ·subst e;exact h.when_next i hj
  ·have:=ih (by omega) (by omega)
   have:=h.when_next j hj
   omega
theorem Fit.lastAt_iff {ls:List (Int × Int)} (h:Fit ls) (sec:Int) (k i:Nat) (hk:k ≤ ls.length) (hi:i < k):when ls i ≤ sec ↔ (i:Int) ≤ lastAt ls sec k:=by
 induction k with
 | zero => omega
 | succ k ih =>
  simp only [lastAt]
  by_cases c:when ls k ≤ sec
  ·rw [if_pos c]
   refine ⟨fun _ => by omega,fun _ => ?_⟩
   by_cases e:i = k
   ·subst e;exact c
   ·have:=h.when_lt i k (by omega) (by omega);omega
  ·rw [if_neg c]
   have lb:=lastAt_bd ls sec k
   by_cases e:i = k
   ·subst e
    exact ⟨fun q => absurd q c,fun q => by omega⟩
   ·exact ih (by omega) (by omega)
theorem Fit.lastAt_le {ls:List (Int × Int)} (h:Fit ls) (sec:Int) (h0:when ls 0 ≤ sec):0 ≤ lastAt ls sec ls.length ∧ lastAt ls sec ls.length < ls.length ∧ when ls (lastAt ls sec ls.length).toNat ≤ sec:=by
 have a:=(h.lastAt_iff sec ls.length 0 (Nat.le_refl _) h.1).1 h0
 have b:=lastAt_bd ls sec ls.length
 refine ⟨by omega,b.2,(h.lastAt_iff sec ls.length _ (Nat.le_refl _) (by omega)).2 (by omega)⟩
theorem Fit.utc_bd {ls:List (Int × Int)} (h:Fit ls) (sec:Int) (h0:when ls 0 ≤ sec):0 ≤ sec - (ls.getD (lastAt ls sec ls.length).toNat (0,0)).2 ∧ sec - (ls.getD (lastAt ls sec ls.length).toNat (0,0)).2 ≤ sec:=by
 obtain ⟨a,b,c⟩:=h.lastAt_le sec h0
 have k:(lastAt ls sec ls.length).toNat < ls.length:=by omega
 have w:=h.when_bd _ k
 have bd:=h.bd _ k
 generalize (lastAt ls sec ls.length).toNat = q at *
 by_cases z:q = 0
 ·have:=w.2.2.2 z;omega
 ·have:=w.2.2.1 (by omega)
  have g:=h.gap (q - 1) (by omega)
  rw [show q - 1 + 1 = q from by omega] at g
  have:=(h.bd (q - 1) (by omega)).1.1
  omega
end Tab
namespace Txt
def db (n:Int):ByteArray:=⟨(dec n.toNat).toArray⟩
theorem dec_ten (n:Nat) (k:Nat) (h:n < 10 ^ (k + 1)):(dec n).length ≤ k + 1:=by
 induction k generalizing n with
 | zero => rw [dec_low n (by omega)];simp
 | succ k ih =>
  by_cases c:9 < n
  ·rw [dec_up n c,List.length_append]
   have:=ih (n / 10) (by rw [Nat.pow_succ] at h;omega)
   simp;omega
  ·rw [dec_low n c];simp
theorem db_size (n:Int) (h:n < 1000000000000):(db n).size ≤ 12:=by
 have:=dec_ten n.toNat 11 (by omega)
 show (dec n.toNat).toArray.size ≤ 12
 simpa using this
def head (u x:Int):ByteArray:=⟨#[35,36,32]⟩ ++ db u ++ ⟨#[10,35,64,32]⟩ ++ db x ++ ⟨#[10]⟩
def eline (p:Int × Int):ByteArray:=db p.1 ++ ⟨#[32]⟩ ++ db p.2 ++ ⟨#[10]⟩
def prTo (u x:Int) (ls:List (Int × Int)):Nat → ByteArray
 | 0 => head u x
 | k + 1 => prTo u x ls k ++ eline (ls.getD k (0,0))
def dgTo (u x:Int) (ls:List (Int × Int)):Nat → ByteArray
 | 0 => db u ++ db x
 | k + 1 => dgTo u x ls k ++ (db (ls.getD k (0,0)).1 ++ db (ls.getD k (0,0)).2)
def hlTo (h:ByteArray):Nat → ByteArray
 | 0 => ⟨#[35,104]⟩
 | k + 1 => hlTo h k ++ (⟨#[32]⟩ ++ h.extract (k * 8) (k * 8 + 8))
def hl (h:ByteArray):ByteArray:=hlTo h 5 ++ ⟨#[10]⟩
def dgst (u x:Int) (ls:List (Int × Int)):ByteArray:=⟨(Sha.digest (dgTo u x ls ls.length)).toArray⟩
def print (u x:Int) (ls:List (Int × Int)):ByteArray:=prTo u x ls ls.length ++ hl (dgst u x ls)
theorem digest_size (s:ByteArray):(ByteArray.mk (Sha.digest s).toArray).size = 40:=by
 show (Sha.digest s).toArray.size = 40
 unfold Sha.digest
 simp [Sha.St.text_length]
theorem size_app (a b:ByteArray):(a ++ b).size = a.size + b.size:=ByteArray.size_append
theorem head_size {u x:Int} (hu:u < 1000000000000) (hx:x < 1000000000000):(head u x).size ≤ 32:=by
 have a:=db_size u hu
 have b:=db_size x hx
 unfold head
 rw [size_app,size_app,size_app,size_app]
 have c1:(ByteArray.mk #[35,36,32]).size = 3:=rfl
 have c2:(ByteArray.mk #[10,35,64,32]).size = 4:=rfl
 have c3:(ByteArray.mk #[10]).size = 1:=rfl
 omega
theorem eline_size {p:Int × Int} (h1:p.1 < 1000000000000) (h2:p.2 < 1000000000000):(eline p).size ≤ 26:=by
 have a:=db_size _ h1
 have b:=db_size _ h2
 unfold eline
 rw [size_app,size_app,size_app]
 have c1:(ByteArray.mk #[32]).size = 1:=rfl
 have c3:(ByteArray.mk #[10]).size = 1:=rfl
 omega
theorem prTo_size {u x:Int} {ls:List (Int × Int)} (hu:u < 1000000000000) (hx:x < 1000000000000) (hl:∀ i,(ls.getD i (0,0)).1 < 1000000000000 ∧ (ls.getD i (0,0)).2 < 1000000000000) (k:Nat):(prTo u x ls k).size ≤ 32 + 26 * k:=by
 induction k with
 | zero => exact head_size hu hx
 | succ k ih => rw [prTo,size_app];have:=eline_size (hl k).1 (hl k).2;omega
theorem dgTo_size {u x:Int} {ls:List (Int × Int)} (hu:u < 1000000000000) (hx:x < 1000000000000) (hl:∀ i,(ls.getD i (0,0)).1 < 1000000000000 ∧ (ls.getD i (0,0)).2 < 1000000000000) (k:Nat):(dgTo u x ls k).size ≤ 24 + 24 * k:=by
 induction k with
 | zero => rw [dgTo,size_app];have:=db_size u hu;have:=db_size x hx;omega
 | succ k ih => rw [dgTo,size_app,size_app];have:=db_size _ (hl k).1;have:=db_size _ (hl k).2;omega
theorem hlTo_size (h:ByteArray) (k:Nat):(hlTo h k).size ≤ 2 + 9 * k:=by
 induction k with
 | zero => exact Nat.le_refl _
 | succ k ih =>
  rw [hlTo,size_app,size_app,ByteArray.size_extract]
  have c1:(ByteArray.mk #[32]).size = 1:=rfl
  omega
end Txt
namespace Tab
def lastDay (ls:List (Int × Int)) (D:Int):Nat → Int
 | 0 => -1
 | k + 1 => if (ls.getD k (0,0)).1 ≤ D then (k:Int) else lastDay ls D k
theorem lastDay_bd (ls:List (Int × Int)) (D:Int) (k:Nat):-1 ≤ lastDay ls D k ∧ lastDay ls D k < k:=by
 induction k with
 | zero => simp [lastDay]
 | succ k ih => simp only [lastDay];split <;> omega
theorem lastDay_off (ls:List (Int × Int)) (D:Int) (k:Nat) (h0:(ls.getD 0 (0,0)).1 ≤ D):0 ≤ lastDay ls D (k + 1) ∧ offAt ls D k = (ls.getD (lastDay ls D (k + 1)).toNat (0,0)).2:=by
 induction k with
 | zero => simp only [lastDay,offAt];rw [if_pos h0];simp
 | succ k ih =>
  rw [lastDay,offAt]
  by_cases c:(ls.getD (k + 1) (0,0)).1 ≤ D
  ·rw [if_pos c,if_pos c];simp;omega
  ·rw [if_neg c,if_neg c];exact ih
theorem Good.lastDay_no {ls:List (Int × Int)} (h:Good ls) (D:Int) (h0:D < (ls.getD 0 (0,0)).1) (k:Nat) (hk:k ≤ ls.length):lastDay ls D k = -1:=by
 induction k with
 | zero => rfl
 | succ k ih =>
  have:D < (ls.getD k (0,0)).1:=by
   by_cases e:k = 0
   ·subst e;exact h0
   ·have:=h.lt 0 k (by omega) (by omega);omega
  rw [lastDay,if_neg (by omega)]
  exact ih (by omega)
theorem Good.begins_last {ls:List (Int × Int)} (h:Good ls) (d:Int) (h0:(ls.getD 0 (0,0)).1 ≤ d * 86400) :
  0 ≤ lastDay ls (d * 86400) ls.length ∧ begins ls d = d * 86400 + (ls.getD (lastDay ls (d * 86400) ls.length).toNat (0,0)).2:=by
 have:=lastDay_off ls (d * 86400) (ls.length - 1) h0
 rw [show ls.length - 1 + 1 = ls.length from by have:=h.pos;omega] at this
 refine ⟨this.1,?_⟩
 unfold begins
 rw [if_neg (by omega),this.2]
theorem lastAt_is (ls:List (Int × Int)) (sec:Int) (n:Nat) (k:Nat) (h:lastAt ls sec n = (k:Int)):k < n ∧ when ls k ≤ sec ∧ ∀ i,k < i → i < n → sec < when ls i:=by
 induction n with
 | zero => simp [lastAt] at h
 | succ n ih =>
  rw [lastAt] at h
  by_cases c:when ls n ≤ sec
  ·rw [if_pos c] at h
   have:k = n:=by omega
   subst this
   exact ⟨by omega,c,fun i a b => by omega⟩
  ·rw [if_neg c] at h
   obtain ⟨a,b,e⟩:=ih h
   refine ⟨by omega,b,fun i x y => ?_⟩
   by_cases q:i = n
   ·subst q;omega
   ·exact e i x (by omega)
theorem Good.day_of {ls:List (Int × Int)} (h:Good ls) (sec:Int) (k:Nat) (hk:lastAt ls sec ls.length = (k:Int)):Day ls sec ((sec - (ls.getD k (0,0)).2) / 86400):=by
 obtain ⟨hkl,hw,hr⟩:=lastAt_is ls sec ls.length k hk
 have dk:=h.day k hkl
 have fk:=(h.fine _ (List.getElem_mem hkl)).2
 rw [← getD_at k hkl] at fk
 have fka:=(h.fine _ (List.getElem_mem hkl)).1
 rw [← getD_at k hkl] at fka
 -- the entry behind
 have hnext:∀ (hl:k + 1 < ls.length),sec < (ls.getD (k + 1) (0,0)).1 + (ls.getD k (0,0)).2 ∧ sec < (ls.getD (k + 1) (0,0)).1 + (ls.getD (k + 1) (0,0)).2:=fun hl => by
  have:=hr (k + 1) (by omega) hl
  unfold when at this
  rw [show k + 1 - 1 = k from rfl] at this
  split at this <;> omega
 have hlater:∀ i,k < i → i < ls.length → k + 1 < ls.length ∧ (ls.getD (k + 1) (0,0)).1 ≤ (ls.getD i (0,0)).1:=fun i a b => by
  by_cases e:i = k + 1
  ·subst e;exact ⟨b,Int.le_refl _⟩
  ·have:=h.lt (k + 1) i (by omega) b;exact ⟨by omega,by omega⟩
 by_cases hA:(ls.getD k (0,0)).1 ≤ sec - (ls.getD k (0,0)).2
 ·generalize hd:(sec - (ls.getD k (0,0)).2) / 86400 = d
  have hd1:(ls.getD k (0,0)).1 ≤ d * 86400:=by omega
  have hd2:d * 86400 ≤ sec - (ls.getD k (0,0)).2:=by omega
  have hd3:sec - (ls.getD k (0,0)).2 < (d + 1) * 86400:=by omega
  have h0:(ls.getD 0 (0,0)).1 ≤ d * 86400:=by
   by_cases e:k = 0
   ·subst e;exact hd1
   ·have:=h.lt 0 k (by omega) hkl;omega
  have hoff:offAt ls (d * 86400) (ls.length - 1) = (ls.getD k (0,0)).2:=offAt_eq ls _ k (ls.length - 1) (by omega) hd1 (fun i a b => by
   have x:=hlater i a (by omega)
   have y:=hnext x.1
   omega)
  have hb:begins ls d = d * 86400 + (ls.getD k (0,0)).2:=by unfold begins;rw [if_neg (by omega),hoff]
  refine ⟨h0,by omega,?_⟩
  rw [hb]
  by_cases hl:k + 1 < ls.length
  ·have y:=hnext hl
   have dn:=h.day (k + 1) hl
   by_cases e:(ls.getD (k + 1) (0,0)).1 = (d + 1) * 86400
   ·have hlen:length ls d = 86400 + (ls.getD (k + 1) (0,0)).2 - (ls.getD k (0,0)).2:=by
     unfold length
     rw [lenFrom_yes ls _ (ls.length - 1) 1 (k + 1) (by omega) (by omega) e (fun q a b => by
      have:=h.lt q (k + 1) b hl;omega)]
     rfl
    rw [hlen]
    rcases h.off k hl with o | o <;> omega
   ·have hlen:length ls d = 86400:=by
     unfold length
     apply lenFrom_no
     intro t a b q
     by_cases c:t ≤ k
     ·have:(ls.getD t (0,0)).1 ≤ (ls.getD k (0,0)).1:=by
       by_cases e':t = k
       ·subst e';exact Int.le_refl _
       ·have:=h.lt t k (by omega) hkl;omega
      omega
     ·have:=hlater t (by omega) (by omega)
      omega
    rw [hlen];omega
  ·have hlen:length ls d = 86400:=by
    unfold length
    apply lenFrom_no
    intro t a b q
    have:(ls.getD t (0,0)).1 ≤ (ls.getD k (0,0)).1:=by
     by_cases e':t = k
     ·subst e';exact Int.le_refl _
     ·have:=h.lt t k (by omega) hkl;omega
    omega
   rw [hlen];omega
 ·-- the second that is put in
  have hk0:0 < k:=by
   by_cases e:k = 0
   ·subst e;unfold when at hw;simp at hw;simp at hA;omega
   ·omega
  obtain ⟨j,rfl⟩:∃ j,k = j + 1:=⟨k - 1,by omega⟩
  have dj:=h.day j (by omega)
  have uj:=h.up j hkl
  have oj:=h.off j hkl
  have hs:sec = (ls.getD (j + 1) (0,0)).1 + (ls.getD j (0,0)).2 ∧ (ls.getD (j + 1) (0,0)).2 = (ls.getD j (0,0)).2 + 1:=by
   unfold when at hw
   rw [show j + 1 - 1 = j from rfl] at hw
   split at hw <;> rcases oj with o | o <;> omega
  have hd:(sec - (ls.getD (j + 1) (0,0)).2) / 86400 = (ls.getD (j + 1) (0,0)).1 / 86400 - 1:=by omega
  rw [hd]
  generalize hdd:(ls.getD (j + 1) (0,0)).1 / 86400 - 1 = d
  have e1:(d + 1) * 86400 = (ls.getD (j + 1) (0,0)).1:=by omega
  have hd1:(ls.getD j (0,0)).1 ≤ d * 86400:=by omega
  have h0:(ls.getD 0 (0,0)).1 ≤ d * 86400:=by
   by_cases e:j = 0
   ·subst e;exact hd1
   ·have:=h.lt 0 j (by omega) (by omega);omega
  have hoff:offAt ls (d * 86400) (ls.length - 1) = (ls.getD j (0,0)).2:=offAt_eq ls _ j (ls.length - 1) (by omega) hd1 (fun i a b => by
   by_cases e:i = j + 1
   ·subst e;omega
   ·have:=h.lt (j + 1) i (by omega) (by omega);omega)
  have hb:begins ls d = d * 86400 + (ls.getD j (0,0)).2:=by unfold begins;rw [if_neg (by omega),hoff]
  have hlen:length ls d = 86400 + (ls.getD (j + 1) (0,0)).2 - (ls.getD j (0,0)).2:=by
   unfold length
   rw [lenFrom_yes ls _ (ls.length - 1) 1 (j + 1) (by omega) (by omega) e1.symm (fun q a b => by
    have:=h.lt q (j + 1) b hkl;omega)]
   rfl
  exact ⟨h0,by omega,by omega⟩
end Tab
end Go.Proofs.YtmmkhodaljpjgaaGreatDoor
