import Derived.Test.YtmmkhodaljpjgaaGreatDoorV10
set_option maxRecDepth 100000
set_option maxHeartbeats 6400000
namespace Go.Proofs.YtmmkhodaljpjgaaGreatDoor
open Go.RowKit
def flatOps:List Op → List Value
 | [] => []
 | o :: r => .int .i64 o.kind :: .int .i64 o.x :: .int .i64 o.a :: .int .i64 o.b :: .int .i64 o.c :: .int .i64 o.d :: .string o.s :: flatOps r
theorem flatOps_append (l r:List Op):flatOps (l ++ r) = flatOps l ++ flatOps r:=by
 induction l with
 | nil => rfl
 | cons p q ih => simp [flatOps,ih]
theorem flatOps_at (l:List Op) (k:Nat) (h:k < l.length) (j:Nat) (hj:j < 7):(flatOps l)[k * 7 + j]? = (Op.cells l[k])[j]?:=by
 induction l generalizing k with
 | nil => simp at h
 | cons p r ih =>
  cases k with
  | zero =>
   simp only [flatOps,Nat.zero_mul,Nat.zero_add,List.getElem_cons_zero]
   match j,hj with
   | 0,_ => rfl
   | 1,_ => rfl
   | 2,_ => rfl
   | 3,_ => rfl
   | 4,_ => rfl
   | 5,_ => rfl
   | 6,_ => rfl
  | succ k =>
   have h':k < r.length:=by simpa using h
   have e:(k + 1) * 7 + j = (k * 7 + j) + 7:=by omega
   rw [e]
   simp only [flatOps,List.getElem_cons_succ]
   exact ih k h'
theorem upTo_any {X:Xs} (hX:∀ w,X.P 0 (fun _ => False) (.slice none 0 0) w) (v:Value) (ops:List Op) (B0:Nat) (w:World) (hv:w.ownsRow B0 27 7 v ops.length (flatOps ops)) (hn:ops.length ≤ 16384) (hok:∀ o ∈ ops,o.Ok)
  (hdo:∀ o ∈ ops,o.kind < 1 ∨ 6 < o.kind → ∀ n wr,n ≤ 90000 → Below w.heap.size w wr → Does X w.heap.size w.heap.size n o wr) :
  Calls Tryz.prog 14 #[v] w fun e w' => e = .returned (.int .i64 (-1)) ∧ Below w.heap.size w w':=by
 obtain ⟨ao,cap,hvv⟩:∃ ao cap,v = .slice ao ops.length cap:=by
  rcases hv.2 with ⟨rfl,h0⟩ | ⟨g,cap,cur,rfl,_⟩
  ·exact ⟨none,0,by rw [h0]⟩
  ·exact ⟨_,_,rfl⟩
 have HV:=hid' hv
 have HOK:=hid' hok
 have HDO:=hid' hdo
 clear hv hok hdo
 subst hvv
 go_enter Tryz.func14,Tryz.ntmps14
 go_wp2
 have INV0:Inv X w.heap.size w.heap.size 0 (w.alloc (.cells #[.slice none 0 0,.int .i64 0,.int .i64 0,.slice none 0 0,.int .i64 0,.int .i64 0,.slice none 0 0] 38)) :=
  ⟨Nat.le_refl _,.slice none 0 0,.slice none 0 0,.slice none 0 0,fun _ => False,[],[],0,0,0,0,heap_alloc_new _ _,World.ownsRow_nil _ _ _ _,World.ownsRow_nil _ _ _ _,by simp,by simp,⟨fun t h => (by cases h),fun p h => (by cases h),by decide,by decide,by decide,by decide⟩,⟨hX _,fun _ h => h.elim⟩⟩
 have HI0:=hid' INV0
 clear INV0 hX
 go_loopw [4,5] (fun i _ wr => ∃ k:Nat,k ≤ ops.length ∧ i = .int .i64 k ∧ Inv X w.heap.size w.heap.size k wr ∧ Below w.heap.size w wr) (fun i _ _ => ops.length - (intOf i).toNat)
 case atStart => exact ⟨0,by omega,rfl,HI0.out,(Below.refl _ _).alloc (Nat.le_refl _) _⟩
 case round =>
  obtain ⟨k,hk,rfl,hinv,hbel⟩:=hrel
  by_cases hlt:k < ops.length
  ·obtain ⟨g,cap',hform,_,hgl⟩:=HV.out.form (by omega)
   have hao:ao = some ⟨g,0,none⟩:=by simpa using (Value.slice.inj hform).1
   subst hao
   have hcap:cap = cap':=(Value.slice.inj hform).2.2
   subst hcap
   have hcell:∀ j,j < 7 → wr.cell? ⟨g,k * 7 + j,none⟩ = (Op.cells ops[k])[j]?:=by
    intro j hj
    rw [hbel.cell (p:=⟨g,k * 7 + j,none⟩) hgl,HV.out.cellAt (k * 7 + j) (by omega)]
    exact flatOps_at ops k hlt j hj
   have HINV:=hid' hinv
   have HBEL:=hid' hbel
   have hmem:=List.getElem_mem hlt
   have hdoes:Does X w.heap.size w.heap.size k ops[k] wr:=by
    by_cases hq:1 ≤ ops[k].kind ∧ ops[k].kind ≤ 6
    ·exact does_own (HOK.out _ hmem) (by omega) hq
    ·exact HDO.out _ hmem (by omega) k wr (by omega) hbel
   have HST:=hid' (hdoes wr hinv hbel.size (Below.refl _ _))
   clear hdoes
   clear hinv hbel hform hmem
   generalize ops[k] = o at *
   obtain ⟨ok,ox,oa,ob,oc,od,os⟩:=o
   have p0:=hcell 0 (by omega)
   have p1:=hcell 1 (by omega)
   have p2:=hcell 2 (by omega)
   have p3:=hcell 3 (by omega)
   have p4:=hcell 4 (by omega)
   have p5:=hcell 5 (by omega)
   have p6:=hcell 6 (by omega)
   simp [Op.cells] at p0 p1 p2 p3 p4 p5 p6
   clear hcell
   simp only at HST
   go_wp2_with fail
   refine HST.out.mono ?_
   rintro e w2 ⟨rfl,hleft⟩
   have HLF:=hid' hleft
   clear hleft HST p0 p1 p2 p3 p4 p5 p6
   go_wp2
   go_roundw
   case rel => exact ⟨k + 1,by omega,by go_num,HLF.out.1,HBEL.out.trans HLF.out.2⟩
   case measure => simp [intOf];omega
  ·have HBEL:=hid' hbel
   clear hbel hinv
   go_wp2
   go_ret
   exact ⟨rfl,HBEL.out⟩
def Txt.printed (up ex:Int) (ls:List (Int × Int)):ByteArray × Int:=if Tab.whole up ex ls = false then (⟨#[]⟩,8) else (Txt.print up ex ls,0)
theorem file_print (lv:Value) (ls:List (Int × Int)) (up ex:Int) (w:World) (wu:(Lit.int .i64 up).wf = true) (wx:(Lit.int .i64 ex).wf = true)
  (hv:Held w lv ls) (hn:ls.length ≤ 100000) (hwf:∀ p ∈ ls,WfP p) (hT:Table w) (hP:Pows w) :
  Calls Tryz.prog 80 #[.agg #[.int .i64 up,.int .i64 ex,lv]] w fun e w' =>
   e = .returned (.tuple #[.string (Txt.printed up ex ls).1,.int .i64 (Txt.printed up ex ls).2]) ∧ Below w.heap.size w w':=by
 cases hwh:Tab.whole up ex ls with
 | false =>
  have e:Txt.printed up ex ls = (⟨#[]⟩,8):=by unfold Txt.printed;rw [if_pos hwh]
  rw [e];exact file_print_no lv ls up ex w wu wx hv hn hwf hwh
 | true =>
  have e:Txt.printed up ex ls = (Txt.print up ex ls,0):=by unfold Txt.printed;rw [if_neg (by rw [hwh];simp)]
  rw [e];exact file_print_yes lv ls up ex w wu wx hv hn hwf hwh hT hP
theorem smear_print (lv:Value) (ls:List (Int × Int)) (up ex:Int) (w:World) (wu:(Lit.int .i64 up).wf = true) (wx:(Lit.int .i64 ex).wf = true)
  (hv:Held w lv ls) (hn:ls.length ≤ 100000) (hwf:∀ p ∈ ls,WfP p) (hT:Table w) (hP:Pows w) :
  Calls Tryz.prog 44 #[.agg #[.int .i64 up,.int .i64 ex,lv]] w fun e w' =>
   e = .returned (.tuple #[.string (Txt.printed up ex ls).1,.int .i64 (Txt.printed up ex ls).2]) ∧ Below w.heap.size w w':=by
 have HF:=hid' (fun w' h1 h2 h3 => file_print lv ls up ex w' wu wx h1 hn hwf h2 h3)
 have HV:=hid' hv
 have HT:=hid' hT
 have HP:=hid' hP
 clear wu wx hv hn hwf hT hP
 generalize Txt.printed up ex ls = r at *
 obtain ⟨rs,rn⟩:=r
 have HBel:=hid' ((Below.refl w.heap.size w).alloc (Nat.le_refl _) (.cells #[.int .i64 up,.int .i64 ex,lv] 78))
 have HROW:=hid' (heap_alloc_new w (.cells #[.int .i64 up,.int .i64 ex,lv] 78))
 go_enter Tryz.func44,Tryz.ntmps44
 go_wp2_with fail
 first
  | (refine (HF.out _ (held_below HV.out HBel.out) (HT.out.below HBel.out) (HP.out.below HBel.out)).mono ?_
    rintro e w1 ⟨rfl,hb1⟩
    have HB1:=hid' (HBel.out.trans (hb1.mono HBel.out.size))
    clear hb1)
  | (refine (HF.out _ HV.out HT.out HP.out).mono ?_
    rintro e w1 ⟨rfl,hb1⟩
    have HB1:=hid' hb1
    clear hb1)
 go_wp2
 go_ret2
 exact ⟨rfl,HB1.out⟩
namespace Tab
end Tab
theorem follows_any (B:Nat) (v:Value) (ls:List (Int × Int)) (a o:Int) (w:World) (wa:(Lit.int .i64 a).wf = true) (wo:(Lit.int .i64 o).wf = true)
  (hv:w.ownsRow B 46 2 v ls.length (flat ls)) (hn:ls.length ≤ 100000) (hok:∀ p ∈ ls,0 ≤ p.2 ∧ p.2 ≤ 200) :
  Calls Tryz.prog 126 #[v,.agg #[.int .i64 a,.int .i64 o]] w fun e w' => e = .returned (.bool (Tab.follows ls a o)) ∧ Below w.heap.size w w':=by
 have HFst:=hid' (ref_first a (w.alloc (.cells #[.int .i64 a,.int .i64 o] 46)) wa)
 have bo:=bounds_i64 wo
 have HBel:=hid' ((Below.refl w.heap.size w).alloc (Nat.le_refl _) (.cells #[.int .i64 a,.int .i64 o] 46))
 clear wa wo
 by_cases hz:ls.length = 0
 ·have hls:ls = []:=List.eq_nil_of_length_eq_zero hz
  subst hls
  obtain ⟨ao,cap,htv⟩:∃ ao cap,v = .slice ao 0 cap:=by
   rcases hv.2 with ⟨rfl,_⟩ | ⟨g,cap,cur,rfl,_⟩
   ·exact ⟨_,_,rfl⟩
   ·exact ⟨_,_,rfl⟩
  subst htv
  clear hv hn hok hz
  cases hf:Tab.first a with
  | false =>
   rw [hf] at HFst
   have H:Hid (Tab.follows [] a o = false):=Tab.follows_no1 hf
   clear hf
   go_enter Tryz.func126,Tryz.ntmps126
   go_wp2_with (go_at_call 168;refine HFst.out.mono ?_;rintro e w' ⟨rfl,rfl⟩)
   go_ret
   exact ⟨ret_bool H.out.symm,HBel.out⟩
  | true =>
   rw [hf] at HFst
   by_cases h0:o < 0
   ·have H:Hid (Tab.follows [] a o = false):=Tab.follows_no2 h0
    clear hf
    go_enter Tryz.func126,Tryz.ntmps126
    go_wp2_with (go_at_call 168;refine HFst.out.mono ?_;rintro e w' ⟨rfl,rfl⟩)
    go_ret
    exact ⟨ret_bool H.out.symm,HBel.out⟩
   ·by_cases h1:200 < o
    ·have H:Hid (Tab.follows [] a o = false):=Tab.follows_no3 h1
     clear hf
     go_enter Tryz.func126,Tryz.ntmps126
     go_wp2_with (go_at_call 168;refine HFst.out.mono ?_;rintro e w' ⟨rfl,rfl⟩)
     go_ret
     exact ⟨ret_bool H.out.symm,HBel.out⟩
    ·have H:Hid (Tab.follows [] a o = true):=Tab.follows_nil hf (by omega) (by omega)
     clear hf
     go_enter Tryz.func126,Tryz.ntmps126
     go_wp2_with (go_at_call 168;refine HFst.out.mono ?_;rintro e w' ⟨rfl,rfl⟩)
     go_ret
     exact ⟨ret_bool H.out.symm,HBel.out⟩
 ·obtain ⟨q,hq⟩:∃ q,ls.length = q + 1:=⟨ls.length - 1,by omega⟩
  obtain ⟨g,cap,htv⟩:∃ g cap,v = .slice (some ⟨g,0,none⟩) (q + 1) cap:=by
   rcases hv.2 with ⟨rfl,h⟩ | ⟨g,cap,cur,rfl,_⟩
   ·omega
   ·exact ⟨_,_,by rw [hq]⟩
  subst htv
  have hp:=hok (ls[q]'(by omega)) (List.getElem_mem _)
  have c0:=(hv.alloc (.cells #[.int .i64 a,.int .i64 o] 46))
  rw [hq] at c0
  have c1:=c0.cellAt (q * 2) (by omega)
  have c2:=c0.cellAt (q * 2 + 1) (by omega)
  rw [flat_at0 ls q (by omega)] at c1
  rw [flat_at1 ls q (by omega)] at c2
  have hlast:=fun h h0 h1 h2 => Tab.follows_last (ls:=ls) (a:=a) (o:=o) h h0 h1 h2 q hq
  have HLAST:=hid' hlast
  clear c0 hlast
  rw [hq] at hn
  generalize ls[q]'(by omega) = p at *
  obtain ⟨pa,po⟩:=p
  simp only at hp c1 c2
  have hq40:ls.length = 40 ↔ q = 39:=by omega
  have H40:=hid' hq40
  clear hv hok hz hq hq40
  cases hf:Tab.first a with
  | false =>
   rw [hf] at HFst
   have H:Hid (Tab.follows ls a o = false):=Tab.follows_no1 hf
   clear hf c1 c2
   go_enter Tryz.func126,Tryz.ntmps126
   go_wp2_with (go_at_call 168;refine HFst.out.mono ?_;rintro e w' ⟨rfl,rfl⟩)
   go_ret
   exact ⟨ret_bool H.out.symm,HBel.out⟩
  | true =>
   rw [hf] at HFst
   by_cases h0:o < 0
   ·have H:Hid (Tab.follows ls a o = false):=Tab.follows_no2 h0
    clear hf c1 c2
    go_enter Tryz.func126,Tryz.ntmps126
    go_wp2_with (go_at_call 168;refine HFst.out.mono ?_;rintro e w' ⟨rfl,rfl⟩)
    go_ret
    exact ⟨ret_bool H.out.symm,HBel.out⟩
   ·by_cases h1:200 < o
    ·have H:Hid (Tab.follows ls a o = false):=Tab.follows_no3 h1
     clear hf c1 c2
     go_enter Tryz.func126,Tryz.ntmps126
     go_wp2_with (go_at_call 168;refine HFst.out.mono ?_;rintro e w' ⟨rfl,rfl⟩)
     go_ret
     exact ⟨ret_bool H.out.symm,HBel.out⟩
    ·by_cases h2:q = 39
     ·have H:Hid (Tab.follows ls a o = false):=Tab.follows_no4 (H40.out.2 h2)
      clear hf c1 c2 H40 HLAST
      subst h2
      go_enter Tryz.func126,Tryz.ntmps126
      go_wp2_with (go_at_call 168;refine HFst.out.mono ?_;rintro e w' ⟨rfl,rfl⟩)
      go_ret
      exact ⟨ret_bool H.out.symm,HBel.out⟩
     ·have H:Hid (Tab.follows ls a o = Tab.behindB (pa,po) a o):=HLAST.out hf (by omega) (by omega) (fun h => h2 (H40.out.1 h))
      have h2':((q:Int) + 1 == 40) = false:=by rw [beq_eq_false_iff_ne];omega
      clear hf HLAST H40 h2
      go_enter Tryz.func126,Tryz.ntmps126
      go_wp2_with (go_at_call 168;refine HFst.out.mono ?_;rintro e w' ⟨rfl,rfl⟩)
      all_goals
       go_ret
       refine ⟨ret_bool ?_,((Below.refl w.heap.size w).alloc (Nat.le_refl _) _).alloc (by simp) _⟩
       rw [H.out]
       unfold Tab.behindB
       simp
       try omega
theorem last_at (g cap n:Nat) (ls:List (Int × Int)) (d:Int) (w:World) (hn:ls.length = n) (hl:Lies w g ls) (hb:n ≤ 100000) (d0:-10 ≤ d) (d1:d ≤ 500000) :
  Calls Tryz.prog 133 #[.slice (some ⟨g,0,none⟩) n cap,.int .i64 d] w fun e w' => e = .returned (.int .i64 (Tab.lastDay ls (d * 86400) n)) ∧ w' = w:=by
 have HL:=hid' hl
 have HN:=hid' hn
 clear hl hn
 go_enter Tryz.func133,Tryz.ntmps133
 go_wp2
 go_loop [5] (fun i => ∃ k:Nat,k ≤ n ∧ i = .int .i64 ((k:Int) - 1) ∧ Tab.lastDay ls (d * 86400) n = Tab.lastDay ls (d * 86400) k) (fun i => (intOf i + 1).toNat)
 case atStart => exact ⟨n,by omega,rfl,rfl⟩
 case round =>
  obtain ⟨k,hk,rfl,hrl⟩:=hrel
  have HRL:=hid' hrl
  clear hrl
  cases k with
  | zero =>
   have H:Hid (Tab.lastDay ls (d * 86400) n = -1):=by show _ = _;rw [HRL.out];rfl
   go_wp2
   go_ret
   exact ⟨ret_int H.out.symm,rfl⟩
  | succ k =>
   have hc:(((k + 1:Nat):Int) - 1) = (k:Int):=by omega
   rw [hc]
   clear hc
   have hkl:k < ls.length:=by rw [HN.out];omega
   have c1:=(HL.out k hkl).1
   have hg:=getD_at k hkl
   have HG:=hid' hg
   clear hg
   generalize ls[k] = p at *
   obtain ⟨pa,po⟩:=p
   simp only at c1
   by_cases hle:pa ≤ d * 86400
   ·have H:Hid (Tab.lastDay ls (d * 86400) n = (k:Int)):=by show _ = _;rw [HRL.out];simp only [Tab.lastDay];rw [HG.out,if_pos hle]
    go_wp2
    go_ret
    exact ⟨ret_int H.out.symm,rfl⟩
   ·have H:Hid (Tab.lastDay ls (d * 86400) n = Tab.lastDay ls (d * 86400) k):=by show _ = _;rw [HRL.out];rw [Tab.lastDay];rw [HG.out,if_neg hle]
    go_wp2
    exact ⟨⟨k,by omega,by go_num,H.out⟩,by simp [intOf]⟩
theorem day_begin (g cap n:Nat) (ls:List (Int × Int)) (d:Int) (w:World) (hn:ls.length = n) (hl:Lies w g ls) (hG:Tab.Good ls) (d0:-10 ≤ d) (d1:d ≤ 500000) (h0:(ls.getD 0 (0,0)).1 ≤ d * 86400) :
  Calls Tryz.prog 132 #[.slice (some ⟨g,0,none⟩) n cap,.int .i64 d] w fun e w' => e = .returned (.int .i64 (Tab.begins ls d)) ∧ w' = w:=by
 have hb:n ≤ 100000:=by have:=hG.len;omega
 have HLA:=hid' (last_at g cap n ls d w hn hl hb d0 d1)
 obtain ⟨b0,b1⟩:=hG.begins_last d h0
 rw [hn] at b0 b1
 have bd:=Tab.lastDay_bd ls (d * 86400) n
 obtain ⟨k,hk⟩:∃ k:Nat,Tab.lastDay ls (d * 86400) n = (k:Int):=⟨(Tab.lastDay ls (d * 86400) n).toNat,by omega⟩
 rw [hk] at b1 bd HLA
 have hkl:k < ls.length:=by omega
 rw [Int.toNat_natCast,getD_at k hkl] at b1
 have c2:=(hl k hkl).2
 have f:=(hG.fine _ (List.getElem_mem hkl)).2
 have H:=hid' b1
 have hkn:k < n:=by omega
 clear b0 b1 hk bd hl hG h0
 generalize ls[k] = p at *
 obtain ⟨pa,po⟩:=p
 simp only at c2 f H
 clear hkl
 go_enter Tryz.func132,Tryz.ntmps132
 go_wp2_with (go_at_call 133;refine HLA.out.mono ?_;rintro e w' ⟨rfl,rfl⟩)
 go_ret
 exact ⟨ret_int H.out.symm,rfl⟩
theorem day_length (g cap n:Nat) (ls:List (Int × Int)) (d:Int) (w:World) (hn:ls.length = n) (hp:0 < n) (hl:Lies w g ls) (hf:Fine ls) (hb:n ≤ 100000) (d0:-10 ≤ d) (d1:d ≤ 500000) :
  Calls Tryz.prog 134 #[.slice (some ⟨g,0,none⟩) n cap,.int .i64 d] w fun e w' => e = .returned (.int .i64 (Tab.length ls d)) ∧ ∃ m,w' = w.drewN m:=by
 have HL:=hid' hl
 have HF:=hid' hf
 have HN:=hid' hn
 have H:Hid (Tab.length ls d = Tab.lenFrom ls ((d + 1) * 86400) 1 (n - 1)):=by show _ = _;unfold Tab.length;rw [hn]
 clear hl hf hn
 go_enter Tryz.func134,Tryz.ntmps134
 go_wp2
 go_loop [6] (fun i => ∃ k:Nat,k + 1 ≤ n ∧ i = .int .i64 ((k:Int) + 1) ∧ Tab.length ls d = Tab.lenFrom ls ((d + 1) * 86400) (k + 1) (n - (k + 1))) (fun i => n - (intOf i).toNat)
 case atStart => exact ⟨0,by omega,rfl,H.out⟩
 case round =>
  obtain ⟨k,hk,rfl,hrl⟩:=hrel
  have HRL:=hid' hrl
  clear hrl H
  by_cases hlt:k + 1 < n
  ·have hkl:k + 1 < ls.length:=by rw [HN.out];exact hlt
   obtain ⟨e1,e2⟩:=HL.out (k + 1) hkl
   obtain ⟨_,b2⟩:=HL.out k (by omega)
   have hfq:=HF.out _ (List.getElem_mem hkl)
   have hfp:=HF.out _ (List.getElem_mem (show k < ls.length by omega))
   have hS:Hid (Tab.length ls d = if ls[k + 1].1 = (d + 1) * 86400 then 86400 + ls[k + 1].2 - (ls[k]'(by omega)).2 else Tab.lenFrom ls ((d + 1) * 86400) (k + 1 + 1) (n - (k + 1 + 1))):=by
    show _ = _
    rw [HRL.out,show n - (k + 1) = n - (k + 1 + 1) + 1 from by omega,Tab.lenFrom,getD_at (k + 1) hkl,show k + 1 - 1 = k from rfl,getD_at k (by omega)]
   generalize ls[k + 1] = q at *
   generalize ls[k]'(by omega) = p at *
   clear hkl
   obtain ⟨qa,qo⟩:=q
   obtain ⟨pa,po⟩:=p
   simp only at e1 e2 hfq b2 hfp
   by_cases hle:qa = (d + 1) * 86400
   ·have H2:Hid (Tab.length ls d = 86400 + qo - po):=by show _ = _;rw [hS.out];simp only;rw [if_pos hle]
    have hbq:(qa == (d + 1) * 86400) = true:=by rw [beq_iff_eq];exact hle
    clear hle hS HRL
    have r0:IntKind.i64.wrap ((k:Int) + 1 - 1) = (k:Int):=by rw [IntKind.wrap_i64];omega
    have r1:IntKind.i64.wrap (86400 + qo) = 86400 + qo:=by rw [IntKind.wrap_i64];omega
    have r2:IntKind.i64.wrap (86400 + qo - po) = 86400 + qo - po:=by rw [IntKind.wrap_i64];omega
    have z0:(0:Int) ≤ (k:Int):=by omega
    have z1:(k:Int) < (n:Int):=by omega
    have z2:(0:Int) ≤ (k:Int) + 1:=by omega
    have z3:(k:Int) + 1 < (n:Int):=by omega
    have z4:((k:Int) + 1).toNat = k + 1:=by omega
    go_wp2_with fail
    go_quiet (fail)
    go_wp2
    go_ret
    exact ⟨ret_int H2.out.symm,nq,rfl⟩
   ·have H2:Hid (Tab.length ls d = Tab.lenFrom ls ((d + 1) * 86400) (k + 1 + 1) (n - (k + 1 + 1))):=by show _ = _;rw [hS.out];simp only;rw [if_neg hle]
    have hbq:(qa == (d + 1) * 86400) = false:=by rw [beq_eq_false_iff_ne];exact hle
    clear hle hS HRL
    go_wp2
    exact ⟨⟨k + 1,by omega,by go_num,H2.out⟩,by simp [intOf];omega⟩
  ·have H2:Hid (Tab.length ls d = 86400):=by show _ = _;rw [HRL.out,show n - (k + 1) = 0 from by omega];rfl
   go_wp2
   go_ret
   exact ⟨ret_int H2.out.symm,0,rfl⟩
structure Script (w:World) (ao:Option Addr) (ops:List Op):Prop where
 short:∀ o ∈ ops,o.s.size ≤ 140737488351232
 some:0 < ops.length → ∃ b off,ao = .some ⟨b,off,none⟩ ∧ b < w.heap.size ∧ ∀ k (h:k < ops.length) j,j < 7 → w.cell? ⟨b,off + k * 7 + j,none⟩ = (Op.cells ops[k])[j]?
def SmallSaid (ops:List Op) (e:Ending):Prop:=∃ r:Bool,e = .returned (.bool r) ∧ (r = true → ops.length ≤ 16384 ∧ ∀ o ∈ ops,o.s.size ≤ 16384)
theorem small_any (ao:Option Addr) (cap:Nat) (ops:List Op) (w:World) (hS:Script w ao ops) (hlen:ops.length ≤ 140737488351232) :
  Calls Tryz.prog 13 #[.slice ao ops.length cap] w fun e w' => SmallSaid ops e ∧ w' = w:=by
 by_cases hbig:16384 < ops.length
 ·have hbi:(16384:Int) < (ops.length:Int):=by omega
  go_enter Tryz.func13,Tryz.ntmps13
  go_wp2
  go_ret
  exact ⟨⟨false,rfl,fun h => by cases h⟩,rfl⟩
 ·have hbi:¬ (16384:Int) < (ops.length:Int):=by omega
  go_enter Tryz.func13,Tryz.ntmps13
  go_wp2
  go_loop [3,4] (fun n i => ∃ k acc:Nat,k ≤ ops.length ∧ i = .int .i64 k ∧ n = .int .i64 acc ∧ acc ≤ 16384 ∧ ∀ j (h:j < ops.length),j < k → ops[j].s.size ≤ acc) (fun _ i => ops.length - (intOf i).toNat)
  case atStart => exact ⟨0,ops.length,by omega,rfl,rfl,by omega,fun j _ h => absurd h (Nat.not_lt_zero j)⟩
  case round =>
   obtain ⟨k,acc,hk,rfl,rfl,hacc,hall⟩:=hrel
   by_cases hlt:k < ops.length
   ·obtain ⟨b,off,rfl,hbl,hcell⟩:=hS.some (by omega)
    have p6:=hcell k hlt 6 (by omega)
    have hsh:=hS.short _ (List.getElem_mem hlt)
    have HALL:=hid' hall
    have HS:=hid' hS
    clear hcell hall hS
    obtain ⟨sk,hsk⟩:∃ sk,ops[k].s = sk:=⟨_,rfl⟩
    have HSK:=hid' hsk
    simp [Op.cells] at p6
    rw [hsk] at p6 hsh
    clear hsk
    by_cases hover:16384 < acc + sk.size
    ·have hoi:(16384:Int) < (acc:Int) + (sk.size:Int):=by omega
     go_wp2
     go_ret
     exact ⟨⟨false,rfl,fun h => by cases h⟩,rfl⟩
    ·have hoi:¬ (16384:Int) < (acc:Int) + (sk.size:Int):=by omega
     go_wp2
     refine ⟨⟨k + 1,acc + sk.size,by omega,by go_num,by go_num,by omega,fun j hj hjk => ?_⟩,by simp [intOf];omega⟩
     by_cases e:j = k
     ·subst e;rw [HSK.out];omega
     ·have:=HALL.out j hj (by omega);omega
   ·have HALL:=hid' hall
    clear hall
    go_wp2
    go_ret
    refine ⟨⟨true,rfl,fun _ => ⟨by omega,fun o ho => ?_⟩⟩,rfl⟩
    obtain ⟨j,hj,rfl⟩:=List.getElem_of_mem ho
    have:=HALL.out j hj (by omega)
    omega
namespace Txt
end Txt
theorem ref_word (s:ByteArray) (w:World) (hs:s.size ≤ 1000000000) :
  Calls Tryz.prog 166 #[.string s] w fun e w' => e = .returned (.string (Txt.word s)) ∧ w' = w:=by
 by_cases h0:s.size = 0
 ·have H:Hid (Txt.word s = ⟨#[]⟩):=Txt.word_no1 (.inl h0)
  have h0':((s.size:Int) == 0) = true:=by rw [beq_iff_eq];omega
  clear h0
  go_enter Tryz.func166,Tryz.ntmps166
  go_wp2
  go_ret
  exact ⟨ret_str H.out.symm,rfl⟩
 ·have h0':((s.size:Int) == 0) = false:=by rw [beq_eq_false_iff_ne];omega
  by_cases h1:8 < s.size
  ·have H:Hid (Txt.word s = ⟨#[]⟩):=Txt.word_no1 (.inr h1)
   go_enter Tryz.func166,Tryz.ntmps166
   go_wp2
   go_ret
   exact ⟨ret_str H.out.symm,rfl⟩
  ·go_enter Tryz.func166,Tryz.ntmps166
   go_wp2
   go_loop [3,4,5] (fun i _ _ => ∃ k:Nat,k ≤ s.size ∧ i = .int .i64 k ∧ Txt.Hexes s k) (fun i _ _ => s.size - (intOf i).toNat)
   case atStart => exact ⟨0,by omega,rfl,fun i hi => by omega⟩
   case round =>
    obtain ⟨k,hk,rfl,hdg⟩:=hrel
    by_cases hlt:k < s.size
    ·have hby:=Txt.byte_at s k hlt
     have HBY:=hid' hby
     have HDG:=hid' hdg
     have h8:=s[k].toNat_lt
     clear hdg hby
     by_cases c:Txt.HexB (s[k].toNat:Int)
     ·have HD2:Hid (Txt.Hexes s (k + 1)):=fun i hi => by
       by_cases e:i = k
       ·subst e;rw [HBY.out];exact c
       ·exact HDG.out i (by omega)
      rcases c with ⟨c1,c2⟩ | ⟨c1,c2⟩
      ·go_wp2
       exact ⟨⟨k + 1,by omega,by go_num,HD2.out⟩,by simp [intOf];omega⟩
      ·go_wp2
       exact ⟨⟨k + 1,by omega,by go_num,HD2.out⟩,by simp [intOf];omega⟩
     ·have H:Hid (Txt.word s = ⟨#[]⟩):=Txt.word_no2 fun h => c (by have:=h k hlt;rw [HBY.out] at this;exact this)
      unfold Txt.HexB at c
      by_cases c1:(s[k].toNat:Int) < 48
      ·clear c
       go_wp2
       go_ret
       exact ⟨ret_str H.out.symm,rfl⟩
      ·by_cases c2:(s[k].toNat:Int) < 97
       ·have c3:decide ((s[k].toNat:Int) ≤ 57) = false:=by simp;omega
        clear c
        go_wp2
        go_ret
        exact ⟨ret_str H.out.symm,rfl⟩
       ·have c3:decide ((s[k].toNat:Int) ≤ 57) = false:=by simp;omega
        have c4:decide ((s[k].toNat:Int) ≤ 102) = false:=by simp;omega
        clear c
        go_wp2
        go_ret
        exact ⟨ret_str H.out.symm,rfl⟩
    ·have ek:k = s.size:=by omega
     have H:Hid (Txt.word s = Txt.noughts.extract s.size 8 ++ s):=Txt.word_yes (by omega) (by rw [← ek];exact hdg)
     clear ek hdg
     go_wp2
     go_ret
     exact ⟨ret_str H.out.symm,rfl⟩
end Go.Proofs.YtmmkhodaljpjgaaGreatDoor
