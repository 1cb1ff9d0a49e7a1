import Derived.Test.YtmmkhodaljpjgaaGreatDoorV01
import Derived.Lib.LaidTab
import Derived.WalkKit
import Derived.WalkSpells
import Derived.WalkLawsBesides
import Derived.Below
import Derived.OwnWalk
import Derived.Deep.RegionHeld3
import Derived.Deep.AppendLies
import Derived.Deep.Draws
import Derived.Laws.Rows
import Derived.Laws.AppendOwnNone
import Derived.WalkSmall
import Derived.OpenShut
namespace Go.Proofs.YtmmkhodaljpjgaaGreatDoor
open Go.RowKit
theorem zero5:(∀ w,(zeroValue 73).run Tryz.prog w = .ok (.agg (zeros 5)) w) ∧ (Tryz.prog.info? 73).map (·.size) = some 5 :=
 zero_of_info (by kernel_rfl)
structure Table (w:World):Prop where
 c0:w.cell? ⟨0,0,none⟩ = some (.int .u32 1518500249)
 c1:w.cell? ⟨0,1,none⟩ = some (.int .u32 1859775393)
 c2:w.cell? ⟨0,2,none⟩ = some (.int .u32 2400959708)
 c3:w.cell? ⟨0,3,none⟩ = some (.int .u32 3395469782)
theorem Table.at' {w:World} (h:Table w) (t:Nat) (ht:t < 80):w.cell? ⟨0,t / 20,none⟩ = some (.int .u32 (Sha.K t)):=by
 unfold Sha.K
 by_cases c0:t < 20
 ·rw [if_pos c0,show t / 20 = 0 from by omega];exact h.c0
 by_cases c1:t < 40
 ·rw [if_neg c0,if_pos c1,show t / 20 = 1 from by omega];exact h.c1
 by_cases c2:t < 60
 ·rw [if_neg c0,if_neg c1,if_pos c2,show t / 20 = 2 from by omega];exact h.c2
 ·rw [if_neg c0,if_neg c1,if_neg c2,show t / 20 = 3 from by omega];exact h.c3
theorem Table.pos {w:World} (h:Table w):0 < w.heap.size:=block_lt_of_cell h.c0
theorem Table.below {w w':World} (h:Table w) (hb:Below w.heap.size w w'):Table w':=by
 have hp:=h.pos
 exact ⟨by rw [hb.cell hp];exact h.c0,by rw [hb.cell hp];exact h.c1,by rw [hb.cell hp];exact h.c2,by rw [hb.cell hp];exact h.c3⟩
set_option maxRecDepth 100000 in
set_option maxHeartbeats 1000000 in
theorem mix_any (x:Sha.St) (l:List Int) (w:World) (hx:x.Ok) (hl:l.length = 80) (hlb:∀ j,0 ≤ l.getD j 0 ∧ l.getD j 0 < 4294967296) (hT:Table w) :
  Calls Tryz.prog 74 #[.agg #[.int .u32 x.a,.int .u32 x.b,.int .u32 x.c,.int .u32 x.d,.int .u32 x.e],.agg (l.map (Value.int .u32)).toArray] w fun q w' => q = .returned (.agg (Sha.mixed l x).cells) ∧ Below w.heap.size w w':=by
 have hz:=zero5.1
 have hp:=hT.pos
 generalize hcs:(l.map (Value.int .u32)).toArray = cs
 have hsz:cs.size = 80:=by rw [← hcs];simp [hl]
 have hat:∀ j,j < 80 → cs[j]? = some (.int .u32 (l.getD j 0)):=by
  intro j hj
  rw [← hcs]
  simp [List.getD_eq_getElem?_getD,hl,hj]
 clear hcs
 have HAT:=hid hat
 have HLB:=hid hlb
 have HT:=hid hT
 have HX:=hid hx
 have HSZ:=hid hsz
 clear hat hlb hT hl hx hsz
 go_enter Tryz.func74,Tryz.ntmps74
 go_wp2_with fail
 go_quiet (fail)
 go_wp2_with fail
 clear hz
 go_loopw [5,6,7,8,9,10,11,12] (fun a b c d e i _ _ wr => ∃ t n:Nat,t ≤ 80 ∧ i = .int .i64 t ∧ a = .int .u32 (Sha.rounds l x t).a ∧ b = .int .u32 (Sha.rounds l x t).b ∧ c = .int .u32 (Sha.rounds l x t).c ∧ d = .int .u32 (Sha.rounds l x t).d ∧ e = .int .u32 (Sha.rounds l x t).e
   ∧ wr = (((w.alloc (.cells #[.int .u32 x.a,.int .u32 x.b,.int .u32 x.c,.int .u32 x.d,.int .u32 x.e] 73)).alloc (.cells cs 135)).alloc (.cells (zeros 5) 73)).drewN n) (fun _ _ _ _ _ i _ _ _ => 80 - (intOf i).toNat)
 case atStart => exact ⟨0,nq,by omega,rfl,rfl,rfl,rfl,rfl,rfl,rfl⟩
 case round =>
  obtain ⟨t,n,ht,rfl,rfl,rfl,rfl,rfl,rfl,rfl⟩:=hrel
  by_cases hlt:t < 80
  ·have hok:=Sha.rounds_ok l x HX.out t
   have HR:Hid (Sha.rounds l x (t + 1) = Sha.step (Sha.rounds l x t) t (l.getD t 0)):=rfl
   have g:=HAT.out t hlt
   have gb:=HLB.out t
   have hk:(((w.alloc (.cells #[.int .u32 x.a,.int .u32 x.b,.int .u32 x.c,.int .u32 x.d,.int .u32 x.e] 73)).alloc (.cells cs 135)).alloc (.cells (zeros 5) 73)).cell? ⟨0,t / 20,none⟩ = some (.int .u32 (Sha.K t)):=by
    refine (Table.below HT.out ?_).at' t hlt
    exact ((((Below.refl _ _).alloc (Nat.le_refl _) _).alloc (by simp) _).alloc (by simp;omega) _)
   obtain ⟨q,hq⟩:∃ q,t / 20 = q:=⟨_,rfl⟩
   have hq4:(q:Int) < 4:=by omega
   have hqw:IntKind.i64.wrap ((t:Int) / 20) = (q:Int):=by rw [IntKind.wrap_i64];omega
   rw [hq] at hk
   clear hq
   generalize Sha.rounds l x t = y at *
   obtain ⟨a,b,c,d,e⟩:=y
   generalize l.getD t 0 = wt at *
   have HK:Hid (Sha.K t = Sha.K t):=rfl
   generalize hkt:Sha.K t = kt at *
   have HKT:=hid hkt
   clear hkt HK
   obtain ⟨ha,hb,hc,hd,he⟩:=hok
   simp only at ha hb hc hd he
   go_wp2_with (go_at_call 119;refine (combine_any t _ _ _ _ hlt).mono ?_;rintro q w' ⟨rfl,rfl⟩)
   go_quiet (fail)
   go_wp2
   refine ⟨⟨t + 1,n + nq,by omega,by go_num,?_,?_,?_,?_,?_,rfl⟩,by simp [intOf];omega⟩
   ·rw [HR.out]
    simp only [Sha.step,Sha.rol5,HKT.out]
    congr 1
    omega
   ·rw [HR.out];rfl
   ·rw [HR.out];rfl
   ·rw [HR.out];rfl
   ·rw [HR.out];rfl
  ·have e80:t = 80:=by omega
   subst e80
   have G:Hid (((((w.alloc (.cells #[.int .u32 x.a,.int .u32 x.b,.int .u32 x.c,.int .u32 x.d,.int .u32 x.e] 73)).alloc (.cells cs 135)).alloc (.cells (zeros 5) 73)).drewN n).heap[w.heap.size + 1 + 1]? = some (.cells (zeros 5) 73 (0,0))):=by
    have e2:((w.alloc (.cells #[.int .u32 x.a,.int .u32 x.b,.int .u32 x.c,.int .u32 x.d,.int .u32 x.e] 73)).alloc (.cells cs 135)).heap.size = w.heap.size + 1 + 1:=by simp
    show (((w.alloc (.cells #[.int .u32 x.a,.int .u32 x.b,.int .u32 x.c,.int .u32 x.d,.int .u32 x.e] 73)).alloc (.cells cs 135)).alloc (.cells (zeros 5) 73)).heap[w.heap.size + 1 + 1]? = _
    rw [← e2];exact heap_alloc_new _ _
   have I:Hid ((Tryz.prog.info? 73).map (·.size) = some (Sha.mixed l x).cells.size):=zero5.2
   have H1:Hid ((Sha.mixed l x).cells.all (·.oneCell') = true):=by show _ = _;simp [Sha.St.cells,Value.oneCell']
   have HB:=hid (below_drewN ((((Below.refl w.heap.size w).alloc (Nat.le_refl _) (.cells #[.int .u32 x.a,.int .u32 x.b,.int .u32 x.c,.int .u32 x.d,.int .u32 x.e] 73)).alloc (by simp) (.cells cs 135)).alloc (by simp;omega) (.cells (zeros 5) 73)) n)
   go_wp2_with ((with_reducible refine wpl_store (g:=w.heap.size + 1 + 1) (cells:=(Sha.mixed l x).cells) G.out I.out ?_ H1.out ?_ ?_ ?_);(rw [zeros_size];exact rfl);exact rfl;exact rfl)
   refine bodyPost_ret (v:=.agg (Sha.mixed l x).cells) (results_cell_row rfl _ _ (w.heap.size + 1 + 1) 73 (Sha.mixed l x).cells (0,0) _ rfl (setRow_heap _ _ _ _ _ _ G.out) Tryz.underlying73 rfl I.out) rfl ?_
   exact ⟨rfl,below_setRow HB.out (by omega)⟩
theorem laid_mem {P:Program} {w:World} {n:String} {d:DataW Unit}:∀ {l:List (String × DataW Unit)} {ps:List MemPlace},DataW.LaidVars P w l ps → (n,d) ∈ l →
  ∃ g t cs fuel p,P.globalNamed n = some g ∧ (P.globals[g]?).map (·.type) = some t ∧ w.var? P n = some cs ∧ DataW.trod (fun _ => ()) P w 0 (fun _ => true) false fuel t cs.toList = some (d,p)
 | [],_,_,hm => by cases hm
 | (m,e) :: r,ps,h,hm => by
  obtain ⟨g,t,cs,fuel,p,q,a,b,c,f,hr,_⟩:=h
  rcases List.mem_cons.1 hm with hm | hm
  ·cases hm;exact ⟨g,t,cs,fuel,p,a,b,c,f⟩
  ·exact laid_mem hr hm
theorem tab_of_laid {P:Program} {W:World} {name:String} {k:IntKind} {zs:List Int} {laid:List (String × DataW Unit)} {g:Nat} {t e:TypeId} {n:Nat}
  (hg:P.globalNamed name = some g) (hty:(P.globals[g]?).map (·.type) = some t) (ht:P.underlying t = some (.array n e)) (he:P.underlying e = some (.int k)) (hce:P.cellsOf e = 1) (hct:P.cellsOf t = n)
  (hm:(name,Lib.tabData k zs) ∈ laid) (h:laidMet P laid W):Lib.TabIs P W name k zs:=by
 obtain ⟨ps,hl,_⟩:=h
 obtain ⟨g',t',cs,fuel,p,hg',ht',hvar,hd⟩:=laid_mem hl hm
 obtain rfl:=Option.some.inj (hg.symm.trans hg')
 obtain rfl:=Option.some.inj (hty.symm.trans ht')
 unfold Lib.TabIs
 rw [hvar,← Lib.cells_of_tab ht he hce hct hd]
theorem table_of_laid {W : World} {laid : List (String × DataW Unit)} (hm : ("smear/digest.roundConstants", Lib.tabData .u32 [1518500249, 1859775393, 2400959708, 3395469782]) ∈ laid) (h : laidMet Tryz.prog laid W) : Table W := by
 have ht:=tab_of_laid (P:=Tryz.prog) (g:=0) (by kernel_rfl) (by kernel_rfl) Tryz.underlying177 Tryz.underlying72 (by kernel_rfl) (by kernel_rfl) hm h
 have hg : Tryz.prog.globalNamed "smear/digest.roundConstants" = some 0 := by kernel_rfl
 exact ⟨ht.cell hg 0 (by decide),ht.cell hg 1 (by decide),ht.cell hg 2 (by decide),ht.cell hg 3 (by decide)⟩
end Go.Proofs.YtmmkhodaljpjgaaGreatDoor
namespace Go.Proofs.YtmmkhodaljpjgaaGreatDoor.Cal
def lp (y:Int):Int:=if y % 4 = 0 ∧ (y % 100 ≠ 0 ∨ y % 400 = 0) then 1 else 0
def yb (y:Int):Int:=365 * (y - 1900) + ((y - 1) / 4 - (y - 1) / 100 + (y - 1) / 400) - 460
def dim (y m:Int):Int:=if m = 2 then 28 + lp y else if m = 4 ∨ m = 6 ∨ m = 9 ∨ m = 11 then 30 else 31
def cum (y m:Int):Int :=
 if m ≤ 1 then 0 else if m = 2 then 31 else if m = 3 then 59 + lp y else if m = 4 then 90 + lp y else if m = 5 then 120 + lp y
 else if m = 6 then 151 + lp y else if m = 7 then 181 + lp y else if m = 8 then 212 + lp y else if m = 9 then 243 + lp y
 else if m = 10 then 273 + lp y else if m = 11 then 304 + lp y else if m = 12 then 334 + lp y else 365 + lp y
theorem lp_01 (y:Int):0 ≤ lp y ∧ lp y ≤ 1:=by unfold lp;split <;> omega
theorem yb_succ (y:Int):yb (y + 1) = yb y + 365 + lp y:=by
 unfold yb lp;split <;> omega
theorem yb_first:yb 1900 = 0:=by decide
theorem yb_last:yb 3000 = 401767:=by decide
theorem yb_mono (a b:Int) (h:a ≤ b):yb a ≤ yb b:=by unfold yb;omega
theorem yb_bd (y:Int) (h0:1900 ≤ y) (h:y ≤ 3000):0 ≤ yb y ∧ yb y ≤ 401767:=by
 have a:=yb_mono 1900 y h0
 have b:=yb_mono y 3000 h
 rw [yb_first] at a;rw [yb_last] at b;exact ⟨a,b⟩
theorem yb_guess (n:Int) (h0:0 ≤ n):yb (1900 + n / 366) ≤ n:=by unfold yb;omega
theorem dim_bd (y m:Int):28 ≤ dim y m ∧ dim y m ≤ 31:=by
 have:=lp_01 y
 unfold dim;split
 ·omega
 ·split <;> omega
theorem months (m:Int) (h1:1 ≤ m) (h2:m ≤ 12):m = 1 ∨ m = 2 ∨ m = 3 ∨ m = 4 ∨ m = 5 ∨ m = 6 ∨ m = 7 ∨ m = 8 ∨ m = 9 ∨ m = 10 ∨ m = 11 ∨ m = 12:=by omega
theorem cum_one (y:Int):cum y 1 = 0:=by unfold cum;rfl
theorem cum_end (y:Int):cum y 13 = 365 + lp y:=by unfold cum;simp
theorem cum_succ (y m:Int) (h1:1 ≤ m) (h2:m ≤ 12):cum y (m + 1) = cum y m + dim y m:=by
 rcases months m h1 h2 with rfl | rfl | rfl | rfl | rfl | rfl | rfl | rfl | rfl | rfl | rfl | rfl <;> simp [cum,dim] <;> omega
theorem cum_mono (y a b:Int) (h:a ≤ b):cum y a ≤ cum y b:=by
 have:=lp_01 y
 unfold cum
 repeat' split
 all_goals omega
theorem cum_bd (y m:Int) (h1:1 ≤ m) (h2:m ≤ 13):0 ≤ cum y m ∧ cum y m ≤ 366:=by
 have a:=cum_mono y 1 m h1
 have b:=cum_mono y m 13 h2
 have c:=lp_01 y
 rw [cum_one] at a;rw [cum_end] at b
 omega
structure In (y m n:Int):Prop where
 y1:1900 ≤ y
 y2:y ≤ 2999
 m1:1 ≤ m
 m2:m ≤ 12
 lo:yb y + cum y m ≤ n
 hi:n < yb y + cum y m + dim y m
theorem In.year {y m n:Int} (h:In y m n):yb y ≤ n ∧ n < yb (y + 1):=by
 have a:=cum_bd y m h.m1 (by have:=h.m2;omega)
 have b:=cum_succ y m h.m1 h.m2
 have c:=cum_mono y (m + 1) 13 (by have:=h.m2;omega)
 have d:=cum_end y
 have e:=yb_succ y
 have:=h.lo
 have:=h.hi
 omega
theorem In.only {y m z o n:Int} (a:In y m n) (b:In z o n):y = z ∧ m = o:=by
 have ay:=a.year
 have by':=b.year
 have hy:y = z:=by
  rcases Int.lt_trichotomy y z with h | h | h
  ·have:=yb_mono (y + 1) z h;omega
  ·exact h
  ·have:=yb_mono (z + 1) y h;omega
 subst hy
 refine ⟨rfl,?_⟩
 have al:=a.lo
 have ah:=a.hi
 have bl:=b.lo
 have bh:=b.hi
 have a1:=a.m1
 have a2:=a.m2
 have b1:=b.m1
 have b2:=b.m2
 have sa:=cum_succ y m a1 a2
 have sb:=cum_succ y o b1 b2
 rcases Int.lt_trichotomy m o with h | h | h
 ·have:=cum_mono y (m + 1) o h;omega
 ·exact h
 ·have:=cum_mono y (o + 1) m h;omega
end Go.Proofs.YtmmkhodaljpjgaaGreatDoor.Cal
namespace Go.Proofs.YtmmkhodaljpjgaaGreatDoor
open Go.RowKit
theorem ret_int {k:IntKind} {a b:Int} (h:a = b):Ending.returned (.int k a) = .returned (.int k b):=by rw [h]
theorem leap_yes (y:Int) (w:World) (h0:0 ≤ y) (h:Cal.lp y = 1) :
  Calls Tryz.prog 156 #[.int .i64 y] w fun e w' => e = .returned (.bool true) ∧ w' = w:=by
 have h4:y % 4 = 0:=by unfold Cal.lp at h;split at h <;> omega
 have hr:¬ y % 100 = 0 ∨ y % 400 = 0:=by unfold Cal.lp at h;split at h <;> omega
 clear h
 by_cases c:y % 100 = 0
 ·have d:y % 400 = 0:=by omega
  clear hr
  go_enter Tryz.func156,Tryz.ntmps156
  go_wp2
  go_ret
  exact ⟨rfl,rfl⟩
 ·clear hr
  go_enter Tryz.func156,Tryz.ntmps156
  go_wp2
  go_ret
  exact ⟨rfl,rfl⟩
theorem leap_no (y:Int) (w:World) (h0:0 ≤ y) (h:Cal.lp y = 0) :
  Calls Tryz.prog 156 #[.int .i64 y] w fun e w' => e = .returned (.bool false) ∧ w' = w:=by
 have hr:¬ y % 4 = 0 ∨ (y % 100 = 0 ∧ ¬ y % 400 = 0):=by unfold Cal.lp at h;split at h <;> omega
 clear h
 by_cases c:y % 4 = 0
 ·have d:y % 100 = 0:=by omega
  have f:(y % 400 == 0) = false:=by rw [beq_eq_false_iff_ne];omega
  clear hr
  go_enter Tryz.func156,Tryz.ntmps156
  go_wp2
  go_ret
  exact ⟨rfl,rfl⟩
 ·clear hr
  go_enter Tryz.func156,Tryz.ntmps156
  go_wp2
  go_ret
  exact ⟨rfl,rfl⟩
theorem before_any (y:Int) (w:World) (h0:1 ≤ y) (h1:y ≤ 10000) :
  Calls Tryz.prog 157 #[.int .i64 y] w fun e w' => e = .returned (.int .i64 ((y - 1) / 4 - (y - 1) / 100 + (y - 1) / 400)) ∧ w' = w:=by
 go_enter Tryz.func157,Tryz.ntmps157
 go_wp2
 go_ret
 exact ⟨rfl,rfl⟩
theorem begin_any (y:Int) (w:World) (h0:1900 ≤ y) (h1:y ≤ 3000) :
  Calls Tryz.prog 115 #[.int .i64 y] w fun e w' => e = .returned (.int .i64 (Cal.yb y)) ∧ w' = w:=by
 go_enter Tryz.func115,Tryz.ntmps115
 go_wp2_with (go_at_call 157;refine (before_any _ _ (by omega) (by omega)).mono ?_;rintro e w' ⟨rfl,rfl⟩)
 go_ret
 exact ⟨rfl,rfl⟩
theorem dim_any (y m:Int) (w:World) (h0:0 ≤ y) :
  Calls Tryz.prog 114 #[.int .i64 y,.int .i64 m] w fun e w' => e = .returned (.int .i64 (Cal.dim y m)) ∧ w' = w:=by
 by_cases h2:m = 2
 ·subst h2
  by_cases hl:Cal.lp y = 1
  ·have he:Cal.dim y 2 = 29:=by unfold Cal.dim;rw [if_pos rfl];omega
   have H:Hid (Cal.dim y 2 = 29):=he
   clear he
   go_enter Tryz.func114,Tryz.ntmps114
   go_wp2_with (go_at_call 156;refine (leap_yes _ _ h0 hl).mono ?_;rintro e w' ⟨rfl,rfl⟩)
   go_ret
   exact ⟨ret_int H.out.symm,rfl⟩
  ·have hz:Cal.lp y = 0:=by have:=Cal.lp_01 y;omega
   have he:Cal.dim y 2 = 28:=by unfold Cal.dim;rw [if_pos rfl];omega
   have H:Hid (Cal.dim y 2 = 28):=he
   clear he
   go_enter Tryz.func114,Tryz.ntmps114
   go_wp2_with (go_at_call 156;refine (leap_no _ _ h0 hz).mono ?_;rintro e w' ⟨rfl,rfl⟩)
   go_ret
   exact ⟨ret_int H.out.symm,rfl⟩
 ·by_cases h3:m = 4 ∨ m = 6 ∨ m = 9 ∨ m = 11
  ·rcases h3 with rfl | rfl | rfl | rfl
   all_goals
    go_enter Tryz.func114,Tryz.ntmps114
    go_wp2
    go_ret
    exact ⟨rfl,rfl⟩
  ·have he:Cal.dim y m = 31:=by unfold Cal.dim;rw [if_neg h2,if_neg h3]
   have H:Hid (Cal.dim y m = 31):=he
   have a4:¬ m = 4:=by omega
   have a6:¬ m = 6:=by omega
   have a9:¬ m = 9:=by omega
   have a11:¬ m = 11:=by omega
   clear he h3
   go_enter Tryz.func114,Tryz.ntmps114
   go_wp2
   go_ret
   exact ⟨ret_int H.out.symm,rfl⟩
theorem hid' {p:Prop} (h:p):Hid p:=h
def Keep (t:TypeId) (w w':World):Prop:=∀ (k:Nat) (cs:Array Value) (fr:Nat × Nat),w.heap[k]? = some (.cells cs t fr) → w'.heap[k]? = some (.cells cs t fr)
theorem Keep.refl (t:TypeId) (w:World):Keep t w w:=fun _ _ _ h => h
theorem Keep.trans {t:TypeId} {a b c:World} (h:Keep t a b) (g:Keep t b c):Keep t a c:=fun k cs fr e => g k cs fr (h k cs fr e)
theorem lt_of_heap {w:World} {k:Nat} {o:Obj} (h:w.heap[k]? = some o):k < w.heap.size:=by
 by_cases c:k < w.heap.size
 ·exact c
 ·rw [Array.getElem?_eq_none (by omega)] at h;simp at h
theorem Keep.alloc {t:TypeId} {a w:World} (h:Keep t a w) (o:Obj):Keep t a (w.alloc o):=fun k cs fr e => by
 have e':=h k cs fr e
 rw [Below.heap_alloc _ _ _ (lt_of_heap e')];exact e'
theorem Keep.setCell {t u:TypeId} {a w:World} (h:Keep t a w) {p:Addr} {cs:Array Value} {fr:Nat × Nat} (hp:w.heap[p.block]? = some (.cells cs u fr)) (hu:u ≠ t) (v:Value):Keep t a (w.setCell p v):=fun k cs' fr' e => by
 have e':=h k cs' fr' e
 rw [heap_setCell_other _ _ _ _ (by intro q;subst q;rw [e'] at hp;simp at hp;exact hu hp.2.1.symm)];exact e'
theorem Keep.grown {t u:TypeId} {a w w':World} {v:Value} {base size n:Nat} {xs:List Value} (h:Keep t a w) (hg:w.grownBy w' v.ownBlock) (ho:w.ownsRow base u size v n xs) (hu:u ≠ t):Keep t a w':=fun k cs fr e => by
 have e':=h k cs fr e
 rw [hg.block k (lt_of_heap e') ?_];exact e'
 intro q
 rcases ho.2 with ⟨rfl,_⟩ | ⟨g,cap,cur,rfl,_,hh,_⟩
 ·simp [Value.ownBlock] at q
 ·simp [Value.ownBlock] at q;subst q;rw [e'] at hh;simp at hh;exact hu hh.2.1.symm
def flat:List (Int × Int) → List Value
 | [] => []
 | p :: r => .int .i64 p.1 :: .int .i64 p.2 :: flat r
theorem flat_length (l:List (Int × Int)):(flat l).length = l.length * 2:=by
 induction l with
 | nil => rfl
 | cons p r ih => simp [flat,ih];omega
theorem flat_append (l r:List (Int × Int)):flat (l ++ r) = flat l ++ flat r:=by
 induction l with
 | nil => rfl
 | cons p q ih => simp [flat,ih]
theorem own_set {w:World} {B size n:Nat} {e u:TypeId} {v:Value} {xs:List Value} (h:w.ownsRow B e size v n xs) {p:Addr} {cs:Array Value} {fr:Nat × Nat}
  (hp:w.heap[p.block]? = some (.cells cs u fr)) (hu:u ≠ e) (x:Value):(w.setCell p x).ownsRow B e size v n xs:=by
 refine ⟨h.1,?_⟩
 rcases h.2 with h | ⟨g,cap,cur,rfl,a,hh,b⟩
 ·exact .inl h
 ·refine .inr ⟨g,cap,cur,rfl,a,?_,b⟩
  rw [heap_setCell_other _ _ _ _ (by intro q;subst q;rw [hh] at hp;simp at hp;exact hu hp.2.1.symm)]
  exact hh
theorem own_grown {w w':World} {B B' size size' n n':Nat} {e u:TypeId} {v v':Value} {xs xs':List Value} (h:w.ownsRow B e size v n xs) (hg:w.grownBy w' v'.ownBlock)
  (ho:w.ownsRow B' u size' v' n' xs') (hu:u ≠ e):w'.ownsRow B e size v n xs:=by
 refine ⟨h.1,?_⟩
 rcases h.2 with h | ⟨g,cap,cur,rfl,a,hh,b⟩
 ·exact .inl h
 ·exact .inr ⟨g,cap,cur,rfl,a,(Keep.grown (Keep.refl e w) hg ho hu) _ _ _ hh,b⟩
theorem flat_one (l:List (Int × Int)):∀ u ∈ flat l,u.oneCell' = true:=by
 induction l with
 | nil => intro u h;cases h
 | cons p r ih =>
  intro u h
  simp [flat] at h
  rcases h with rfl | rfl | h
  ·rfl
  ·rfl
  ·exact ih u h
theorem own_cells {w:World} {B e size g n cap:Nat} {xs:List Value} (h:w.ownsRow B e size (.slice (some ⟨g,0,none⟩) n cap) n xs) :
  ∀ (j:Nat) (u:Value),xs[j]? = some u → w.cell? ((⟨g,0,none⟩:Addr).add j) = some u:=by
 intro j u hj
 have hl:j < xs.length:=by
  by_cases c:j < xs.length
  ·exact c
  ·rw [List.getElem?_eq_none (by omega)] at hj;cases hj
 have:=h.cellAt j (by rw [← h.1];exact hl)
 rw [hj] at this
 have hadd:(⟨g,0,none⟩:Addr).add j = ⟨g,j,none⟩:=by unfold Addr.add;split <;> simp_all
 rw [hadd];exact this
theorem grown_heap {w w':World} {v:Value} {B size n:Nat} {l:List Value} {u t:TypeId} {k:Nat} {cs:Array Value} {fr:Nat × Nat} (hg:w.grownBy w' v.ownBlock) (ho:w.ownsRow B u size v n l)
  (hk:w.heap[k]? = some (.cells cs t fr)) (hu:u ≠ t):w'.heap[k]? = some (.cells cs t fr):=(Keep.grown (Keep.refl t w) hg ho hu) _ _ _ hk
theorem own_ge {w:World} {B e size n:Nat} {v:Value} {xs:List Value} (h:w.ownsRow B e size v n xs):∀ k,v.ownBlock = some k → B ≤ k:=by
 intro k hk
 rcases h.2 with ⟨rfl,_⟩ | ⟨g,cap,cur,rfl,a,_⟩
 ·simp [Value.ownBlock] at hk
 ·simp [Value.ownBlock] at hk;omega
theorem own_ne {w:World} {B e size n k:Nat} {v:Value} {xs:List Value} {cs:Array Value} {t:TypeId} {fr:Nat × Nat} (h:w.ownsRow B e size v n xs) (hk:w.heap[k]? = some (.cells cs t fr)) (ht:t ≠ e):v.ownBlock ≠ some k:=by
 intro q
 rcases h.2 with ⟨rfl,_⟩ | ⟨g,cap,cur,rfl,_,hh,_⟩
 ·simp [Value.ownBlock] at q
 ·simp [Value.ownBlock] at q;subst q;rw [hk] at hh;simp at hh;exact ht hh.2.1
theorem own_lt {w:World} {B e size n:Nat} {v:Value} {xs:List Value} (h:w.ownsRow B e size v n xs):∀ k,v.ownBlock = some k → k < w.heap.size:=by
 intro k q
 rcases h.2 with ⟨rfl,_⟩ | ⟨g,cap,cur,rfl,_,hh,_⟩
 ·simp [Value.ownBlock] at q
 ·simp [Value.ownBlock] at q;subst q;exact lt_of_heap hh
theorem ret_bool {a b:Bool} (h:a = b):Ending.returned (.bool a) = .returned (.bool b):=by rw [h]
theorem flat_at0 (l:List (Int × Int)) (i:Nat) (h:i < l.length):(flat l)[i * 2]? = some (.int .i64 l[i].1):=by
 induction l generalizing i with
 | nil => simp at h
 | cons p r ih =>
  cases i with
  | zero => rfl
  | succ i =>
   have:=ih i (by simpa using h)
   rw [show (i + 1) * 2 = i * 2 + 1 + 1 from by omega]
   simpa [flat] using this
theorem flat_at1 (l:List (Int × Int)) (i:Nat) (h:i < l.length):(flat l)[i * 2 + 1]? = some (.int .i64 l[i].2):=by
 induction l generalizing i with
 | nil => simp at h
 | cons p r ih =>
  cases i with
  | zero => rfl
  | succ i =>
   have:=ih i (by simpa using h)
   rw [show (i + 1) * 2 + 1 = i * 2 + 1 + 1 + 1 from by omega]
   simpa [flat] using this
theorem flat_take_succ (ls:List (Int × Int)) (k:Nat) (h:k < ls.length):flat (ls.take k) ++ [.int .i64 ls[k].1,.int .i64 ls[k].2] = flat (ls.take (k + 1)):=by
 rw [List.take_succ_eq_append_getElem h]
 generalize ls.take k = a
 induction a with
 | nil => rfl
 | cons p r ih => simp [flat,ih]
theorem own_down {w w':World} {B size n:Nat} {e:TypeId} {v:Value} {xs:List Value} (h:w.ownsRow B e size v n xs) (hb:Below w.heap.size w w'):w'.ownsRow B e size v n xs:=by
 have hlt:=h.lt
 rcases h with ⟨h1,⟨rfl,rfl⟩ | ⟨g,cap,cur,rfl,hbg,hg,r⟩⟩
 ·exact ⟨h1,.inl ⟨rfl,rfl⟩⟩
 ·exact ⟨h1,.inr ⟨g,cap,cur,rfl,hbg,(hb.block g (hlt g rfl).2).trans hg,r⟩⟩
def WfP (p:Int × Int):Prop:=(Lit.int .i64 p.1).wf = true ∧ (Lit.int .i64 p.2).wf = true
theorem ret_pair {a b c d:Int} (h:a = c) (h':b = d):Ending.returned (.tuple #[.int .i64 a,.int .i64 b]) = .returned (.tuple #[.int .i64 c,.int .i64 d]):=by rw [h,h']
theorem own_some {w:World} {B n:Nat} {lv:Value} {xs:List Value} {e size:Nat} (h:w.ownsRow B e size lv n xs) (hn:0 < n):∃ g cap,lv = .slice (some ⟨g,0,none⟩) n cap:=by
 rcases h.2 with ⟨rfl,h⟩ | ⟨g,cap,cur,rfl,_⟩
 ·omega
 ·exact ⟨_,_,rfl⟩
end Go.Proofs.YtmmkhodaljpjgaaGreatDoor
