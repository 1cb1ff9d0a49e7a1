import Derived.Deep.RegionHeld3
import Derived.Deep.AppendLies
import Derived.Deep.Draws
import Derived.Laws.Rows
import Derived.Laws.AppendOwnNone
import Derived.WalkSmall
import Derived.OpenShut
import Derived.Test.YtmmkhodaljpjgaaGreatDoorV06
import Derived.Deep.QuietTactic
import Derived.BigQuiet
import Derived.BigRegion
import Derived.Maps.AppendAt
import Derived.StillTactics
import Derived.Deep.DrawnRows
import Derived.Deep.RegionLaw
import Derived.Deep.DeepMust
set_option maxRecDepth 100000
set_option maxHeartbeats 6400000
namespace Go.Proofs.YtmmkhodaljpjgaaGreatDoor
open Go.RowKit
def Blk (bW:Nat) (tv:Value) (up ex:Int) (lv:Value) (se fr:Int) (xs:Value) (w:World):Prop :=
 w.heap[bW]? = some (.cells #[tv,.int .i64 up,.int .i64 ex,lv,.int .i64 se,.int .i64 fr,xs] 38 (0,0))
theorem Blk.lt {bW:Nat} {tv lv xs:Value} {up ex se fr:Int} {w:World} (h:Blk bW tv up ex lv se fr xs w):bW < w.heap.size:=by
 unfold Blk at h
 by_cases c:bW < w.heap.size
 ·exact c
 ·rw [Array.getElem?_eq_none (by omega)] at h;simp at h
theorem Blk.cell {bW:Nat} {tv lv xs:Value} {up ex se fr:Int} {w:World} (h:Blk bW tv up ex lv se fr xs w) (j:Nat) :
  w.cell? ⟨bW,j,none⟩ = #[tv,.int .i64 up,.int .i64 ex,lv,.int .i64 se,.int .i64 fr,xs][j]?:=cell_of_row _ _ _ _ _ _ h
theorem Blk.free {bW:Nat} {tv lv xs:Value} {up ex se fr:Int} {w:World} (h:Blk bW tv up ex lv se fr xs w) (j:Nat) :
  w.frozen? ⟨bW,j,none⟩ = false:=frozen_of_row _ _ _ _ _ h
theorem Blk.at0 {bW:Nat} {tv lv xs:Value} {up ex se fr:Int} {w:World} (h:Blk bW tv up ex lv se fr xs w) (v:Value):Blk bW v up ex lv se fr xs (w.setCell ⟨bW,0,none⟩ v):=by
 unfold Blk at *;rw [heap_setCell_same _ _ _ _ _ _ h];simp
theorem Blk.at1 {bW:Nat} {tv lv xs:Value} {up ex se fr:Int} {w:World} (h:Blk bW tv up ex lv se fr xs w) (v:Int):Blk bW tv v ex lv se fr xs (w.setCell ⟨bW,1,none⟩ (.int .i64 v)):=by
 unfold Blk at *;rw [heap_setCell_same _ _ _ _ _ _ h];simp
theorem Blk.at2 {bW:Nat} {tv lv xs:Value} {up ex se fr:Int} {w:World} (h:Blk bW tv up ex lv se fr xs w) (v:Int):Blk bW tv up v lv se fr xs (w.setCell ⟨bW,2,none⟩ (.int .i64 v)):=by
 unfold Blk at *;rw [heap_setCell_same _ _ _ _ _ _ h];simp
theorem Blk.at3 {bW:Nat} {tv lv xs:Value} {up ex se fr:Int} {w:World} (h:Blk bW tv up ex lv se fr xs w) (v:Value):Blk bW tv up ex v se fr xs (w.setCell ⟨bW,3,none⟩ v):=by
 unfold Blk at *;rw [heap_setCell_same _ _ _ _ _ _ h];simp
theorem Blk.at4 {bW:Nat} {tv lv xs:Value} {up ex se fr:Int} {w:World} (h:Blk bW tv up ex lv se fr xs w) (v:Int):Blk bW tv up ex lv v fr xs (w.setCell ⟨bW,4,none⟩ (.int .i64 v)):=by
 unfold Blk at *;rw [heap_setCell_same _ _ _ _ _ _ h];simp
theorem Blk.at5 {bW:Nat} {tv lv xs:Value} {up ex se fr:Int} {w:World} (h:Blk bW tv up ex lv se fr xs w) (v:Int):Blk bW tv up ex lv se v xs (w.setCell ⟨bW,5,none⟩ (.int .i64 v)):=by
 unfold Blk at *;rw [heap_setCell_same _ _ _ _ _ _ h];simp
theorem Blk.alloc {bW:Nat} {tv lv xs:Value} {up ex se fr:Int} {w:World} (h:Blk bW tv up ex lv se fr xs w) (o:Obj):Blk bW tv up ex lv se fr xs (w.alloc o):=by
 have:=h.lt
 unfold Blk at *;rw [Below.heap_alloc _ _ _ this];exact h
theorem Blk.grown {bW:Nat} {tv lv xs:Value} {up ex se fr:Int} {w w':World} {v:Value} {base size n:Nat} {l:List Value} {u:TypeId} (h:Blk bW tv up ex lv se fr xs w)
  (hg:w.grownBy w' v.ownBlock) (ho:w.ownsRow base u size v n l) (hu:u ≠ 38):Blk bW tv up ex lv se fr xs w' :=
 (Keep.grown (Keep.refl 38 w) hg ho hu) _ _ _ h
theorem Blk.own {bW:Nat} {tv lv xs:Value} {up ex se fr:Int} {w:World} (h:Blk bW tv up ex lv se fr xs w) {B size n:Nat} {e:TypeId} {v:Value} {l:List Value} (ho:w.ownsRow B e size v n l)
  (he:38 ≠ e) (j:Nat) (x:Value):(w.setCell ⟨bW,j,none⟩ x).ownsRow B e size v n l:=own_set ho (p:=⟨bW,j,none⟩) h he x
theorem Blk.keep {bW:Nat} {tv lv xs:Value} {up ex se fr:Int} {w a:World} (h:Blk bW tv up ex lv se fr xs w) {e:TypeId} (ho:Keep e a w)
  (he:38 ≠ e) (j:Nat) (x:Value):Keep e a (w.setCell ⟨bW,j,none⟩ x):=ho.setCell (p:=⟨bW,j,none⟩) h he x
structure Nums (ts:List ByteArray) (ls:List (Int × Int)) (up ex se fr:Int):Prop where
 txt:∀ t ∈ ts,t.size ≤ 16384
 tab:∀ p ∈ ls,(Lit.int .i64 p.1).wf = true ∧ (Lit.int .i64 p.2).wf = true
 up:(Lit.int .i64 up).wf = true
 ex:(Lit.int .i64 ex).wf = true
 se:(Lit.int .i64 se).wf = true
 fr:(Lit.int .i64 fr).wf = true
def Keeps (w w':World):Prop:=∀ e:TypeId,38 ≠ e → 9 ≠ e → Keep e w w'
theorem Keeps.refl (w:World):Keeps w w:=fun e _ _ => Keep.refl e w
theorem Keeps.trans {a b c:World} (h:Keeps a b) (g:Keeps b c):Keeps a c:=fun e h1 h2 => (h e h1 h2).trans (g e h1 h2)
theorem Keeps.alloc {a w:World} (h:Keeps a w) (o:Obj):Keeps a (w.alloc o):=fun e h1 h2 => (h e h1 h2).alloc o
theorem Keeps.below {w w':World} (hb:Below w.heap.size w w'):Keeps w w':=fun _ _ _ k cs fr e => by rw [hb.block k (lt_of_heap e)];exact e
theorem Keeps.grown {a w w':World} {v:Value} {base size n:Nat} {xs:List Value} (h:Keeps a w) (hg:w.grownBy w' v.ownBlock) (ho:w.ownsRow base 9 size v n xs):Keeps a w':=fun e h1 h2 => (h e h1 h2).grown hg ho h2
theorem Blk.keeps {bW:Nat} {tv lv xs:Value} {up ex se fr:Int} {w a:World} (h:Blk bW tv up ex lv se fr xs w) (ho:Keeps a w) (j:Nat) (x:Value):Keeps a (w.setCell ⟨bW,j,none⟩ x):=fun e h1 h2 => h.keep (ho e h1 h2) h1 j x
theorem Keeps.op {w w':World} (h:Keeps w w'):Keep 27 w w':=h _ (by decide) (by decide)
structure Xs where
 P:Nat → (Nat → Prop) → Value → World → Prop
 up:∀ {n m:Nat} {F:Nat → Prop} {v:Value} {w:World},P n F v w → n ≤ m → P m F v w
 keep:∀ {n:Nat} {F:Nat → Prop} {v:Value} {w w':World},P n F v w → (∀ k,F k → w'.heap[k]? = w.heap[k]?) → P n F v w'
 typ:∀ {n:Nat} {F:Nat → Prop} {v:Value} {w:World},P n F v w → ∀ k,F k → ∃ cs e fr,w.heap[k]? = some (.cells cs e fr) ∧ 38 ≠ e ∧ 9 ≠ e
structure Srv (X:Xs) (n:Nat) (F:Nat → Prop) (lv xv:Value) (w:World):Prop where
 p:X.P n F xv w
 off:∀ k,F k → lv.ownBlock ≠ some k
theorem Keeps.same {w w':World} (h:Keeps w w') {X:Xs} {n:Nat} {F:Nat → Prop} {v:Value} (hp:X.P n F v w):∀ k,F k → w'.heap[k]? = w.heap[k]?:=fun k hk => by
 obtain ⟨cs,e,fr,h1,h2,h3⟩:=X.typ hp k hk
 rw [h1];exact h e h2 h3 k cs fr h1
theorem Srv.keeps {X:Xs} {n m:Nat} {F:Nat → Prop} {lv xv:Value} {w w':World} (h:Srv X n F lv xv w) (hk:Keeps w w') (hm:n ≤ m):Srv X m F lv xv w' :=
 ⟨X.up (X.keep h.p (hk.same h.p)) hm,h.off⟩
theorem Srv.fresh {X:Xs} {n m:Nat} {F:Nat → Prop} {lv xv lv':Value} {w w':World} (h:Srv X n F lv xv w) (hk:Keeps w w') (hm:n ≤ m) (hl:∀ k,lv'.ownBlock = some k → w.heap.size ≤ k):Srv X m F lv' xv w' :=
 ⟨X.up (X.keep h.p (hk.same h.p)) hm,fun k hF q => by
  obtain ⟨cs,e,fr,h1,_⟩:=X.typ h.p k hF
  have:=lt_of_heap h1
  have:=hl k q
  omega⟩
structure Inv (X:Xs) (B bW n:Nat) (w:World):Prop where
 le:B ≤ bW
 is:∃ (tv lv xv:Value) (F:Nat → Prop) (ts:List ByteArray) (ls:List (Int × Int)) (up ex se fr:Int),Blk bW tv up ex lv se fr xv w ∧ w.ownsRow B 9 1 tv ts.length (ts.map Value.string) ∧ w.ownsRow B 46 2 lv ls.length (flat ls) ∧
  ts.length ≤ n ∧ ls.length ≤ n + 40 ∧ Nums ts ls up ex se fr ∧ Srv X n F lv xv w
def Left (X:Xs) (B bW n:Nat) (w w':World):Prop:=Inv X B bW (n + 1) w' ∧ Keeps w w' ∧ Below B w w'
theorem owner_stamps {X:Xs} (B bW n:Nat) (x a b c d:Int) (s:ByteArray) (w:World) (wa:(Lit.int .i64 a).wf = true) (wb:(Lit.int .i64 b).wf = true) (hI:Inv X B bW n w) (hB:B ≤ w.heap.size) :
  Calls Tryz.prog 16 #[.pointer (some ⟨bW,0,none⟩),.agg #[.int .i64 3,.int .i64 x,.int .i64 a,.int .i64 b,.int .i64 c,.int .i64 d,.string s]] w fun e w' =>
   e = .returned (.bool true) ∧ Left X B bW n w w':=by
 have WA:=hid' wa
 have WB:=hid' wb
 clear wa wb
 obtain ⟨le,tv,lv,xv,F,ts,ls,up,ex,se,fr,hb,ht,hl,h1,h2,h3,h4⟩:=hI
 have hlt:=hb.lt
 have c1:=hb.cell 1
 have c2:=hb.cell 2
 have f1:=hb.free 1
 have f2:=hb.free 2
 simp at c1 c2
 have HB:=hid' hb
 have HT:=hid' ht
 have HL:=hid' hl
 have H4:=hid' h4
 clear hb ht hl h4
 go_enter Tryz.func16,Tryz.ntmps16
 go_wp2
 go_ret
 have b1:=HB.out
 have b2:=b1.at1 a
 have b3:=b2.at2 b
 have kk:=fun o => (b2.keeps (b1.keeps (Keeps.refl w) 1 (.int .i64 a)) 2 (.int .i64 b)).alloc o
 refine ⟨rfl,⟨le,tv,lv,xv,F,ts,ls,_,_,_,_,b3.alloc _,(b2.own (b1.own HT.out (by decide) 1 _) (by decide) 2 _).alloc _,(b2.own (b1.own HL.out (by decide) 1 _) (by decide) 2 _).alloc _,by omega,by omega,⟨h3.txt,h3.tab,WA.out,WB.out,h3.se,h3.fr⟩,H4.out.keeps (kk _) (Nat.le_succ _)⟩,kk _,?_⟩
 ·exact (((Below.refl B w).setCell le _).setCell le _).alloc (by simpa using hB) _
theorem owner_none {X:Xs} (B bW n:Nat) (x a b c d:Int) (s:ByteArray) (w:World) (hI:Inv X B bW n w) (hB:B ≤ w.heap.size) :
  Calls Tryz.prog 16 #[.pointer (some ⟨bW,0,none⟩),.agg #[.int .i64 5,.int .i64 x,.int .i64 a,.int .i64 b,.int .i64 c,.int .i64 d,.string s]] w fun e w' =>
   e = .returned (.bool true) ∧ Left X B bW n w w':=by
 obtain ⟨le,tv,lv,xv,F,ts,ls,up,ex,se,fr,hb,ht,hl,h1,h2,h3,h4⟩:=hI
 have hlt:=hb.lt
 have c1:=hb.cell 3
 have f1:=hb.free 3
 simp at c1
 have HB:=hid' hb
 have HT:=hid' ht
 have HL:=hid' hl
 have H4:=hid' h4
 clear hb ht hl h4
 go_enter Tryz.func16,Tryz.ntmps16
 go_wp2
 go_ret
 have b1:=HB.out
 have b2:=b1.at3 (.slice none 0 0)
 have kk:=fun o => (b1.keeps (Keeps.refl w) 3 (.slice none 0 0)).alloc o
 refine ⟨rfl,⟨le,tv,_,xv,F,ts,[],_,_,_,_,b2.alloc _,(b1.own HT.out (by decide) 3 _).alloc _,World.ownsRow_nil _ _ _ _,by omega,by simp,⟨h3.txt,fun p h => (by cases h),h3.up,h3.ex,h3.se,h3.fr⟩,H4.out.fresh (kk _) (Nat.le_succ _) (fun _ h => by simp [Value.ownBlock] at h)⟩,kk _,?_⟩
 ·exact ((Below.refl B w).setCell le _).alloc (by simpa using hB) _
theorem owner_time {X:Xs} (B bW n:Nat) (x a b c d:Int) (s:ByteArray) (w:World) (wa:(Lit.int .i64 a).wf = true) (wb:(Lit.int .i64 b).wf = true) (hI:Inv X B bW n w) (hB:B ≤ w.heap.size) :
  Calls Tryz.prog 16 #[.pointer (some ⟨bW,0,none⟩),.agg #[.int .i64 6,.int .i64 x,.int .i64 a,.int .i64 b,.int .i64 c,.int .i64 d,.string s]] w fun e w' =>
   e = .returned (.bool true) ∧ Left X B bW n w w':=by
 have WA:=hid' wa
 have WB:=hid' wb
 clear wa wb
 obtain ⟨le,tv,lv,xv,F,ts,ls,up,ex,se,fr,hb,ht,hl,h1,h2,h3,h4⟩:=hI
 have hlt:=hb.lt
 have c1:=hb.cell 4
 have f1:=hb.free 4
 have c2:=hb.cell 5
 have f2:=hb.free 5
 simp at c1 c2
 have HB:=hid' hb
 have HT:=hid' ht
 have HL:=hid' hl
 have H4:=hid' h4
 clear hb ht hl h4
 go_enter Tryz.func16,Tryz.ntmps16
 go_wp2
 go_ret
 have b1:=HB.out
 have b2:=b1.at4 a
 have b3:=b2.at5 b
 have kk:=fun o => (b2.keeps (b1.keeps (Keeps.refl w) 4 (.int .i64 a)) 5 (.int .i64 b)).alloc o
 refine ⟨rfl,⟨le,tv,lv,xv,F,ts,ls,_,_,_,_,b3.alloc _,(b2.own (b1.own HT.out (by decide) 4 _) (by decide) 5 _).alloc _,(b2.own (b1.own HL.out (by decide) 4 _) (by decide) 5 _).alloc _,by omega,by omega,⟨h3.txt,h3.tab,h3.up,h3.ex,WA.out,WB.out⟩,H4.out.keeps (kk _) (Nat.le_succ _)⟩,kk _,?_⟩
 ·exact (((Below.refl B w).setCell le _).setCell le _).alloc (by simpa using hB) _
theorem owner_other {X:Xs} (B bW n:Nat) (k x a b c d:Int) (s:ByteArray) (w:World) (hk:k < 1 ∨ 6 < k) (hI:Inv X B bW n w) (hB:B ≤ w.heap.size) :
  Calls Tryz.prog 16 #[.pointer (some ⟨bW,0,none⟩),.agg #[.int .i64 k,.int .i64 x,.int .i64 a,.int .i64 b,.int .i64 c,.int .i64 d,.string s]] w fun e w' =>
   e = .returned (.bool false) ∧ Inv X B bW n w' ∧ Keeps w w' ∧ Below B w w':=by
 obtain ⟨le,tv,lv,xv,F,ts,ls,up,ex,se,fr,hb,ht,hl,h1,h2,h3,h4⟩:=hI
 have k1:(k == 1) = false:=by rw [beq_eq_false_iff_ne];omega
 have k2:(k == 2) = false:=by rw [beq_eq_false_iff_ne];omega
 have k3:(k == 3) = false:=by rw [beq_eq_false_iff_ne];omega
 have k4:(k == 4) = false:=by rw [beq_eq_false_iff_ne];omega
 have k5:(k == 5) = false:=by rw [beq_eq_false_iff_ne];omega
 have k6:(k == 6) = false:=by rw [beq_eq_false_iff_ne];omega
 clear hk
 have HB:=hid' hb
 have HT:=hid' ht
 have HL:=hid' hl
 have H4:=hid' h4
 clear hb ht hl h4
 go_enter Tryz.func16,Tryz.ntmps16
 go_wp2
 go_ret
 exact ⟨rfl,⟨le,tv,lv,xv,F,ts,ls,_,_,_,_,HB.out.alloc _,HT.out.alloc _,HL.out.alloc _,by omega,by omega,h3,H4.out.keeps ((Keeps.refl w).alloc _) (Nat.le_refl _)⟩,(Keeps.refl w).alloc _,(Below.refl B w).alloc hB _⟩
def quo (a b:Int) (up:Bool):Int:=if up = true then (a + b - 1) / b else a / b
theorem quo_two (x m W:Int) (up:Bool) (hm:0 < m):quo (quo x m up) W up = quo x (m * W) up:=by
 unfold quo
 cases up
 ·simp only [Bool.false_eq_true,if_false]
  rw [Int.ediv_ediv_of_nonneg (by omega)]
 ·simp only [if_true]
  have e:(x + m - 1) / m + W - 1 = (x + m - 1 + m * (W - 1)) / m:=by
   rw [Int.add_mul_ediv_left _ _ (by omega)];omega
  rw [e,Int.ediv_ediv_of_nonneg (by omega)]
  congr 1
  rw [Int.mul_sub];omega
theorem quo_add (a q b:Int) (up:Bool) (hb:0 < b):quo (a + q * b) b up = quo a b up + q:=by
 unfold quo
 cases up
 ·simp only [Bool.false_eq_true,if_false]
  rw [Int.add_mul_ediv_right _ _ (by omega)]
 ·simp only [if_true]
  have:a + q * b + b - 1 = (a + b - 1) + q * b:=by omega
  rw [this,Int.add_mul_ediv_right _ _ (by omega)]
theorem quo_split (g rise r W:Int) (up:Bool) (hW:0 < W):quo (g * (W * 4294967296) + rise * r) (W * 4294967296) up = g + quo (rise * (r / 4294967296) + quo (rise * (r % 4294967296)) 4294967296 up) W up:=by
 have e1:rise * (r / 4294967296) + quo (rise * (r % 4294967296)) 4294967296 up = quo (rise * r) 4294967296 up:=by
  have:=quo_add (rise * (r % 4294967296)) (rise * (r / 4294967296)) 4294967296 up (by decide)
  rw [Int.add_comm,← this]
  congr 1
  have h:=Int.mul_ediv_add_emod r 4294967296
  have h2:rise * (r % 4294967296) + rise * (r / 4294967296) * 4294967296 = rise * (4294967296 * (r / 4294967296) + r % 4294967296):=by
   rw [Int.mul_add,Int.mul_assoc,Int.mul_comm (r / 4294967296) 4294967296,Int.add_comm]
  rw [h2,h]
 rw [e1,quo_two _ _ _ _ (by decide),Int.add_comm,quo_add _ _ _ _ (by omega),Int.mul_comm W,Int.add_comm]
theorem quo_bd (a b c:Int) (up:Bool) (hb:0 < b) (h0:0 ≤ a) (h1:a ≤ c * b):0 ≤ quo a b up ∧ quo a b up ≤ c:=by
 unfold quo
 cases up
 ·simp only [Bool.false_eq_true,if_false]
  exact ⟨Int.ediv_nonneg h0 (by omega),Int.ediv_le_of_le_mul hb h1⟩
 ·simp only [if_true]
  refine ⟨Int.ediv_nonneg (by omega) (by omega),?_⟩
  have:(a + b - 1) / b < c + 1:=Int.ediv_lt_of_lt_mul hb (by rw [Int.add_mul];omega)
  omega
theorem quo_nat (U D:Nat) (hD:0 < D):((U / D:Nat):Int) = quo U D false ∧ (((if U / D * D < U then U / D + 1 else U / D:Nat)):Int) = quo U D true:=by
 unfold quo
 refine ⟨by simp,?_⟩
 simp only [if_true]
 have h:=Nat.div_add_mod U D
 have m:=Nat.mod_lt U hD
 have hc:D * (U / D) = U / D * D:=Nat.mul_comm _ _
 by_cases c:U / D * D < U
 ·rw [if_pos c]
  have e:((U:Int) + D - 1) = ((U % D - 1:Nat):Int) + (((U / D + 1:Nat)):Int) * D:=by
   have:(((U / D + 1:Nat)):Int) * D = ((U / D * D:Nat):Int) + D:=by push_cast;rw [Int.add_mul];omega
   rw [this];omega
  rw [e,Int.add_mul_ediv_right _ _ (by omega),Int.ediv_eq_zero_of_lt (by omega) (by omega)];omega
 ·rw [if_neg c]
  have e:((U:Int) + D - 1) = ((D - 1:Nat):Int) + (((U / D:Nat)):Int) * D:=by
   have:(((U / D:Nat)):Int) * D = ((U / D * D:Nat):Int):=by push_cast;rfl
   rw [this];omega
  rw [e,Int.add_mul_ediv_right _ _ (by omega),Int.ediv_eq_zero_of_lt (by omega) (by omega)];omega
theorem pull_smooth {W n:Int} (h:PullOk W n) (up:Bool):gZ (pI W n) + quo ((gZ (pI W n + 1) - gZ (pI W n)) * (pR W n / 4294967296) + quo ((gZ (pI W n + 1) - gZ (pI W n)) * (pR W n % 4294967296)) 4294967296 up) W up = quo (pullU 2 W n) (pullD 2 W) up:=by
 unfold pullU pullD
 rw [if_neg (by decide),if_neg (by decide)]
 exact (quo_split _ _ _ _ _ h.w0).symm
def Sv.pq (x:Sv) (k:Nat) (up:Bool):Int:=quo (pullU x.mode x.win (x.gap k)) (pullD x.mode x.win) up
theorem Sv.pq_bd {x:Sv} {k:Nat} (h:PullOk x.win (x.gap k)) (up:Bool):0 ≤ x.pq k up ∧ x.pq k up ≤ 4294967296:=by
 obtain ⟨a,b,c⟩:=h.u x.mode
 exact quo_bd _ _ _ _ c.1 a b
theorem Sv.pulled_eq {x:Sv} {k:Nat} (h:PullOk x.win (x.gap k)):((x.pulled k:Nat):Int) = x.pq k false ∧ ((x.pulledUp k:Nat):Int) = x.pq k true:=by
 obtain ⟨a,b,c⟩:=h.u x.mode
 unfold Sv.pq Sv.pulledUp Sv.pulled
 generalize pullU x.mode x.win (x.gap k) = U at *
 generalize pullD x.mode x.win = D at *
 obtain ⟨u,rfl⟩:=Int.eq_ofNat_of_zero_le a
 obtain ⟨d,rfl⟩:=Int.eq_ofNat_of_zero_le (show 0 ≤ D by omega)
 exact quo_nat u d (by omega)
def moved (s f p:Int):Int × Int:=if f + p < 0 then (s - 1,f + p + 4294967296) else if 4294967296 ≤ f + p then (s + 1,f + p - 4294967296) else (s,f + p)
theorem moved_up {s f p:Int} (f0:0 ≤ f) (f1:f < 4294967296) (p0:0 ≤ p) (p1:p ≤ 4294967296):tSum s f 0 p = moved s f p:=by
 unfold tSum moved
 rw [if_neg (by omega)]
 split
 ·exact Prod.ext (by simp only;omega) (by simp only;omega)
 ·exact Prod.ext (by simp only;omega) (by simp only;omega)
theorem moved_down {s f p:Int} (f0:0 ≤ f) (f1:f < 4294967296) (p0:0 ≤ p) (p1:p ≤ 4294967296):tSum (s - 1) f 0 (4294967296 - p) = moved s f (-p):=by
 unfold tSum moved
 split
 ·exact Prod.ext (by simp only;omega) (by simp only;omega)
 ·rw [if_neg (by omega)]
  exact Prod.ext (by simp only;omega) (by simp only;omega)
theorem Sv.smeared_eq {x:Sv} {k:Nat} (h:PullOk x.win (x.gap k)) (f0:0 ≤ x.nf) (f1:x.nf < 4294967296):x.smeared k = if (x.done.getD k (0,0)).2 < (x.done.getD (k - 1) (0,0)).2 then moved (x.ns - (x.done.getD (k - 1) (0,0)).2) x.nf (x.pq k false) else moved (x.ns - (x.done.getD (k - 1) (0,0)).2) x.nf (-x.pq k true):=by
 obtain ⟨e1,e2⟩:=Sv.pulled_eq h
 unfold Sv.smeared
 rw [e1,e2]
 split
 ·exact moved_up f0 f1 (Sv.pq_bd h _).1 (Sv.pq_bd h _).2
 ·exact moved_down f0 f1 (Sv.pq_bd h _).1 (Sv.pq_bd h _).2
def gone (s f z g:Int):Int × Int:=if f - g < 0 then (s - z - 1,f - g + 4294967296) else (s - z,f - g)
theorem gone_later {s f z g k:Int} (f0:0 ≤ f) (f1:f < 4294967296) (g0:0 ≤ g) (g1:g < 4294967296):tLater (gone s f z g).1 (gone s f z g).2 k 0 = tLater s f (tSum z g k 0).1 (tSum z g k 0).2:=by
 unfold gone tSum tLater
 split
 ·exact decide_eq_decide.2 (by simp only;omega)
 ·exact decide_eq_decide.2 (by simp only;omega)
theorem gone_till {s f z g k:Int} (f0:0 ≤ f) (f1:f < 4294967296) (g0:0 ≤ g) (g1:g < 4294967296):tLater (tSum z g k 0).1 (tSum z g k 0).2 s f = decide ((gone s f z g).1 < k):=by
 unfold gone tSum tLater
 split
 ·exact decide_eq_decide.2 (by simp only;omega)
 ·exact decide_eq_decide.2 (by simp only;omega)
theorem gone_gap (s f z g:Int):(gone s f z g).1 * 4294967296 + (gone s f z g).2 = (s - z) * 4294967296 + f - g:=by
 unfold gone
 split
 ·simp only;omega
 ·simp only;omega
theorem gone_bd {s f z g:Int} (f0:0 ≤ f) (f1:f < 4294967296) (g0:0 ≤ g) (g1:g < 4294967296) (h:z < s ∨ (z = s ∧ g ≤ f)):0 ≤ (gone s f z g).1 ∧ (gone s f z g).1 ≤ s - z ∧ 0 ≤ (gone s f z g).2 ∧ (gone s f z g).2 < 4294967296:=by
 unfold gone
 split
 ·simp only;omega
 ·simp only;omega
def Opn (s:Sv) (op:Bool) (bs bf:Int):Prop :=
 (op = true → 2 ≤ s.began.length ∧ s.began.getD (s.began.length - 1) (0,0) = (bs,bf)) ∧ (op = false → ∀ i,i < s.began.length → (s.began.getD i (0,0)).1 + s.win < s.ns ∨ ((s.began.getD i (0,0)).1 + s.win = s.ns ∧ (s.began.getD i (0,0)).2 ≤ s.nf))
theorem Sv.till_eq {x:Sv} (i:Nat) (h0:0 ≤ (x.began.getD i (0,0)).2) (h1:(x.began.getD i (0,0)).2 < 4294967296):x.till i = decide ((x.began.getD i (0,0)).1 + x.win > x.ns ∨ ((x.began.getD i (0,0)).1 + x.win = x.ns ∧ x.nf < (x.began.getD i (0,0)).2)):=by
 unfold Sv.till tSum tLater
 exact decide_eq_decide.2 (by simp only;omega)
theorem Sv.Mid.till_old {x:Sv} (h:x.Mid) (hn:x.Num) (i:Nat) (hi:i + 1 < x.done.length):x.till i = false:=by
 have w:=hn.win
 have b:=h.bg i (by omega)
 have c:=h.bg (x.done.length - 1) (by omega)
 have g:=h.fit.when_lt i (x.done.length - 1) (by omega) (by rw [x.all_length];omega)
 rw [Sv.till_eq i b.f0 b.f1]
 have:=b.hi
 have:=c.lo
 have:=c.now
 exact decide_eq_false (by omega)
theorem Sv.Inv.begOk {x:Sv} (h:x.Inv) (hl:x.ld = true):x.BegOk:=by
 have m:=h.mid hl
 have w:=h.num.win
 obtain ⟨t0,t1,t2,t3⟩:=h.num.t'
 refine ⟨m.bl,fun p hp => ?_,w.1,by omega⟩
 obtain ⟨i,hi,rfl⟩:=List.getElem_of_mem hp
 have b:=m.bg i (by rw [← m.bl];exact hi)
 rw [getD_at i hi] at b
 have:=b.lo
 have:=b.now
 have f:=m.fit.when_bd i (by rw [x.all_length,← m.bl];omega)
 have fb:=m.fit.bd i (by rw [x.all_length,← m.bl];omega)
 have:=b.f0
 have:=b.f1
 omega
theorem Sv.Inv.pullOk {x:Sv} (h:x.Inv) (hl:x.ld = true) (k:Nat) (hk:k < x.done.length) (ht:x.till k = true):PullOk x.win (x.gap k):=by
 have m:=h.mid hl
 have w:=h.num.mode
 obtain ⟨t0,t1,t2,t3⟩:=h.num.t'
 have b:=m.bg k hk
 rw [Sv.till_eq k b.f0 b.f1] at ht
 have q:=of_decide_eq_true ht
 have:=b.now
 have:=b.f0
 have:=b.f1
 refine ⟨by omega,by omega,?_,?_⟩
 ·unfold Sv.gap;omega
 ·unfold Sv.gap pX;omega
def Sv.hd (x:Sv) (i:Nat):Hd:=x.said.getD i noHd
def Sv.freshB (x:Sv) (h:Hd):Bool:=h.said && !tLater x.ns x.nf (tSum h.ws h.wf x.fresh 0).1 (tSum h.ws h.wf x.fresh 0).2
def Sv.cnt (x:Sv) (l:Int):Nat → Int
 | 0 => 0
 | k + 1 => if (x.hd k).leap = l ∧ x.freshB (x.hd k) = true then x.cnt l k + 1 else x.cnt l k
theorem Sv.cnt_bd (x:Sv) (l:Int) (k:Nat):0 ≤ x.cnt l k ∧ x.cnt l k ≤ k:=by
 induction k with
 | zero => simp [Sv.cnt]
 | succ k ih => unfold Sv.cnt;split <;> omega
theorem Sv.tally_cnt {x:Sv} (hs:∀ h ∈ x.said,0 ≤ h.leap ∧ h.leap ≤ 3) (k:Nat) (hk:k ≤ x.said.length):x.tally k = (x.cnt 0 k + x.cnt 1 k + x.cnt 2 k,x.cnt 1 k,x.cnt 2 k):=by
 induction k with
 | zero => rfl
 | succ k ih =>
  have lk:k < x.said.length:=by omega
  have e:x.said.getD k noHd = x.said[k]:=by rw [List.getD_eq_getElem?_getD,List.getElem?_eq_getElem lk];rfl
  have hb:=hs _ (List.getElem_mem lk)
  rw [← e] at hb
  have eh:x.hd k = x.said.getD k noHd:=rfl
  unfold Sv.tally Sv.cnt
  rw [ih (by omega),eh]
  generalize x.said.getD k noHd = h at *
  have ec:x.counts h = (x.freshB h && h.leap != 3):=rfl
  rw [ec]
  cases hf:x.freshB h with
  | false => simp
  | true =>
   obtain ⟨h0,h3⟩:=hb
   simp only [Bool.true_and,bne_iff_ne,ne_eq]
   have:h.leap = 0 ∨ h.leap = 1 ∨ h.leap = 2 ∨ h.leap = 3:=by omega
   rcases this with q | q | q | q
   ·rw [q];simp;omega
   ·rw [q];simp;omega
   ·rw [q];simp;omega
   ·rw [q];simp
theorem Sv.cnt_rest {x:Sv} (l:Int) (k:Nat):x.cnt l (x.said.length + k) = x.cnt l x.said.length:=by
 induction k with
 | zero => rfl
 | succ k ih =>
  have st:x.cnt l (x.said.length + k + 1) = if (x.hd (x.said.length + k)).leap = l ∧ x.freshB (x.hd (x.said.length + k)) = true then x.cnt l (x.said.length + k) + 1 else x.cnt l (x.said.length + k):=rfl
  rw [← Nat.add_assoc,st]
  have e:x.hd (x.said.length + k) = noHd:=by
   unfold Sv.hd
   rw [List.getD_eq_getElem?_getD,List.getElem?_eq_none (by omega)];rfl
  rw [e,if_neg (by intro h;cases h.2),ih]
theorem Sv.Num.most_eq {x:Sv} (h:x.Num):x.most = if 2 * x.cnt 1 8 > x.cnt 1 8 + x.cnt 2 8 + x.cnt 0 8 then 1 else if 2 * x.cnt 2 8 > x.cnt 1 8 + x.cnt 2 8 + x.cnt 0 8 then -1 else 0:=by
 have e:∀ l,x.cnt l 8 = x.cnt l x.said.length:=fun l => by
  have:=x.cnt_rest l (8 - x.said.length)
  rw [show x.said.length + (8 - x.said.length) = 8 from by have:=h.sl;omega] at this
  exact this
 rw [e 0,e 1,e 2]
 unfold Sv.most
 rw [Sv.tally_cnt (fun q hq => (h.sok q hq).2) _ (Nat.le_refl _)]
 have:x.cnt 0 x.said.length + x.cnt 1 x.said.length + x.cnt 2 x.said.length = x.cnt 1 x.said.length + x.cnt 2 x.said.length + x.cnt 0 x.said.length:=by omega
 simp only [this]
theorem Sv.fresh_eq {x:Sv} (h:Hd) (t2:0 ≤ x.nf) (t3:x.nf < 4294967296) (w0:0 ≤ h.wf) (w1:h.wf < 4294967296):x.freshB h = (h.said && !tLater (gone x.ns x.nf h.ws h.wf).1 (gone x.ns x.nf h.ws h.wf).2 x.fresh 0):=by
 unfold Sv.freshB
 rw [gone_later t2 t3 w0 w1]
theorem Sv.Num.hd_ok {x:Sv} (h:x.Num) (i:Nat):(x.hd i).Ok ∧ 0 ≤ (x.hd i).leap ∧ (x.hd i).leap ≤ 3:=by
 unfold Sv.hd
 rw [List.getD_eq_getElem?_getD]
 cases e:x.said[i]? with
 | none => exact ⟨⟨by decide,by decide,by decide,by decide⟩,by decide,by decide⟩
 | some q => exact h.sok q (List.mem_of_getElem? e)
theorem Tab.lastAt_left (a b:List (Int × Int)) (sec:Int) (k:Nat) (hk:k ≤ a.length):Tab.lastAt (a ++ b) sec k = Tab.lastAt a sec k:=by
 induction k with
 | zero => rfl
 | succ k ih =>
  unfold Tab.lastAt
  rw [Tab.when_append a b k (by omega),ih (by omega)]
theorem Tab.lastAt_more (ls:List (Int × Int)) (sec:Int) (n k:Nat) (h:∀ i,n ≤ i → i < n + k → sec < Tab.when ls i):Tab.lastAt ls sec (n + k) = Tab.lastAt ls sec n:=by
 induction k with
 | zero => rfl
 | succ k ih =>
  have st:Tab.lastAt ls sec (n + k + 1) = if Tab.when ls (n + k) ≤ sec then ((n + k:Nat):Int) else Tab.lastAt ls sec (n + k):=rfl
  rw [← Nat.add_assoc,st]
  rw [if_neg (by have:=h (n + k) (by omega) (by omega);omega)]
  exact ih (fun i a b => h i a (by omega))
theorem Tab.length_left (a b:List (Int × Int)) (d:Int) (hp:0 < a.length) (h:∀ i,a.length ≤ i → i < (a ++ b).length → ((a ++ b).getD i (0,0)).1 ≠ (d + 1) * 86400):Tab.length (a ++ b) d = Tab.length a d:=by
 unfold Tab.length
 have eq:∀ i,i < a.length → (a ++ b).getD i (0,0) = a.getD i (0,0):=fun i hi => getD_leftI a b i hi
 by_cases c:∃ t,1 ≤ t ∧ t < a.length ∧ (a.getD t (0,0)).1 = (d + 1) * 86400 ∧ ∀ q,1 ≤ q → q < t → (a.getD q (0,0)).1 ≠ (d + 1) * 86400
 ·obtain ⟨t,t1,t2,t3,t4⟩:=c
  rw [Tab.lenFrom_yes a _ _ 1 t t1 (by omega) t3 t4]
  rw [Tab.lenFrom_yes (a ++ b) _ _ 1 t t1 (by simp;omega) (by rw [eq t t2];exact t3) (fun q q1 q2 => by rw [eq q (by omega)];exact t4 q q1 q2)]
  rw [eq t t2,eq (t - 1) (by omega)]
 ·have no:∀ n t,t ≤ n → 1 ≤ t → t < a.length → (a.getD t (0,0)).1 ≠ (d + 1) * 86400:=fun n => by
   induction n with
   | zero => intro t h0 h1;omega
   | succ n ih =>
    intro t h0 h1 h2 h3
    exact c ⟨t,h1,h2,h3,fun q q1 q2 => ih q (by omega) q1 (by omega)⟩
  rw [Tab.lenFrom_no a _ _ 1 (fun t t1 t2 => no t t (Nat.le_refl _) t1 (by omega))]
  rw [Tab.lenFrom_no (a ++ b) _ _ 1 (fun t t1 t2 => by
   by_cases e:t < a.length
   ·rw [eq t e];exact no t t (Nat.le_refl _) t1 e
   ·exact h t (by omega) (by have:(a ++ b).length = a.length + b.length:=by simp
                 omega))]
theorem Sv.Inv.step_com {x:Sv} (h:x.Inv) (hl:x.ld = true) (hm:x.mode = 0) (i:Nat) (hi:i < x.com.length):x.ns < Tab.when x.all (x.done.length + i):=by
 have m:=h.mid hl
 have hw:x.win = 0:=by
  rcases h.num.mode with ⟨_,a⟩ | ⟨a,_⟩
  ·exact a
  ·omega
 have c:=m.cg i x.com[i] (List.getElem?_eq_getElem hi)
 have l:=is_later (h.lat hl _ (List.getElem_mem hi))
 obtain ⟨t0,t1,t2,t3⟩:=h.num.t'
 have:=c.hi
 have:=c.lo
 omega
theorem Sv.known_all (x:Sv):∃ r,x.all = x.known ++ r:=by
 unfold Sv.all Sv.known
 cases x.com with
 | nil => exact ⟨[],by simp⟩
 | cons c r => exact ⟨r.map cmP,by simp [cmP]⟩
theorem Sv.known_len (x:Sv):x.known.length = min (x.done.length + 1) (x.done.length + x.com.length):=by
 unfold Sv.known
 cases x.com with
 | nil => simp
 | cons c r => simp
structure Sv.IndOk (x:Sv) (k:Nat):Prop where
 good:Tab.Good x.known
 gall:Tab.Good x.all
 k1:k < x.done.length
 utc:x.utc = x.ns - (x.done.getD k (0,0)).2
 all:Tab.lastAt x.all x.ns x.all.length = k
 atk:(x.all.getD k (0,0)).2 = (x.done.getD k (0,0)).2
 day:Tab.Day x.known x.ns (x.utc / 86400)
 len:Tab.length x.all (x.utc / 86400) = Tab.length x.known (x.utc / 86400)
 u0:0 ≤ x.utc
 u1:x.utc ≤ 34000000000
theorem Sv.Inv.indOk {x:Sv} (h:x.Inv) (hl:x.ld = true) (hm:x.mode = 0):∃ k,x.IndOk k:=by
 have m:=h.mid hl
 obtain ⟨t0,t1,t2,t3⟩:=h.num.t'
 have sc:=h.step_com hl hm
 have l:=m.doneFit.lastAt_le x.ns m.firstD
 have ub:=m.doneFit.utc_bd x.ns m.firstD
 obtain ⟨k,hk⟩:∃ k:Nat,Tab.lastAt x.done x.ns x.done.length = (k:Int):=⟨(Tab.lastAt x.done x.ns x.done.length).toNat,by omega⟩
 have ek:(Tab.lastAt x.done x.ns x.done.length).toNat = k:=by omega
 have k1:k < x.done.length:=by omega
 obtain ⟨r,hr⟩:=x.known_all
 have kl:=x.known_len
 have al:=x.all_length
 have ut:x.utc = x.ns - (x.done.getD k (0,0)).2:=by unfold Sv.utc;rw [ek]
 rw [ek] at ub
 have fk:Tab.Fit x.known:=by
  have:=m.fit
  rw [hr] at this
  exact this.left (by have:=m.pos;omega)
 have la:Tab.lastAt x.all x.ns x.all.length = k:=by
  rw [al,Tab.lastAt_more x.all x.ns _ _ (fun i a b => by
   have:=sc (i - x.done.length) (by omega)
   rw [show x.done.length + (i - x.done.length) = i from by omega] at this
   exact this)]
  unfold Sv.all
  rw [Tab.lastAt_left _ _ _ _ (Nat.le_refl _),hk]
 have lk:Tab.lastAt x.known x.ns x.known.length = k:=by
  have e1:=Tab.lastAt_left x.known r x.ns x.known.length (Nat.le_refl _)
  rw [← hr] at e1
  rw [← e1]
  have e2:x.known.length = x.done.length + (x.known.length - x.done.length):=by omega
  rw [e2,Tab.lastAt_more x.all x.ns _ _ (fun i a b => by
   have:=sc (i - x.done.length) (by omega)
   rw [show x.done.length + (i - x.done.length) = i from by omega] at this
   exact this)]
  unfold Sv.all
  rw [Tab.lastAt_left _ _ _ _ (Nat.le_refl _),hk]
 have gk:x.known.getD k (0,0) = x.done.getD k (0,0):=by
  unfold Sv.known;exact getD_leftI _ _ _ k1
 have ga:x.all.getD k (0,0) = x.done.getD k (0,0):=by
  unfold Sv.all;exact getD_leftI _ _ _ k1
 have dy:=fk.good.day_of x.ns k lk
 rw [gk,← ut] at dy
 refine ⟨k,fk.good,m.fit.good,k1,ut,la,by rw [ga],dy,?_,by rw [ut];exact ub.1,by rw [ut];omega⟩
 have ha:x.all.length = (x.known ++ r).length:=by rw [hr]
 rw [hr]
 refine Tab.length_left x.known r _ (by have:=m.pos;omega) (fun i i1 i2 e => ?_)
 rw [← hr] at e i2
 have hc:1 < x.com.length:=by omega
 have s0:=sc 0 (by omega)
 have wb:=m.fit.when_bd x.done.length (by omega)
 have gp:=m.fit.good.lt x.done.length i (by omega) i2
 have f1:=m.fit.isFirst x.done.length (by omega)
 have f2:=m.fit.isFirst i i2
 have fg:=Tab.first_gap f1 f2 gp
 have bd:=m.fit.bd x.done.length (by omega)
 have dd:=Int.emod_add_mul_ediv x.utc 86400
 simp only [Nat.add_zero] at s0
 omega
theorem p_version (b:UInt8) (w:World):Calls Tryz.prog 179 #[.int .u8 (b.toNat:Int)] w fun e w' => e = .returned (.int .u8 ((b.toNat:Int) / 8 % 8)) ∧ w' = w:=by
 have e:=Txt.ver3 b
 have hb:=b.toNat_lt
 go_enter Tryz.func179,Tryz.ntmps179
 go_wp2
 go_ret
 exact ⟨rfl,rfl⟩
theorem p_four (n:Int) (w:World):Calls Tryz.prog 181 #[.int .i64 n] w fun e w' => e = .returned (.string ⟨(four n).toArray⟩) ∧ Below w.heap.size w w':=by
 have q24:=byteOf_val (n / 16777216)
 have q16:=byteOf_val (n / 65536)
 have q8:=byteOf_val (n / 256)
 have q0:=byteOf_val n
 have TB:=four_back w (byteOf (n / 16777216)) (byteOf (n / 65536)) (byteOf (n / 256)) (byteOf n) _ _ _ _ q24.symm q16.symm q8.symm q0.symm
 clear q24 q16 q8 q0
 go_enter Tryz.func181,Tryz.ntmps181
 go_wp2
 go_ret
 exact ⟨rfl,(Below.refl w.heap.size w).alloc (Nat.le_refl _) _⟩
theorem p_flen (s:ByteArray) (w:World) (hs:s.size ≤ 1000000):Calls Tryz.prog 195 #[.string s] w fun e w' => e = .returned (.int .i64 (Txt.flen s)) ∧ Below w.heap.size w w':=by
 by_cases c1:s.size < 16
 ·have z1:(s.size:Int) < 16:=by omega
  have z3:decide ((s.size:Int) < 16) = true:=decide_eq_true z1
  have E:Hid (Txt.flen s = 0):=by show _ = _;unfold Txt.flen;rw [if_pos c1]
  go_enter Tryz.func195,Tryz.ntmps195
  go_wp2
  go_ret
  exact ⟨ret_int (by rw [E.out]),Below.refl _ _⟩
 have z1:¬ (s.size:Int) < 16:=by omega
 have z3:decide ((s.size:Int) < 16) = false:=decide_eq_false z1
 have l2:2 < s.size:=by omega
 have l3:3 < s.size:=by omega
 have i2:(2:Int) < (s.size:Int):=by omega
 have i3:(3:Int) < (s.size:Int):=by omega
 have FL:=Txt.or8 (s[2]'l2) (s[3]'l3)
 have FE:((s[2]'l2).toNat:Int) * (256:Int) + ((s[3]'l3).toNat:Int) = Txt.field s 0:=by unfold Txt.field;rw [Txt.byte_at s _ l2,Txt.byte_at s _ l3]
 rw [FE] at FL
 have fb:=Txt.field_bd s 0
 have EF:Hid (Txt.flen s = if Txt.field s 0 % 4 ≠ 0 then 0 else Txt.field s 0):=by show _ = _;unfold Txt.flen;rw [if_neg c1]
 clear FE
 generalize Txt.field s 0 = fl at *
 by_cases c2:fl % 4 = 0
 ·have n2:(fl % 4 != 0) = false:=by rw [bne_eq_false_iff_eq];exact c2
  have E:Hid (Txt.flen s = fl):=by show _ = _;rw [EF.out,if_neg (by omega)]
  clear c2 EF
  go_enter Tryz.func195,Tryz.ntmps195
  go_wp2_with fail
  go_quiet (fail)
  go_wp2
  go_ret
  exact ⟨ret_int (by rw [E.out]),below_drewN (Below.refl _ _) _⟩
 ·have n2:(fl % 4 != 0) = true:=bne_iff_ne.2 c2
  have E:Hid (Txt.flen s = 0):=by show _ = _;rw [EF.out,if_pos c2]
  clear c2 EF
  go_enter Tryz.func195,Tryz.ntmps195
  go_wp2_with fail
  go_quiet (fail)
  go_wp2
  go_ret
  exact ⟨ret_int (by rw [E.out]),below_drewN (Below.refl _ _) _⟩
theorem ext_ext (s:ByteArray) (i k:Nat):(s.extract i s.size).extract k (s.extract i s.size).size = s.extract (i + k) s.size:=by
 rw [Txt.size_ext']
 apply ByteArray.ext
 simp only [ByteArray.data_extract,Array.extract_extract]
 congr 1
 have:s.size = s.data.size:=rfl
 omega
theorem ext_whole (s:ByteArray):s.extract 0 s.size = s:=by
 apply ByteArray.ext
 rw [ByteArray.data_extract]
 exact Array.extract_size
def txtSz:Value → Nat | .string s => s.size | _ => 0
theorem p_fields (s:ByteArray) (w:World) (hs:s.size ≤ 1000000):Calls Tryz.prog 180 #[.string s] w fun e w' => e = .returned (.bool (Txt.exts s 0)) ∧ Below w.heap.size w w':=by
 go_enter Tryz.func180,Tryz.ntmps180
 go_wp2
 go_loopw [3] (fun r wr => ∃ i:Nat,i ≤ s.size ∧ r = .string (s.extract i s.size) ∧ Txt.exts s i = Txt.exts s 0 ∧ Below w.heap.size w wr) (fun r _ => txtSz r)
 case atStart => exact ⟨0,by omega,by rw [ext_whole],rfl,Below.refl _ _⟩
 case round =>
  obtain ⟨i,hi,rfl,hx,hb⟩:=hrel
  have sz:=Txt.size_ext' s i
  have HX:=hid' hx
  have HB:=hid' hb
  have sb:=hb.size
  have FN:=hid' (p_flen (s.extract i s.size) wr (by omega))
  have EE:=hid' (fun k => ext_ext s i k)
  have EF:Hid (Txt.flen (s.extract i s.size) = if s.size - i < 16 then 0 else if Txt.field s i % 4 ≠ 0 then 0 else Txt.field s i):=by
   show _ = _
   unfold Txt.flen
   rw [Txt.field_ext,sz];rfl
  have fb:=Txt.field_bd s i
  clear hx hb
  by_cases c0:s.size ≤ i
  ·have E:Hid (Txt.exts s 0 = true):=by show _ = _;rw [← HX.out];exact Txt.exts_end c0
   generalize s.extract i s.size = r at *
   have z0:(r.size:Int) = 0:=by omega
   have z1:decide ((0:Int) < 0) = false:=by decide
   clear EF EE FN HX
   go_wp2
   go_ret
   exact ⟨ret_bool E.out.symm,HB.out⟩
  ·by_cases c1:s.size < i + 16 ∨ (Txt.field s i < 16 ∨ Txt.field s i % 4 ≠ 0 ∨ (s.size:Int) - i < Txt.field s i)
   ·have E:Hid (Txt.exts s 0 = false):=by
     show _ = _
     rw [← HX.out]
     by_cases c2:s.size < i + 16
     ·exact Txt.exts_short (by omega) c2
     ·exact Txt.exts_bad (by omega) c2 (c1.resolve_left c2)
    have lb:Txt.flen (s.extract i s.size) < 16 ∨ ((s.extract i s.size).size:Int) < Txt.flen (s.extract i s.size):=by
     rw [EF.out,sz]
     split
     ·omega
     ·split
      ·omega
      ·omega
    have lz:0 ≤ Txt.flen (s.extract i s.size) ∧ Txt.flen (s.extract i s.size) < 65536:=by
     rw [EF.out]
     split
     ·omega
     ·split <;> omega
    clear EF EE HX c1
    generalize Txt.flen (s.extract i s.size) = fl at *
    generalize s.extract i s.size = r at *
    have z0:(0:Int) < (r.size:Int):=by omega
    have z1:decide ((0:Int) < (r.size:Int)) = true:=decide_eq_true z0
    by_cases c3:fl < 16
    ·have d3:decide (fl < 16) = true:=decide_eq_true c3
     clear lb
     go_wp2_with (go_at_call 195;refine FN.out.mono ?_;rintro e w1 ⟨rfl,b1⟩;have B1:=hid' (HB.out.trans (b1.mono sb));clear b1)
     go_ret
     exact ⟨ret_bool E.out.symm,B1.out⟩
    ·have d3:decide (fl < 16) = false:=decide_eq_false c3
     have c4:(r.size:Int) < fl:=by omega
     have d4:decide ((r.size:Int) < fl) = true:=decide_eq_true c4
     clear lb
     go_wp2_with (go_at_call 195;refine FN.out.mono ?_;rintro e w1 ⟨rfl,b1⟩;have B1:=hid' (HB.out.trans (b1.mono sb));clear b1)
     go_ret
     exact ⟨ret_bool E.out.symm,B1.out⟩
   ·have hn1:¬ s.size < i + 16:=fun h => c1 (.inl h)
    have hn2:¬ (Txt.field s i < 16 ∨ Txt.field s i % 4 ≠ 0 ∨ (s.size:Int) - i < Txt.field s i):=fun h => c1 (.inr h)
    have E:=hid' ((Txt.exts_next (by omega) hn1 hn2).symm.trans HX.out)
    have lf:Txt.flen (s.extract i s.size) = Txt.field s i:=by rw [EF.out,if_neg (by omega),if_neg (by omega)]
    rw [lf] at FN
    have EE':=EE.out
    clear EF HX c1 lf EE hn1
    generalize Txt.field s i = fl at *
    obtain ⟨k,rfl⟩:∃ k:Nat,fl = k:=⟨fl.toNat,by omega⟩
    have ek:=hid' (EE' k)
    rw [Int.toNat_natCast] at E
    clear EE'
    obtain ⟨r,hr⟩:∃ r,s.extract i s.size = r:=⟨_,rfl⟩
    rw [hr] at FN ek sz
    have hk1:¬ (k:Int) < 16:=by omega
    have hk2:¬ (r.size:Int) < (k:Int):=by omega
    have z0:(0:Int) < (r.size:Int):=by omega
    rw [hr]
    have z1:decide ((0:Int) < (r.size:Int)) = true:=decide_eq_true z0
    have z2:decide ((k:Int) < 16) = false:=decide_eq_false hk1
    have z3:decide ((r.size:Int) < (k:Int)) = false:=decide_eq_false hk2
    have HR:=hid' hr
    clear hn2 hr
    go_wp2_with (go_at_call 195;refine FN.out.mono ?_;rintro e w1 ⟨rfl,b1⟩;have B1:=hid' (HB.out.trans (b1.mono sb));clear b1)
    go_roundw
    case rel => exact ⟨i + k,by omega,by rw [← ek.out,sz],E.out,B1.out⟩
    case measure => simp [txtSz];omega
theorem p_clients (p:ByteArray) (w:World) (hs:p.size ≤ 1000000):Calls Tryz.prog 144 #[.string p] w fun e w' => e = .returned (.bool (Txt.asks p)) ∧ Below w.heap.size w w':=by
 have HA:Hid (Txt.asks p = (decide (48 ≤ p.size) && decide (p.size ≤ 300) && decide (Txt.byte p 0 % 8 = 3) && decide (1 ≤ Txt.byte p 0 / 8 % 8) && decide (Txt.byte p 0 / 8 % 8 ≤ 4) && Txt.exts p 48)):=rfl
 generalize Txt.asks p = res at *
 by_cases c1:p.size < 48
 ·have z1:(p.size:Int) < 48:=by omega
  have z3:decide ((p.size:Int) < 48) = true:=decide_eq_true z1
  have e:Hid (res = false):=by show _ = _;rw [HA.out,decide_eq_false (by omega:¬ 48 ≤ p.size)];rfl
  clear HA
  go_enter Tryz.func144,Tryz.ntmps144
  go_wp2
  go_ret
  exact ⟨ret_bool e.out.symm,Below.refl _ _⟩
 have z1:¬ (p.size:Int) < 48:=by omega
 have z3:decide ((p.size:Int) < 48) = false:=decide_eq_false z1
 by_cases c2:300 < p.size
 ·have z2:(300:Int) < (p.size:Int):=by omega
  have z4:decide ((300:Int) < (p.size:Int)) = true:=decide_eq_true z2
  have e:Hid (res = false):=by show _ = _;rw [HA.out,decide_eq_false (by omega:¬ p.size ≤ 300)];simp
  clear HA
  go_enter Tryz.func144,Tryz.ntmps144
  go_wp2
  go_ret
  exact ⟨ret_bool e.out.symm,Below.refl _ _⟩
 have z2:¬ (300:Int) < (p.size:Int):=by omega
 have z4:decide ((300:Int) < (p.size:Int)) = false:=decide_eq_false z2
 have l0:0 < p.size:=by omega
 have e1:=Txt.low3 (p[0]'l0)
 have PV:=hid' (fun W => p_version (p[0]'l0) W)
 rw [← Txt.byte_at p 0 l0] at e1
 have bb:=Txt.byte_bd p 0
 rw [decide_eq_true (by omega:48 ≤ p.size),decide_eq_true (by omega:p.size ≤ 300)] at HA
 simp only [Bool.true_and] at HA
 have HV:Hid (((p[0]'l0).toNat:Int) = Txt.byte p 0):=(Txt.byte_at p 0 l0).symm
 obtain ⟨mo,hmo⟩:∃ mo,Txt.byte p 0 % 8 = mo:=⟨_,rfl⟩
 obtain ⟨ve,hve⟩:∃ ve,Txt.byte p 0 / 8 % 8 = ve:=⟨_,rfl⟩
 have PV2:Hid (∀ W,Calls Tryz.prog 179 #[.int .u8 ((p[0]'l0).toNat:Int)] W fun e w' => e = .returned (.int .u8 ve) ∧ w' = W):=fun W => by
  have h:=PV.out W
  rw [show (((p[0]'l0).toNat:Int)) / 8 % 8 = ve by rw [HV.out];exact hve] at h
  exact h
 rw [hmo] at e1 HA
 rw [hve] at HA
 rw [Txt.byte_at p 0 l0] at e1
 have vb:0 ≤ ve ∧ ve < 8:=by omega
 have mb:0 ≤ mo ∧ mo < 8:=by omega
 clear hmo hve bb PV HV
 by_cases c3:mo = 3
 case neg =>
  have n3:(mo != 3) = true:=bne_iff_ne.2 c3
  have e:Hid (res = false):=by show _ = _;rw [HA.out,decide_eq_false c3];rfl
  clear HA
  go_enter Tryz.func144,Tryz.ntmps144
  go_wp2_with (go_at_call 179;refine (PV2.out _).mono ?_;rintro e w1 ⟨rfl,rfl⟩)
  go_ret
  exact ⟨ret_bool e.out.symm,Below.refl _ _⟩
 subst c3
 by_cases c4:ve < 1
 ·have d4:decide (ve < 1) = true:=decide_eq_true c4
  have e:Hid (res = false):=by show _ = _;rw [HA.out,decide_eq_false (by omega:¬ 1 ≤ ve)];simp
  clear HA
  go_enter Tryz.func144,Tryz.ntmps144
  go_wp2_with (go_at_call 179;refine (PV2.out _).mono ?_;rintro e w1 ⟨rfl,rfl⟩)
  go_ret
  exact ⟨ret_bool e.out.symm,Below.refl _ _⟩
 have d4:decide (ve < 1) = false:=decide_eq_false c4
 by_cases c5:4 < ve
 ·have d5:decide (4 < ve) = true:=decide_eq_true c5
  have e:Hid (res = false):=by show _ = _;rw [HA.out,decide_eq_false (by omega:¬ ve ≤ 4)];simp
  clear HA
  go_enter Tryz.func144,Tryz.ntmps144
  go_wp2_with (go_at_call 179;refine (PV2.out _).mono ?_;rintro e w1 ⟨rfl,rfl⟩)
  go_ret
  exact ⟨ret_bool e.out.symm,Below.refl _ _⟩
 have d5:decide (4 < ve) = false:=decide_eq_false c5
 have PF:=p_fields (p.extract 48 p.size) w (by rw [Txt.size_ext'];omega)
 have e:Hid (res = Txt.exts p 48):=by show _ = _;rw [HA.out,decide_eq_true (by omega:1 ≤ ve),decide_eq_true (by omega:ve ≤ 4)];simp
 rw [Txt.exts_ext p 48 (by omega),← e.out] at PF
 have HF:=hid' PF
 have i48:(48:Int) ≤ (p.size:Int):=by omega
 clear HA PF e
 go_enter Tryz.func144,Tryz.ntmps144
 go_wp2_with (go_at_call 179;refine (PV2.out _).mono ?_;rintro e w1 ⟨rfl,rfl⟩)
 refine HF.out.mono ?_
 rintro e w1 ⟨rfl,b1⟩
 have B1:=hid' b1
 clear b1 HF
 go_wp2
 go_ret
 exact ⟨rfl,B1.out⟩
theorem first_or' (b:UInt8) (li:Int) (hl:li = 0 ∨ li = 1 ∨ li = 2 ∨ li = 3):bits BinOp.or IntKind.u8 (bits BinOp.or IntKind.u8 (li * 64) ((b.toNat:Int) / 8 % 8 * 8)) 4 = li * 64 + (b.toNat:Int) / 8 % 8 * 8 + 4:=by
 rcases hl with rfl | rfl | rfl | rfl
 ·exact (show ∀ x:Fin 256,bits BinOp.or IntKind.u8 (bits BinOp.or IntKind.u8 ((0:Int) * 64) ((x.val:Int) / 8 % 8 * 8)) 4 = 0 * 64 + (x.val:Int) / 8 % 8 * 8 + 4 by decide +kernel) ⟨b.toNat,b.toNat_lt⟩
 ·exact (show ∀ x:Fin 256,bits BinOp.or IntKind.u8 (bits BinOp.or IntKind.u8 ((1:Int) * 64) ((x.val:Int) / 8 % 8 * 8)) 4 = 1 * 64 + (x.val:Int) / 8 % 8 * 8 + 4 by decide +kernel) ⟨b.toNat,b.toNat_lt⟩
 ·exact (show ∀ x:Fin 256,bits BinOp.or IntKind.u8 (bits BinOp.or IntKind.u8 ((2:Int) * 64) ((x.val:Int) / 8 % 8 * 8)) 4 = 2 * 64 + (x.val:Int) / 8 % 8 * 8 + 4 by decide +kernel) ⟨b.toNat,b.toNat_lt⟩
 ·exact (show ∀ x:Fin 256,bits BinOp.or IntKind.u8 (bits BinOp.or IntKind.u8 ((3:Int) * 64) ((x.val:Int) / 8 % 8 * 8)) 4 = 3 * 64 + (x.val:Int) / 8 % 8 * 8 + 4 by decide +kernel) ⟨b.toNat,b.toNat_lt⟩
theorem infoLeap:(Tryz.prog.info? 46).map (fun i => (i.zero,i.size,i.bytes)) = some (some (.agg #[.int .i64 0,.int .i64 0]),2,16):=by kernel_rfl
theorem infoString:(Tryz.prog.info? 9).map (fun i => (i.zero,i.size,i.bytes)) = some (some (.string ByteArray.empty),1,16):=by kernel_rfl
theorem ownW {w:World} {B B' e size n:Nat} {v:Value} {xs:List Value} (h:w.ownsRow B e size v n xs) (hb:B' ≤ B):w.ownsRow B' e size v n xs:=by
 refine ⟨h.1,?_⟩
 rcases h.2 with h | ⟨g,cap,cur,rfl,a,b⟩
 ·exact .inl h
 ·exact .inr ⟨g,cap,cur,rfl,Nat.le_trans hb a,b⟩
theorem owner_entry {X:Xs} (B bW n:Nat) (x a b c d:Int) (s:ByteArray) (w:World) (wa:(Lit.int .i64 a).wf = true) (wb:(Lit.int .i64 b).wf = true) (hn:n ≤ 100000) (hI:Inv X B bW n w) (hB:B ≤ w.heap.size) :
  Calls Tryz.prog 16 #[.pointer (some ⟨bW,0,none⟩),.agg #[.int .i64 4,.int .i64 x,.int .i64 a,.int .i64 b,.int .i64 c,.int .i64 d,.string s]] w fun e w' =>
   e = .returned (.bool true) ∧ Left X B bW n w w':=by
 have WA:=hid' wa
 have WB:=hid' wb
 clear wa wb
 obtain ⟨le,tv,lv,xv,F,ts,ls,up,ex,se,fr,hb,ht,hl,h1,h2,h3,h4⟩:=hI
 obtain ⟨i0,hi0,hz0,hz1,hz2⟩:=info_parts infoLeap
 have hlt:=hb.lt
 have c3:=hb.cell 3
 simp at c3
 have HB:=hid' hb
 have HT:=hid' ht
 have HL:=hid' hl
 have H4:=hid' h4
 have HB1:=hid' (hb.alloc (.cells #[.int .i64 4,.int .i64 x,.int .i64 a,.int .i64 b,.int .i64 c,.int .i64 d,.string s] 27))
 have HL1:=hid' (hl.alloc (.cells #[.int .i64 4,.int .i64 x,.int .i64 a,.int .i64 b,.int .i64 c,.int .i64 d,.string s] 27))
 have HO1:=hid' (heap_alloc_new w (.cells #[.int .i64 4,.int .i64 x,.int .i64 a,.int .i64 b,.int .i64 c,.int .i64 d,.string s] 27))
 clear hb ht hl h4
 have hWa:(w.alloc (.cells #[.int .i64 4,.int .i64 x,.int .i64 a,.int .i64 b,.int .i64 c,.int .i64 d,.string s] 27)).heap.size = w.heap.size + 1:=by simp
 have HWA:=hid' hWa
 clear hWa
 rcases HL.out.2 with ⟨rfl,hz⟩ | ⟨g,cap,cur,rfl,hbg,hcur,hcap,hcm,hcs,htk⟩
 ·have hls:ls = []:=List.eq_nil_of_length_eq_zero hz
  subst hls
  clear hz
  go_enter Tryz.func16,Tryz.ntmps16
  go_wp2_with (first
   | (at_builtin;refine wpList_append_own_none (by rfl) (.tmp 69) (.tmp 74) 31 (by rfl) w.heap.size 46 i0 2 Tryz.underlying31 hi0 (.slice none 0 0) 0 [] (by rfl) (World.ownsRow_nil _ _ _ _) (by rfl) ?_)
   | (at_builtin;refine wpList_append_lies _ (by rfl) (.tmp 77) (.tmp 83) 31 (by rfl) w.heap.size 46 i0 (.agg #[.int .i64 0,.int .i64 0]) 2 16 Tryz.underlying31 hi0 hz0 hz1 hz2 rfl (by decide) (.slice none 0 0) 0 [] (by rfl) (World.ownsRow_nil _ _ _ _) ⟨w.heap.size + 1,0,none⟩ 1 1 [.int .i64 a,.int .i64 b] (by rfl) (by rfl) (World.news_of_block (cs:=#[.int .i64 a,.int .i64 b]) (heap_alloc2_new w _ _)) (by simp [Value.oneCell']) (by decide) (by unfold maxLen;omega) (by omega) (by simp <;> omega) (w.heap.size + 1 + 1) (by simp) ?_;intro g3 cap3 w3 own3 hg3 hat3 hlt3;have B3:=hid' ((HB1.out.alloc (.cells #[.int .i64 a,.int .i64 b] 46)).grown hg3 (World.ownsRow_nil _ w.heap.size 46 2) (by decide));have d3:=B3.out.cell 3;have f3:=B3.out.free 3;simp at d3;have OWN3:=hid' own3;have HG3:=hid' hg3;clear own3 hg3 hat3))
  go_ret
  have b4:=B3.out.at3 (.slice (some ⟨g3,0,none⟩) (0 + 1) cap3)
  have t3:w3.ownsRow B 9 1 tv ts.length (ts.map Value.string):=own_grown ((HT.out.alloc (.cells #[.int .i64 4,.int .i64 x,.int .i64 a,.int .i64 b,.int .i64 c,.int .i64 d,.string s] 27)).alloc (.cells #[.int .i64 a,.int .i64 b] 46)) HG3.out (World.ownsRow_nil _ w.heap.size 46 2) (by decide)
  have bel3:Below w.heap.size w w3:=(((Below.refl w.heap.size w).alloc (Nat.le_refl _) (.cells #[.int .i64 4,.int .i64 x,.int .i64 a,.int .i64 b,.int .i64 c,.int .i64 d,.string s] 27)).alloc (by simp <;> omega) (.cells #[.int .i64 a,.int .i64 b] 46)).grown HG3.out (by simp <;> omega) (fun _ h => by simp [Value.ownBlock] at h)
  have kk:=B3.out.keeps (Keeps.below bel3) 3 (.slice (some ⟨g3,0,none⟩) (0 + 1) cap3)
  exact ⟨rfl,⟨le,tv,_,xv,F,ts,[(a,b)],_,_,_,_,b4,B3.out.own t3 (by decide) 3 _,B3.out.own (ownW OWN3.out hB) (by decide) 3 _,by omega,by simp,⟨h3.txt,fun p h => (by simp at h;subst h;exact ⟨WA.out,WB.out⟩),h3.up,h3.ex,h3.se,h3.fr⟩,H4.out.fresh kk (Nat.le_succ _) (own_ge OWN3.out)⟩,kk,(bel3.mono hB).setCell le _⟩
 ·clear hbg hcur hcap hcm hcs htk
  go_enter Tryz.func16,Tryz.ntmps16
  go_wp2_with (first
   | (at_builtin;refine wpList_append_own _ (by rfl) (.tmp 69) (.tmp 74) 31 (by rfl) w.heap.size 46 i0 (.agg #[.int .i64 0,.int .i64 0]) 2 16 Tryz.underlying31 hi0 hz0 hz1 hz2 rfl (by decide) (.slice none 0 0) 0 [] (by rfl) (World.ownsRow_nil _ _ _ _) ⟨g,0,none⟩ ls.length cap (flat ls) (by rfl) (flat_length ls) (own_cells HL1.out) (flat_one ls) (by unfold maxLen;omega) (by omega) (by simp <;> omega) ?_;intro v1 w2 own2 hg2 _;have hs2:w.heap.size + 1 ≤ w2.heap.size:=(by rw [← HWA.out];exact hg2.size);have o2:=grown_heap (v:=.slice none 0 0) (B:=w.heap.size) (u:=46) (size:=2) hg2 (World.ownsRow_nil _ _ _ _) HO1.out (by decide);have q2:=cell_of_row _ _ 2 _ _ _ o2;have q3:=cell_of_row _ _ 3 _ _ _ o2;simp at q2 q3;have B2:=hid' (HB1.out.grown hg2 (World.ownsRow_nil _ w.heap.size 46 2) (by decide));have T2:=hid' (own_grown (HT.out.alloc _) hg2 (World.ownsRow_nil _ w.heap.size 46 2) (by decide));have L2:=hid' (((Below.refl w.heap.size w).alloc (Nat.le_refl _) _).grown hg2 (by simp <;> omega) (fun _ h => by simp [Value.ownBlock] at h));simp only [Nat.zero_add,List.nil_append] at own2;have OWN2:=hid' own2;clear own2 hg2 o2)
   | (at_builtin;refine wpList_append_lies _ (by rfl) (.tmp 77) (.tmp 83) 31 (by rfl) w.heap.size 46 i0 (.agg #[.int .i64 0,.int .i64 0]) 2 16 Tryz.underlying31 hi0 hz0 hz1 hz2 rfl (by decide) v1 ls.length (flat ls) (by rfl) (OWN2.out.alloc _) ⟨w2.heap.size,0,none⟩ 1 1 [.int .i64 a,.int .i64 b] (by rfl) (by rfl) (World.news_of_block (cs:=#[.int .i64 a,.int .i64 b]) (heap_alloc_new w2 _)) (by simp [Value.oneCell']) (by decide) (by unfold maxLen;omega) (by omega) (by simp <;> omega) (w2.heap.size + 1) (by simp) ?_;intro g3 cap3 w3 own3 hg3 hat3 hlt3;have B3:=hid' ((B2.out.alloc (.cells #[.int .i64 a,.int .i64 b] 46)).grown hg3 (OWN2.out.alloc _) (by decide));have d3:=B3.out.cell 3;have f3:=B3.out.free 3;simp at d3;have OWN3:=hid' own3;have HG3:=hid' hg3;clear own3 hg3 hat3))
  go_ret
  have b4:=B3.out.at3 (.slice (some ⟨g3,0,none⟩) (ls.length + 1) cap3)
  have t3:w3.ownsRow B 9 1 tv ts.length (ts.map Value.string):=own_grown (T2.out.alloc _) HG3.out (OWN2.out.alloc (.cells #[.int .i64 a,.int .i64 b] 46)) (by decide)
  have l4:(w3.setCell ⟨bW,3,none⟩ (.slice (some ⟨g3,0,none⟩) (ls.length + 1) cap3)).ownsRow B 46 2 (.slice (some ⟨g3,0,none⟩) (ls.length + 1) cap3) (ls ++ [(a,b)]).length (flat (ls ++ [(a,b)])):=by
   rw [flat_append,List.length_append];exact B3.out.own (ownW OWN3.out hB) (by decide) 3 _
  have bel3:Below w.heap.size w w3:=(L2.out.alloc (by omega) _).grown HG3.out (by simp <;> omega) (own_ge (OWN2.out.alloc (.cells #[.int .i64 a,.int .i64 b] 46)))
  have kk:=B3.out.keeps (Keeps.below bel3) 3 (.slice (some ⟨g3,0,none⟩) (ls.length + 1) cap3)
  exact ⟨rfl,⟨le,tv,_,xv,F,ts,ls ++ [(a,b)],_,_,_,_,b4,B3.out.own t3 (by decide) 3 _,l4,by omega,by simp <;> omega,⟨h3.txt,fun p h => (by
   rcases List.mem_append.1 h with h | h
   ·exact h3.tab p h
   ·simp at h;subst h;exact ⟨WA.out,WB.out⟩),h3.up,h3.ex,h3.se,h3.fr⟩,H4.out.fresh kk (Nat.le_succ _) (own_ge OWN3.out)⟩,kk,(bel3.mono hB).setCell le _⟩
end Go.Proofs.YtmmkhodaljpjgaaGreatDoor
namespace Go.Proofs.YtmmkhodaljpjgaaGreatDoor
open Go.RowKit
attribute [local go_sem ↓] Go.wp_at_zero Go.wp_at_succ
theorem text_left {X:Xs} {F:Nat → Prop} {B bW n:Nat} {w w1 V:World} {tv lv xv:Value} {ts:List ByteArray} {ls:List (Int × Int)} {up ex se fr:Int} {s:ByteArray} {gg cap:Nat} (hs:s.size ≤ 16384) (le:B ≤ bW)
  (h1:ts.length ≤ n) (h2:ls.length ≤ n + 40) (h3:Nums ts ls up ex se fr) (tV:V.ownsRow B 9 1 tv ts.length (ts.map Value.string)) (lV:V.ownsRow B 46 2 lv ls.length (flat ls)) (h4:Srv X n F lv xv w) (kV:Keeps w V) (belV:Below B w V) (hV:B ≤ V.heap.size)
  (own1:w1.ownsRow B 9 1 (.slice (some ⟨gg,0,none⟩) (ts.length + 1) cap) (ts.length + 1) (ts.map Value.string ++ [.string s])) (hg:V.grownBy w1 tv.ownBlock) (b1:Blk bW tv up ex lv se fr xv w1) :
  Left X B bW n w (w1.setCell ⟨bW,0,none⟩ (.slice (some ⟨gg,0,none⟩) (ts.length + 1) cap)):=by
 have k1:Keeps w w1:=kV.grown hg tV
 have kk:=b1.keeps k1 0 (.slice (some ⟨gg,0,none⟩) (ts.length + 1) cap)
 have l1:w1.ownsRow B 46 2 lv ls.length (flat ls):=own_grown lV hg tV (by decide)
 have bel1:Below B w w1:=belV.grown hg hV (own_ge tV)
 refine ⟨⟨le,_,lv,xv,F,ts ++ [s],ls,_,_,_,_,b1.at0 _,?_,b1.own l1 (by decide) 0 _,by simp;omega,by omega,?_,h4.keeps kk (Nat.le_succ _)⟩,kk,bel1.setCell le _⟩
 ·rw [List.length_append,List.map_append];exact b1.own own1 (by decide) 0 _
 ·refine ⟨?_,h3.tab,h3.up,h3.ex,h3.se,h3.fr⟩
  intro t htm
  simp at htm
  rcases htm with htm | rfl
  ·exact h3.txt t htm
  ·exact hs
theorem owner_text {X:Xs} (B bW n:Nat) (x a b c d:Int) (s:ByteArray) (w:World) (hn:n ≤ 100000) (hs:s.size ≤ 16384) (hI:Inv X B bW n w) (hB:B ≤ w.heap.size) :
  Calls Tryz.prog 16 #[.pointer (some ⟨bW,0,none⟩),.agg #[.int .i64 1,.int .i64 x,.int .i64 a,.int .i64 b,.int .i64 c,.int .i64 d,.string s]] w fun e w' =>
   e = .returned (.bool true) ∧ Left X B bW n w w':=by
 obtain ⟨le,tv,lv,xv,F,ts,ls,up,ex,se,fr,hb,ht,hl,h1,h2,h3,h4⟩:=hI
 obtain ⟨i0,hi0,hz0,hz1,hz2⟩:=info_parts infoString
 have hlt:=hb.lt
 have c0:=hb.cell 0
 have f0:=hb.free 0
 simp at c0
 have ab:tv.ownBlock ≠ some bW:=own_ne ht hb (by decide)
 have ao:tv.ownBlock ≠ some w.heap.size:=fun q => by have:=own_lt ht _ q;omega
 have fz1:∀ o,(w.alloc o).frozen? ⟨bW,0,none⟩ = false:=fun o => (hb.alloc o).free 0
 have fz2:∀ o p,((w.alloc o).alloc p).frozen? ⟨bW,0,none⟩ = false:=fun o p => ((hb.alloc o).alloc p).free 0
 have HB:=hid' hb
 have HT:=hid' ht
 have HL:=hid' hl
 have H4:=hid' h4
 have AB:=hid' ab
 have AO:=hid' ao
 clear hb ht hl ab ao h4
 go_enter Tryz.func16,Tryz.ntmps16
 go_wp2_with fail
 go_region_law ((refine step_append_lies _ ?_ (.tmp 15) (.tmp 18) 30 ?_ B 9 i0 (.string ByteArray.empty) 1 16 Tryz.underlying30 hi0 hz0 hz1 hz2 rfl (by decide) tv ts.length (ts.map Value.string) ?_ ?_ ⟨w.heap.size + 1,0,none⟩ 1 1 [.string s] ?_ ?_ ?_ ?_ ?_ ?_ ?_ ?_ (w.heap.size + 1 + 1) ?_ ?_;exact rfl;exact rfl;exact rfl;exact ((HT.out.alloc _).alloc _).drew;exact rfl;exact rfl;exact (World.news_of_block (cs:=#[.string s]) (t:=9) (fr:=(0,0)) (heap_alloc2_new w _ _));(simp [Value.oneCell']);decide;(unfold maxLen;omega);omega;(simp;omega);(simp);intro gg cap w1 hown1 hgrow hat hlt1;have B1:=hid' (Blk.grown (w:=(((w.alloc (.cells #[.int .i64 1,.int .i64 x,.int .i64 a,.int .i64 b,.int .i64 c,.int .i64 d,.string s] 27)).alloc (.cells #[.string s] 9)).drew)) ((HB.out.alloc _).alloc _) hgrow (((HT.out.alloc _).alloc _).drew) (by decide));have d1:=B1.out.cell 0;have g1:=B1.out.free 0;(simp at d1);have OWN1:=hid' hown1;have HG1:=hid' hgrow;clear hown1 hgrow hat))
 all_goals
  go_wp2
  go_ret
  exact ⟨rfl,text_left hs le h1 h2 h3 ((HT.out.alloc _).alloc _).drew ((HL.out.alloc _).alloc _).drew H4.out (((Keeps.refl w).alloc _).alloc _) (((Below.refl B w).alloc hB _).alloc (by simp;omega) _).drew (by simp;omega) OWN1.out HG1.out B1.out⟩
def pk (c n:Int):Int:=if c < 0 then -((c + 1).tmod n) else c % n
theorem pk_bd (c n:Int) (h:1 ≤ n):0 ≤ pk c n ∧ pk c n < n:=by
 unfold pk
 split
 ·rw [← Int.neg_tmod]
  exact ⟨Int.tmod_nonneg _ (by omega),Int.tmod_lt_of_pos _ (by omega)⟩
 ·exact ⟨Int.emod_nonneg _ (by omega),Int.emod_lt_of_pos _ (by omega)⟩
theorem pick_val (c:Int) (n:Int) (w:World) (w0:(Lit.int .i64 c).wf = true) (h1:1 ≤ n) (h2:n ≤ 1000000) :
  Calls Tryz.prog 18 #[.int .i64 c,.int .i64 n] w fun e w' => e = .returned (.int .i64 (pk c n)) ∧ w' = w:=by
 have hb:=bounds_i64 w0
 clear w0
 by_cases hc:c < 0
 ·have H:Hid (pk c n = -((c + 1).tmod n)):=by show _ = _;unfold pk;rw [if_pos hc]
  go_enter Tryz.func18,Tryz.ntmps18
  go_wp2
  go_ret
  exact ⟨ret_int H.out.symm,rfl⟩
 ·have H:Hid (pk c n = c % n):=by show _ = _;unfold pk;rw [if_neg hc]
  go_enter Tryz.func18,Tryz.ntmps18
  go_wp2
  go_ret
  exact ⟨ret_int H.out.symm,rfl⟩
theorem text_any {X:Xs} (B bW n:Nat) (c:Int) (w:World) (w0:(Lit.int .i64 c).wf = true) (hn:n ≤ 100000) (hI:Inv X B bW n w) :
  Calls Tryz.prog 19 #[.pointer (some ⟨bW,0,none⟩),.int .i64 c] w fun e w' => ∃ s m,e = .returned (.string s) ∧ s.size ≤ 16384 ∧ w' = w.drewN m:=by
 obtain ⟨le,tv,lv,xv,F,ts,ls,up,ex,se,fr,hb,ht,hl,h1,h2,h3,h4⟩:=hI
 have c0:=hb.cell 0
 simp at c0
 by_cases hz:ts.length = 0
 ·obtain ⟨ao,cap,htv⟩:∃ ao cap,tv = .slice ao 0 cap:=by
   rcases ht.2 with ⟨rfl,_⟩ | ⟨g,cap,cur,rfl,_⟩
   ·exact ⟨_,_,rfl⟩
   ·exact ⟨_,_,by rw [hz]⟩
  rw [htv] at c0
  clear hb ht hl htv hz h4
  go_enter Tryz.func19,Tryz.ntmps19
  go_wp2
  go_ret
  exact ⟨_,0,rfl,by decide,rfl⟩
 ·obtain ⟨g,cap,htv,_,_⟩:=ht.form (by omega)
  rw [htv] at c0 ht
  have hp:=pk_bd c ts.length (by omega)
  obtain ⟨q,hq⟩:=Int.eq_ofNat_of_zero_le hp.1
  have hq1:q < ts.length:=by omega
  have hcell:w.cell? ⟨g,q,none⟩ = some (.string ts[q]):=by
   rw [ht.cellAt q (by omega)];simp [hq1]
  have hsz:=h3.txt ts[q] (List.getElem_mem hq1)
  have HP:∀ wx,Hid (Calls Tryz.prog 18 #[.int .i64 c,.int .i64 ts.length] wx fun e w' => e = .returned (.int .i64 q) ∧ w' = wx):=by
   intro wx
   have:=pick_val c ts.length wx w0 (by omega) (by omega)
   rw [hq] at this
   exact this
  generalize ts[q] = tx at *
  have hqi:(q:Int) < (ts.length:Int):=by omega
  have hq0:(0:Int) ≤ (q:Int):=by omega
  have hlz:((ts.length:Int) == 0) = false:=by rw [beq_eq_false_iff_ne];omega
  generalize ts.length = len at *
  clear hb ht hl htv hp hq h3 w0 hq1 h4
  go_enter Tryz.func19,Tryz.ntmps19
  go_wp2_with fail
  go_quiet ((go_at_call 18;exact Calls.quiet_of_same (HP _).out))
  go_wp2
  go_ret
  exact ⟨_,nq,rfl,hsz,rfl⟩
end Go.Proofs.YtmmkhodaljpjgaaGreatDoor
