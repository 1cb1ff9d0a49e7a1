import Derived.Laws.BitsAllLaws
import Derived.Test.YtmmkhodaljpjgaaGreatDoorChecked
import Derived.WalkKit
import Derived.WalkSpells
import Derived.WalkLawsBesides
import Derived.Below
import Derived.Outline
import Derived.BigQuiet
import Derived.Deep.QuietTactic
import Derived.Deep.WholeRow
import Derived.Deep.Draws
import Derived.WalkSmall
import Derived.OwnWalk
import Derived.Deep.RegionHeld3
import Derived.Deep.AppendLies
import Derived.Laws.Rows
import Derived.Laws.AppendOwnNone
import Derived.OpenShut
set_option maxRecDepth 100000
set_option maxHeartbeats 6400000
namespace Go.Proofs.YtmmkhodaljpjgaaGreatDoor.Sha
open Go
def pbyte (s:ByteArray) (i e:Int):Int :=
 if i < s.size then ((s.data.toList.getD i.toNat 0).toNat:Int)
 else if i = s.size then 128
 else if 0 ≤ e - 1 - i ∧ e - 1 - i < 8 then (s.size:Int) * 8 / 2 ^ (8 * (e - 1 - i)).toNat % 256
 else 0
theorem pbyte_bd (s:ByteArray) (i e:Int):0 ≤ pbyte s i e ∧ pbyte s i e < 256:=by
 unfold pbyte
 split
 ·have:=(s.data.toList.getD i.toNat 0).toNat_lt;omega
 ·split
  ·omega
  ·split
   ·exact ⟨Int.emod_nonneg _ (by omega),Int.emod_lt_of_pos _ (by omega)⟩
   ·omega
def pword (s:ByteArray) (i e:Int):Int :=
 ((pbyte s i e * 256 + pbyte s (i + 1) e) * 256 + pbyte s (i + 2) e) * 256 + pbyte s (i + 3) e
theorem pword_bd (s:ByteArray) (i e:Int):0 ≤ pword s i e ∧ pword s i e < 4294967296:=by
 have a:=pbyte_bd s i e
 have b:=pbyte_bd s (i + 1) e
 have c:=pbyte_bd s (i + 2) e
 have d:=pbyte_bd s (i + 3) e
 unfold pword;omega
def pfirst (s:ByteArray) (i e:Int):Nat → Int
 | 0 => 0
 | k + 1 => pfirst s i e k * 256 + pbyte s (i + k) e
theorem pfirst_four (s:ByteArray) (i e:Int):pfirst s i e 4 = pword s i e:=by
 simp [pfirst,pword]
theorem pfirst_bd (s:ByteArray) (i e:Int) (k:Nat) (h:k < 4):0 ≤ pfirst s i e k ∧ pfirst s i e k < 16777216:=by
 have a:=pbyte_bd s i e
 have b:=pbyte_bd s (i + 1) e
 have c:=pbyte_bd s (i + 2) e
 match k,h with
 | 0,_ => simp [pfirst]
 | 1,_ => simp [pfirst];omega
 | 2,_ => simp [pfirst];omega
 | 3,_ => simp [pfirst];omega
theorem or_byte (y b:Int) (h0:0 ≤ y) (h1:y < 16777216) (b0:0 ≤ b) (b1:b < 256):bits .or .u32 (y * 256) b = y * 256 + b:=by
 rw [u32_or _ _ (by omega) (by omega) b0 (by omega),nat_join 8 _ _ (by omega) (by omega)]
 omega
theorem and_byte (x:Int) (h0:0 ≤ x) (h1:x < 18446744073709551616):bits .and .u64 x 255 % 4294967296 = x % 256:=by
 rw [u64_and _ _ h0 h1 (by omega) (by omega)]
 have e:x.toNat &&& (255:Int).toNat = x.toNat % 256:=nat_mask8 x.toNat
 rw [e]
 omega
def hexd (v:Int):UInt8:=if v < 10 then UInt8.ofNat (48 + v.toNat) else UInt8.ofNat (87 + v.toNat)
theorem digit_cut (v:Int) (h0:0 ≤ v) (h1:v < 16) :
  (ByteArray.mk #[48,49,50,51,52,53,54,55,56,57,97,98,99,100,101,102]).extract v.toNat (v + 1).toNat = ByteArray.mk #[hexd v]:=by
 obtain ⟨n,rfl⟩:=Int.eq_ofNat_of_zero_le h0
 have hn:n < 16:=by omega
 match n,hn with
 | 0,_ | 1,_ | 2,_ | 3,_ | 4,_ | 5,_ | 6,_ | 7,_ | 8,_ | 9,_ | 10,_ | 11,_ | 12,_ | 13,_ | 14,_ | 15,_ => decide +kernel
def hexs (x:Int):Nat → List UInt8
 | 0 => []
 | k + 1 => hexs x k ++ [hexd (x * 16 ^ k % 4294967296 / 268435456)]
theorem hexs_length (x:Int) (k:Nat):(hexs x k).length = k:=by
 induction k with
 | zero => rfl
 | succ k ih => simp [hexs,ih]
theorem shift_more (x:Int) (k:Nat):x * 16 ^ k % 4294967296 * 16 % 4294967296 = x * 16 ^ (k + 1) % 4294967296:=by
 rw [Int.pow_succ,← Int.mul_assoc];omega
def blocks (n:Nat):Nat:=if 56 ≤ n % 64 then n / 64 + 2 else n / 64 + 1
def f (t:Nat) (b c d:Int):Int :=
 if t < 20 then bits .or .u32 (bits .and .u32 b c) (bits .and .u32 (bits .xor .u32 IntKind.u32.max b) d)
 else if t < 40 then bits .xor .u32 (bits .xor .u32 b c) d
 else if t < 60 then bits .or .u32 (bits .or .u32 (bits .and .u32 b c) (bits .and .u32 b d)) (bits .and .u32 c d)
 else bits .xor .u32 (bits .xor .u32 b c) d
def K (t:Nat):Int:=if t < 20 then 1518500249 else if t < 40 then 1859775393 else if t < 60 then 2400959708 else 3395469782
def rol1 (x:Int):Int:=bits .or .u32 (x * 2 % 4294967296) (x / 2147483648)
def rol5 (x:Int):Int:=bits .or .u32 (x * 32 % 4294967296) (x / 134217728)
def rol30 (x:Int):Int:=bits .or .u32 (x * 1073741824 % 4294967296) (x / 4)
def nextW (s:ByteArray) (b e:Int) (l:List Int) (n:Nat):Int :=
 if n < 16 then pword s (b + 4 * n) e
 else rol1 (bits .xor .u32 (bits .xor .u32 (bits .xor .u32 (l.getD (n - 3) 0) (l.getD (n - 8) 0)) (l.getD (n - 14) 0)) (l.getD (n - 16) 0))
def wl (s:ByteArray) (b e:Int):Nat → List Int
 | 0 => []
 | n + 1 => wl s b e n ++ [nextW s b e (wl s b e n) n]
theorem wl_length (s:ByteArray) (b e:Int) (n:Nat):(wl s b e n).length = n:=by
 induction n with
 | zero => rfl
 | succ n ih => simp [wl,ih]
theorem wl_old (s:ByteArray) (b e:Int) (n j:Nat) (h:j < n):(wl s b e (n + 1)).getD j 0 = (wl s b e n).getD j 0:=by
 have hl:=wl_length s b e n
 simp only [wl,List.getD_eq_getElem?_getD]
 rw [List.getElem?_append_left (by omega)]
theorem wl_new (s:ByteArray) (b e:Int) (n:Nat):(wl s b e (n + 1)).getD n 0 = nextW s b e (wl s b e n) n:=by
 have hl:=wl_length s b e n
 simp only [wl,List.getD_eq_getElem?_getD]
 rw [List.getElem?_append_right (by omega)]
 simp [hl]
theorem bits_bd (o:BinOp) (a b:Int):0 ≤ bits o .u32 a b ∧ bits o .u32 a b < 4294967296:=by
 unfold bits
 simp only [IntKind.wrap_u32']
 exact ⟨Int.emod_nonneg _ (by omega),Int.emod_lt_of_pos _ (by omega)⟩
theorem rol1_bd (x:Int):0 ≤ rol1 x ∧ rol1 x < 4294967296:=by unfold rol1;exact bits_bd _ _ _
theorem rol30_bd (x:Int):0 ≤ rol30 x ∧ rol30 x < 4294967296:=by unfold rol30;exact bits_bd _ _ _
theorem mod_bd (x:Int):0 ≤ x % 4294967296 ∧ x % 4294967296 < 4294967296:=⟨Int.emod_nonneg _ (by omega),Int.emod_lt_of_pos _ (by omega)⟩
theorem nextW_bd (s:ByteArray) (b e:Int) (l:List Int) (n:Nat):0 ≤ nextW s b e l n ∧ nextW s b e l n < 4294967296:=by
 unfold nextW
 split
 ·exact pword_bd _ _ _
 ·exact rol1_bd _
theorem wl_bd (s:ByteArray) (b e:Int) (n j:Nat):0 ≤ (wl s b e n).getD j 0 ∧ (wl s b e n).getD j 0 < 4294967296:=by
 induction n with
 | zero => simp [wl]
 | succ n ih =>
  by_cases h:j < n
  ·rw [wl_old s b e n j h];exact ih
  ·by_cases h':j = n
   ·subst h';rw [wl_new];exact nextW_bd _ _ _ _ _
   ·have hl:=wl_length s b e (n + 1)
    rw [List.getD_eq_getElem?_getD,List.getElem?_eq_none (by omega)]
    simp
structure St where
 a:Int
 b:Int
 c:Int
 d:Int
 e:Int
structure St.Ok (x:St):Prop where
 a:0 ≤ x.a ∧ x.a < 4294967296
 b:0 ≤ x.b ∧ x.b < 4294967296
 c:0 ≤ x.c ∧ x.c < 4294967296
 d:0 ≤ x.d ∧ x.d < 4294967296
 e:0 ≤ x.e ∧ x.e < 4294967296
def step (x:St) (t:Nat) (wt:Int):St :=
 ⟨(rol5 x.a + f t x.b x.c x.d + x.e + K t + wt) % 4294967296,x.a,rol30 x.b,x.c,x.d⟩
def rounds (l:List Int) (x:St):Nat → St
 | 0 => x
 | n + 1 => step (rounds l x n) n (l.getD n 0)
theorem rounds_ok (l:List Int) (x:St) (h:x.Ok) (n:Nat):(rounds l x n).Ok:=by
 induction n with
 | zero => exact h
 | succ n ih => exact ⟨mod_bd _,ih.a,rol30_bd _,ih.c,ih.d⟩
def mixed (l:List Int) (x:St):St :=
 ⟨(x.a + (rounds l x 80).a) % 4294967296,(x.b + (rounds l x 80).b) % 4294967296,(x.c + (rounds l x 80).c) % 4294967296,(x.d + (rounds l x 80).d) % 4294967296,(x.e + (rounds l x 80).e) % 4294967296⟩
theorem mixed_ok (l:List Int) (x:St):(mixed l x).Ok :=
 ⟨mod_bd _,mod_bd _,mod_bd _,mod_bd _,mod_bd _⟩
def St.cells (x:St):Array Value:=#[.int .u32 x.a,.int .u32 x.b,.int .u32 x.c,.int .u32 x.d,.int .u32 x.e]
def first:St:=⟨1732584193,4023233417,2562383102,271733878,3285377520⟩
def behind (s:ByteArray) (e:Int):Nat → St
 | 0 => first
 | n + 1 => mixed (wl s (n * 64) e 80) (behind s e n)
def St.word (x:St):Nat → Int
 | 0 => x.a
 | 1 => x.b
 | 2 => x.c
 | 3 => x.d
 | _ => x.e
theorem St.Ok.word {x:St} (h:x.Ok) (j:Nat):0 ≤ x.word j ∧ x.word j < 4294967296:=by
 match j with
 | 0 => exact h.a
 | 1 => exact h.b
 | 2 => exact h.c
 | 3 => exact h.d
 | _ + 4 => exact h.e
theorem St.cells_at (x:St) (j:Nat) (h:j < 5):x.cells[j]? = some (.int .u32 (x.word j)):=by
 match j,h with
 | 0,_ => rfl
 | 1,_ => rfl
 | 2,_ => rfl
 | 3,_ => rfl
 | 4,_ => rfl
def St.text (x:St):Nat → List UInt8
 | 0 => []
 | n + 1 => x.text n ++ hexs (x.word n) 8
theorem St.text_length (x:St) (n:Nat):(x.text n).length = 8 * n:=by
 induction n with
 | zero => rfl
 | succ n ih => simp [St.text,ih,hexs_length];omega
def digest (s:ByteArray):List UInt8:=(behind s (blocks s.size * 64) (blocks s.size)).text 5
end Go.Proofs.YtmmkhodaljpjgaaGreatDoor.Sha
namespace Go.Proofs.YtmmkhodaljpjgaaGreatDoor
open Go.RowKit
theorem ret_u32 {k:IntKind} {a b:Int} (h:a = b):Ending.returned (.int k a) = .returned (.int k b):=by rw [h]
theorem ret_str {a b:ByteArray} (h:a = b):Ending.returned (.string a) = .returned (.string b):=by rw [h]
theorem getD_bytes (s:ByteArray) (n:Nat) (h:n < s.size):s.data.toList.getD n 0 = s[n]:=by
 have h':n < s.data.toList.length:=by simpa using h
 rw [List.getD_eq_getElem?_getD,List.getElem?_eq_getElem h']
 rfl
theorem byte_any (s:ByteArray) (i e:Int) (w:World) (h0:0 ≤ i) (h1:i ≤ 2000000000) (h2:0 ≤ e) (h3:e ≤ 2000000000) (hs:s.size ≤ 1000000000) :
  Calls Tryz.prog 158 #[.string s,.int .i64 i,.int .i64 e] w fun q w' => q = .returned (.int .u32 (Sha.pbyte s i e)) ∧ w' = w:=by
 by_cases c1:i < s.size
 ·have H:Hid (Sha.pbyte s i e = (s[i.toNat]'(by omega)).toNat % 4294967296):=by
   show _ = _
   unfold Sha.pbyte;rw [if_pos c1,getD_bytes s i.toNat (by omega)]
   have:=(s[i.toNat]'(by omega)).toNat_lt;omega
  go_enter Tryz.func158,Tryz.ntmps158
  go_wp2
  go_ret
  exact ⟨ret_u32 H.out.symm,rfl⟩
 ·by_cases c2:i = s.size
  ·have H:Hid (Sha.pbyte s i e = 128):=by show _ = _;unfold Sha.pbyte;rw [if_neg c1,if_pos c2]
   have c2':(i == (s.size:Int)) = true:=by rw [beq_iff_eq];exact c2
   clear c2
   go_enter Tryz.func158,Tryz.ntmps158
   go_wp2
   go_ret
   exact ⟨ret_u32 H.out.symm,rfl⟩
  ·have c2':(i == (s.size:Int)) = false:=by rw [beq_eq_false_iff_ne];exact c2
   by_cases c3:0 ≤ e - 1 - i
   ·by_cases c4:e - 1 - i < 8
    ·have H:Hid (Sha.pbyte s i e = (s.size:Int) * 8 / 2 ^ (8 * (e - 1 - i)).toNat % 256):=by show _ = _;unfold Sha.pbyte;rw [if_neg c1,if_neg c2,if_pos ⟨c3,c4⟩]
     have hx0:0 ≤ (s.size:Int) * 8 / 2 ^ (8 * (e - 1 - i)).toNat:=Int.ediv_nonneg (by omega) (Int.le_of_lt (Int.pow_pos (by omega)))
     have hx1:(s.size:Int) * 8 / 2 ^ (8 * (e - 1 - i)).toNat ≤ (s.size:Int) * 8:=Int.ediv_le_self _ (by omega)
     have HX:Hid (bits .and .u64 ((s.size:Int) * 8 / 2 ^ (8 * (e - 1 - i)).toNat) 255 % 4294967296 = (s.size:Int) * 8 / 2 ^ (8 * (e - 1 - i)).toNat % 256):=Sha.and_byte _ hx0 (by omega)
     clear hx0 hx1 c2
     go_enter Tryz.func158,Tryz.ntmps158
     go_wp2
     go_ret
     exact ⟨ret_u32 (HX.out.trans H.out.symm),rfl⟩
    ·have H:Hid (Sha.pbyte s i e = 0):=by show _ = _;unfold Sha.pbyte;rw [if_neg c1,if_neg c2,if_neg (by omega)]
     clear c2
     go_enter Tryz.func158,Tryz.ntmps158
     go_wp2
     go_ret
     exact ⟨ret_u32 H.out.symm,rfl⟩
   ·have H:Hid (Sha.pbyte s i e = 0):=by show _ = _;unfold Sha.pbyte;rw [if_neg c1,if_neg c2,if_neg (by omega)]
    clear c2
    go_enter Tryz.func158,Tryz.ntmps158
    go_wp2
    go_ret
    exact ⟨ret_u32 H.out.symm,rfl⟩
theorem word_any (s:ByteArray) (i e:Int) (w:World) (h0:0 ≤ i) (h1:i ≤ 1900000000) (h2:0 ≤ e) (h3:e ≤ 2000000000) (hs:s.size ≤ 1000000000) :
  Calls Tryz.prog 118 #[.string s,.int .i64 i,.int .i64 e] w fun q w' => q = .returned (.int .u32 (Sha.pword s i e)) ∧ w' = w:=by
 go_enter Tryz.func118,Tryz.ntmps118
 go_wp2
 go_loop [7,8] (fun x i' => ∃ k:Nat,k ≤ 4 ∧ i' = .int .i64 k ∧ x = .int .u32 (Sha.pfirst s i e k)) (fun _ i' => 4 - (intOf i').toNat)
 case atStart => exact ⟨0,by omega,rfl,rfl⟩
 case round =>
  obtain ⟨k,hk,rfl,rfl⟩:=hrel
  by_cases hlt:k < 4
  ·have hb:=Sha.pfirst_bd s i e k hlt
   have hc:=Sha.pbyte_bd s (i + k) e
   have HO:Hid (bits .or .u32 (Sha.pfirst s i e k * 256) (Sha.pbyte s (i + k) e) = Sha.pfirst s i e (k + 1)):=Sha.or_byte _ _ hb.1 hb.2 hc.1 hc.2
   go_wp2_with (go_at_call 158;refine (byte_any _ _ _ _ (by omega) (by omega) (by omega) (by omega) (by omega)).mono ?_;rintro q w' ⟨rfl,rfl⟩)
   go_round
   case rel => exact ⟨k + 1,by omega,by go_num,by rw [HO.out]⟩
   case measure => simp [intOf];omega
  ·have e4:k = 4:=by omega
   subst e4
   go_wp2
   go_ret
   exact ⟨ret_u32 (Sha.pfirst_four s i e),rfl⟩
theorem hex_any (x:Int) (w:World) (h0:0 ≤ x) (h1:x < 4294967296) :
  Calls Tryz.prog 75 #[.int .u32 x] w fun e w' => e = .returned (.string ⟨(Sha.hexs x 8).toArray⟩) ∧ w' = w:=by
 go_enter Tryz.func75,Tryz.ntmps75
 go_wp2
 go_loop [0,3,4,5] (fun xx s i _ => ∃ k:Nat,k ≤ 8 ∧ i = .int .i64 k ∧ xx = .int .u32 (x * 16 ^ k % 4294967296) ∧ s = .string ⟨(Sha.hexs x k).toArray⟩) (fun _ _ i _ => 8 - (intOf i).toNat)
 case atStart => exact ⟨0,by omega,rfl,by rw [Int.pow_zero,Int.mul_one,Int.emod_eq_of_lt h0 h1],rfl⟩
 case round =>
  obtain ⟨k,hk,rfl,rfl,rfl⟩:=hrel
  by_cases hlt:k < 8
  ·have hl:=Sha.hexs_length x k
   have HS:Hid (x * 16 ^ k % 4294967296 * 16 % 4294967296 = x * 16 ^ (k + 1) % 4294967296):=Sha.shift_more x k
   have HD:Hid (Sha.hexs x (k + 1) = Sha.hexs x k ++ [Sha.hexd (x * 16 ^ k % 4294967296 / 268435456)]):=rfl
   generalize hy:x * 16 ^ k % 4294967296 = y at *
   have hy0:0 ≤ y:=by rw [← hy];exact Int.emod_nonneg _ (by omega)
   have hy1:y < 4294967296:=by rw [← hy];exact Int.emod_lt_of_pos _ (by omega)
   clear hy
   generalize Sha.hexs x k = l at *
   have hsz:(ByteArray.mk l.toArray).size = k:=by simpa [ByteArray.size] using hl
   have HC:Hid ((ByteArray.mk #[48,49,50,51,52,53,54,55,56,57,97,98,99,100,101,102]).extract (y / 268435456).toNat (y / 268435456 + 1).toNat = ByteArray.mk #[Sha.hexd (y / 268435456)]):=Sha.digit_cut _ (by omega) (by omega)
   generalize hla:ByteArray.mk l.toArray = la at *
   have HL:Hid (ByteArray.mk l.toArray = la):=hla
   clear hla hl
   go_wp2
   refine ⟨⟨k + 1,by omega,by go_num,by rw [HS.out],?_⟩,by simp [intOf];omega⟩
   rw [HC.out,← HL.out,HD.out]
   congr 1
  ·have e8:k = 8:=by omega
   subst e8
   go_wp2
   go_ret
   exact ⟨rfl,rfl⟩
theorem count_any (n:Nat) (w:World) (h1:n ≤ 1000000000) :
  Calls Tryz.prog 72 #[.int .i64 n] w fun e w' => e = .returned (.int .i64 (Sha.blocks n)) ∧ w' = w:=by
 by_cases h:56 ≤ n % 64
 ·have H:Hid (((n:Int) / 64 + 1 + 1) = Sha.blocks n):=by show _ = _;unfold Sha.blocks;rw [if_pos h];omega
  go_enter Tryz.func72,Tryz.ntmps72
  go_wp2
  go_ret
  exact ⟨ret_u32 H.out,rfl⟩
 ·have H:Hid (((n:Int) / 64 + 1) = Sha.blocks n):=by show _ = _;unfold Sha.blocks;rw [if_neg h];omega
  go_enter Tryz.func72,Tryz.ntmps72
  go_wp2
  go_ret
  exact ⟨ret_u32 H.out,rfl⟩
theorem combine_any (t:Nat) (b c d:Int) (w:World) (h:t < 80) :
  Calls Tryz.prog 119 #[.int .i64 t,.int .u32 b,.int .u32 c,.int .u32 d] w fun e w' => e = .returned (.int .u32 (Sha.f t b c d)) ∧ w' = w:=by
 by_cases c0:t < 20
 ·have H:Hid (Sha.f t b c d = bits .or .u32 (bits .and .u32 b c) (bits .and .u32 (bits .xor .u32 IntKind.u32.max b) d)):=by show _ = _;unfold Sha.f;rw [if_pos c0]
  go_enter Tryz.func119,Tryz.ntmps119
  go_wp2
  go_ret
  exact ⟨ret_u32 H.out.symm,rfl⟩
 by_cases c1:t < 40
 ·have H:Hid (Sha.f t b c d = bits .xor .u32 (bits .xor .u32 b c) d):=by show _ = _;unfold Sha.f;rw [if_neg c0,if_pos c1]
  go_enter Tryz.func119,Tryz.ntmps119
  go_wp2
  go_ret
  exact ⟨ret_u32 H.out.symm,rfl⟩
 by_cases c2:t < 60
 ·have H:Hid (Sha.f t b c d = bits .or .u32 (bits .or .u32 (bits .and .u32 b c) (bits .and .u32 b d)) (bits .and .u32 c d)):=by show _ = _;unfold Sha.f;rw [if_neg c0,if_neg c1,if_pos c2]
  go_enter Tryz.func119,Tryz.ntmps119
  go_wp2
  go_ret
  exact ⟨ret_u32 H.out.symm,rfl⟩
 ·have H:Hid (Sha.f t b c d = bits .xor .u32 (bits .xor .u32 b c) d):=by show _ = _;unfold Sha.f;rw [if_neg c0,if_neg c1,if_neg c2]
  go_enter Tryz.func119,Tryz.ntmps119
  go_wp2
  go_ret
  exact ⟨ret_u32 H.out.symm,rfl⟩
end Go.Proofs.YtmmkhodaljpjgaaGreatDoor
namespace Go.Proofs.YtmmkhodaljpjgaaGreatDoor.Cal
def lp (y:Int):Int:=if y % 4 = 0 ∧ (y % 100 ≠ 0 ∨ y % 400 = 0) then 1 else 0
def yb (y:Int):Int:=365 * (y - 1900) + ((y - 1) / 4 - (y - 1) / 100 + (y - 1) / 400) - 460
def dim (y m:Int):Int:=if m = 2 then 28 + lp y else if m = 4 ∨ m = 6 ∨ m = 9 ∨ m = 11 then 30 else 31
def cum (y m:Int):Int :=
 if m ≤ 1 then 0 else if m = 2 then 31 else if m = 3 then 59 + lp y else if m = 4 then 90 + lp y else if m = 5 then 120 + lp y
 else if m = 6 then 151 + lp y else if m = 7 then 181 + lp y else if m = 8 then 212 + lp y else if m = 9 then 243 + lp y
 else if m = 10 then 273 + lp y else if m = 11 then 304 + lp y else if m = 12 then 334 + lp y else 365 + lp y
theorem lp_01 (y:Int):0 ≤ lp y ∧ lp y ≤ 1:=by unfold lp;split <;> omega
theorem yb_succ (y:Int):yb (y + 1) = yb y + 365 + lp y:=by
 unfold yb lp;split <;> omega
theorem yb_first:yb 1900 = 0:=by decide
theorem yb_last:yb 3000 = 401767:=by decide
theorem yb_mono (a b:Int) (h:a ≤ b):yb a ≤ yb b:=by unfold yb;omega
theorem yb_bd (y:Int) (h0:1900 ≤ y) (h:y ≤ 3000):0 ≤ yb y ∧ yb y ≤ 401767:=by
 have a:=yb_mono 1900 y h0
 have b:=yb_mono y 3000 h
 rw [yb_first] at a;rw [yb_last] at b;exact ⟨a,b⟩
theorem yb_guess (n:Int) (h0:0 ≤ n):yb (1900 + n / 366) ≤ n:=by unfold yb;omega
theorem dim_bd (y m:Int):28 ≤ dim y m ∧ dim y m ≤ 31:=by
 have:=lp_01 y
 unfold dim;split
 ·omega
 ·split <;> omega
theorem months (m:Int) (h1:1 ≤ m) (h2:m ≤ 12):m = 1 ∨ m = 2 ∨ m = 3 ∨ m = 4 ∨ m = 5 ∨ m = 6 ∨ m = 7 ∨ m = 8 ∨ m = 9 ∨ m = 10 ∨ m = 11 ∨ m = 12:=by omega
theorem cum_one (y:Int):cum y 1 = 0:=by unfold cum;rfl
theorem cum_end (y:Int):cum y 13 = 365 + lp y:=by unfold cum;simp
theorem cum_succ (y m:Int) (h1:1 ≤ m) (h2:m ≤ 12):cum y (m + 1) = cum y m + dim y m:=by
 rcases months m h1 h2 with rfl | rfl | rfl | rfl | rfl | rfl | rfl | rfl | rfl | rfl | rfl | rfl <;> simp [cum,dim] <;> omega
theorem cum_mono (y a b:Int) (h:a ≤ b):cum y a ≤ cum y b:=by
 have:=lp_01 y
 unfold cum
 repeat' split
 all_goals omega
theorem cum_bd (y m:Int) (h1:1 ≤ m) (h2:m ≤ 13):0 ≤ cum y m ∧ cum y m ≤ 366:=by
 have a:=cum_mono y 1 m h1
 have b:=cum_mono y m 13 h2
 have c:=lp_01 y
 rw [cum_one] at a;rw [cum_end] at b
 omega
structure In (y m n:Int):Prop where
 y1:1900 ≤ y
 y2:y ≤ 2999
 m1:1 ≤ m
 m2:m ≤ 12
 lo:yb y + cum y m ≤ n
 hi:n < yb y + cum y m + dim y m
theorem In.year {y m n:Int} (h:In y m n):yb y ≤ n ∧ n < yb (y + 1):=by
 have a:=cum_bd y m h.m1 (by have:=h.m2;omega)
 have b:=cum_succ y m h.m1 h.m2
 have c:=cum_mono y (m + 1) 13 (by have:=h.m2;omega)
 have d:=cum_end y
 have e:=yb_succ y
 have:=h.lo
 have:=h.hi
 omega
theorem In.only {y m z o n:Int} (a:In y m n) (b:In z o n):y = z ∧ m = o:=by
 have ay:=a.year
 have by':=b.year
 have hy:y = z:=by
  rcases Int.lt_trichotomy y z with h | h | h
  ·have:=yb_mono (y + 1) z h;omega
  ·exact h
  ·have:=yb_mono (z + 1) y h;omega
 subst hy
 refine ⟨rfl,?_⟩
 have al:=a.lo
 have ah:=a.hi
 have bl:=b.lo
 have bh:=b.hi
 have a1:=a.m1
 have a2:=a.m2
 have b1:=b.m1
 have b2:=b.m2
 have sa:=cum_succ y m a1 a2
 have sb:=cum_succ y o b1 b2
 rcases Int.lt_trichotomy m o with h | h | h
 ·have:=cum_mono y (m + 1) o h;omega
 ·exact h
 ·have:=cum_mono y (o + 1) m h;omega
end Go.Proofs.YtmmkhodaljpjgaaGreatDoor.Cal
namespace Go.Proofs.YtmmkhodaljpjgaaGreatDoor
open Go.RowKit
theorem ret_int {k:IntKind} {a b:Int} (h:a = b):Ending.returned (.int k a) = .returned (.int k b):=by rw [h]
theorem leap_yes (y:Int) (w:World) (h0:0 ≤ y) (h:Cal.lp y = 1) :
  Calls Tryz.prog 156 #[.int .i64 y] w fun e w' => e = .returned (.bool true) ∧ w' = w:=by
 have h4:y % 4 = 0:=by unfold Cal.lp at h;split at h <;> omega
 have hr:¬ y % 100 = 0 ∨ y % 400 = 0:=by unfold Cal.lp at h;split at h <;> omega
 clear h
 by_cases c:y % 100 = 0
 ·have d:y % 400 = 0:=by omega
  clear hr
  go_enter Tryz.func156,Tryz.ntmps156
  go_wp2
  go_ret
  exact ⟨rfl,rfl⟩
 ·clear hr
  go_enter Tryz.func156,Tryz.ntmps156
  go_wp2
  go_ret
  exact ⟨rfl,rfl⟩
theorem leap_no (y:Int) (w:World) (h0:0 ≤ y) (h:Cal.lp y = 0) :
  Calls Tryz.prog 156 #[.int .i64 y] w fun e w' => e = .returned (.bool false) ∧ w' = w:=by
 have hr:¬ y % 4 = 0 ∨ (y % 100 = 0 ∧ ¬ y % 400 = 0):=by unfold Cal.lp at h;split at h <;> omega
 clear h
 by_cases c:y % 4 = 0
 ·have d:y % 100 = 0:=by omega
  have f:(y % 400 == 0) = false:=by rw [beq_eq_false_iff_ne];omega
  clear hr
  go_enter Tryz.func156,Tryz.ntmps156
  go_wp2
  go_ret
  exact ⟨rfl,rfl⟩
 ·clear hr
  go_enter Tryz.func156,Tryz.ntmps156
  go_wp2
  go_ret
  exact ⟨rfl,rfl⟩
theorem before_any (y:Int) (w:World) (h0:1 ≤ y) (h1:y ≤ 10000) :
  Calls Tryz.prog 157 #[.int .i64 y] w fun e w' => e = .returned (.int .i64 ((y - 1) / 4 - (y - 1) / 100 + (y - 1) / 400)) ∧ w' = w:=by
 go_enter Tryz.func157,Tryz.ntmps157
 go_wp2
 go_ret
 exact ⟨rfl,rfl⟩
theorem begin_any (y:Int) (w:World) (h0:1900 ≤ y) (h1:y ≤ 3000) :
  Calls Tryz.prog 115 #[.int .i64 y] w fun e w' => e = .returned (.int .i64 (Cal.yb y)) ∧ w' = w:=by
 go_enter Tryz.func115,Tryz.ntmps115
 go_wp2_with (go_at_call 157;refine (before_any _ _ (by omega) (by omega)).mono ?_;rintro e w' ⟨rfl,rfl⟩)
 go_ret
 exact ⟨rfl,rfl⟩
theorem dim_any (y m:Int) (w:World) (h0:0 ≤ y) :
  Calls Tryz.prog 114 #[.int .i64 y,.int .i64 m] w fun e w' => e = .returned (.int .i64 (Cal.dim y m)) ∧ w' = w:=by
 by_cases h2:m = 2
 ·subst h2
  by_cases hl:Cal.lp y = 1
  ·have he:Cal.dim y 2 = 29:=by unfold Cal.dim;rw [if_pos rfl];omega
   have H:Hid (Cal.dim y 2 = 29):=he
   clear he
   go_enter Tryz.func114,Tryz.ntmps114
   go_wp2_with (go_at_call 156;refine (leap_yes _ _ h0 hl).mono ?_;rintro e w' ⟨rfl,rfl⟩)
   go_ret
   exact ⟨ret_int H.out.symm,rfl⟩
  ·have hz:Cal.lp y = 0:=by have:=Cal.lp_01 y;omega
   have he:Cal.dim y 2 = 28:=by unfold Cal.dim;rw [if_pos rfl];omega
   have H:Hid (Cal.dim y 2 = 28):=he
   clear he
   go_enter Tryz.func114,Tryz.ntmps114
   go_wp2_with (go_at_call 156;refine (leap_no _ _ h0 hz).mono ?_;rintro e w' ⟨rfl,rfl⟩)
   go_ret
   exact ⟨ret_int H.out.symm,rfl⟩
 ·by_cases h3:m = 4 ∨ m = 6 ∨ m = 9 ∨ m = 11
  ·rcases h3 with rfl | rfl | rfl | rfl
   all_goals
    go_enter Tryz.func114,Tryz.ntmps114
    go_wp2
    go_ret
    exact ⟨rfl,rfl⟩
  ·have he:Cal.dim y m = 31:=by unfold Cal.dim;rw [if_neg h2,if_neg h3]
   have H:Hid (Cal.dim y m = 31):=he
   have a4:¬ m = 4:=by omega
   have a6:¬ m = 6:=by omega
   have a9:¬ m = 9:=by omega
   have a11:¬ m = 11:=by omega
   clear he h3
   go_enter Tryz.func114,Tryz.ntmps114
   go_wp2
   go_ret
   exact ⟨ret_int H.out.symm,rfl⟩
def zeros (n:Nat):Array Value:=(List.replicate n (Value.int .u32 0)).toArray
theorem zeros_size (n:Nat):(zeros n).size = n:=by simp [zeros]
theorem zero80:(∀ w,(zeroValue 135).run Tryz.prog w = .ok (.agg (zeros 80)) w) ∧ (Tryz.prog.info? 135).map (·.size) = some 80 :=
 zero_of_info (by kernel_rfl)
structure Has (cs:Array Value) (n:Nat) (l:List Int):Prop where
 size:cs.size = 80
 at':∀ j,j < n → cs[j]? = some (.int .u32 (l.getD j 0))
theorem Has.start:Has (zeros 80) 0 []:=⟨zeros_size 80,fun j h => absurd h (Nat.not_lt_zero j)⟩
theorem Has.put {cs:Array Value} {s:ByteArray} {b e:Int} {n:Nat} (h:Has cs n (Sha.wl s b e n)) (hn:n < 80) :
  Has (cs.setIfInBounds n (.int .u32 (Sha.nextW s b e (Sha.wl s b e n) n))) (n + 1) (Sha.wl s b e (n + 1)):=by
 refine ⟨by simp [h.size],fun j hj => ?_⟩
 by_cases e':j = n
 ·subst e'
  rw [Sha.wl_new]
  simp [h.size,hn]
 ·rw [Sha.wl_old _ _ _ _ _ (by omega),Array.getElem?_setIfInBounds_ne (by omega)]
  exact h.at' j (by omega)
theorem Has.whole {cs:Array Value} {l:List Int} (h:Has cs 80 l) (hl:l.length = 80):cs = (l.map (Value.int .u32)).toArray:=by
 apply Array.ext_getElem?
 intro i
 by_cases hi:i < 80
 ·rw [h.at' i hi]
  simp [List.getD_eq_getElem?_getD,hl,hi]
 ·rw [Array.getElem?_eq_none (by have:=h.size;omega),Array.getElem?_eq_none (by simp;omega)]
theorem words_one (l:List Int):((l.map (Value.int .u32)).toArray).all (·.oneCell') = true:=by
 rw [Array.all_eq_true_iff_forall_mem]
 intro v hv
 simp at hv
 obtain ⟨x,_,rfl⟩:=hv
 rfl
theorem hid {p:Prop} (h:p):Hid p:=h
theorem wpl_load {P:Program} {ops:Array Oper} {rest:List Oper} {a:Act} {w:World} {Q:Exit → Act → World → Prop} {dst:Option Tmp} {ty tt:TypeId} {x:Operand} {pos:String} {after:Array Edge}
  {g:Nat} {t:TypeId} {cs:Array Value} {fr:Nat × Nat} {d:TypeDesc} (hg:w.heap[g]? = some (.cells cs t fr))
  (hu:P.underlying ty = some d) (hd:(match d with | .struct _ | .array _ _ => true | _ => false) = true) (hi:(P.info? ty).map (·.size) = some cs.size)
  (hx:a.eval x = .pointer (some ⟨g,0,none⟩))
  (h:wpList P ops Q rest (a.put dst (.agg cs)) w):wpList P ops Q ({ dst:=dst,op:=.load ty x,type:=tt,pos:=pos,after:=after,guard:=none } :: rest) a w :=
 wpList_load_row rfl ty x rfl g hx t cs fr d hg hu hd hi h
theorem wpl_store {P:Program} {ops:Array Oper} {rest:List Oper} {a:Act} {w:World} {Q:Exit → Act → World → Prop} {dst:Option Tmp} {ty tt:TypeId} {x y:Operand} {pos:String} {after:Array Edge}
  {g:Nat} {t:TypeId} {cells old:Array Value} (hg:w.heap[g]? = some (.cells old t (0,0))) (hi:(P.info? ty).map (·.size) = some cells.size)
  (hold:old.size = cells.size) (h1:cells.all (·.oneCell') = true) (hx:a.eval x = .pointer (some ⟨g,0,none⟩)) (hy:a.eval y = .agg cells)
  (h:wpList P ops Q rest (a.put dst undef) (w.setRow g cells)):wpList P ops Q ({ dst:=dst,op:=.store ty x y,type:=tt,pos:=pos,after:=after,guard:=none } :: rest) a w :=
 wpList_store_row rfl ty x y rfl g cells hx hy t old hg hi hold h1 h
theorem below_setRow {B g:Nat} {a w:World} {cs:Array Value} (h:Below B a w) (hg:B ≤ g):Below B a (w.setRow g cs) :=
 h.trans ⟨rfl,rfl,rfl,by simp,fun i hi => setRow_other w g i cs (by omega)⟩
theorem set_drawn (W:World) (cs:Array Value) (t:TypeId) (n k g:Nat) (v:Value) (hg:g = W.heap.size) :
  ((W.alloc (.cells cs t)).drewN n).setCell ⟨g,k,none⟩ v = (W.alloc (.cells (cs.setIfInBounds k v) t)).drewN n:=by
 rw [← World.setCell_alloc_at cs t g k v hg];rfl
theorem sched_any (s:ByteArray) (b e:Int) (w:World) (h0:0 ≤ b) (h1:b ≤ 1800000000) (h2:0 ≤ e) (h3:e ≤ 2000000000) (hs:s.size ≤ 1000000000) :
  Calls Tryz.prog 73 #[.string s,.int .i64 b,.int .i64 e] w fun q w' => q = .returned (.agg ((Sha.wl s b e 80).map (Value.int .u32)).toArray) ∧ Below w.heap.size w w':=by
 have hz:=zero80.1
 go_enter Tryz.func73,Tryz.ntmps73
 go_wp2
 clear hz
 go_loopw [8] (fun i wr => ∃ k:Nat,∃ cs:Array Value,k ≤ 16 ∧ i = .int .i64 k ∧ wr = (w.alloc (.cells (zeros 80) 135)).alloc (.cells cs 135) ∧ Has cs k (Sha.wl s b e k)) (fun i _ => 16 - (intOf i).toNat)
 case atStart => exact ⟨0,_,by omega,rfl,rfl,Has.start⟩
 case round =>
  obtain ⟨k,cs,hk,rfl,rfl,hc⟩:=hrel
  by_cases hlt:k < 16
  ·have hsz:cs.size = 80:=hc.size
   have HN:Hid (Has (cs.setIfInBounds k (.int .u32 (Sha.nextW s b e (Sha.wl s b e k) k))) (k + 1) (Sha.wl s b e (k + 1))):=hc.put (by omega)
   have HE:Hid (Sha.nextW s b e (Sha.wl s b e k) k = Sha.pword s (b + 4 * k) e):=by show _ = _;unfold Sha.nextW;rw [if_pos hlt]
   obtain ⟨v0,hv0⟩:∃ v,cs[k]? = some v:=⟨_,Array.getElem?_eq_getElem (by omega)⟩
   clear hc
   go_wp2_with (go_at_call 118;refine (word_any _ _ _ _ (by omega) (by omega) (by omega) (by omega) (by omega)).mono ?_;rintro q w' ⟨rfl,rfl⟩)
   exact ⟨⟨k + 1,_,by omega,by go_num,by rw [← HE.out],HN.out⟩,by simp [intOf];omega⟩
  ·have e16:k = 16:=by omega
   subst e16
   clear hlt hk
   go_wp2
   go_loopw [9,10] (fun i _ wr => ∃ k n:Nat,∃ cs:Array Value,16 ≤ k ∧ k ≤ 80 ∧ i = .int .i64 k ∧ wr = ((w.alloc (.cells (zeros 80) 135)).alloc (.cells cs 135)).drewN n ∧ Has cs k (Sha.wl s b e k)) (fun i _ _ => 80 - (intOf i).toNat)
   case atStart => exact ⟨16,0,cs,by omega,by omega,rfl,rfl,hc⟩
   case round =>
    clear hc cs
    obtain ⟨k,n,cs,hk0,hk,rfl,rfl,hc⟩:=hrel
    by_cases hlt:k < 80
    ·have hsz:cs.size = 80:=hc.size
     have HN:Hid (Has (cs.setIfInBounds k (.int .u32 (Sha.nextW s b e (Sha.wl s b e k) k))) (k + 1) (Sha.wl s b e (k + 1))):=hc.put hlt
     obtain ⟨v0,hv0⟩:∃ v,cs[k]? = some v:=⟨_,Array.getElem?_eq_getElem (by omega)⟩
     have g3:=hc.at' (k - 3) (by omega)
     have g8:=hc.at' (k - 8) (by omega)
     have g14:=hc.at' (k - 14) (by omega)
     have g16:=hc.at' (k - 16) (by omega)
     have HE:Hid (Sha.nextW s b e (Sha.wl s b e k) k = Sha.rol1 (bits .xor .u32 (bits .xor .u32 (bits .xor .u32 ((Sha.wl s b e k).getD (k - 3) 0) ((Sha.wl s b e k).getD (k - 8) 0)) ((Sha.wl s b e k).getD (k - 14) 0)) ((Sha.wl s b e k).getD (k - 16) 0))):=by show _ = _;unfold Sha.nextW;rw [if_neg (by omega)]
     clear hc
     generalize (Sha.wl s b e k).getD (k - 3) 0 = x3 at *
     generalize (Sha.wl s b e k).getD (k - 8) 0 = x8 at *
     generalize (Sha.wl s b e k).getD (k - 14) 0 = x14 at *
     generalize (Sha.wl s b e k).getD (k - 16) 0 = x16 at *
     go_wp2_with fail
     go_quiet (fail)
     go_wp2
     refine ⟨⟨k + 1,n + nq,_,by omega,by omega,by go_num,?_,HN.out⟩,by simp [intOf];omega⟩
     rw [HE.out]
     exact set_drawn (w.alloc (.cells (zeros 80) 135)) _ _ _ _ _ _ (by simp)
    ·have e80:k = 80:=by omega
     subst e80
     have hsz:cs.size = 80:=hc.size
     have HF:Hid (cs = ((Sha.wl s b e 80).map (Value.int .u32)).toArray):=hc.whole (Sha.wl_length s b e 80)
     have H1:Hid (cs.all (·.oneCell') = true):=by show _ = _;rw [HF.out];exact words_one _
     clear hc
     have hg1:(((w.alloc (.cells (zeros 80) 135)).alloc (.cells cs 135)).drewN n).heap[w.heap.size + 1]? = some (.cells cs 135 (0,0)):=heap_alloc2_new w _ _
     have hg0:(((w.alloc (.cells (zeros 80) 135)).alloc (.cells cs 135)).drewN n).heap[w.heap.size]? = some (.cells (zeros 80) 135 (0,0)):=heap_alloc2_old w _ _
     have hi:(Tryz.prog.info? 135).map (·.size) = some cs.size:=by rw [hsz];exact zero80.2
     have G1:=hid hg1
     have G0:=hid hg0
     have I:=hid hi
     clear hg1 hg0 hi
     go_wp2_with (first
      | ((with_reducible refine wpl_load (g:=w.heap.size + 1) G1.out Tryz.underlying135 ?_ I.out ?_ ?_);exact rfl;exact rfl)
      | ((with_reducible refine wpl_store (g:=w.heap.size) G0.out I.out ?_ H1.out ?_ ?_ ?_);(rw [zeros_size,hsz]);exact rfl;exact rfl))
     refine bodyPost_ret (v:=.agg cs) (results_cell_row rfl _ _ w.heap.size 135 cs (0,0) _ rfl (setRow_heap _ _ _ _ _ _ G0.out) Tryz.underlying135 rfl I.out) rfl ?_
     refine ⟨by rw [HF.out],?_⟩
     exact below_setRow (below_drewN (((Below.refl _ _).alloc (Nat.le_refl _) _).alloc (by simp) _) n) (Nat.le_refl _)
theorem hid' {p:Prop} (h:p):Hid p:=h
def Keep (t:TypeId) (w w':World):Prop:=∀ (k:Nat) (cs:Array Value) (fr:Nat × Nat),w.heap[k]? = some (.cells cs t fr) → w'.heap[k]? = some (.cells cs t fr)
theorem Keep.refl (t:TypeId) (w:World):Keep t w w:=fun _ _ _ h => h
theorem Keep.trans {t:TypeId} {a b c:World} (h:Keep t a b) (g:Keep t b c):Keep t a c:=fun k cs fr e => g k cs fr (h k cs fr e)
theorem lt_of_heap {w:World} {k:Nat} {o:Obj} (h:w.heap[k]? = some o):k < w.heap.size:=by
 by_cases c:k < w.heap.size
 ·exact c
 ·rw [Array.getElem?_eq_none (by omega)] at h;simp at h
theorem Keep.alloc {t:TypeId} {a w:World} (h:Keep t a w) (o:Obj):Keep t a (w.alloc o):=fun k cs fr e => by
 have e':=h k cs fr e
 rw [Below.heap_alloc _ _ _ (lt_of_heap e')];exact e'
theorem Keep.setCell {t u:TypeId} {a w:World} (h:Keep t a w) {p:Addr} {cs:Array Value} {fr:Nat × Nat} (hp:w.heap[p.block]? = some (.cells cs u fr)) (hu:u ≠ t) (v:Value):Keep t a (w.setCell p v):=fun k cs' fr' e => by
 have e':=h k cs' fr' e
 rw [heap_setCell_other _ _ _ _ (by intro q;subst q;rw [e'] at hp;simp at hp;exact hu hp.2.1.symm)];exact e'
theorem Keep.grown {t u:TypeId} {a w w':World} {v:Value} {base size n:Nat} {xs:List Value} (h:Keep t a w) (hg:w.grownBy w' v.ownBlock) (ho:w.ownsRow base u size v n xs) (hu:u ≠ t):Keep t a w':=fun k cs fr e => by
 have e':=h k cs fr e
 rw [hg.block k (lt_of_heap e') ?_];exact e'
 intro q
 rcases ho.2 with ⟨rfl,_⟩ | ⟨g,cap,cur,rfl,_,hh,_⟩
 ·simp [Value.ownBlock] at q
 ·simp [Value.ownBlock] at q;subst q;rw [e'] at hh;simp at hh;exact hu hh.2.1.symm
def flat:List (Int × Int) → List Value
 | [] => []
 | p :: r => .int .i64 p.1 :: .int .i64 p.2 :: flat r
theorem flat_length (l:List (Int × Int)):(flat l).length = l.length * 2:=by
 induction l with
 | nil => rfl
 | cons p r ih => simp [flat,ih];omega
theorem flat_append (l r:List (Int × Int)):flat (l ++ r) = flat l ++ flat r:=by
 induction l with
 | nil => rfl
 | cons p q ih => simp [flat,ih]
theorem own_set {w:World} {B size n:Nat} {e u:TypeId} {v:Value} {xs:List Value} (h:w.ownsRow B e size v n xs) {p:Addr} {cs:Array Value} {fr:Nat × Nat}
  (hp:w.heap[p.block]? = some (.cells cs u fr)) (hu:u ≠ e) (x:Value):(w.setCell p x).ownsRow B e size v n xs:=by
 refine ⟨h.1,?_⟩
 rcases h.2 with h | ⟨g,cap,cur,rfl,a,hh,b⟩
 ·exact .inl h
 ·refine .inr ⟨g,cap,cur,rfl,a,?_,b⟩
  rw [heap_setCell_other _ _ _ _ (by intro q;subst q;rw [hh] at hp;simp at hp;exact hu hp.2.1.symm)]
  exact hh
theorem own_grown {w w':World} {B B' size size' n n':Nat} {e u:TypeId} {v v':Value} {xs xs':List Value} (h:w.ownsRow B e size v n xs) (hg:w.grownBy w' v'.ownBlock)
  (ho:w.ownsRow B' u size' v' n' xs') (hu:u ≠ e):w'.ownsRow B e size v n xs:=by
 refine ⟨h.1,?_⟩
 rcases h.2 with h | ⟨g,cap,cur,rfl,a,hh,b⟩
 ·exact .inl h
 ·exact .inr ⟨g,cap,cur,rfl,a,(Keep.grown (Keep.refl e w) hg ho hu) _ _ _ hh,b⟩
theorem flat_one (l:List (Int × Int)):∀ u ∈ flat l,u.oneCell' = true:=by
 induction l with
 | nil => intro u h;cases h
 | cons p r ih =>
  intro u h
  simp [flat] at h
  rcases h with rfl | rfl | h
  ·rfl
  ·rfl
  ·exact ih u h
theorem own_cells {w:World} {B e size g n cap:Nat} {xs:List Value} (h:w.ownsRow B e size (.slice (some ⟨g,0,none⟩) n cap) n xs) :
  ∀ (j:Nat) (u:Value),xs[j]? = some u → w.cell? ((⟨g,0,none⟩:Addr).add j) = some u:=by
 intro j u hj
 have hl:j < xs.length:=by
  by_cases c:j < xs.length
  ·exact c
  ·rw [List.getElem?_eq_none (by omega)] at hj;cases hj
 have:=h.cellAt j (by rw [← h.1];exact hl)
 rw [hj] at this
 have hadd:(⟨g,0,none⟩:Addr).add j = ⟨g,j,none⟩:=by unfold Addr.add;split <;> simp_all
 rw [hadd];exact this
theorem grown_heap {w w':World} {v:Value} {B size n:Nat} {l:List Value} {u t:TypeId} {k:Nat} {cs:Array Value} {fr:Nat × Nat} (hg:w.grownBy w' v.ownBlock) (ho:w.ownsRow B u size v n l)
  (hk:w.heap[k]? = some (.cells cs t fr)) (hu:u ≠ t):w'.heap[k]? = some (.cells cs t fr):=(Keep.grown (Keep.refl t w) hg ho hu) _ _ _ hk
theorem own_ge {w:World} {B e size n:Nat} {v:Value} {xs:List Value} (h:w.ownsRow B e size v n xs):∀ k,v.ownBlock = some k → B ≤ k:=by
 intro k hk
 rcases h.2 with ⟨rfl,_⟩ | ⟨g,cap,cur,rfl,a,_⟩
 ·simp [Value.ownBlock] at hk
 ·simp [Value.ownBlock] at hk;omega
theorem own_ne {w:World} {B e size n k:Nat} {v:Value} {xs:List Value} {cs:Array Value} {t:TypeId} {fr:Nat × Nat} (h:w.ownsRow B e size v n xs) (hk:w.heap[k]? = some (.cells cs t fr)) (ht:t ≠ e):v.ownBlock ≠ some k:=by
 intro q
 rcases h.2 with ⟨rfl,_⟩ | ⟨g,cap,cur,rfl,_,hh,_⟩
 ·simp [Value.ownBlock] at q
 ·simp [Value.ownBlock] at q;subst q;rw [hk] at hh;simp at hh;exact ht hh.2.1
theorem own_lt {w:World} {B e size n:Nat} {v:Value} {xs:List Value} (h:w.ownsRow B e size v n xs):∀ k,v.ownBlock = some k → k < w.heap.size:=by
 intro k q
 rcases h.2 with ⟨rfl,_⟩ | ⟨g,cap,cur,rfl,_,hh,_⟩
 ·simp [Value.ownBlock] at q
 ·simp [Value.ownBlock] at q;subst q;exact lt_of_heap hh
theorem ret_bool {a b:Bool} (h:a = b):Ending.returned (.bool a) = .returned (.bool b):=by rw [h]
theorem flat_at0 (l:List (Int × Int)) (i:Nat) (h:i < l.length):(flat l)[i * 2]? = some (.int .i64 l[i].1):=by
 induction l generalizing i with
 | nil => simp at h
 | cons p r ih =>
  cases i with
  | zero => rfl
  | succ i =>
   have:=ih i (by simpa using h)
   rw [show (i + 1) * 2 = i * 2 + 1 + 1 from by omega]
   simpa [flat] using this
theorem flat_at1 (l:List (Int × Int)) (i:Nat) (h:i < l.length):(flat l)[i * 2 + 1]? = some (.int .i64 l[i].2):=by
 induction l generalizing i with
 | nil => simp at h
 | cons p r ih =>
  cases i with
  | zero => rfl
  | succ i =>
   have:=ih i (by simpa using h)
   rw [show (i + 1) * 2 + 1 = i * 2 + 1 + 1 + 1 from by omega]
   simpa [flat] using this
theorem flat_take_succ (ls:List (Int × Int)) (k:Nat) (h:k < ls.length):flat (ls.take k) ++ [.int .i64 ls[k].1,.int .i64 ls[k].2] = flat (ls.take (k + 1)):=by
 rw [List.take_succ_eq_append_getElem h]
 generalize ls.take k = a
 induction a with
 | nil => rfl
 | cons p r ih => simp [flat,ih]
theorem own_down {w w':World} {B size n:Nat} {e:TypeId} {v:Value} {xs:List Value} (h:w.ownsRow B e size v n xs) (hb:Below w.heap.size w w'):w'.ownsRow B e size v n xs:=by
 have hlt:=h.lt
 rcases h with ⟨h1,⟨rfl,rfl⟩ | ⟨g,cap,cur,rfl,hbg,hg,r⟩⟩
 ·exact ⟨h1,.inl ⟨rfl,rfl⟩⟩
 ·exact ⟨h1,.inr ⟨g,cap,cur,rfl,hbg,(hb.block g (hlt g rfl).2).trans hg,r⟩⟩
def WfP (p:Int × Int):Prop:=(Lit.int .i64 p.1).wf = true ∧ (Lit.int .i64 p.2).wf = true
theorem ret_pair {a b c d:Int} (h:a = c) (h':b = d):Ending.returned (.tuple #[.int .i64 a,.int .i64 b]) = .returned (.tuple #[.int .i64 c,.int .i64 d]):=by rw [h,h']
theorem own_some {w:World} {B n:Nat} {lv:Value} {xs:List Value} {e size:Nat} (h:w.ownsRow B e size lv n xs) (hn:0 < n):∃ g cap,lv = .slice (some ⟨g,0,none⟩) n cap:=by
 rcases h.2 with ⟨rfl,h⟩ | ⟨g,cap,cur,rfl,_⟩
 ·omega
 ·exact ⟨_,_,rfl⟩
structure Off (F:Nat → Prop) (w w':World):Prop where
 os:w'.os = w.os
 tape:w'.tape = w.tape
 output:w'.output = w.output
 size:w.heap.size ≤ w'.heap.size
 block:∀ k,k < w.heap.size → ¬ F k → w'.heap[k]? = w.heap[k]?
theorem Off.refl (F:Nat → Prop) (w:World):Off F w w:=⟨rfl,rfl,rfl,Nat.le_refl _,fun _ _ _ => rfl⟩
theorem Off.trans {F G:Nat → Prop} {a b c:World} (h:Off F a b) (g:Off G b c) (hG:∀ k,k < a.heap.size → G k → F k):Off F a c :=
 ⟨g.os.trans h.os,g.tape.trans h.tape,g.output.trans h.output,Nat.le_trans h.size g.size,fun k hk hF => (g.block k (Nat.lt_of_lt_of_le hk h.size) (fun c => hF (hG k hk c))).trans (h.block k hk hF)⟩
theorem Off.mono {F G:Nat → Prop} {w w':World} (h:Off F w w') (hF:∀ k,k < w.heap.size → F k → G k):Off G w w' :=
 ⟨h.os,h.tape,h.output,h.size,fun k hk hG => h.block k hk (fun c => hG (hF k hk c))⟩
theorem Off.of_below {F:Nat → Prop} {w w':World} (h:Below w.heap.size w w'):Off F w w':=⟨h.os,h.tape,h.output,h.size,fun k hk _ => h.block k hk⟩
theorem Off.below {F:Nat → Prop} {w w':World} {B:Nat} (h:Off F w w') (hF:∀ k,F k → B ≤ k) (hB:B ≤ w.heap.size):Below B w w' :=
 ⟨h.os,h.tape,h.output,h.size,fun k hk => h.block k (by omega) (fun c => by have:=hF k c;omega)⟩
theorem Off.then {F:Nat → Prop} {a b c:World} (h:Off F a b) (g:Below b.heap.size b c):Off F a c:=h.trans (Off.of_below (F:=fun _ => False) g) (fun _ _ h => h.elim)
theorem Off.alloc {F:Nat → Prop} {a w:World} (h:Off F a w) (o:Obj):Off F a (w.alloc o):=h.then ((Below.refl _ _).alloc (Nat.le_refl _) o)
theorem Off.drew {F:Nat → Prop} {a w:World} (h:Off F a w):Off F a w.drew:=h.then (Below.refl _ _).drew
theorem Off.setCell {F:Nat → Prop} {a w:World} (h:Off F a w) {p:Addr} (hp:p.block < a.heap.size → F p.block) (u:Value):Off F a (w.setCell p u) :=
 ⟨h.os,h.tape,h.output,by simpa [World.setCell] using h.size,fun k hk hF => (Below.heap_setCell _ _ _ _ (fun e => hF (by subst e;exact hp hk))).trans (h.block k hk hF)⟩
theorem Off.grown {F:Nat → Prop} {a w w':World} {row:Option Nat} (h:Off F a w) (hg:w.grownBy w' row) (hr:∀ k,row = some k → k < a.heap.size → F k):Off F a w' :=
 ⟨hg.os.trans h.os,hg.tape.trans h.tape,hg.output.trans h.output,Nat.le_trans h.size hg.size,fun k hk hF => (hg.block k (Nat.lt_of_lt_of_le hk h.size) (fun e => hF (hr k e.symm hk))).trans (h.block k hk hF)⟩
theorem Off.heap {F:Nat → Prop} {w w':World} (h:Off F w w') {k:Nat} {o:Obj} (hk:w.heap[k]? = some o) (hF:¬ F k):w'.heap[k]? = some o:=(h.block k (lt_of_heap hk) hF).trans hk
theorem Off.own {F:Nat → Prop} {w w':World} (h:Off F w w') {B e size n:Nat} {v:Value} {xs:List Value} (ho:w.ownsRow B e size v n xs) (hF:∀ k,v.ownBlock = some k → ¬ F k):w'.ownsRow B e size v n xs:=by
 refine ⟨ho.1,?_⟩
 rcases ho.2 with h' | ⟨g,cap,cur,rfl,a,hh,b⟩
 ·exact .inl h'
 ·exact .inr ⟨g,cap,cur,rfl,a,h.heap hh (hF g rfl),b⟩
namespace Txt
def byte (s:ByteArray) (i:Nat):Int:=((s.data.toList.getD i 0).toNat:Int)
theorem byte_bd (s:ByteArray) (i:Nat):0 ≤ byte s i ∧ byte s i < 256:=by
 unfold byte;have:=(s.data.toList.getD i 0).toNat_lt;omega
theorem byte_at (s:ByteArray) (i:Nat) (h:i < s.size):byte s i = (s[i].toNat:Int):=by
 unfold byte;rw [getD_bytes s i h]
def numTo (s:ByteArray):Nat → Int
 | 0 => 0
 | k + 1 => 10 * numTo s k + (byte s k - 48)
def Digits (s:ByteArray) (k:Nat):Prop:=∀ i,i < k → 48 ≤ byte s i ∧ byte s i ≤ 57
def digitsB (s:ByteArray):Nat → Bool
 | 0 => true
 | k + 1 => digitsB s k && decide (48 ≤ byte s k ∧ byte s k ≤ 57)
theorem digitsB_iff (s:ByteArray) (k:Nat):digitsB s k = true ↔ Digits s k:=by
 induction k with
 | zero => exact ⟨fun _ i hi => by omega,fun _ => rfl⟩
 | succ k ih =>
  simp only [digitsB,Bool.and_eq_true,decide_eq_true_eq]
  rw [ih]
  refine ⟨fun h i hi => ?_,fun h => ⟨fun i hi => h i (by omega),h k (by omega)⟩⟩
  by_cases e:i = k
  ·subst e;exact h.2
  ·exact h.1 i (by omega)
def number (s:ByteArray):Int :=
 if s.size = 0 ∨ 11 < s.size then -1 else if digitsB s s.size = true then numTo s s.size else -1
theorem numTo_bd {s:ByteArray} (k:Nat) (h:Digits s k):0 ≤ numTo s k ∧ numTo s k < 10 ^ k:=by
 induction k with
 | zero => simp [numTo]
 | succ k ih =>
  have a:=ih (fun i hi => h i (by omega))
  have b:=h k (by omega)
  simp only [numTo]
  rw [Int.pow_succ]
  omega
theorem pow10_le (k:Nat) (h:k ≤ 10):(10:Int) ^ k ≤ 10000000000:=by
 match k,h with
 | 0,_ | 1,_ | 2,_ | 3,_ | 4,_ | 5,_ | 6,_ | 7,_ | 8,_ | 9,_ | 10,_ => decide
theorem number_no1 {s:ByteArray} (h:s.size = 0 ∨ 11 < s.size):number s = -1:=by unfold number;rw [if_pos h]
theorem number_no2 {s:ByteArray} (h:¬ Digits s s.size):number s = -1:=by
 unfold number
 split
 ·rfl
 ·rw [if_neg];exact fun e => h ((digitsB_iff _ _).1 e)
theorem number_yes {s:ByteArray} (h:¬ (s.size = 0 ∨ 11 < s.size)) (hd:Digits s s.size):number s = numTo s s.size:=by
 unfold number;rw [if_neg h,if_pos ((digitsB_iff _ _).2 hd)]
def HexB (c:Int):Prop:=(48 ≤ c ∧ c ≤ 57) ∨ (97 ≤ c ∧ c ≤ 102)
def Hexes (s:ByteArray) (k:Nat):Prop:=∀ i,i < k → HexB (byte s i)
def hexesB (s:ByteArray):Nat → Bool
 | 0 => true
 | k + 1 => hexesB s k && decide ((48 ≤ byte s k ∧ byte s k ≤ 57) ∨ (97 ≤ byte s k ∧ byte s k ≤ 102))
theorem hexesB_iff (s:ByteArray) (k:Nat):hexesB s k = true ↔ Hexes s k:=by
 induction k with
 | zero => exact ⟨fun _ i hi => by omega,fun _ => rfl⟩
 | succ k ih =>
  simp only [hexesB,Bool.and_eq_true,decide_eq_true_eq]
  rw [ih]
  refine ⟨fun h i hi => ?_,fun h => ⟨fun i hi => h i (by omega),h k (by omega)⟩⟩
  by_cases e:i = k
  ·subst e;exact h.2
  ·exact h.1 i (by omega)
def noughts:ByteArray:=⟨#[48,48,48,48,48,48,48,48]⟩
def word (s:ByteArray):ByteArray :=
 if s.size = 0 ∨ 8 < s.size then ⟨#[]⟩ else if hexesB s s.size = true then noughts.extract s.size 8 ++ s else ⟨#[]⟩
theorem word_no1 {s:ByteArray} (h:s.size = 0 ∨ 8 < s.size):word s = ⟨#[]⟩:=by unfold word;rw [if_pos h]
theorem word_no2 {s:ByteArray} (h:¬ Hexes s s.size):word s = ⟨#[]⟩:=by
 unfold word
 split
 ·rfl
 ·rw [if_neg];exact fun e => h ((hexesB_iff _ _).1 e)
theorem word_yes {s:ByteArray} (h:¬ (s.size = 0 ∨ 8 < s.size)) (hd:Hexes s s.size):word s = noughts.extract s.size 8 ++ s:=by
 unfold word;rw [if_neg h,if_pos ((hexesB_iff _ _).2 hd)]
def inWord (s:ByteArray) (k:Nat):Prop:=k < s.size ∧ byte s k ≠ 32 ∧ byte s k ≠ 9
def inWordD (s:ByteArray) (k:Nat):Decidable (inWord s k):=by unfold inWord;infer_instance
def scan (s:ByteArray):Nat → List ByteArray × ByteArray
 | 0 => ([],⟨#[]⟩)
 | k + 1 => @ite _ (inWord s k) (inWordD s k) ((scan s k).1,(scan s k).2 ++ s.extract k (k + 1)) <| if (scan s k).2 = ⟨#[]⟩ then scan s k else ((scan s k).1 ++ [(scan s k).2],⟨#[]⟩)
def words (s:ByteArray):List ByteArray:=(scan s (s.size + 1)).1
theorem size_ext (s:ByteArray) (k:Nat) (h:k < s.size):(s.extract k (k + 1)).size = 1:=by
 rw [ByteArray.size_extract];omega
theorem not_empty {s:ByteArray} (h:¬ s = ⟨#[]⟩):s.toList.isEmpty = false:=by
 rw [← decide_eq_emptyBytes]
 exact decide_eq_false h
theorem scan_bd (s:ByteArray) (k:Nat):(scan s k).1.length ≤ k ∧ (scan s k).2.size ≤ k:=by
 induction k with
 | zero => exact ⟨Nat.le_refl _,Nat.le_refl _⟩
 | succ k ih =>
  simp only [scan]
  split
  ·rename_i h
   have:=size_ext s k h.1
   refine ⟨by simp;omega,?_⟩
   simp only [ByteArray.size_append]
   omega
  ·split
   ·omega
   ·refine ⟨by simp;omega,by simp [ByteArray.size]⟩
def decF:Nat → Nat → List UInt8
 | 0,n => [UInt8.ofNat (48 + n)]
 | f + 1,n => if 9 < n then decF f (n / 10) ++ [UInt8.ofNat (48 + n % 10)] else [UInt8.ofNat (48 + n)]
theorem decF_succ (f n:Nat):decF (f + 1) n = if 9 < n then decF f (n / 10) ++ [UInt8.ofNat (48 + n % 10)] else [UInt8.ofNat (48 + n)]:=rfl
theorem decF_more (f n:Nat) (h:n ≤ f):decF (f + 1) n = decF f n:=by
 induction f generalizing n with
 | zero =>
  obtain rfl:n = 0:=by omega
  rfl
 | succ f ih =>
  rw [decF_succ,decF_succ f n]
  by_cases c:9 < n
  ·rw [if_pos c,if_pos c,ih (n / 10) (by omega)]
  ·rw [if_neg c,if_neg c]
theorem decF_all (n k:Nat):decF (n + k) n = decF n n:=by
 induction k with
 | zero => rfl
 | succ k ih => rw [← ih];exact decF_more (n + k) n (by omega)
def dec (n:Nat):List UInt8:=decF n n
theorem dec_low (n:Nat) (h:¬ 9 < n):dec n = [UInt8.ofNat (48 + n)]:=by
 unfold dec
 cases n with
 | zero => rfl
 | succ n => rw [decF_succ,if_neg h]
theorem dec_up (n:Nat) (h:9 < n):dec n = dec (n / 10) ++ [UInt8.ofNat (48 + n % 10)]:=by
 obtain ⟨m,rfl⟩:∃ m,n = m + 1:=⟨n - 1,by omega⟩
 have e:=decF_all ((m + 1) / 10) (m - (m + 1) / 10)
 rw [show (m + 1) / 10 + (m - (m + 1) / 10) = m from by omega] at e
 unfold dec
 rw [decF_succ,if_pos h,e]
theorem dec_high (n:Nat) (h:9 < n):dec n = dec (n / 10) ++ dec (n % 10):=by
 rw [dec_up n h,dec_low (n % 10) (by omega)]
theorem dec_len (n:Nat):(dec n).length ≤ n + 1:=by
 induction n using Nat.strongRecOn with
 | _ n ih =>
  by_cases h:9 < n
  ·rw [dec_up n h];have:=ih (n / 10) (by omega);simp;omega
  ·rw [dec_low n h];simp
end Txt
theorem results_four {fn:Func} {t u v x:Tmp} (h:fn.results = #[.tmp t,.tmp u,.tmp v,.tmp x]) (tmps:Array Value) (P:Program) (w:World) :
  (results fn tmps).run P w = .ok (.tuple #[tmps.getD t undef,tmps.getD u undef,tmps.getD v undef,tmps.getD x undef]) w:=by
 simp [results,h]
theorem year_any (n:Int) (w:World) (h0:0 ≤ n) (h1:n < 401767) :
  Calls Tryz.prog 117 #[.int .i64 n] w fun e w' => (∃ y:Int,e = .returned (.int .i64 y) ∧ 1900 ≤ y ∧ y ≤ 2999 ∧ Cal.yb y ≤ n ∧ n < Cal.yb (y + 1)) ∧ w' = w:=by
 have g0:=Cal.yb_guess n h0
 go_enter Tryz.func117,Tryz.ntmps117
 go_wp2
 go_loop [3] (fun t => ∃ y:Int,1900 ≤ y ∧ y ≤ 2999 ∧ Cal.yb y ≤ n ∧ t = .int .i64 y) (fun t => (2999 - intOf t).toNat)
 case atStart => exact ⟨_,by omega,by omega,g0,rfl⟩
 case round =>
  obtain ⟨y,hy1,hy2,hy3,rfl⟩:=hrel
  clear g0
  by_cases hc:y < 2999 ∧ Cal.yb (y + 1) ≤ n
  ·obtain ⟨hlt,hd⟩:=hc
   go_wp2_with (go_at_call 115;refine (begin_any _ _ (by omega) (by omega)).mono ?_;rintro e w' ⟨rfl,rfl⟩)
   go_round
   case rel => exact ⟨y + 1,by omega,by omega,hd,rfl⟩
   case measure => simp [intOf];omega
  ·have hz:n < Cal.yb (y + 1):=by
    by_cases e:y = 2999
    ·have:=Cal.yb_last;rw [e];show _ < Cal.yb 3000;omega
    ·omega
   clear hc
   by_cases hlt:y < 2999
   all_goals
    go_wp2_with (go_at_call 115;refine (begin_any _ _ (by omega) (by omega)).mono ?_;rintro e w' ⟨rfl,rfl⟩)
    go_ret
    exact ⟨⟨y,rfl,hy1,hy2,hy3,hz⟩,rfl⟩
theorem civil_no (n:Int) (w:World) (h:n < 0 ∨ 401767 ≤ n) :
  Calls Tryz.prog 71 #[.int .i64 n] w fun e w' => e = .returned (.tuple #[.int .i64 0,.int .i64 0,.int .i64 0,.int .i64 1]) ∧ w' = w:=by
 rcases h with h | h
 ·go_enter Tryz.func71,Tryz.ntmps71
  go_wp2
  refine bodyPost_ret (results_four rfl _ _ _) rfl ?_
  exact ⟨rfl,rfl⟩
 ·have h':¬ n < 0:=by omega
  go_enter Tryz.func71,Tryz.ntmps71
  go_wp2
  refine bodyPost_ret (results_four rfl _ _ _) rfl ?_
  exact ⟨rfl,rfl⟩
theorem civil_yes (n:Int) (w:World) (h0:0 ≤ n) (h1:n < 401767) :
  Calls Tryz.prog 71 #[.int .i64 n] w fun e w' => (∃ y m:Int,e = .returned (.tuple #[.int .i64 y,.int .i64 m,.int .i64 (n - Cal.yb y - Cal.cum y m + 1),.int .i64 0]) ∧ Cal.In y m n) ∧ w' = w:=by
 go_enter Tryz.func71,Tryz.ntmps71
 go_wp2_with fail
 refine (year_any n _ h0 h1).mono ?_
 rintro e w' ⟨⟨y,rfl,hy1,hy2,hy3,hy4⟩,rfl⟩
 have yb0:=Cal.yb_bd y hy1 (by omega)
 have ys:=Cal.yb_succ y
 have l01:=Cal.lp_01 y
 have HS:Hid (Cal.yb (y + 1) = Cal.yb y + 365 + Cal.lp y):=ys
 have hw:n - Cal.yb y < 366:=by omega
 clear ys
 go_wp2_with (go_at_call 115;refine (begin_any _ _ (by omega) (by omega)).mono ?_;rintro e w' ⟨rfl,rfl⟩)
 go_loop [7,8] (fun r k => ∃ m:Int,1 ≤ m ∧ m ≤ 12 ∧ k = .int .i64 m ∧ 0 ≤ n - Cal.yb y - Cal.cum y m ∧ r = .int .i64 (n - Cal.yb y - Cal.cum y m)) (fun _ k => (12 - intOf k).toNat)
 case atStart => exact ⟨1,by omega,by omega,rfl,by rw [Cal.cum_one];omega,by rw [Cal.cum_one];simp⟩
 case round =>
  obtain ⟨m,hm1,hm2,rfl,hr,rfl⟩:=hrel
  have cb:=Cal.cum_bd y m hm1 (by omega)
  have db:=Cal.dim_bd y m
  have cs:=Cal.cum_succ y m hm1 hm2
  by_cases hc:m < 12 ∧ Cal.dim y m ≤ n - Cal.yb y - Cal.cum y m
  ·obtain ⟨hm,hd⟩:=hc
   have HC:Hid (Cal.cum y (m + 1) = Cal.cum y m + Cal.dim y m):=cs
   clear cs
   go_wp2_with (go_at_call 114;refine (dim_any _ _ _ (by omega)).mono ?_;rintro e w' ⟨rfl,rfl⟩)
   go_round
   case rel => exact ⟨m + 1,by omega,by omega,rfl,by rw [HC.out];omega,by rw [HC.out];go_num⟩
   case measure => simp [intOf];omega
  ·have hv:n - Cal.yb y - Cal.cum y m < Cal.dim y m:=by
    by_cases e:m = 12
    ·subst e;have h13:Cal.cum y (12 + 1) = 365 + Cal.lp y:=Cal.cum_end y;have:=HS.out;omega
    ·omega
   clear hc cs
   by_cases hm:m < 12
   all_goals
    go_wp2_with (go_at_call 114;refine (dim_any _ _ _ (by omega)).mono ?_;rintro e w' ⟨rfl,rfl⟩)
    refine bodyPost_ret (results_four rfl _ _ _) rfl ?_
    exact ⟨⟨y,m,rfl,⟨hy1,hy2,hm1,hm2,by omega,by omega⟩⟩,rfl⟩
theorem run_append_both {P:Program} (w:World) (t ty:TypeId) (base:Nat) (e:TypeId) (i:TypeInfo) (z:Value) (size bytes:Nat) (ht:P.underlying t = some (.slice e)) (hi:P.info? e = some i) (hz:i.zero = some z)
  (hsize:i.size = size) (hby:i.bytes = bytes) (hzs:z.cells.size = size) (hsz:0 < size)
  (v:Value) (n:Nat) (xs:List Value) (hown:w.ownsRow base e size v n xs)
  (ad:Addr) (m c:Nat) (news:List Value) (hl:news.length = m * size) (hnews:∀ j u,news[j]? = some u → w.cell? (ad.add j) = some u) (h1:∀ u ∈ news,u.oneCell' = true)
  (hm:0 < m) (h63:n + m ≤ maxLen) (hbytes:(n + m) * bytes ≤ 140737488355328) (hbase:base ≤ w.heap.size) (H:Nat) (hH:w.heap.size = H) :
  ∃ g cap w',(Builtin.append_ #[t,t] ty #[v,.slice (some ad) m c]).run P w = .ok (.slice (some ⟨g,0,none⟩) (n + m) cap) w' ∧
   w'.ownsRow base e size (.slice (some ⟨g,0,none⟩) (n + m) cap) (n + m) (xs ++ news) ∧ w.grownBy w' v.ownBlock ∧ (v.ownBlock = some g ∨ g = H) ∧ g < w'.heap.size ∧ w'.ownsRow base e size v n xs:=by
 obtain ⟨g,cap,w',hr,h2,h3,h4,h5⟩:=run_append_lies (P:=P) w t ty base e i z size bytes ht hi hz hsize hby hzs hsz v n xs hown ad m c news hl hnews h1 hm h63 hbytes hbase H hH
 refine ⟨g,cap,w',hr,h2,h3,h4,h5,hown.1,?_⟩
 subst hsize
 subst hby
 have hsmall:n + m ≤ 9223372036854775807:=by simp only [maxLen] at h63;omega
 rcases hown.2 with ⟨rfl,rfl⟩ | ⟨g0,cap0,cur,rfl,hbg,hg,hnc,hcm,hcs,htake⟩
 ·exact .inl ⟨rfl,rfl⟩
 ·by_cases hroom:n + m ≤ cap0
  ·have hfit:n * i.size + news.length ≤ cur.size:=by rw [hl,hcs,← Nat.add_mul];exact Nat.mul_le_mul_right _ hroom
   have hr':=run_append_room (P:=P) w t ty e i ht hi g0 n cap0 cur hg ad m c news hl hnews h1 hroom hfit
   have hw:=hr.symm.trans hr'
   simp only [Result.ok.injEq] at hw
   rw [hw.2]
   refine .inr ⟨g0,cap0,_,rfl,hbg,setRow_heap w g0 cur _ e _ hg,hnc,hcm,?_,?_⟩
   ·simp only [List.size_toArray,List.length_append,List.length_take,List.length_drop,Array.length_toList]
    omega
   ·have hx:=hown.1
    rw [htake,List.append_assoc,← hx]
    exact List.take_left
  ·have holds:∀ j u,xs[j]? = some u → w.cell? ((⟨g0,0,none⟩:Addr).add j) = some u:=hown.cells (g:=g0) rfl
   have hr':=run_append_grow (P:=P) w t ty e i z ht hi hz ⟨g0,0,none⟩ n cap0 xs hown.1 holds ad m c news hl hnews (by omega) (by omega) (growslice_fits (by omega) hbytes)
   have hw:=hr.symm.trans hr'
   simp only [Result.ok.injEq] at hw
   rw [hw.2]
   exact .inr ⟨g0,cap0,cur,rfl,hbg,(Below.heap_alloc w.drew _ g0 (lt_of_heap hg)).trans hg,hnc,hcm,hcs,htake⟩
theorem wp_append_both {P:Program} (w:World) {o:Oper} {a:Act} {K:Act → World → Prop} {Q:Exit → Act → World → Prop} (s x:Operand) (t:TypeId)
  (ho:o.op = .call { callee:=.builtin .append,args:=#[s,x],argTypes:=#[t,t] })
  (base:Nat) (e:TypeId) (i:TypeInfo) (z:Value) (size bytes:Nat) (ht:P.underlying t = some (.slice e)) (hi:P.info? e = some i) (hz:i.zero = some z)
  (hsize:i.size = size) (hby:i.bytes = bytes) (hzs:z.cells.size = size) (hsz:0 < size)
  (v:Value) (n:Nat) (xs:List Value) (hs:a.eval s = v) (hown:w.ownsRow base e size v n xs)
  (ad:Addr) (m c:Nat) (news:List Value) (hx:a.eval x = .slice (some ad) m c) (hl:news.length = m * size) (hnews:∀ j u,news[j]? = some u → w.cell? (ad.add j) = some u) (h1:∀ u ∈ news,u.oneCell' = true)
  (hm:0 < m) (h63:n + m ≤ maxLen) (hbytes:(n + m) * bytes ≤ 140737488355328) (hbase:base ≤ w.heap.size) (H:Nat) (hH:w.heap.size = H)
  (h:∀ g cap w',w'.ownsRow base e size (.slice (some ⟨g,0,none⟩) (n + m) cap) (n + m) (xs ++ news) → w.grownBy w' v.ownBlock → (v.ownBlock = some g ∨ g = H) → g < w'.heap.size → w'.ownsRow base e size v n xs → K (a.put o.dst (.slice (some ⟨g,0,none⟩) (n + m) cap)) w'):o.wp P a w K Q:=by
 obtain ⟨g,cap,w',hr,h2,h3,h4,h5,h6⟩:=run_append_both (P:=P) w t o.type base e i z size bytes ht hi hz hsize hby hzs hsz v n xs hown ad m c news hl hnews h1 hm h63 hbytes hbase H hH
 unfold Oper.wp execOp
 simp only [ho,resolve,invoke,builtin,Sem.run_bind,Sem.run_pure,Result.andThen_ok,List.map_toArray,List.map_cons,List.map_nil,hs,hx,hr]
 exact h g cap w' h2 h3 h4 h5 h6
theorem wpList_append_both {P:Program} {w:World} {ops:Array Oper} {rest:List Oper} {o:Oper} {a:Act} {Q:Exit → Act → World → Prop} (hgd:o.guard = none) (s x:Operand) (t:TypeId)
  (ho:o.op = .call { callee:=.builtin .append,args:=#[s,x],argTypes:=#[t,t] })
  (base:Nat) (e:TypeId) (i:TypeInfo) (z:Value) (size bytes:Nat) (ht:P.underlying t = some (.slice e)) (hi:P.info? e = some i) (hz:i.zero = some z)
  (hsize:i.size = size) (hby:i.bytes = bytes) (hzs:z.cells.size = size) (hsz:0 < size)
  (v:Value) (n:Nat) (xs:List Value) (hs:a.eval s = v) (hown:w.ownsRow base e size v n xs)
  (ad:Addr) (m c:Nat) (news:List Value) (hx:a.eval x = .slice (some ad) m c) (hl:news.length = m * size) (hnews:∀ j u,news[j]? = some u → w.cell? (ad.add j) = some u) (h1:∀ u ∈ news,u.oneCell' = true)
  (hm:0 < m) (h63:n + m ≤ maxLen) (hbytes:(n + m) * bytes ≤ 140737488355328) (hbase:base ≤ w.heap.size) (H:Nat) (hH:w.heap.size = H)
  (h:∀ g cap w',w'.ownsRow base e size (.slice (some ⟨g,0,none⟩) (n + m) cap) (n + m) (xs ++ news) → w.grownBy w' v.ownBlock → (v.ownBlock = some g ∨ g = H) → g < w'.heap.size → w'.ownsRow base e size v n xs → wpList P ops Q rest (a.put o.dst (.slice (some ⟨g,0,none⟩) (n + m) cap)) w'):wpList P ops Q (o :: rest) a w :=
 wpList_plain hgd fun _ hK => wp_append_both w s x t ho base e i z size bytes ht hi hz hsize hby hzs hsz v n xs hs hown ad m c news hx hl hnews h1 hm h63 hbytes hbase H hH fun g cap w' h2 h3 h4 h5 h6 => hK _ _ (h g cap w' h2 h3 h4 h5 h6)
end Go.Proofs.YtmmkhodaljpjgaaGreatDoor
