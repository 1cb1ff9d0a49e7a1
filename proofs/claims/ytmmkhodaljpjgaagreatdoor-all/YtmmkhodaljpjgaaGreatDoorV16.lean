import Derived.Test.YtmmkhodaljpjgaaGreatDoorV15
import Derived.Deep.RegionWith
import Derived.Lib.AppendStr
set_option maxRecDepth 100000
set_option maxHeartbeats 6400000
namespace Go.Proofs.YtmmkhodaljpjgaaGreatDoor
open Go.RowKit
theorem block_cells (x:Sha.St) (s:ByteArray) (b e:Int) (g off cap:Nat) (w:World) (hx:x.Ok) (hp:Piece w g off s b e) :
  Calls Tryz.prog 38 #[.agg #[.int .u32 x.a,.int .u32 x.b,.int .u32 x.c,.int .u32 x.d,.int .u32 x.e],.slice (some ⟨g,off,none⟩) 64 cap] w fun q w' =>
   ∃ y:Sha.St,Hid (Sha.mixed (Sha.wl s b e 80) x = y) ∧ q = .returned (.agg #[.int .u32 y.a,.int .u32 y.b,.int .u32 y.c,.int .u32 y.d,.int .u32 y.e]) ∧ Below w.heap.size w w' :=
 (block_any x s b e g off cap w hx hp).mono fun _ _ h => ⟨_,rfl,h.1,h.2⟩
theorem elem_size:∀ w:World,(sizeOf (Tryz.prog.elem 44)).run Tryz.prog w = .ok 1 w:=fun _ => by kernel_rfl
theorem cut_run (g L cap bo:Nat) (h:bo + 64 ≤ cap) (w:World) :
  (Instr.slice 44 (.slice (some ⟨g,0,none⟩) L cap) (some (.int .i64 (bo:Int))) (some (.int .i64 ((bo:Int) + 64))) none).run Tryz.prog w = .ok (.slice (some ⟨g,bo,none⟩) 64 (cap - bo)) w:=by
 rw [run_slice_lh (P:=Tryz.prog) w 44 (some ⟨g,0,none⟩) L cap (by kernel_rfl) .i64 .i64 (bo:Int) ((bo:Int) + 64) (by omega) (by omega) (by omega),elem_size]
 have h1:((bo:Int) + 64).toNat = bo + 64:=by omega
 have h2:¬ cap = bo:=by omega
 simp [sliced,h1,h2,Addr.add,Result.andThen]
 omega
def put5 (V:World) (H:Nat) (y:Sha.St):World :=
 ((((V.setCell ⟨H,0,none⟩ (.int .u32 y.a)).setCell ⟨H,1,none⟩ (.int .u32 y.b)).setCell ⟨H,2,none⟩ (.int .u32 y.c)).setCell ⟨H,3,none⟩ (.int .u32 y.d)).setCell ⟨H,4,none⟩ (.int .u32 y.e)
theorem put5_row {V:World} {H:Nat} {x:Sha.St} {t:TypeId} (y:Sha.St) (h:V.heap[H]? = some (.cells x.cells t (0,0))):(put5 V H y).heap[H]? = some (.cells y.cells t (0,0)):=by
 have h0:=heap_setCell_same V H 0 _ t (.int .u32 y.a) h
 have h1:=heap_setCell_same _ H 1 _ t (.int .u32 y.b) h0
 have h2:=heap_setCell_same _ H 2 _ t (.int .u32 y.c) h1
 have h3:=heap_setCell_same _ H 3 _ t (.int .u32 y.d) h2
 exact heap_setCell_same _ H 4 _ t (.int .u32 y.e) h3
theorem put5_below {B H:Nat} {a V:World} (y:Sha.St) (h:Below B a V) (hH:B ≤ H):Below B a (put5 V H y) :=
 ((((h.setCell (p:=⟨H,0,none⟩) hH _).setCell (p:=⟨H,1,none⟩) hH _).setCell (p:=⟨H,2,none⟩) hH _).setCell (p:=⟨H,3,none⟩) hH _).setCell (p:=⟨H,4,none⟩) hH _
theorem put5_size (V:World) (H:Nat) (y:Sha.St):(put5 V H y).heap.size = V.heap.size:=by simp [put5]
theorem put5_own {V:World} {H B size n:Nat} {x:Sha.St} {t e:TypeId} {v:Value} {xs:List Value} (y:Sha.St) (h:V.heap[H]? = some (.cells x.cells t (0,0))) (ht:t ≠ e) (ho:V.ownsRow B e size v n xs) :
  (put5 V H y).ownsRow B e size v n xs:=by
 have h0:=heap_setCell_same V H 0 _ t (.int .u32 y.a) h
 have h1:=heap_setCell_same _ H 1 _ t (.int .u32 y.b) h0
 have h2:=heap_setCell_same _ H 2 _ t (.int .u32 y.c) h1
 have h3:=heap_setCell_same _ H 3 _ t (.int .u32 y.d) h2
 exact own_set (p:=⟨H,4,none⟩) (own_set (p:=⟨H,3,none⟩) (own_set (p:=⟨H,2,none⟩) (own_set (p:=⟨H,1,none⟩) (own_set (p:=⟨H,0,none⟩) ho h ht _) h0 ht _) h1 ht _) h2 ht _) h3 ht _
theorem own_below {w w':World} {B size n:Nat} {e:TypeId} {v:Value} {xs:List Value} (h:w.ownsRow B e size v n xs) (hb:Below w.heap.size w w'):w'.ownsRow B e size v n xs:=by
 have hlt:=h.lt
 rcases h with ⟨h1,⟨rfl,rfl⟩ | ⟨g,cap,cur,rfl,hbg,hg,r⟩⟩
 ·exact ⟨h1,.inl ⟨rfl,rfl⟩⟩
 ·exact ⟨h1,.inr ⟨g,cap,cur,rfl,hbg,(hb.block g (hlt g rfl).2).trans hg,r⟩⟩
def padded (s:ByteArray) (e:Int) (k:Nat):List Value:=(List.range k).map fun i:Nat => Value.int .u8 (Sha.pbyte s i e)
theorem padded_length (s:ByteArray) (e:Int) (k:Nat):(padded s e k).length = k:=by simp [padded]
theorem padded_succ (s:ByteArray) (e:Int) (k:Nat) {b:Int} (h:Sha.pbyte s k e = b):padded s e k ++ [.int .u8 b] = padded s e (k + 1):=by
 simp [padded,List.range_succ,h]
theorem padded_at (s:ByteArray) (e:Int) (k i:Nat) (h:i < k):(padded s e k)[i]? = some (.int .u8 (Sha.pbyte s i e)):=by
 simp [padded,h]
theorem padded_str (s:ByteArray) (e:Int):Go.Lib.strCells s = padded s e s.size:=by
 apply List.ext_getElem
 ·rw [Go.Lib.strCells_length,padded_length]
 ·intro i h1 h2
  have hi:i < s.size:=by rw [padded_length] at h2;exact h2
  simp only [Go.Lib.strCells,padded,List.getElem_map,List.getElem_range]
  unfold Sha.pbyte
  rw [if_pos (by omega),Int.toNat_natCast,getD_bytes s i hi]
  rfl
theorem pbyte_128 (s:ByteArray) (e:Int):Sha.pbyte s s.size e = 128:=by
 unfold Sha.pbyte;rw [if_neg (by omega),if_pos rfl]
theorem pbyte_0 (s:ByteArray) (e:Int) (k:Nat) (h:s.size < k) (h1:(k:Int) < e - 8):Sha.pbyte s k e = 0:=by
 unfold Sha.pbyte;rw [if_neg (by omega),if_neg (by omega),if_neg (by omega)]
theorem pbyte_len (s:ByteArray) (e:Int) (k j:Nat) (h:s.size < k) (hj:j < 8) (h1:(k:Int) = e - 8 + j) (hs:s.size ≤ 1000000000):Sha.pbyte s k e = bits .and .i64 (8 * (s.size:Int) / 2 ^ (56 - 8 * j)) 255 % 256:=by
 have hp0:0 ≤ 8 * (s.size:Int) / 2 ^ (56 - 8 * j):=Int.ediv_nonneg (by omega) (Int.le_of_lt (Int.pow_pos (by omega)))
 have hp1:8 * (s.size:Int) / 2 ^ (56 - 8 * j) ≤ 8 * (s.size:Int):=Int.ediv_le_self _ (by omega)
 rw [and255 _ hp0 (by omega)]
 unfold Sha.pbyte
 rw [if_neg (by omega),if_neg (by omega),if_pos (by omega),show (8 * (e - 1 - (k:Int))).toNat = 56 - 8 * j from by omega,Int.mul_comm]
 omega
theorem blocks_pad (n:Nat):n + 9 ≤ Sha.blocks n * 64 ∧ Sha.blocks n * 64 < n + 73:=by
 unfold Sha.blocks;split <;> omega
def lenV:Value → Nat
 | .slice _ n _ => n
 | _ => 0
theorem infoU8:(Tryz.prog.info? 5).map (fun i => (i.zero,i.size,i.bytes)) = some (some (.int .u8 0),1,1):=by kernel_rfl
theorem ref_of (s:ByteArray) (w:World) (hs:s.size ≤ 1000000000) :
  Calls Tryz.prog 23 #[.string s] w fun q w' => q = .returned (.string ⟨(Sha.digest s).toArray⟩) ∧ Below w.heap.size w w':=by
 obtain ⟨i0,hi0,hz0,hz1,hz2⟩:=info_parts infoU8
 have hbl:=blocks_bd s.size hs
 have hpad:=blocks_pad s.size
 generalize hbn:Sha.blocks s.size = bn at *
 have HBN:=hid' hbn
 clear hbn
 go_enter Tryz.func23,Tryz.ntmps23
 go_wp2_with (first
  | (at_builtin;refine Go.Lib.wpList_append_own_string _ (by rfl) (.tmp 10) (.tmp 11) 44 9 (by rfl) w.heap.size 5 i0 Tryz.underlying44 Tryz.underlying9 hi0 hz0 hz1 hz2 (.slice none 0 0) 0 [] (by rfl) (World.ownsRow_nil _ _ _ _) s (by rfl) (by unfold maxLen;omega) (by omega) (by omega) ?_;intro v1 w1 own1 hg1 _;(simp only [Nat.zero_add,List.nil_append] at own1);(rw [padded_str s (bn * 64)] at own1);have hb1:Below w.heap.size w w1:=(Below.refl _ _).grown hg1 (Nat.le_refl _) (fun _ h => by simp [Value.ownBlock] at h);have hs1:=hg1.size;have OWN1:=hid' own1;have HB1:=hid' hb1;clear own1 hb1 hg1)
  | (at_builtin;refine wpList_append_lies _ (by rfl) (.tmp 13) (.tmp 14) 44 (by rfl) w.heap.size 5 i0 (.int .u8 0) 1 1 Tryz.underlying44 hi0 hz0 hz1 hz2 rfl (by decide) v1 s.size (padded s (bn * 64) s.size) (by rfl) (OWN1.out.alloc _) ⟨w1.heap.size,0,none⟩ 1 1 [.int .u8 128] (by rfl) (by rfl) (World.news_of_block (cs:=#[.int .u8 128]) (heap_alloc_new w1 _)) (by simp [Value.oneCell']) (by decide) (by unfold maxLen;omega) (by omega) (by simp;omega) (w1.heap.size + 1) (by simp) ?_;intro g2 cap2 w2 own2 hg2 _ hlt2;(rw [padded_succ s (bn * 64) s.size (pbyte_128 _ _)] at own2);have hb2:Below w.heap.size w w2:=(HB1.out.alloc hs1 _).grown hg2 (by simp;omega) (own_ge OWN1.out);have hs2:w.heap.size ≤ w2.heap.size:=hb2.size;have OWN2:=hid' own2;have HB2:=hid' hb2;clear own2 hb2 hg2))
 go_loopw [3] (fun m wr => ∃ g cap k:Nat,m = .slice (some ⟨g,0,none⟩) k cap ∧ s.size + 1 ≤ k ∧ k + 8 ≤ bn * 64 ∧ wr.ownsRow w.heap.size 5 1 (.slice (some ⟨g,0,none⟩) k cap) k (padded s (bn * 64) k) ∧ Below w.heap.size w wr) (fun m _ => bn * 64 - lenV m)
 case atStart => exact ⟨g2,cap2,s.size + 1,rfl,by omega,by omega,OWN2.out,HB2.out⟩
 case round =>
  clear OWN1 HB1 OWN2 HB2 hs1 hs2 hlt2
  obtain ⟨g,cap,k,rfl,hk1,hk2,own,hb⟩:=hrel
  have hsw:=hb.size
  have OWN:=hid' own
  have HB:=hid' hb
  clear own hb
  by_cases h56:k % 64 = 56
  ·have hmod:((k:Int).tmod 64 == 56) = true:=by rw [beq_iff_eq,Int.tmod_eq_emod_of_nonneg (by omega)];omega
   have hmod':(k:Int) % 64 = 56:=by omega
   go_wp2_with fail
   have hk8:k + 8 = bn * 64:=by omega
   clear h56 hmod hmod' hk2
   go_loopw [3,5] (fun m i wr => ∃ g cap j:Nat,j ≤ 8 ∧ m = .slice (some ⟨g,0,none⟩) (k + j) cap ∧ i = .int .i64 (56 - 8 * (j:Int)) ∧ wr.ownsRow w.heap.size 5 1 (.slice (some ⟨g,0,none⟩) (k + j) cap) (k + j) (padded s (bn * 64) (k + j)) ∧ Below w.heap.size w wr) (fun _ i _ => (intOf i + 8).toNat)
   case atStart => exact ⟨g,cap,0,by omega,rfl,rfl,OWN.out,HB.out⟩
   case round =>
    clear OWN HB hsw
    obtain ⟨g,cap,j,hj,rfl,rfl,own,hb⟩:=hrel
    have hsw:=hb.size
    have OWN:=hid' own
    have HB:=hid' hb
    clear own hb
    by_cases hlt:j < 8
    ·have hc0:(0:Int) ≤ 56 - 8 * (j:Int):=by omega
     have HP:=hid' (pbyte_len s (bn * 64) (k + j) j (by omega) hlt (by omega) hs)
     go_wp2_with (first
      | (at_builtin;refine wpList_append_lies _ (by rfl) (.tmp 30) (.tmp 36) 44 (by rfl) w.heap.size 5 i0 (.int .u8 0) 1 1 Tryz.underlying44 hi0 hz0 hz1 hz2 rfl (by decide) (.slice (some ⟨g,0,none⟩) (k + j) cap) (k + j) (padded s (bn * 64) (k + j)) (by rfl) (OWN.out.alloc _) ⟨wr.heap.size,0,none⟩ 1 1 [.int .u8 (bits .and .i64 (8 * (s.size:Int) / 2 ^ (56 - 8 * j)) 255 % 256)] (by rfl) (by rfl) (World.news_of_block (cs:=#[.int .u8 (bits .and .i64 (8 * (s.size:Int) / 2 ^ (56 - 8 * j)) 255 % 256)]) (heap_alloc_new wr _)) (by simp [Value.oneCell']) (by decide) (by unfold maxLen;omega) (by omega) (by simp;omega) (wr.heap.size + 1) (by simp) ?_;intro g3 cap3 w3 own3 hg3 _ hlt3;(rw [padded_succ s (bn * 64) (k + j) HP.out] at own3);have hb3:Below w.heap.size w w3:=(HB.out.alloc hsw _).grown hg3 (by simp;omega) (own_ge OWN.out);have OWN3:=hid' own3;have HB3:=hid' hb3;clear own3 hb3 hg3))
     go_roundw
     case rel => exact ⟨g3,cap3,j + 1,by omega,rfl,by go_num,OWN3.out,HB3.out⟩
     case measure => simp [intOf];omega
    ·have hL:k + j = bn * 64:=by omega
     clear hj hk8 hk1
     generalize k + j = L at *
     generalize wr = wm at *
     have HL:=hid' hL
     clear hL
     go_wp2_with fail
     go_loopw [7] (fun i wr => ∃ b:Nat,b ≤ bn ∧ i = .int .i64 ((b:Int) * 64) ∧ Below w.heap.size w wr ∧ wm.heap.size < wr.heap.size ∧ wr.heap[wm.heap.size]? = some (.cells (Sha.behind s (bn * 64) b).cells 73 (0,0)) ∧ wr.ownsRow w.heap.size 5 1 (.slice (some ⟨g,0,none⟩) L cap) L (padded s (bn * 64) L)) (fun i _ => (bn * 64 - intOf i).toNat)
     case atStart => exact ⟨0,by omega,rfl,HB.out.alloc hsw _,by simp,heap_alloc_new _ _,OWN.out.alloc _⟩
     case round =>
      clear OWN HB hlt
      obtain ⟨b,hb,rfl,hbw,hlt0,hg,own⟩:=hrel
      have HBW:=hid' hbw
      have HG:=hid' hg
      have OWN:=hid' own
      have hL:=HL.out
      by_cases hlt:b < bn
      ·have HOK:=hid' (behind_ok s (bn * 64) b)
       have HN:Hid (Sha.behind s (bn * 64) (b + 1) = Sha.mixed (Sha.wl s (b * 64) (bn * 64) 80) (Sha.behind s (bn * 64) b)):=rfl
       have hpc:Piece wr g (b * 64) s (b * 64) (bn * 64):=⟨(own.lt _ rfl).2,fun i hi => by
        rw [own.cellAt (b * 64 + i) (by omega),padded_at _ _ _ _ (by omega)]
        congr 3⟩
       have HPC:=hid' hpc
       have hcap:L ≤ cap:=by
        rcases own.2 with ⟨h,_⟩ | ⟨g',cap',cur,h,_,_,h2,_⟩
        ·cases h
        ·cases h;exact h2
       generalize Sha.behind s (bn * 64) b = x at *
       have e0:=cell_of_row _ _ 0 _ _ _ hg
       have e1:=cell_of_row _ _ 1 _ _ _ hg
       have e2:=cell_of_row _ _ 2 _ _ _ hg
       have e3:=cell_of_row _ _ 3 _ _ _ hg
       have e4:=cell_of_row _ _ 4 _ _ _ hg
       simp [Sha.St.cells] at e0 e1 e2 e3 e4
       clear hbw hg own hpc
       obtain ⟨bo,hbo⟩:∃ bo:Nat,b * 64 = bo:=⟨_,rfl⟩
       have hbi:(b:Int) * 64 = (bo:Int):=by omega
       rw [hbo] at HPC
       rw [hbi] at HPC HN ⊢
       have hbl2:bo + 64 ≤ L:=by omega
       have hbl3:L ≤ 1280000000:=by omega
       have hbl4:(bo:Int) < (L:Int):=by omega
       have hsl:=fun W => cut_run g L cap bo (by omega) W
       have hbw:IntKind.i64.wrap ((bo:Int) + 64) = (bo:Int) + 64:=by rw [IntKind.wrap_i64];omega
       have HBO:=hid' hbo
       clear hbo hbi hL
       go_wp2_with fail
       go_region_with (go_at_call 38;refine (block_cells x s bo (bn * 64) g bo _ _ HOK.out (by exact HPC.out)).mono ?_;rintro q w2 ⟨y,HY,rfl,hb2⟩;have ROW:=hid' (show w2.heap[wm.heap.size]? = some (.cells x.cells 73 (0,0)) from (hb2.block _ hlt0).trans HG.out);have c0:=cell_of_row _ _ 0 _ _ _ ROW.out;have c1:=cell_of_row _ _ 1 _ _ _ ROW.out;have c2:=cell_of_row _ _ 2 _ _ _ ROW.out;have c3:=cell_of_row _ _ 3 _ _ _ ROW.out;have c4:=cell_of_row _ _ 4 _ _ _ ROW.out;(simp [Sha.St.cells] at c0 c1 c2 c3 c4);have f0:=frozen_of_row _ _ 0 _ _ ROW.out;have f1:=frozen_of_row _ _ 1 _ _ ROW.out;have f2:=frozen_of_row _ _ 2 _ _ ROW.out;have f3:=frozen_of_row _ _ 3 _ _ ROW.out;have f4:=frozen_of_row _ _ 4 _ _ ROW.out;have HB2:=hid' hb2;clear hb2)
       all_goals
        have hw2:=HB2.out.size
        go_wp2
        go_roundw
        case rel =>
         refine ⟨b + 1,by omega,?_,put5_below y (HBW.out.drew.trans (HB2.out.mono (by exact HBW.out.size))) hsw,?_,?_,put5_own y ROW.out (by decide) (own_below (w:=wr.drew) OWN.out HB2.out)⟩
         ·rw [show (((b + 1:Nat):Int) * 64) = (bo:Int) + 64 from by have:=HBO.out;omega]
         ·have:=put5_size w2 wm.heap.size y
          show _ < (put5 w2 wm.heap.size y).heap.size
          rw [this];exact Nat.lt_of_lt_of_le hlt0 hw2
         ·rw [HN.out,HY.out];exact put5_row y ROW.out
        case measure => simp [intOf];have:=HL.out;omega
      ·have hnk:¬ (b:Int) * 64 < (L:Int):=by omega
       have eb:b = bn:=by omega
       have HD:Hid (Sha.digest s = (Sha.behind s (bn * 64) b).text 5):=by show _ = _;unfold Sha.digest;rw [HBN.out,eb]
       have HOK:=hid' (behind_ok s (bn * 64) b)
       clear hbw hg own eb hL hlt
       generalize Sha.behind s (bn * 64) b = x at *
       generalize wr = wn at *
       go_wp2_with fail
       go_loopw [8,9] (fun t i wr => ∃ j:Nat,j ≤ 5 ∧ i = .int .i64 j ∧ t = .string ⟨(x.text j).toArray⟩ ∧ Below w.heap.size w wr ∧ wm.heap.size < wr.heap.size ∧ wr.heap[wm.heap.size]? = some (.cells x.cells 73 (0,0))) (fun _ i _ => 5 - (intOf i).toNat)
       case atStart => exact ⟨0,by omega,rfl,rfl,HBW.out,hlt0,HG.out⟩
       case round =>
        clear HBW HG hlt0 OWN
        obtain ⟨j,hj,rfl,rfl,hbw,hlt0,hg⟩:=hrel
        have HBW:=hid' hbw
        have HG:=hid' hg
        clear hbw hg
        by_cases hlt5:j < 5
        ·have hcell:wr.cell? ⟨wm.heap.size,j,none⟩ = some (.int .u32 (x.word j)):=by
          rw [cell_of_row _ _ _ _ _ _ HG.out];exact x.cells_at j hlt5
         have hwd:=HOK.out.word j
         have htl:=x.text_length j
         have HX:Hid (x.text (j + 1) = x.text j ++ Sha.hexs (x.word j) 8):=rfl
         have hxl:=Sha.hexs_length (x.word j) 8
         have h1:(ByteArray.mk (x.text j).toArray).size = 8 * j:=by simpa [ByteArray.size] using htl
         have h2:(ByteArray.mk (Sha.hexs (x.word j) 8).toArray).size = 8:=by simpa [ByteArray.size] using hxl
         clear htl hxl
         have HE:Hid (ByteArray.mk (x.text j).toArray ++ ByteArray.mk (Sha.hexs (x.word j) 8).toArray = ByteArray.mk (x.text (j + 1)).toArray):=by
          show _ = _;rw [HX.out];congr 1
         have hcall:=ref_hex (x.word j) wr hwd.1 hwd.2
         have HCALL:=hid' hcall
         clear hcall
         generalize hA:ByteArray.mk (x.text j).toArray = A at *
         generalize hB:ByteArray.mk (Sha.hexs (x.word j) 8).toArray = B at *
         clear hA hB
         go_wp2_with (go_at_call 39;refine HCALL.out.mono ?_;rintro q w5 ⟨rfl,hb5⟩;have HB5:=hid' hb5;clear hb5)
         go_roundw
         case rel => exact ⟨j + 1,by omega,by go_num,by rw [HE.out],HBW.out.trans (HB5.out.mono HBW.out.size),Nat.lt_of_lt_of_le hlt0 HB5.out.size,(HB5.out.block _ hlt0).trans HG.out⟩
         case measure => simp [intOf];omega
        ·have e5:j = 5:=by omega
         have HTX:Hid (x.text j = Sha.digest s):=by show _ = _;rw [HD.out,e5]
         have hn5:¬ (j:Int) < 5:=by omega
         clear e5 hlt5
         go_wp2
         go_ret
         exact ⟨ret_str (by rw [HTX.out]),HBW.out⟩
  ·have hmod:((k:Int).tmod 64 == 56) = false:=by rw [beq_eq_false_iff_ne,Int.tmod_eq_emod_of_nonneg (by omega)];omega
   have hmod':((k:Int) % 64 == 56) = false:=by rw [beq_eq_false_iff_ne];omega
   have HP:=hid' (pbyte_0 s (bn * 64) k (by omega) (by omega))
   go_wp2_with (first
    | (at_builtin;refine wpList_append_lies _ (by rfl) (.tmp 20) (.tmp 21) 44 (by rfl) w.heap.size 5 i0 (.int .u8 0) 1 1 Tryz.underlying44 hi0 hz0 hz1 hz2 rfl (by decide) (.slice (some ⟨g,0,none⟩) k cap) k (padded s (bn * 64) k) (by rfl) (OWN.out.alloc _) ⟨wr.heap.size,0,none⟩ 1 1 [.int .u8 0] (by rfl) (by rfl) (World.news_of_block (cs:=#[.int .u8 0]) (heap_alloc_new wr _)) (by simp [Value.oneCell']) (by decide) (by unfold maxLen;omega) (by omega) (by simp;omega) (wr.heap.size + 1) (by simp) ?_;intro g3 cap3 w3 own3 hg3 _ hlt3;(rw [padded_succ s (bn * 64) k HP.out] at own3);have hb3:Below w.heap.size w w3:=(HB.out.alloc hsw _).grown hg3 (by simp;omega) (own_ge OWN.out);have OWN3:=hid' own3;have HB3:=hid' hb3;clear own3 hb3 hg3))
   go_roundw
   case rel => exact ⟨g3,cap3,k + 1,rfl,by omega,by omega,OWN3.out,HB3.out⟩
   case measure => simp [lenV];omega
theorem pure_digest {X:Xs} (B bW n:Nat) (o:Op) (w:World) (ho:o.Ok) (hn:n ≤ 100000) (hI:Inv X B bW n w) (hT:Table w) (hk:o.kind = 9) :
  Calls Tryz.prog 17 #[.pointer (some ⟨bW,0,none⟩),.agg #[.int .i64 o.kind,.int .i64 o.x,.int .i64 o.a,.int .i64 o.b,.int .i64 o.c,.int .i64 o.d,.string o.s]] w fun e w' => e = .returned (.bool true) ∧ Below w.heap.size w w':=by
 have hTx:=text_any B bW n o.a (w.alloc (.cells #[.int .i64 o.kind,.int .i64 o.x,.int .i64 o.a,.int .i64 o.b,.int .i64 o.c,.int .i64 o.d,.string o.s] 27)) ho.a hn (inv_alloc hI _)
 have HTx:=hid' hTx
 have HT:=hid' hT
 clear hTx ho hI hT
 obtain ⟨k,x,a,b,c,d,s⟩:=o
 simp only at *
 subst hk
 have HB0:=hid' ((Below.refl w.heap.size w).alloc (Nat.le_refl _) (.cells #[.int .i64 9,.int .i64 x,.int .i64 a,.int .i64 b,.int .i64 c,.int .i64 d,.string s] 27))
 go_enter Tryz.func17,Tryz.ntmps17
 go_wp2_with fail
 refine HTx.out.mono ?_
 rintro e w1 ⟨t,m,rfl,hts,hw1⟩
 have hb1:Below w.heap.size w w1:=by rw [hw1];exact below_drewN HB0.out m
 have HB1:=hid' hb1
 have HT1:=hid' (HT.out.below hb1)
 clear hw1 hb1 HTx
 go_wp2_with fail
 refine (digest_any t w1 (by omega) HT1.out).mono ?_
 rintro e w2 ⟨rfl,hb2⟩
 have HB2:=hid' (HB1.out.trans (hb2.mono HB1.out.size))
 clear hb2
 go_wp2_with fail
 refine (ref_of t w2 (by omega)).mono ?_
 rintro e w3 ⟨rfl,hb3⟩
 have HB3:=hid' (HB2.out.trans (hb3.mono HB2.out.size))
 clear hb3
 generalize ByteArray.mk (Sha.digest t).toArray = D
 go_wp2
 go_ret
 exact ⟨rfl,HB3.out⟩
theorem does_digest {X:Xs} (w:World) (hT:Table w) (o:Op) (hk:o.kind = 9) (hok:o.Ok) (B n:Nat) (wr:World) (hB:w.heap.size ≤ B) (hn:n ≤ 100000) (hb:Below w.heap.size w wr):Does X B B n o wr:=by
 refine does_pure (.inr (by omega)) (by omega) ?_
 intro w1 hI hB1 hb1
 refine (pure_digest B B n o w1 hok hn hI (hT.below (hb.trans (hb1.mono hB))) hk).mono ?_
 rintro e w' ⟨rfl,hbb⟩
 exact ⟨rfl,(hI.below hbb).up (Nat.le_succ _),Keep.below hbb,hbb.mono hB1⟩
end Go.Proofs.YtmmkhodaljpjgaaGreatDoor
