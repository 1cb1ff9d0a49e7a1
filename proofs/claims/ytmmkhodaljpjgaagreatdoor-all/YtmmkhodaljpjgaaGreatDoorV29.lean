import Derived.Test.YtmmkhodaljpjgaaGreatDoorV28
import Derived.Deep.RegionWith
import Derived.Lib.AppendStr
import Derived.Laws.ResultCell
namespace Go.Proofs.YtmmkhodaljpjgaaGreatDoor
open Go.RowKit
theorem block_cells (x:Sha.St) (s:ByteArray) (b e:Int) (g off cap:Nat) (w:World) (hx:x.Ok) (hp:Piece w g off s b e) :
  Calls Tryz.prog 38 #[.agg #[.int .u32 x.a,.int .u32 x.b,.int .u32 x.c,.int .u32 x.d,.int .u32 x.e],.slice (some ⟨g,off,none⟩) 64 cap] w fun q w' =>
   ∃ y:Sha.St,Hid (Sha.mixed (Sha.wl s b e 80) x = y) ∧ q = .returned (.agg #[.int .u32 y.a,.int .u32 y.b,.int .u32 y.c,.int .u32 y.d,.int .u32 y.e]) ∧ Below w.heap.size w w' :=
 (block_any x s b e g off cap w hx hp).mono fun _ _ h => ⟨_,rfl,h.1,h.2⟩
theorem elem_size:∀ w:World,(sizeOf (Tryz.prog.elem 44)).run Tryz.prog w = .ok 1 w:=fun _ => by kernel_rfl
theorem cut_run (g L cap bo:Nat) (h:bo + 64 ≤ cap) (w:World) :
  (Instr.slice 44 (.slice (some ⟨g,0,none⟩) L cap) (some (.int .i64 (bo:Int))) (some (.int .i64 ((bo:Int) + 64))) none).run Tryz.prog w = .ok (.slice (some ⟨g,bo,none⟩) 64 (cap - bo)) w:=by
 rw [run_slice_lh (P:=Tryz.prog) w 44 (some ⟨g,0,none⟩) L cap (by kernel_rfl) .i64 .i64 (bo:Int) ((bo:Int) + 64) (by omega) (by omega) (by omega),elem_size]
 have h1:((bo:Int) + 64).toNat = bo + 64:=by omega
 have h2:¬ cap = bo:=by omega
 simp [sliced,h1,h2,Addr.add,Result.andThen]
 omega
def put5 (V:World) (H:Nat) (y:Sha.St):World :=
 ((((V.setCell ⟨H,0,none⟩ (.int .u32 y.a)).setCell ⟨H,1,none⟩ (.int .u32 y.b)).setCell ⟨H,2,none⟩ (.int .u32 y.c)).setCell ⟨H,3,none⟩ (.int .u32 y.d)).setCell ⟨H,4,none⟩ (.int .u32 y.e)
theorem put5_row {V:World} {H:Nat} {x:Sha.St} {t:TypeId} (y:Sha.St) (h:V.heap[H]? = some (.cells x.cells t (0,0))):(put5 V H y).heap[H]? = some (.cells y.cells t (0,0)):=by
 have h0:=heap_setCell_same V H 0 _ t (.int .u32 y.a) h
 have h1:=heap_setCell_same _ H 1 _ t (.int .u32 y.b) h0
 have h2:=heap_setCell_same _ H 2 _ t (.int .u32 y.c) h1
 have h3:=heap_setCell_same _ H 3 _ t (.int .u32 y.d) h2
 exact heap_setCell_same _ H 4 _ t (.int .u32 y.e) h3
theorem put5_below {B H:Nat} {a V:World} (y:Sha.St) (h:Below B a V) (hH:B ≤ H):Below B a (put5 V H y) :=
 ((((h.setCell (p:=⟨H,0,none⟩) hH _).setCell (p:=⟨H,1,none⟩) hH _).setCell (p:=⟨H,2,none⟩) hH _).setCell (p:=⟨H,3,none⟩) hH _).setCell (p:=⟨H,4,none⟩) hH _
theorem put5_size (V:World) (H:Nat) (y:Sha.St):(put5 V H y).heap.size = V.heap.size:=by simp [put5]
theorem put5_own {V:World} {H B size n:Nat} {x:Sha.St} {t e:TypeId} {v:Value} {xs:List Value} (y:Sha.St) (h:V.heap[H]? = some (.cells x.cells t (0,0))) (ht:t ≠ e) (ho:V.ownsRow B e size v n xs) :
  (put5 V H y).ownsRow B e size v n xs:=by
 have h0:=heap_setCell_same V H 0 _ t (.int .u32 y.a) h
 have h1:=heap_setCell_same _ H 1 _ t (.int .u32 y.b) h0
 have h2:=heap_setCell_same _ H 2 _ t (.int .u32 y.c) h1
 have h3:=heap_setCell_same _ H 3 _ t (.int .u32 y.d) h2
 exact own_set (p:=⟨H,4,none⟩) (own_set (p:=⟨H,3,none⟩) (own_set (p:=⟨H,2,none⟩) (own_set (p:=⟨H,1,none⟩) (own_set (p:=⟨H,0,none⟩) ho h ht _) h0 ht _) h1 ht _) h2 ht _) h3 ht _
theorem own_below {w w':World} {B size n:Nat} {e:TypeId} {v:Value} {xs:List Value} (h:w.ownsRow B e size v n xs) (hb:Below w.heap.size w w'):w'.ownsRow B e size v n xs:=by
 have hlt:=h.lt
 rcases h with ⟨h1,⟨rfl,rfl⟩ | ⟨g,cap,cur,rfl,hbg,hg,r⟩⟩
 ·exact ⟨h1,.inl ⟨rfl,rfl⟩⟩
 ·exact ⟨h1,.inr ⟨g,cap,cur,rfl,hbg,(hb.block g (hlt g rfl).2).trans hg,r⟩⟩
def padded (s:ByteArray) (e:Int) (k:Nat):List Value:=(List.range k).map fun i:Nat => Value.int .u8 (Sha.pbyte s i e)
theorem padded_length (s:ByteArray) (e:Int) (k:Nat):(padded s e k).length = k:=by simp [padded]
theorem padded_succ (s:ByteArray) (e:Int) (k:Nat) {b:Int} (h:Sha.pbyte s k e = b):padded s e k ++ [.int .u8 b] = padded s e (k + 1):=by
 simp [padded,List.range_succ,h]
theorem padded_at (s:ByteArray) (e:Int) (k i:Nat) (h:i < k):(padded s e k)[i]? = some (.int .u8 (Sha.pbyte s i e)):=by
 simp [padded,h]
theorem padded_str (s:ByteArray) (e:Int):Go.Lib.strCells s = padded s e s.size:=by
 apply List.ext_getElem
 ·rw [Go.Lib.strCells_length,padded_length]
 ·intro i h1 h2
  have hi:i < s.size:=by rw [padded_length] at h2;exact h2
  simp only [Go.Lib.strCells,padded,List.getElem_map,List.getElem_range]
  unfold Sha.pbyte
  rw [if_pos (by omega),Int.toNat_natCast,getD_bytes s i hi]
  rfl
theorem pbyte_128 (s:ByteArray) (e:Int):Sha.pbyte s s.size e = 128:=by
 unfold Sha.pbyte;rw [if_neg (by omega),if_pos rfl]
theorem pbyte_0 (s:ByteArray) (e:Int) (k:Nat) (h:s.size < k) (h1:(k:Int) < e - 8):Sha.pbyte s k e = 0:=by
 unfold Sha.pbyte;rw [if_neg (by omega),if_neg (by omega),if_neg (by omega)]
theorem pbyte_len (s:ByteArray) (e:Int) (k j:Nat) (h:s.size < k) (hj:j < 8) (h1:(k:Int) = e - 8 + j) (hs:s.size ≤ 1000000000):Sha.pbyte s k e = bits .and .i64 (8 * (s.size:Int) / 2 ^ (56 - 8 * j)) 255 % 256:=by
 have hp0:0 ≤ 8 * (s.size:Int) / 2 ^ (56 - 8 * j):=Int.ediv_nonneg (by omega) (Int.le_of_lt (Int.pow_pos (by omega)))
 have hp1:8 * (s.size:Int) / 2 ^ (56 - 8 * j) ≤ 8 * (s.size:Int):=Int.ediv_le_self _ (by omega)
 rw [and255 _ hp0 (by omega)]
 unfold Sha.pbyte
 rw [if_neg (by omega),if_neg (by omega),if_pos (by omega),show (8 * (e - 1 - (k:Int))).toNat = 56 - 8 * j from by omega,Int.mul_comm]
 omega
theorem blocks_pad (n:Nat):n + 9 ≤ Sha.blocks n * 64 ∧ Sha.blocks n * 64 < n + 73:=by
 unfold Sha.blocks;split <;> omega
def lenV:Value → Nat
 | .slice _ n _ => n
 | _ => 0
theorem infoU8:(Tryz.prog.info? 5).map (fun i => (i.zero,i.size,i.bytes)) = some (some (.int .u8 0),1,1):=by kernel_rfl
set_option maxRecDepth 100000 in
set_option maxHeartbeats 3200000 in
theorem ref_of (s:ByteArray) (w:World) (hs:s.size ≤ 1000000000) :
  Calls Tryz.prog 23 #[.string s] w fun q w' => q = .returned (.string ⟨(Sha.digest s).toArray⟩) ∧ Below w.heap.size w w':=by
 obtain ⟨i0,hi0,hz0,hz1,hz2⟩:=info_parts infoU8
 have hbl:=blocks_bd s.size hs
 have hpad:=blocks_pad s.size
 generalize hbn:Sha.blocks s.size = bn at *
 have HBN:=hid' hbn
 clear hbn
 go_enter Tryz.func23,Tryz.ntmps23
 go_wp2_with (first
  | (at_builtin;refine Go.Lib.wpList_append_own_string _ (by rfl) (.tmp 10) (.tmp 11) 44 9 (by rfl) w.heap.size 5 i0 Tryz.underlying44 Tryz.underlying9 hi0 hz0 hz1 hz2 (.slice none 0 0) 0 [] (by rfl) (World.ownsRow_nil _ _ _ _) s (by rfl) (by unfold maxLen;omega) (by omega) (by omega) ?_;intro v1 w1 own1 hg1 _;(simp only [Nat.zero_add,List.nil_append] at own1);(rw [padded_str s (bn * 64)] at own1);have hb1:Below w.heap.size w w1:=(Below.refl _ _).grown hg1 (Nat.le_refl _) (fun _ h => by simp [Value.ownBlock] at h);have hs1:=hg1.size;have OWN1:=hid' own1;have HB1:=hid' hb1;clear own1 hb1 hg1)
  | (at_builtin;refine wpList_append_lies _ (by rfl) (.tmp 13) (.tmp 14) 44 (by rfl) w.heap.size 5 i0 (.int .u8 0) 1 1 Tryz.underlying44 hi0 hz0 hz1 hz2 rfl (by decide) v1 s.size (padded s (bn * 64) s.size) (by rfl) (OWN1.out.alloc _) ⟨w1.heap.size,0,none⟩ 1 1 [.int .u8 128] (by rfl) (by rfl) (World.news_of_block (cs:=#[.int .u8 128]) (heap_alloc_new w1 _)) (by simp [Value.oneCell']) (by decide) (by unfold maxLen;omega) (by omega) (by simp;omega) (w1.heap.size + 1) (by simp) ?_;intro g2 cap2 w2 own2 hg2 _ hlt2;(rw [padded_succ s (bn * 64) s.size (pbyte_128 _ _)] at own2);have hb2:Below w.heap.size w w2:=(HB1.out.alloc hs1 _).grown hg2 (by simp;omega) (own_ge OWN1.out);have hs2:w.heap.size ≤ w2.heap.size:=hb2.size;have OWN2:=hid' own2;have HB2:=hid' hb2;clear own2 hb2 hg2))
 go_loopw [3] (fun m wr => ∃ g cap k:Nat,m = .slice (some ⟨g,0,none⟩) k cap ∧ s.size + 1 ≤ k ∧ k + 8 ≤ bn * 64 ∧ wr.ownsRow w.heap.size 5 1 (.slice (some ⟨g,0,none⟩) k cap) k (padded s (bn * 64) k) ∧ Below w.heap.size w wr) (fun m _ => bn * 64 - lenV m)
 case atStart => exact ⟨g2,cap2,s.size + 1,rfl,by omega,by omega,OWN2.out,HB2.out⟩
 case round =>
  clear OWN1 HB1 OWN2 HB2 hs1 hs2 hlt2
  obtain ⟨g,cap,k,rfl,hk1,hk2,own,hb⟩:=hrel
  have hsw:=hb.size
  have OWN:=hid' own
  have HB:=hid' hb
  clear own hb
  by_cases h56:k % 64 = 56
  ·have hmod:((k:Int).tmod 64 == 56) = true:=by rw [beq_iff_eq,Int.tmod_eq_emod_of_nonneg (by omega)];omega
   have hmod':(k:Int) % 64 = 56:=by omega
   go_wp2_with fail
   have hk8:k + 8 = bn * 64:=by omega
   clear h56 hmod hmod' hk2
   go_loopw [3,5] (fun m i wr => ∃ g cap j:Nat,j ≤ 8 ∧ m = .slice (some ⟨g,0,none⟩) (k + j) cap ∧ i = .int .i64 (56 - 8 * (j:Int)) ∧ wr.ownsRow w.heap.size 5 1 (.slice (some ⟨g,0,none⟩) (k + j) cap) (k + j) (padded s (bn * 64) (k + j)) ∧ Below w.heap.size w wr) (fun _ i _ => (intOf i + 8).toNat)
   case atStart => exact ⟨g,cap,0,by omega,rfl,rfl,OWN.out,HB.out⟩
   case round =>
    clear OWN HB hsw
    obtain ⟨g,cap,j,hj,rfl,rfl,own,hb⟩:=hrel
    have hsw:=hb.size
    have OWN:=hid' own
    have HB:=hid' hb
    clear own hb
    by_cases hlt:j < 8
    ·have hc0:(0:Int) ≤ 56 - 8 * (j:Int):=by omega
     have HP:=hid' (pbyte_len s (bn * 64) (k + j) j (by omega) hlt (by omega) hs)
     go_wp2_with (first
      | (at_builtin;refine wpList_append_lies _ (by rfl) (.tmp 30) (.tmp 36) 44 (by rfl) w.heap.size 5 i0 (.int .u8 0) 1 1 Tryz.underlying44 hi0 hz0 hz1 hz2 rfl (by decide) (.slice (some ⟨g,0,none⟩) (k + j) cap) (k + j) (padded s (bn * 64) (k + j)) (by rfl) (OWN.out.alloc _) ⟨wr.heap.size,0,none⟩ 1 1 [.int .u8 (bits .and .i64 (8 * (s.size:Int) / 2 ^ (56 - 8 * j)) 255 % 256)] (by rfl) (by rfl) (World.news_of_block (cs:=#[.int .u8 (bits .and .i64 (8 * (s.size:Int) / 2 ^ (56 - 8 * j)) 255 % 256)]) (heap_alloc_new wr _)) (by simp [Value.oneCell']) (by decide) (by unfold maxLen;omega) (by omega) (by simp;omega) (wr.heap.size + 1) (by simp) ?_;intro g3 cap3 w3 own3 hg3 _ hlt3;(rw [padded_succ s (bn * 64) (k + j) HP.out] at own3);have hb3:Below w.heap.size w w3:=(HB.out.alloc hsw _).grown hg3 (by simp;omega) (own_ge OWN.out);have OWN3:=hid' own3;have HB3:=hid' hb3;clear own3 hb3 hg3))
     go_roundw
     case rel => exact ⟨g3,cap3,j + 1,by omega,rfl,by go_num,OWN3.out,HB3.out⟩
     case measure => simp [intOf];omega
    ·have hL:k + j = bn * 64:=by omega
     clear hj hk8 hk1
     generalize k + j = L at *
     generalize wr = wm at *
     have HL:=hid' hL
     clear hL
     go_wp2_with fail
     go_loopw [7] (fun i wr => ∃ b:Nat,b ≤ bn ∧ i = .int .i64 ((b:Int) * 64) ∧ Below w.heap.size w wr ∧ wm.heap.size < wr.heap.size ∧ wr.heap[wm.heap.size]? = some (.cells (Sha.behind s (bn * 64) b).cells 73 (0,0)) ∧ wr.ownsRow w.heap.size 5 1 (.slice (some ⟨g,0,none⟩) L cap) L (padded s (bn * 64) L)) (fun i _ => (bn * 64 - intOf i).toNat)
     case atStart => exact ⟨0,by omega,rfl,HB.out.alloc hsw _,by simp,heap_alloc_new _ _,OWN.out.alloc _⟩
     case round =>
      clear OWN HB hlt
      obtain ⟨b,hb,rfl,hbw,hlt0,hg,own⟩:=hrel
      have HBW:=hid' hbw
      have HG:=hid' hg
      have OWN:=hid' own
      have hL:=HL.out
      by_cases hlt:b < bn
      ·have HOK:=hid' (behind_ok s (bn * 64) b)
       have HN:Hid (Sha.behind s (bn * 64) (b + 1) = Sha.mixed (Sha.wl s (b * 64) (bn * 64) 80) (Sha.behind s (bn * 64) b)):=rfl
       have hpc:Piece wr g (b * 64) s (b * 64) (bn * 64):=⟨(own.lt _ rfl).2,fun i hi => by
        rw [own.cellAt (b * 64 + i) (by omega),padded_at _ _ _ _ (by omega)]
        congr 3⟩
       have HPC:=hid' hpc
       have hcap:L ≤ cap:=by
        rcases own.2 with ⟨h,_⟩ | ⟨g',cap',cur,h,_,_,h2,_⟩
        ·cases h
        ·cases h;exact h2
       generalize Sha.behind s (bn * 64) b = x at *
       have e0:=cell_of_row _ _ 0 _ _ _ hg
       have e1:=cell_of_row _ _ 1 _ _ _ hg
       have e2:=cell_of_row _ _ 2 _ _ _ hg
       have e3:=cell_of_row _ _ 3 _ _ _ hg
       have e4:=cell_of_row _ _ 4 _ _ _ hg
       simp [Sha.St.cells] at e0 e1 e2 e3 e4
       clear hbw hg own hpc
       obtain ⟨bo,hbo⟩:∃ bo:Nat,b * 64 = bo:=⟨_,rfl⟩
       have hbi:(b:Int) * 64 = (bo:Int):=by omega
       rw [hbo] at HPC
       rw [hbi] at HPC HN ⊢
       have hbl2:bo + 64 ≤ L:=by omega
       have hbl3:L ≤ 1280000000:=by omega
       have hbl4:(bo:Int) < (L:Int):=by omega
       have hsl:=fun W => cut_run g L cap bo (by omega) W
       have hbw:IntKind.i64.wrap ((bo:Int) + 64) = (bo:Int) + 64:=by rw [IntKind.wrap_i64];omega
       have HBO:=hid' hbo
       clear hbo hbi hL
       go_wp2_with fail
       go_region_with (go_at_call 38;refine (block_cells x s bo (bn * 64) g bo _ _ HOK.out (by exact HPC.out)).mono ?_;rintro q w2 ⟨y,HY,rfl,hb2⟩;have ROW:=hid' (show w2.heap[wm.heap.size]? = some (.cells x.cells 73 (0,0)) from (hb2.block _ hlt0).trans HG.out);have c0:=cell_of_row _ _ 0 _ _ _ ROW.out;have c1:=cell_of_row _ _ 1 _ _ _ ROW.out;have c2:=cell_of_row _ _ 2 _ _ _ ROW.out;have c3:=cell_of_row _ _ 3 _ _ _ ROW.out;have c4:=cell_of_row _ _ 4 _ _ _ ROW.out;(simp [Sha.St.cells] at c0 c1 c2 c3 c4);have f0:=frozen_of_row _ _ 0 _ _ ROW.out;have f1:=frozen_of_row _ _ 1 _ _ ROW.out;have f2:=frozen_of_row _ _ 2 _ _ ROW.out;have f3:=frozen_of_row _ _ 3 _ _ ROW.out;have f4:=frozen_of_row _ _ 4 _ _ ROW.out;have HB2:=hid' hb2;clear hb2)
       all_goals
        have hw2:=HB2.out.size
        go_wp2
        go_roundw
        case rel =>
         refine ⟨b + 1,by omega,?_,put5_below y (HBW.out.drew.trans (HB2.out.mono (by exact HBW.out.size))) hsw,?_,?_,put5_own y ROW.out (by decide) (own_below (w:=wr.drew) OWN.out HB2.out)⟩
         ·rw [show (((b + 1:Nat):Int) * 64) = (bo:Int) + 64 from by have:=HBO.out;omega]
         ·have:=put5_size w2 wm.heap.size y
          show _ < (put5 w2 wm.heap.size y).heap.size
          rw [this];exact Nat.lt_of_lt_of_le hlt0 hw2
         ·rw [HN.out,HY.out];exact put5_row y ROW.out
        case measure => simp [intOf];have:=HL.out;omega
      ·have hnk:¬ (b:Int) * 64 < (L:Int):=by omega
       have eb:b = bn:=by omega
       have HD:Hid (Sha.digest s = (Sha.behind s (bn * 64) b).text 5):=by show _ = _;unfold Sha.digest;rw [HBN.out,eb]
       have HOK:=hid' (behind_ok s (bn * 64) b)
       clear hbw hg own eb hL hlt
       generalize Sha.behind s (bn * 64) b = x at *
       generalize wr = wn at *
       go_wp2_with fail
       go_loopw [8,9] (fun t i wr => ∃ j:Nat,j ≤ 5 ∧ i = .int .i64 j ∧ t = .string ⟨(x.text j).toArray⟩ ∧ Below w.heap.size w wr ∧ wm.heap.size < wr.heap.size ∧ wr.heap[wm.heap.size]? = some (.cells x.cells 73 (0,0))) (fun _ i _ => 5 - (intOf i).toNat)
       case atStart => exact ⟨0,by omega,rfl,rfl,HBW.out,hlt0,HG.out⟩
       case round =>
        clear HBW HG hlt0 OWN
        obtain ⟨j,hj,rfl,rfl,hbw,hlt0,hg⟩:=hrel
        have HBW:=hid' hbw
        have HG:=hid' hg
        clear hbw hg
        by_cases hlt5:j < 5
        ·have hcell:wr.cell? ⟨wm.heap.size,j,none⟩ = some (.int .u32 (x.word j)):=by
          rw [cell_of_row _ _ _ _ _ _ HG.out];exact x.cells_at j hlt5
         have hwd:=HOK.out.word j
         have htl:=x.text_length j
         have HX:Hid (x.text (j + 1) = x.text j ++ Sha.hexs (x.word j) 8):=rfl
         have hxl:=Sha.hexs_length (x.word j) 8
         have h1:(ByteArray.mk (x.text j).toArray).size = 8 * j:=by simpa [ByteArray.size] using htl
         have h2:(ByteArray.mk (Sha.hexs (x.word j) 8).toArray).size = 8:=by simpa [ByteArray.size] using hxl
         clear htl hxl
         have HE:Hid (ByteArray.mk (x.text j).toArray ++ ByteArray.mk (Sha.hexs (x.word j) 8).toArray = ByteArray.mk (x.text (j + 1)).toArray):=by
          show _ = _;rw [HX.out];congr 1
         have hcall:=ref_hex (x.word j) wr hwd.1 hwd.2
         have HCALL:=hid' hcall
         clear hcall
         generalize hA:ByteArray.mk (x.text j).toArray = A at *
         generalize hB:ByteArray.mk (Sha.hexs (x.word j) 8).toArray = B at *
         clear hA hB
         go_wp2_with (go_at_call 39;refine HCALL.out.mono ?_;rintro q w5 ⟨rfl,hb5⟩;have HB5:=hid' hb5;clear hb5)
         go_roundw
         case rel => exact ⟨j + 1,by omega,by go_num,by rw [HE.out],HBW.out.trans (HB5.out.mono HBW.out.size),Nat.lt_of_lt_of_le hlt0 HB5.out.size,(HB5.out.block _ hlt0).trans HG.out⟩
         case measure => simp [intOf];omega
        ·have e5:j = 5:=by omega
         have HTX:Hid (x.text j = Sha.digest s):=by show _ = _;rw [HD.out,e5]
         have hn5:¬ (j:Int) < 5:=by omega
         clear e5 hlt5
         go_wp2
         go_ret
         exact ⟨ret_str (by rw [HTX.out]),HBW.out⟩
  ·have hmod:((k:Int).tmod 64 == 56) = false:=by rw [beq_eq_false_iff_ne,Int.tmod_eq_emod_of_nonneg (by omega)];omega
   have hmod':((k:Int) % 64 == 56) = false:=by rw [beq_eq_false_iff_ne];omega
   have HP:=hid' (pbyte_0 s (bn * 64) k (by omega) (by omega))
   go_wp2_with (first
    | (at_builtin;refine wpList_append_lies _ (by rfl) (.tmp 20) (.tmp 21) 44 (by rfl) w.heap.size 5 i0 (.int .u8 0) 1 1 Tryz.underlying44 hi0 hz0 hz1 hz2 rfl (by decide) (.slice (some ⟨g,0,none⟩) k cap) k (padded s (bn * 64) k) (by rfl) (OWN.out.alloc _) ⟨wr.heap.size,0,none⟩ 1 1 [.int .u8 0] (by rfl) (by rfl) (World.news_of_block (cs:=#[.int .u8 0]) (heap_alloc_new wr _)) (by simp [Value.oneCell']) (by decide) (by unfold maxLen;omega) (by omega) (by simp;omega) (wr.heap.size + 1) (by simp) ?_;intro g3 cap3 w3 own3 hg3 _ hlt3;(rw [padded_succ s (bn * 64) k HP.out] at own3);have hb3:Below w.heap.size w w3:=(HB.out.alloc hsw _).grown hg3 (by simp;omega) (own_ge OWN.out);have OWN3:=hid' own3;have HB3:=hid' hb3;clear own3 hb3 hg3))
   go_roundw
   case rel => exact ⟨g3,cap3,k + 1,rfl,by omega,by omega,OWN3.out,HB3.out⟩
   case measure => simp [lenV];omega
theorem results_cell_tmp2 {fn:Func} {p u v:Tmp} {ty:TypeId} (h:fn.results = #[.cell p ty,.tmp u,.tmp v]) (tmps:Array Value) (P:Program) (w:World) :
  (results fn tmps).run P w =
   ((asAddr (tmps.getD p undef)).run P w).andThen fun a w₁ => ((loadVar ty a).run P w₁).andThen fun x w₂ => .ok (.tuple #[x,tmps.getD u undef,tmps.getD v undef]) w₂:=by
 simp only [results,h]
 simp [Sem.run_bind,Result.andThen]
theorem results_row_tmp2 {fn:Func} {p u v:Tmp} {ty:TypeId} {P:Program} (h:fn.results = #[.cell p ty,.tmp u,.tmp v]) (tmps:Array Value) (w:World) (g:Nat) (cs:Array Value)
  (hp:tmps.getD p undef = .pointer (some ⟨g,0,none⟩)) (hl:(loadVar ty ⟨g,0,none⟩).run P w = .ok (.agg cs) w) :
  (results fn tmps).run P w = .ok (.tuple #[.agg cs,tmps.getD u undef,tmps.getD v undef]) w:=by
 rw [results_cell_tmp2 h,hp]
 simp [asAddr,hl,Result.andThen]
theorem load_rtable {w:World} {g:Nat} {cs:Array Value} (hg:w.heap[g]? = some (.cells cs 33 (0,0))) (hs:cs.size = 3):(loadVar 33 ⟨g,0,none⟩).run Tryz.prog w = .ok (.agg cs) w :=
 run_loadVar_row (P:=Tryz.prog) w g 33 33 cs (0,0) _ hg Tryz.underlying33 rfl (by rw [hs];kernel_rfl)
theorem z3_row {V:World} {b:Nat} {p q r:Value} {t:TypeId} {x y z:Value} (h1:V.heap[b]? = some (.cells #[p,q,r] t (0,0))):(((V.setCell ⟨b,0,none⟩ x).setCell ⟨b,1,none⟩ y).setCell ⟨b,2,none⟩ z).heap[b]? = some (.cells #[x,y,z] t (0,0)):=by
 have e1:=heap_setCell_same _ b 0 _ t x h1
 have e2:=heap_setCell_same _ b 1 _ t y e1
 have e3:=heap_setCell_same _ b 2 _ t z e2
 simpa using e3
theorem z3_below {W V:World} {b B:Nat} {x y z:Value} (h:Below B W V) (hb:B ≤ b):Below B W (((V.setCell ⟨b,0,none⟩ x).setCell ⟨b,1,none⟩ y).setCell ⟨b,2,none⟩ z) :=
 ((h.setCell (p:=⟨b,0,none⟩) hb x).setCell (p:=⟨b,1,none⟩) hb y).setCell (p:=⟨b,2,none⟩) hb z
theorem z3_own {V:World} {b B n size:Nat} {x y z p q r v:Value} {t e:TypeId} {xs:List Value} (h1:V.heap[b]? = some (.cells #[p,q,r] t (0,0))) (ho:V.ownsRow B e size v n xs) (hne:t ≠ e) :
  (((V.setCell ⟨b,0,none⟩ x).setCell ⟨b,1,none⟩ y).setCell ⟨b,2,none⟩ z).ownsRow B e size v n xs:=by
 have e1:=heap_setCell_same _ b 0 _ t x h1
 have e2:=heap_setCell_same _ b 1 _ t y e1
 exact own_set (p:=⟨b,2,none⟩) (own_set (p:=⟨b,1,none⟩) (own_set (p:=⟨b,0,none⟩) ho h1 hne x) e1 hne y) e2 hne z
def RGot (w:World) (gt:Txt.Got) (e:Ending) (w':World):Prop:=∃ lv,e = .returned (.tuple #[.agg #[.int .i64 gt.up,.int .i64 gt.ex,lv],.int .i64 gt.err,.int .i64 gt.num]) ∧ w'.ownsRow w.heap.size 46 2 lv gt.ls.length (flat gt.ls) ∧ Below w.heap.size w w'
theorem rgot_no {w w':World} {e:Int} {m:Nat} {en:Ending} (h:en = .returned (.tuple #[.agg #[.int .i64 0,.int .i64 0,.slice none 0 0],.int .i64 e,.int .i64 m])) (hb:Below w.heap.size w w'):RGot w ⟨0,0,[],e,m⟩ en w' :=
 ⟨.slice none 0 0,h,World.ownsRow_nil _ _ _ _,hb⟩
structure RMid (w:World) (t:ByteArray) (n from' i:Nat) (st:Txt.St) (wr:World):Prop where
 rf:Rf wr (w.heap.size + 1) st
 ok:Txt.Ok st n
 nf:n ≤ from'
 fi:from' ≤ i
 i1:i ≤ t.size + 1
 at':(i ≤ t.size ∧ Txt.eol t from' = Txt.eol t i) ∨ (i = t.size + 1 ∧ from' = t.size + 1)
 run:∃ f,t.size + 2 - from' ≤ f ∧ Txt.run t (t.size + 2) 0 0 Txt.st0 = Txt.run t f from' n st
 row:wr.heap[w.heap.size]? = some (.cells #[.int .i64 0,.int .i64 0,.slice none 0 0] 33 (0,0))
 bel:Below w.heap.size w wr
theorem rf_start (w:World):Rf ((w.alloc (.cells #[.int .i64 0,.int .i64 0,.slice none 0 0] 33)).alloc (.cells #[.int .i64 0,.int .i64 0,.slice none 0 0,.string ⟨#[]⟩,.bool false,.bool false,.bool false,.slice none 0 0] 143)) (w.heap.size + 1) Txt.st0 :=
 ⟨.slice none 0 0,.slice none 0 0,[],heap_alloc2_new _ _ _,World.ownsRow_nil _ _ _ _,World.ownsRow_nil _ _ _ _,fun h => absurd rfl h⟩
set_option maxRecDepth 100000 in
set_option maxHeartbeats 6400000 in
theorem ref_parse (t:ByteArray) (w:World) (hs:t.size ≤ 1000000) :
  Calls Tryz.prog 41 #[.string t] w fun e w' => RGot w (Txt.parse t) e w':=by
 have RN:=hid' (heap_alloc_new w (.cells #[.int .i64 0,.int .i64 0,.slice none 0 0] 33))
 have BN:=hid' ((Below.refl w.heap.size w).alloc (Nat.le_refl _) (.cells #[.int .i64 0,.int .i64 0,.slice none 0 0] 33))
 by_cases hbig:2000 < t.size
 ·have HP:Hid (Txt.parse t = ⟨0,0,[],2,0⟩):=by show _ = _;unfold Txt.parse;rw [if_pos hbig]
  go_enter Tryz.func41,Tryz.ntmps41
  go_wp2
  refine bodyPost_ret (results_row_tmp2 (p:=2) (u:=3) (v:=4) rfl _ _ w.heap.size #[.int .i64 0,.int .i64 0,.slice none 0 0] rfl (load_rtable RN.out rfl)) rfl ?_
  rw [HP.out]
  exact rgot_no rfl BN.out
 have RF0:=hid' (rf_start w)
 have R0:=hid' (heap_alloc2_old w (.cells #[.int .i64 0,.int .i64 0,.slice none 0 0] 33) (.cells #[.int .i64 0,.int .i64 0,.slice none 0 0,.string ⟨#[]⟩,.bool false,.bool false,.bool false,.slice none 0 0] 143))
 have B0:=hid' (BN.out.alloc (by simp) (.cells #[.int .i64 0,.int .i64 0,.slice none 0 0,.string ⟨#[]⟩,.bool false,.bool false,.bool false,.slice none 0 0] 143))
 have HPE:Hid (¬ (Txt.run t (t.size + 2) 0 0 Txt.st0).1 = 0 → Txt.parse t = ⟨0,0,[],(Txt.run t (t.size + 2) 0 0 Txt.st0).1,(Txt.run t (t.size + 2) 0 0 Txt.st0).2.1⟩):=fun h => by unfold Txt.parse;rw [if_neg hbig,if_neg h]
 have HPD:Hid ((Txt.run t (t.size + 2) 0 0 Txt.st0).1 = 0 → Txt.parse t = Txt.done (Txt.run t (t.size + 2) 0 0 Txt.st0).2.2):=fun h => by unfold Txt.parse;rw [if_neg hbig,if_pos h]
 go_enter Tryz.func41,Tryz.ntmps41
 go_wp2_with fail
 go_loopw [6,7,8,9] (fun n fr i _ wr => ∃ (nn ff ii:Nat) (st:Txt.St),n = .int .i64 nn ∧ fr = .int .i64 ff ∧ i = .int .i64 ii ∧ RMid w t nn ff ii st wr) (fun _ _ i _ _ => t.size + 1 - (intOf i).toNat)
 case atStart => exact ⟨0,0,0,Txt.st0,rfl,rfl,rfl,⟨RF0.out,Txt.Ok.start,Nat.le_refl _,Nat.le_refl _,by omega,.inl ⟨by omega,rfl⟩,⟨t.size + 2,by omega,rfl⟩,R0.out,B0.out⟩⟩
 case round =>
  clear RF0 R0 B0 RN BN
  obtain ⟨n,fr,i,st,rfl,rfl,rfl,hM⟩:=hrel
  have i1:=hM.i1
  have fi:=hM.fi
  have nf:=hM.nf
  have HM:=hid' hM
  clear hM
  by_cases hi:i ≤ t.size
  ·have hat:Txt.eol t fr = Txt.eol t i:=by rcases HM.out.at' with h | h;exact h.2;omega
   by_cases hline:i = t.size ∨ (∃ h:i < t.size,(t[i].toNat:Int) = 10)
   ·have heol:Txt.eol t fr = i:=by
     rw [hat];apply Txt.eol_stop
     rintro ⟨h,h'⟩
     rcases hline with e | ⟨_,e⟩
     ·omega
     ·rw [Txt.byte_at t i h] at h';exact h' e
    have hx:(t.extract fr i).size ≤ 90000:=by rw [ByteArray.size_extract];omega
    have HLN:=hid' (ref_line (w.heap.size + 1) st (t.extract fr i) wr n HM.out.rf HM.out.ok (by omega) hx)
    have HEOL:=hid' heol
    clear heol hat
    by_cases he:(Txt.line st (t.extract fr i)).1 = 0
    ·obtain ⟨f,hf,hrun⟩:=HM.out.run
     obtain ⟨f',rfl⟩:∃ f',f = f' + 1:=⟨f - 1,by omega⟩
     have hr2:Txt.run t (t.size + 2) 0 0 Txt.st0 = Txt.run t f' (i + 1) (n + 1) (Txt.line st (t.extract fr i)).2:=by
      rw [hrun,Txt.run_go (by omega) (by rw [HEOL.out];exact he),HEOL.out]
     have HR2:=hid' hr2
     have hok2:=HM.out.ok.line _ he
     have HOK2:=hid' hok2
     have HERR:=hid' he
     rw [he] at HLN
     clear hrun hr2 hok2 he
     generalize (Txt.line st (t.extract fr i)).2 = st' at *
     have HROW0:=hid' HM.out.row
     have HBEL0:=hid' HM.out.bel
     rcases hline with hl | ⟨hl,hc⟩
     ·have q1:((i:Int) == (t.size:Int)) = true:=by rw [beq_iff_eq];omega
      clear hl
      go_wp2_with fail
      refine HLN.out.mono ?_
      rintro e w3 ⟨rfl,hrd,hb3⟩
      have RD3:=hid' (hrd trivial)
      have ROW3:=hid' ((hb3.block _ (by omega)).trans HROW0.out)
      have BEL3:=hid' (HBEL0.out.trans (hb3.mono (by omega)))
      clear hrd hb3
      go_wp2
      go_roundw
      case rel => exact ⟨n + 1,i + 1,i + 1,st',by go_num,by go_num,by go_num,⟨RD3.out,HOK2.out,by omega,Nat.le_refl _,by omega,(by by_cases e:i + 1 ≤ t.size;exact .inl ⟨e,rfl⟩;exact .inr ⟨by omega,by omega⟩),⟨f',by omega,HR2.out⟩,ROW3.out,BEL3.out⟩⟩
      case measure => simp [intOf];omega
     ·have q1:((i:Int) == (t.size:Int)) = false:=by rw [beq_eq_false_iff_ne];omega
      have q2:((t[i].toNat:Int) == 10) = true:=by rw [beq_iff_eq];exact hc
      clear hc
      go_wp2_with fail
      refine HLN.out.mono ?_
      rintro e w3 ⟨rfl,hrd,hb3⟩
      have RD3:=hid' (hrd trivial)
      have ROW3:=hid' ((hb3.block _ (by omega)).trans HROW0.out)
      have BEL3:=hid' (HBEL0.out.trans (hb3.mono (by omega)))
      clear hrd hb3
      go_wp2
      go_roundw
      case rel => exact ⟨n + 1,i + 1,i + 1,st',by go_num,by go_num,by go_num,⟨RD3.out,HOK2.out,by omega,Nat.le_refl _,by omega,(by by_cases e:i + 1 ≤ t.size;exact .inl ⟨e,rfl⟩;exact .inr ⟨by omega,by omega⟩),⟨f',by omega,HR2.out⟩,ROW3.out,BEL3.out⟩⟩
      case measure => simp [intOf];omega
    ·obtain ⟨f,hf,hrun⟩:=HM.out.run
     obtain ⟨f',rfl⟩:∃ f',f = f' + 1:=⟨f - 1,by omega⟩
     have hr2:Txt.run t (t.size + 2) 0 0 Txt.st0 = ((Txt.line st (t.extract fr i)).1,n,st):=by
      rw [hrun,Txt.run_err (by omega) (by rw [HEOL.out];exact he),HEOL.out]
     have hp:=HPE.out (by rw [hr2];exact he)
     rw [hr2] at hp
     have HP:=hid' hp
     have qe:((Txt.line st (t.extract fr i)).1 != 0) = true:=bne_iff_ne.2 he
     have HROW0:=hid' HM.out.row
     have HBEL0:=hid' HM.out.bel
     clear hrun hr2 hp he
     generalize hG:Txt.line st (t.extract fr i) = G at *
     obtain ⟨er,st'⟩:=G
     simp only at qe HLN HP
     clear hG
     rcases hline with hl | ⟨hl,hc⟩
     ·have q1:((i:Int) == (t.size:Int)) = true:=by rw [beq_iff_eq];omega
      clear hl
      go_wp2_with fail
      refine HLN.out.mono ?_
      rintro e w3 ⟨rfl,hrd,hb3⟩
      have row3:=(hb3.block _ (by omega)).trans HROW0.out
      have BEL3:=hid' (HBEL0.out.trans (hb3.mono (by omega)))
      have y0:=cell_of_row _ _ 0 _ _ _ row3
      have y1:=cell_of_row _ _ 1 _ _ _ row3
      have y2:=cell_of_row _ _ 2 _ _ _ row3
      simp at y0 y1 y2
      have x0:=frozen_of_row _ _ 0 _ _ row3
      have x1:=frozen_of_row _ _ 1 _ _ row3
      have x2:=frozen_of_row _ _ 2 _ _ row3
      have ROW3:=hid' row3
      clear hrd hb3 row3
      go_wp2
      refine bodyPost_ret (results_row_tmp2 (p:=2) (u:=3) (v:=4) rfl _ _ w.heap.size #[.int .i64 0,.int .i64 0,.slice none 0 0] rfl (load_rtable (z3_row ROW3.out) rfl)) rfl ?_
      rw [HP.out]
      exact rgot_no rfl (z3_below BEL3.out (Nat.le_refl _))
     ·have q1:((i:Int) == (t.size:Int)) = false:=by rw [beq_eq_false_iff_ne];omega
      have q2:((t[i].toNat:Int) == 10) = true:=by rw [beq_iff_eq];exact hc
      clear hc
      go_wp2_with fail
      refine HLN.out.mono ?_
      rintro e w3 ⟨rfl,hrd,hb3⟩
      have row3:=(hb3.block _ (by omega)).trans HROW0.out
      have BEL3:=hid' (HBEL0.out.trans (hb3.mono (by omega)))
      have y0:=cell_of_row _ _ 0 _ _ _ row3
      have y1:=cell_of_row _ _ 1 _ _ _ row3
      have y2:=cell_of_row _ _ 2 _ _ _ row3
      simp at y0 y1 y2
      have x0:=frozen_of_row _ _ 0 _ _ row3
      have x1:=frozen_of_row _ _ 1 _ _ row3
      have x2:=frozen_of_row _ _ 2 _ _ row3
      have ROW3:=hid' row3
      clear hrd hb3 row3
      go_wp2
      refine bodyPost_ret (results_row_tmp2 (p:=2) (u:=3) (v:=4) rfl _ _ w.heap.size #[.int .i64 0,.int .i64 0,.slice none 0 0] rfl (load_rtable (z3_row ROW3.out) rfl)) rfl ?_
      rw [HP.out]
      exact rgot_no rfl (z3_below BEL3.out (Nat.le_refl _))
   ·have hlt:i < t.size:=by
     by_cases e:i = t.size
     ·exact absurd (.inl e) hline
     ·omega
    have h10:¬ (t[i].toNat:Int) = 10:=fun e => hline (.inr ⟨hlt,e⟩)
    have q1:((i:Int) == (t.size:Int)) = false:=by rw [beq_eq_false_iff_ne];omega
    have q2:((t[i].toNat:Int) == 10) = false:=by rw [beq_eq_false_iff_ne];exact h10
    have HN:Hid (RMid w t n fr (i + 1) st wr):=⟨HM.out.rf,HM.out.ok,nf,by omega,by omega,.inl ⟨by omega,by rw [hat];exact Txt.eol_go hlt (by rw [Txt.byte_at t i hlt];exact h10)⟩,HM.out.run,HM.out.row,HM.out.bel⟩
    clear hline h10 hat
    go_wp2
    go_roundw
    case rel => exact ⟨n,fr,i + 1,st,rfl,rfl,by go_num,HN.out⟩
    case measure => simp [intOf];omega
  ·have hat:i = t.size + 1 ∧ fr = t.size + 1:=by
    rcases HM.out.at' with h | h
    ·omega
    ·exact h
   have hrun:Txt.run t (t.size + 2) 0 0 Txt.st0 = (0,0,st):=by
    obtain ⟨f,hf,hrun⟩:=HM.out.run
    rw [hrun];exact Txt.run_end (by omega)
   have hp:=HPD.out (by rw [hrun])
   rw [hrun] at hp
   have HP:=hid' hp
   have hni:¬ (i:Int) ≤ (t.size:Int):=by omega
   have hdg:=HM.out.ok.dg
   have HOK:=hid' HM.out.ok
   have ROW0:=hid' HM.out.row
   have BEL0:=hid' HM.out.bel
   obtain ⟨lv,wv,full,hrow,hown,hwv,hfull⟩:=HM.out.rf
   have y0:=cell_of_row _ _ 0 _ _ _ ROW0.out
   have y1:=cell_of_row _ _ 1 _ _ _ ROW0.out
   have y2:=cell_of_row _ _ 2 _ _ _ ROW0.out
   simp at y0 y1 y2
   have x0:=frozen_of_row _ _ 0 _ _ ROW0.out
   have x1:=frozen_of_row _ _ 1 _ _ ROW0.out
   have x2:=frozen_of_row _ _ 2 _ _ ROW0.out
   have q0:=cell_of_row _ _ 0 _ _ _ hrow
   have q1:=cell_of_row _ _ 1 _ _ _ hrow
   have q2:=cell_of_row _ _ 2 _ _ _ hrow
   have q3:=cell_of_row _ _ 3 _ _ _ hrow
   have q4:=cell_of_row _ _ 4 _ _ _ hrow
   have q5:=cell_of_row _ _ 5 _ _ _ hrow
   have q6:=cell_of_row _ _ 6 _ _ _ hrow
   have q7:=cell_of_row _ _ 7 _ _ _ hrow
   simp at q0 q1 q2 q3 q4 q5 q6 q7
   have hlv:∃ ao cap,lv = .slice ao st.ls.length cap:=by
    rcases hown.2 with ⟨rfl,e⟩ | ⟨g,cap,cur,rfl,_⟩
    ·exact ⟨_,_,by rw [e]⟩
    ·exact ⟨_,_,rfl⟩
   obtain ⟨ao,lcap,rfl⟩:=hlv
   have HROW:=hid' hrow
   have HOWN:=hid' hown
   have HWV:=hid' hwv
   have HFULL:=hid' hfull
   clear hrun hp HM HPE HPD hrow hown hwv hfull hat
   have h6:∀ h:st.u = Txt.em ∨ st.x = Txt.em ∨ st.h = Txt.em ∨ st.ls.length = 0,Txt.parse t = ⟨0,0,[],6,0⟩:=fun h => by
    rw [HP.out];unfold Txt.done Txt.fin;rw [if_pos h,if_neg (by decide)]
   have H6:=hid' h6
   clear h6
   by_cases c0:st.u = Txt.em
   ·have HP6:=hid' (H6.out (.inl c0))
    rw [has_no c0] at q4
    clear c0
    go_wp2
    refine bodyPost_ret (results_row_tmp2 (p:=2) (u:=3) (v:=4) rfl _ _ w.heap.size #[.int .i64 0,.int .i64 0,.slice none 0 0] rfl (load_rtable (z3_row ROW0.out) rfl)) rfl ?_
    rw [HP6.out]
    exact rgot_no rfl (z3_below BEL0.out (Nat.le_refl _))
   by_cases c1:st.x = Txt.em
   ·have HP6:=hid' (H6.out (.inr (.inl c1)))
    rw [has_yes c0] at q4
    rw [has_no c1] at q5
    clear c0 c1
    go_wp2
    refine bodyPost_ret (results_row_tmp2 (p:=2) (u:=3) (v:=4) rfl _ _ w.heap.size #[.int .i64 0,.int .i64 0,.slice none 0 0] rfl (load_rtable (z3_row ROW0.out) rfl)) rfl ?_
    rw [HP6.out]
    exact rgot_no rfl (z3_below BEL0.out (Nat.le_refl _))
   by_cases c2:st.h = Txt.em
   ·have HP6:=hid' (H6.out (.inr (.inr (.inl c2))))
    rw [has_yes c0] at q4
    rw [has_yes c1] at q5
    rw [has_no c2] at q6
    clear c0 c1 c2
    go_wp2
    refine bodyPost_ret (results_row_tmp2 (p:=2) (u:=3) (v:=4) rfl _ _ w.heap.size #[.int .i64 0,.int .i64 0,.slice none 0 0] rfl (load_rtable (z3_row ROW0.out) rfl)) rfl ?_
    rw [HP6.out]
    exact rgot_no rfl (z3_below BEL0.out (Nat.le_refl _))
   by_cases c3:st.ls.length = 0
   ·have HP6:=hid' (H6.out (.inr (.inr (.inr c3))))
    rw [has_yes c0] at q4
    rw [has_yes c1] at q5
    rw [has_yes c2] at q6
    rw [c3] at q2
    clear c0 c1 c2 c3
    go_wp2
    refine bodyPost_ret (results_row_tmp2 (p:=2) (u:=3) (v:=4) rfl _ _ w.heap.size #[.int .i64 0,.int .i64 0,.slice none 0 0] rfl (load_rtable (z3_row ROW0.out) rfl)) rfl ?_
    rw [HP6.out]
    exact rgot_no rfl (z3_below BEL0.out (Nat.le_refl _))
   have hF:¬ (st.u = Txt.em ∨ st.x = Txt.em ∨ st.h = Txt.em ∨ st.ls.length = 0):=fun h => by
    rcases h with h | h | h | h
    ·exact c0 h
    ·exact c1 h
    ·exact c2 h
    ·exact c3 h
   have HF8:Hid (Tab.whole (Txt.numTo st.u st.u.size) (Txt.numTo st.x st.x.size) st.ls = false → Txt.parse t = ⟨0,0,[],8,0⟩):=fun h => by rw [HP.out];exact done_no (st:=st) (n:=8) (by unfold Txt.fin;rw [if_neg hF,if_pos h]) (by decide)
   have HF7:Hid (Tab.whole (Txt.numTo st.u st.u.size) (Txt.numTo st.x st.x.size) st.ls = true → ¬ ByteArray.mk (Sha.digest st.dg).toArray = st.h → Txt.parse t = ⟨0,0,[],7,0⟩):=fun h h' => by rw [HP.out];exact done_no (st:=st) (n:=7) (by unfold Txt.fin;rw [if_neg hF,if_neg (by rw [h];decide),if_pos h']) (by decide)
   have HF0:Hid (Tab.whole (Txt.numTo st.u st.u.size) (Txt.numTo st.x st.x.size) st.ls = true → ByteArray.mk (Sha.digest st.dg).toArray = st.h → Txt.parse t = ⟨Txt.numTo st.u st.u.size,Txt.numTo st.x st.x.size,st.ls,0,0⟩):=fun h h' => by
    rw [HP.out];exact done_yes (st:=st) (by unfold Txt.fin;rw [if_neg hF,if_neg (by rw [h];decide),if_neg (by simpa using h')])
   have nu:Txt.isNum st.u = true:=by rcases HOK.out.u with h | h;exact absurd h c0;exact h
   have nx:Txt.isNum st.x = true:=by rcases HOK.out.x with h | h;exact absurd h c1;exact h
   have lu:=Txt.numTo_le nu
   have lx:=Txt.numTo_le nx
   have hln:=HOK.out.len
   obtain ⟨hf5,hj⟩:=HFULL.out c2
   have hh40:=HOK.out.h
   have HWH:=hid' (whole_any (w.heap.size + 1 + 1) (.slice ao st.ls.length lcap) st.ls _ _ wr (wf_small lu.1 lu.2) (wf_small lx.1 lx.2) HOWN.out (by omega) HOK.out.wf)
   have HOF:=hid' (fun W => ref_of st.dg W (by omega))
   rw [has_yes c0] at q4
   rw [has_yes c1] at q5
   rw [has_yes c2] at q6
   have hl0:((st.ls.length:Int) == 0) = false:=by rw [beq_eq_false_iff_ne];omega
   have HJ:=hid' hj
   have HF5:=hid' hf5
   clear hF c0 c1 c2 c3 H6 HFULL nu nx lu lx HP hj
   generalize Txt.numTo st.u st.u.size = vu at *
   generalize Txt.numTo st.x st.x.size = vx at *
   generalize ByteArray.mk (Sha.digest st.dg).toArray = D at *
   cases hwh:Tab.whole vu vx st.ls with
   | false =>
    rw [hwh] at HWH
    have HD:=hid' (HF8.out hwh)
    clear hwh y0 y1 y2 x0 x1 x2
    go_wp2_with fail
    refine HWH.out.mono ?_
    rintro e w4 ⟨rfl,hb4⟩
    have rn4:=(hb4.block _ (lt_of_heap ROW0.out)).trans ROW0.out
    have y0:=cell_of_row _ _ 0 _ _ _ rn4
    have y1:=cell_of_row _ _ 1 _ _ _ rn4
    have y2:=cell_of_row _ _ 2 _ _ _ rn4
    simp at y0 y1 y2
    have x0:=frozen_of_row _ _ 0 _ _ rn4
    have x1:=frozen_of_row _ _ 1 _ _ rn4
    have x2:=frozen_of_row _ _ 2 _ _ rn4
    have RN4:=hid' rn4
    have BE4:=hid' (BEL0.out.trans (hb4.mono BEL0.out.size))
    clear rn4 hb4
    go_wp2
    refine bodyPost_ret (results_row_tmp2 (p:=2) (u:=3) (v:=4) rfl _ _ w.heap.size #[.int .i64 0,.int .i64 0,.slice none 0 0] rfl (load_rtable (z3_row RN4.out) rfl)) rfl ?_
    rw [HD.out]
    exact rgot_no rfl (z3_below BE4.out (Nat.le_refl _))
   | true =>
    rw [hwh] at HWH
    have HF7':=hid' (HF7.out hwh)
    have HF0':=hid' (HF0.out hwh)
    clear hwh HF7 HF0 HF8 y0 y1 y2 x0 x1 x2
    go_wp2_with fail
    refine HWH.out.mono ?_
    rintro e W2 ⟨rfl,hb4⟩
    have RN2:=hid' ((hb4.block _ (lt_of_heap ROW0.out)).trans ROW0.out)
    have RR2:=hid' ((hb4.block _ (lt_of_heap HROW.out)).trans HROW.out)
    have OO2:=hid' (own_down HOWN.out hb4)
    have WV2:=hid' (own_down HWV.out hb4)
    have BE2:=hid' (BEL0.out.trans (hb4.mono BEL0.out.size))
    obtain ⟨gw,wcap,rfl⟩:=own_some WV2.out (by rw [HF5.out];omega)
    have m7:=cell_of_row _ _ 7 _ _ _ RR2.out
    have m3:=cell_of_row _ _ 3 _ _ _ RR2.out
    simp at m7 m3
    have hfc:∀ k,k < 5 → W2.cell? ⟨gw,k,none⟩ = some (.string (full.getD k Txt.em)):=fun k hk => by
     rw [WV2.out.cellAt k (by rw [HF5.out];omega),List.getElem?_map,List.getElem?_eq_getElem (by omega),List.getD_eq_getElem?_getD,List.getElem?_eq_getElem (by omega)];rfl
    have HFC:=hid' hfc
    have hjs:∀ k,k ≤ 5 → (joinTo full k).size ≤ (joinTo full 5).size:=fun k hk => by
     have step:∀ j,(joinTo full j).size ≤ (joinTo full (j + 1)).size:=fun j => by rw [joinTo,ByteArray.size_append];omega
     have a1:(joinTo full 0).size ≤ (joinTo full 1).size:=step 0
     have a2:(joinTo full 1).size ≤ (joinTo full 2).size:=step 1
     have a3:(joinTo full 2).size ≤ (joinTo full 3).size:=step 2
     have a4:(joinTo full 3).size ≤ (joinTo full 4).size:=step 3
     have a5:(joinTo full 4).size ≤ (joinTo full 5).size:=step 4
     have:k = 0 ∨ k = 1 ∨ k = 2 ∨ k = 3 ∨ k = 4 ∨ k = 5:=by omega
     rcases this with rfl | rfl | rfl | rfl | rfl | rfl <;> omega
    have HJS:=hid' hjs
    have hfl:=HF5.out
    rw [hfl] at m7
    clear hb4 q0 q1 q2 q3 q4 q5 q6 q7 ROW0 HROW HOWN HWV BEL0 hfc hjs hfl HWH
    go_wp2_with fail
    go_loop [11,12] (fun hh i => ∃ k:Nat,k ≤ 5 ∧ i = .int .i64 k ∧ hh = .string (joinTo full k)) (fun _ i => 5 - (intOf i).toNat)
    case atStart => exact ⟨0,by omega,rfl,rfl⟩
    case round =>
     obtain ⟨k,hk,rfl,rfl⟩:=hrel
     by_cases hlt:k < 5
     ·have ck:=HFC.out k hlt
      have hz1:=HJS.out (k + 1) (by omega)
      rw [HJ.out] at hz1
      have HK:Hid (joinTo full (k + 1) = joinTo full k ++ full.getD k Txt.em):=rfl
      rw [HK.out,ByteArray.size_append] at hz1
      generalize joinTo full k = jk at *
      generalize full.getD k Txt.em = fk at *
      go_wp2
      exact ⟨⟨k + 1,by omega,by go_num,by rw [HK.out]⟩,by simp [intOf];omega⟩
     ·have ek:k = 5:=by omega
      have HK:Hid (joinTo full k = st.h):=by show _ = _;rw [ek];exact HJ.out
      rw [HK.out]
      clear ek
      go_wp2_with fail
      refine (HOF.out W2).mono ?_
      rintro e W3 ⟨rfl,bel6⟩
      have rn:=(bel6.block _ (lt_of_heap RN2.out)).trans RN2.out
      have r3:=(bel6.block _ (lt_of_heap RR2.out)).trans RR2.out
      have OO3:=hid' (own_down OO2.out bel6)
      have BE3:=hid' (BE2.out.trans (bel6.mono BE2.out.size))
      have y0:=cell_of_row _ _ 0 _ _ _ rn
      have y1:=cell_of_row _ _ 1 _ _ _ rn
      have y2:=cell_of_row _ _ 2 _ _ _ rn
      simp at y0 y1 y2
      have x0:=frozen_of_row _ _ 0 _ _ rn
      have x1:=frozen_of_row _ _ 1 _ _ rn
      have x2:=frozen_of_row _ _ 2 _ _ rn
      have k0:=cell_of_row _ _ 0 _ _ _ r3
      have k1:=cell_of_row _ _ 1 _ _ _ r3
      have k2:=cell_of_row _ _ 2 _ _ _ r3
      simp at k0 k1 k2
      have RN3:=hid' rn
      clear rn r3 bel6 m7 m3 RN2 RR2 OO2 BE2
      by_cases hD:D = st.h
      ·have hDd:(st.h.toList == D.toList) = true:=by rw [str_eq];simp [hD]
       have HD:=hid' (HF0'.out hD)
       clear hD
       go_wp2
       refine bodyPost_ret (results_row_tmp2 (p:=2) (u:=3) (v:=4) rfl _ _ w.heap.size #[.int .i64 vu,.int .i64 vx,.slice ao st.ls.length lcap] rfl (load_rtable (z3_row RN3.out) rfl)) rfl ?_
       rw [HD.out]
       exact ⟨.slice ao st.ls.length lcap,rfl,own_mono' (z3_own RN3.out OO3.out (by decide)) (by omega),z3_below BE3.out (Nat.le_refl _)⟩
      ·have hDd:(st.h.toList == D.toList) = false:=by rw [str_eq];simp;exact fun e => hD e.symm
       have HD:=hid' (HF7'.out hD)
       clear hD
       go_wp2
       refine bodyPost_ret (results_row_tmp2 (p:=2) (u:=3) (v:=4) rfl _ _ w.heap.size #[.int .i64 0,.int .i64 0,.slice none 0 0] rfl (load_rtable (z3_row RN3.out) rfl)) rfl ?_
       rw [HD.out]
       exact rgot_no rfl (z3_below BE3.out (Nat.le_refl _))
end Go.Proofs.YtmmkhodaljpjgaaGreatDoor
namespace Go.Proofs.YtmmkhodaljpjgaaGreatDoor
open Go.RowKit
attribute [local go_sem ↓] Go.wp_at_zero Go.wp_at_succ
theorem RSrv.putR {b:Nat} {s:Sv} {dv bv cv hv:Value} {w:World} (h:RSrv b s dv bv cv hv w):RSrv b s.refuse dv bv cv hv (w.setCell ⟨b,11,none⟩ (.int .i64 (s.ref + 1))):=by
 refine ⟨?_,own_set (p:=⟨b,11,none⟩) h.dd h.row (by decide) _,own_set (p:=⟨b,11,none⟩) h.bb h.row (by decide) _,own_set (p:=⟨b,11,none⟩) h.cc h.row (by decide) _,own_set (p:=⟨b,11,none⟩) h.ss h.row (by decide) _⟩
 rw [heap_setCell_same _ _ _ _ _ _ h.row];rfl
theorem refused {b:Nat} {x:Sv} {dv bv cv hv:Value} {w w':World} (h:RSrv b x dv bv cv hv w) (hb:Below w.heap.size w w'):RPost b (rFoot b dv bv cv hv) w x.refuse (w'.setCell ⟨b,11,none⟩ (.int .i64 (x.ref + 1))) :=
 ⟨dv,bv,cv,hv,(h.below hb).putR,(Off.of_below hb).setCell (p:=⟨b,11,none⟩) (fun _ => .inl rfl) _,fun _ e => .inl e⟩
set_option maxRecDepth 100000 in
set_option maxHeartbeats 3200000 in
theorem ref_load_no (b:Nat) (x:Sv) (dv bv cv hv:Value) (t:ByteArray) (w:World) (hr:RSrv b x dv bv cv hv w) (ht:t.size ≤ 1000000) (hd:x.done.length ≤ 1000) (r0:0 ≤ x.ref) (r1:x.ref ≤ 1000000) (hne:x.loadErr (Txt.parse t) ≠ 0) :
  Calls Tryz.prog 65 #[.pointer (some ⟨b,0,none⟩),.string t] w fun e w' => e = .returned (.tuple #[.int .i64 (x.loadErr (Txt.parse t)),.int .i64 (Txt.parse t).num]) ∧ RPost b (rFoot b dv bv cv hv) w x.refuse w':=by
 have HR:=hid' hr
 have HP:=hid' (ref_parse t w ht)
 have HW:=hid' (Txt.parse_whole (t:=t))
 have HLE:Hid (x.loadErr (Txt.parse t) = if (Txt.parse t).err ≠ 0 then (Txt.parse t).err else if x.ld = true ∧ (Txt.parse t).up < x.up then 11 else if x.agrees (Txt.parse t).ls = false then 12 else 0):=rfl
 have HNE:=hid' hne
 clear hne hr
 generalize Txt.parse t = gt at *
 obtain ⟨gu,gx,gl,ge,gn⟩:=gt
 simp only at HP HW HLE HNE
 generalize x.loadErr ⟨gu,gx,gl,ge,gn⟩ = le at *
 go_enter Tryz.func65,Tryz.ntmps65
 go_wp2_with fail
 refine HP.out.mono ?_
 rintro e w1 ⟨lv,rfl,own1,hb1⟩
 simp only at own1
 obtain ⟨la,lcp,hlv⟩:=own_slice own1
 subst hlv
 have a1:=(Below.refl w1.heap.size w1).alloc (Nat.le_refl _) (.cells #[.int .i64 gu,.int .i64 gx,.slice la gl.length lcp] 33)
 have BA:=hid' (hb1.trans (a1.mono hb1.size))
 have TR:=hid' (heap_alloc_new w1 (.cells #[.int .i64 gu,.int .i64 gx,.slice la gl.length lcp] 33))
 have OA:=hid' (own_down own1 a1)
 clear own1 hb1 a1 HP
 go_upto_region 2 with fail
 generalize hV:w1.alloc (.cells #[.int .i64 gu,.int .i64 gx,.slice la gl.length lcp] 33) = V at *
 generalize hq:w1.heap.size = tb at *
 clear hV hq
 have RV:=hid' (HR.out.below BA.out)
 have q5:=cell_of_row _ _ 5 _ _ _ RV.out.row
 have q6:=cell_of_row _ _ 6 _ _ _ RV.out.row
 have t0:=cell_of_row _ _ 0 _ _ _ TR.out
 have t2:=cell_of_row _ _ 2 _ _ _ TR.out
 have q11:=cell_of_row _ _ 11 _ _ _ RV.out.row
 have f11:=frozen_of_row _ _ 11 _ _ RV.out.row
 simp at q5 q6 t0 t2 q11
 by_cases c0:ge = 0
 ·subst c0
  have e0:((0:Int) == 0) = true:=rfl
  by_cases c1:x.ld = true ∧ gu < x.up
  ·obtain ⟨hl,hu⟩:=c1
   have hle:le = 11:=by rw [HLE.out,if_neg (by simp),if_pos ⟨hl,hu⟩]
   subst hle
   rw [hl] at q5
   clear HNE HW
   go_quiet (fail)
   go_wp2
   go_ret2
   exact ⟨rfl,by exact refused HR.out (below_drewN BA.out nq)⟩
  ·have hle:le = if x.agrees gl = false then 12 else 0:=by rw [HLE.out,if_neg (by simp),if_neg c1]
   have ha:x.agrees gl = false:=by
    by_cases c:x.agrees gl = false
    ·exact c
    ·rw [if_neg c] at hle;exact absurd hle HNE.out
   rw [if_pos ha] at hle
   subst hle
   obtain ⟨hw,hn⟩:=HW.out rfl
   subst hn
   have hG:=Tab.good_of_whole hw
   have AG:=hid' (fun m:Nat => ref_agrees b w.heap.size x dv bv cv hv _ gl (V.drewN m) (RV.out.below (below_drewN (Below.refl _ _) m)) (own_down OA.out (below_drewN (Below.refl _ _) m)) hG.pos (by have:=hG.len;omega) hd hG.fine)
   rw [ha] at AG
   clear HNE HW hG hw
   cases hl:x.ld with
   | false =>
    rw [hl] at q5
    clear hl c1
    go_quiet (fail)
    go_wp2_with fail
    refine (AG.out _).mono ?_
    rintro e w3 ⟨rfl,m3,hw3⟩
    have B3:=hid' (show Below w.heap.size w w3 by rw [hw3,World.drewN_drewN];exact below_drewN BA.out _)
    have R3:=hid' (HR.out.below B3.out)
    have s11:=cell_of_row _ _ 11 _ _ _ R3.out.row
    have g11:=frozen_of_row _ _ 11 _ _ R3.out.row
    simp at s11
    clear hw3
    go_wp2
    go_ret2
    exact ⟨rfl,refused HR.out B3.out⟩
   | true =>
    rw [hl] at q5
    have hu:¬ gu < x.up:=fun h => c1 ⟨hl,h⟩
    clear hl c1
    go_quiet (fail)
    go_wp2_with fail
    refine (AG.out _).mono ?_
    rintro e w3 ⟨rfl,m3,hw3⟩
    have B3:=hid' (show Below w.heap.size w w3 by rw [hw3,World.drewN_drewN];exact below_drewN BA.out _)
    have R3:=hid' (HR.out.below B3.out)
    have s11:=cell_of_row _ _ 11 _ _ _ R3.out.row
    have g11:=frozen_of_row _ _ 11 _ _ R3.out.row
    simp at s11
    clear hw3
    go_wp2
    go_ret2
    exact ⟨rfl,refused HR.out B3.out⟩
 ·have hle:le = ge:=by rw [HLE.out,if_pos c0]
  subst hle
  have e0:(le == 0) = false:=by rw [beq_eq_false_iff_ne];exact c0
  have e1:(le != 0) = true:=bne_iff_ne.2 c0
  clear c0 HNE HW HLE
  go_quiet (fail)
  go_wp2
  go_ret2
  exact ⟨rfl,by exact refused HR.out (below_drewN BA.out nq)⟩
end Go.Proofs.YtmmkhodaljpjgaaGreatDoor
namespace Go.Proofs.YtmmkhodaljpjgaaGreatDoor
open Go.RowKit
structure LdV (b:Nat) (F:Nat → Prop) (w:World) (tb:Nat) (gu gx:Int) (lv:Value) (gl:List (Int × Int)) (s:Sv) (dv bv cv hv:Value) (wr:World):Prop where
 r:RSrv b s dv bv cv hv wr
 off:Off F w wr
 foot:∀ k,rFoot b dv bv cv hv k → F k ∨ w.heap.size ≤ k
 row:wr.heap[tb]? = some (.cells #[.int .i64 gu,.int .i64 gx,lv] 33 (0,0))
 own:wr.ownsRow w.heap.size 46 2 lv gl.length (flat gl)
 ne:∀ k,lv.ownBlock = some k → dv.ownBlock ≠ some k
def LdAt (b:Nat) (F:Nat → Prop) (w:World) (tb:Nat) (gu gx:Int) (lv:Value) (gl:List (Int × Int)) (s:Sv) (wr:World):Prop:=∃ dv bv cv hv,LdV b F w tb gu gx lv gl s dv bv cv hv wr
theorem LdV.below {b:Nat} {F:Nat → Prop} {w:World} {tb:Nat} {gu gx:Int} {lv:Value} {gl:List (Int × Int)} {s:Sv} {dv bv cv hv:Value} {W W':World} (h:LdV b F w tb gu gx lv gl s dv bv cv hv W) (hb:Below W.heap.size W W'):LdV b F w tb gu gx lv gl s dv bv cv hv W' :=
 ⟨h.r.below hb,h.off.then hb,h.foot,(hb.block _ (lt_of_heap h.row)).trans h.row,own_down h.own hb,h.ne⟩
theorem LdV.lv_lt {b:Nat} {F:Nat → Prop} {w:World} {tb:Nat} {gu gx:Int} {lv:Value} {gl:List (Int × Int)} {s:Sv} {dv bv cv hv:Value} {W:World} (h:LdV b F w tb gu gx lv gl s dv bv cv hv W) (k:Nat) (hk:lv.ownBlock = some k):k < W.heap.size:=by
 obtain ⟨_,_,hh⟩:=own_typ h.own hk;exact lt_of_heap hh
theorem LdV.putD {b:Nat} {F:Nat → Prop} {w:World} {tb:Nat} {gu gx:Int} {lv:Value} {gl:List (Int × Int)} {s:Sv} {dv bv cv hv dv':Value} {W w2:World} {L:List (Int × Int)} (h:LdV b F w tb gu gx lv gl s dv bv cv hv W)
  (hg:W.grownBy w2 dv.ownBlock) (own:w2.ownsRow 0 46 2 dv' L.length (flat L)) (hat:∀ k,dv'.ownBlock = some k → dv.ownBlock = some k ∨ W.heap.size ≤ k):LdAt b F w tb gu gx lv gl { s with done:=L } (w2.setCell ⟨b,8,none⟩ dv'):=by
 have sz:=h.off.size
 obtain ⟨dv1,bv1,cv1,hv1,r1,o1,f1⟩:=rpost_D h.r h.off h.foot hg own (fun k e => by
  rcases hat k e with q | q
  ·exact .inl q
  ·exact .inr (by omega))
 have row2:=grown_heap (t:=119) hg h.r.dd h.r.row (by decide)
 have trow2:=grown_heap (t:=33) hg h.r.dd h.row (by decide)
 have hl2:w2.ownsRow w.heap.size 46 2 lv gl.length (flat gl):=own_same h.own (fun k e => hg.block k (h.lv_lt k e) (fun q => h.ne k e q.symm))
 refine ⟨dv1,bv1,cv1,hv1,r1,o1,f1,?_,own_set (p:=⟨b,8,none⟩) hl2 row2 (by decide) _,fun k e q => ?_⟩
 ·exact ((Keep.refl 33 w2).setCell (p:=⟨b,8,none⟩) row2 (by decide) dv') _ _ _ trow2
 ·have e1:dv1 = dv':=by
   have r:=r1.row
   rw [heap_setCell_same _ _ _ _ _ _ row2] at r
   simp at r
   exact r.1.symm
  rw [e1] at q
  rcases hat k q with c | c
  ·exact h.ne k e c
  ·have:=h.lv_lt k e;omega
theorem LdV.putB {b:Nat} {F:Nat → Prop} {w:World} {tb:Nat} {gu gx:Int} {lv:Value} {gl:List (Int × Int)} {s:Sv} {dv bv cv hv bv':Value} {W w2:World} {L:List (Int × Int)} (h:LdV b F w tb gu gx lv gl s dv bv cv hv W)
  (hg:W.grownBy w2 bv.ownBlock) (own:w2.ownsRow 0 35 2 bv' L.length (flat L)) (hat:∀ k,bv'.ownBlock = some k → bv.ownBlock = some k ∨ W.heap.size ≤ k):LdAt b F w tb gu gx lv gl { s with began:=L } (w2.setCell ⟨b,9,none⟩ bv'):=by
 have sz:=h.off.size
 obtain ⟨dv1,bv1,cv1,hv1,r1,o1,f1⟩:=rpost_B h.r h.off h.foot hg own (fun k e => by
  rcases hat k e with q | q
  ·exact .inl q
  ·exact .inr (by omega))
 have row2:=grown_heap (t:=119) hg h.r.bb h.r.row (by decide)
 have trow2:=grown_heap (t:=33) hg h.r.bb h.row (by decide)
 have hl2:=own_grown h.own hg h.r.bb (by decide)
 refine ⟨dv1,bv1,cv1,hv1,r1,o1,f1,?_,own_set (p:=⟨b,9,none⟩) hl2 row2 (by decide) _,fun k e => ?_⟩
 ·exact ((Keep.refl 33 w2).setCell (p:=⟨b,9,none⟩) row2 (by decide) bv') _ _ _ trow2
 ·have e1:dv1 = dv:=by
   have r:=r1.row
   rw [heap_setCell_same _ _ _ _ _ _ row2] at r
   simp at r
   exact r.1.symm
  rw [e1]
  exact h.ne k e
theorem LdV.putC {b:Nat} {F:Nat → Prop} {w:World} {tb:Nat} {gu gx:Int} {lv:Value} {gl:List (Int × Int)} {s:Sv} {dv bv cv hv cv':Value} {W w2:World} {L:List Cm} (h:LdV b F w tb gu gx lv gl s dv bv cv hv W)
  (hg:W.grownBy w2 cv.ownBlock) (own:w2.ownsRow 0 123 5 cv' L.length (flatC L)) (hat:∀ k,cv'.ownBlock = some k → cv.ownBlock = some k ∨ W.heap.size ≤ k):LdAt b F w tb gu gx lv gl { s with com:=L } (w2.setCell ⟨b,10,none⟩ cv'):=by
 have sz:=h.off.size
 have row2:=grown_heap (t:=119) hg h.r.cc h.r.row (by decide)
 have trow2:=grown_heap (t:=33) hg h.r.cc h.row (by decide)
 have hl2:=own_grown h.own hg h.r.cc (by decide)
 have d2:=own_grown h.r.dd hg h.r.cc (by decide)
 have b2:=own_grown h.r.bb hg h.r.cc (by decide)
 have s2:=own_grown h.r.ss hg h.r.cc (by decide)
 refine ⟨dv,bv,cv',hv,⟨?_,own_set (p:=⟨b,10,none⟩) d2 row2 (by decide) _,own_set (p:=⟨b,10,none⟩) b2 row2 (by decide) _,own_set (p:=⟨b,10,none⟩) own row2 (by decide) _,own_set (p:=⟨b,10,none⟩) s2 row2 (by decide) _⟩,(h.off.grown hg (fun k e hk => ?_)).setCell (fun hk => ?_) _,fun k e => ?_,?_,own_set (p:=⟨b,10,none⟩) hl2 row2 (by decide) _,h.ne⟩
 ·rw [heap_setCell_same _ _ _ _ _ _ row2];rfl
 ·rcases h.foot k (.inr (.inr (.inr (.inl e)))) with q | q
  ·exact q
  ·omega
 ·rcases h.foot b (.inl rfl) with q | q
  ·exact q
  ·simp only at hk;omega
 ·rcases e with e | e | e | e | e
  ·exact h.foot k (.inl e)
  ·exact h.foot k (.inr (.inl e))
  ·exact h.foot k (.inr (.inr (.inl e)))
  ·rcases hat k e with q | q
   ·exact h.foot k (.inr (.inr (.inr (.inl q))))
   ·exact .inr (by omega)
  ·exact h.foot k (.inr (.inr (.inr (.inr e))))
 ·exact ((Keep.refl 33 w2).setCell (p:=⟨b,10,none⟩) row2 (by decide) cv') _ _ _ trow2
theorem LdV.putT {b:Nat} {F:Nat → Prop} {w:World} {tb:Nat} {gu gx:Int} {lv:Value} {gl:List (Int × Int)} {s:Sv} {dv bv cv hv:Value} {W:World} (h:LdV b F w tb gu gx lv gl s dv bv cv hv W) :
  LdAt b F w tb gu gx lv gl (s.stamp gu gx) ((((W.setCell ⟨b,5,none⟩ (.bool true)).setCell ⟨b,6,none⟩ (.int .i64 gu)).setCell ⟨b,7,none⟩ (.int .i64 gx)).setCell ⟨b,10,none⟩ (.slice none 0 0)):=by
 have r0:=h.r.row
 have r1:=heap_setCell_same _ _ 5 _ _ (.bool true) r0
 have r2:=heap_setCell_same _ _ 6 _ _ (.int .i64 gu) r1
 have r3:=heap_setCell_same _ _ 7 _ _ (.int .i64 gx) r2
 have ow:∀ {B e size n:Nat} {v:Value} {xs:List Value},W.ownsRow B e size v n xs → 119 ≠ e → ((((W.setCell ⟨b,5,none⟩ (.bool true)).setCell ⟨b,6,none⟩ (.int .i64 gu)).setCell ⟨b,7,none⟩ (.int .i64 gx)).setCell ⟨b,10,none⟩ (.slice none 0 0)).ownsRow B e size v n xs:=fun o he =>
  own_set (p:=⟨b,10,none⟩) (own_set (p:=⟨b,7,none⟩) (own_set (p:=⟨b,6,none⟩) (own_set (p:=⟨b,5,none⟩) o r0 he _) r1 he _) r2 he _) r3 he _
 have bF:b < w.heap.size → F b:=fun hk => by
  rcases h.foot b (.inl rfl) with q | q
  ·exact q
  ·omega
 refine ⟨dv,bv,.slice none 0 0,hv,⟨?_,ow h.r.dd (by decide),ow h.r.bb (by decide),World.ownsRow_nil _ _ _ _,ow h.r.ss (by decide)⟩,(((h.off.setCell (p:=⟨b,5,none⟩) bF _).setCell (p:=⟨b,6,none⟩) bF _).setCell (p:=⟨b,7,none⟩) bF _).setCell (p:=⟨b,10,none⟩) bF _,fun k e => ?_,?_,ow h.own (by decide),h.ne⟩
 ·rw [heap_setCell_same _ _ _ _ _ _ r3];rfl
 ·rcases e with e | e | e | e | e
  ·exact h.foot k (.inl e)
  ·exact h.foot k (.inr (.inl e))
  ·exact h.foot k (.inr (.inr (.inl e)))
  ·simp [Value.ownBlock] at e
  ·exact h.foot k (.inr (.inr (.inr (.inr e))))
 ·exact ((((Keep.refl 33 W).setCell (p:=⟨b,5,none⟩) r0 (by decide) _).setCell (p:=⟨b,6,none⟩) r1 (by decide) _).setCell (p:=⟨b,7,none⟩) r2 (by decide) _).setCell (p:=⟨b,10,none⟩) r3 (by decide) _ _ _ _ h.row
end Go.Proofs.YtmmkhodaljpjgaaGreatDoor
