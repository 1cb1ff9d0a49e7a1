import Derived.Test.YtmmkhodaljpjgaaGreatDoorDgst
namespace Go.Proofs.YtmmkhodaljpjgaaGreatDoor
open Go.RowKit

theorem first_ok : Sha.first.Ok := ⟨by decide, by decide, by decide, by decide, by decide⟩

theorem behind_ok (s : ByteArray) (e : Int) (n : Nat) : (Sha.behind s e n).Ok := by
  cases n with
  | zero => exact first_ok
  | succ n => exact Sha.mixed_ok _ _

theorem blocks_bd (n : Nat) (h : n ≤ 1000000000) : Sha.blocks n ≤ 20000000 := by
  unfold Sha.blocks; split <;> omega

theorem mix_cells (x : Sha.St) (l : List Int) (w : World) (hx : x.Ok) (hl : l.length = 80) (hlb : ∀ j, 0 ≤ l.getD j 0 ∧ l.getD j 0 < 4294967296) (hT : Table w) :
    Calls Tryz.prog 74 #[.agg x.cells, .agg (l.map (Value.int .u32)).toArray] w fun q w' => q = .returned (.agg (Sha.mixed l x).cells) ∧ Below w.heap.size w w' :=
  mix_any x l w hx hl hlb hT

theorem words_size (l : List Int) (h : l.length = 80) : ((l.map (Value.int .u32)).toArray).size = 80 := by simp [h]
theorem st_size (x : Sha.St) : x.cells.size = 5 := rfl
theorem st_one (x : Sha.St) : x.cells.all (·.oneCell') = true := by simp [Sha.St.cells, Value.oneCell']

set_option maxRecDepth 100000 in
set_option maxHeartbeats 1000000 in
theorem of_any (s : ByteArray) (w : World) (hs : s.size ≤ 1000000000) (hT : Table w) :
    Calls Tryz.prog 37 #[.string s] w fun q w' => q = .returned (.string ⟨(Sha.digest s).toArray⟩) ∧ Below w.heap.size w w' := by
  have hz := zero80.1
  have hp := hT.pos
  have hbl := blocks_bd s.size hs
  generalize hbn : Sha.blocks s.size = bn at *
  have HBN := hid hbn
  have HT := hid hT
  clear hbn hT
  go_enter Tryz.func37, Tryz.ntmps37
  go_wp2_with (go_at_call 72; refine (count_any _ _ hs).mono ?_; rw [HBN.out]; rintro q w' ⟨rfl, rfl⟩)
  go_loopw [5, 6] (fun i _ wr => ∃ k : Nat, k ≤ bn ∧ i = .int .i64 k ∧ Below w.heap.size w wr ∧ w.heap.size < wr.heap.size ∧ wr.heap[w.heap.size]? = some (.cells (Sha.behind s (bn * 64) k).cells 73 (0, 0))) (fun i _ _ => bn - (intOf i).toNat)
  case atStart => exact ⟨0, by omega, rfl, (Below.refl _ _).alloc (Nat.le_refl _) _, by simp, heap_alloc_new _ _⟩
  case round =>
    obtain ⟨k, hk, rfl, hbw, hlt0, hg⟩ := hrel
    by_cases hlt : k < bn
    · have HB := hid hbw
      have HG := hid hg
      have HTr := hid (HT.out.below hbw)
      clear hbw hg
      go_wp2_with fail
      refine (sched_any s (k * 64) (bn * 64) _ (by omega) (by omega) (by omega) (by omega) hs).mono ?_
      rintro q w1 ⟨rfl, hb1⟩
      have hw1 := hb1.size
      have HB1 := hid hb1
      have hl80 := Sha.wl_length s (k * 64) (bn * 64) 80
      have hlb := Sha.wl_bd s (k * 64) (bn * 64) 80
      have HN : Hid (Sha.behind s (bn * 64) (k + 1) = Sha.mixed (Sha.wl s (k * 64) (bn * 64) 80) (Sha.behind s (bn * 64) k)) := rfl
      have HOK := hid (behind_ok s (bn * 64) k)
      generalize Sha.wl s (k * 64) (bn * 64) 80 = l at *
      generalize Sha.behind s (bn * 64) k = x at *
      have HL := hid hl80
      have HLB := hid hlb
      have HW := hid (words_size l hl80)
      have HW1 := hid (words_one l)
      clear hl80 hlb hb1
      generalize hcs : (l.map (Value.int .u32)).toArray = cs at *
      have HCS := hid hcs
      clear hcs
      have GS : Hid ((w1.alloc (.cells (zeros 80) 135)).heap[w1.heap.size]? = some (.cells (zeros 80) 135 (0, 0))) := heap_alloc_new _ _
      have GX6 : Hid (((w1.alloc (.cells (zeros 80) 135)).setRow w1.heap.size cs).heap[w1.heap.size]? = some (.cells cs 135 (0, 0))) := setRow_heap _ _ _ _ _ _ GS.out
      have G1 : Hid (w1.heap[w.heap.size]? = some (.cells x.cells 73 (0, 0))) := by
        show _ = _; rw [HB1.out.block _ hlt0]; exact HG.out
      have GX3 : Hid (((w1.alloc (.cells (zeros 80) 135)).setRow w1.heap.size cs).heap[w.heap.size]? = some (.cells x.cells 73 (0, 0))) := by
        show _ = _; rw [setRow_other _ _ _ _ (by omega), Below.heap_alloc _ _ _ (by omega)]; exact G1.out
      have BX : Hid (Below w1.heap.size w1 ((w1.alloc (.cells (zeros 80) 135)).setRow w1.heap.size cs)) := below_setRow ((Below.refl _ _).alloc (Nat.le_refl _) _) (Nat.le_refl _)
      have SX : ((w1.alloc (.cells (zeros 80) 135)).setRow w1.heap.size cs).heap.size = w1.heap.size + 1 := by simp
      have I80 : Hid ((Tryz.prog.info? 135).map (·.size) = some cs.size) := by show _ = _; rw [HW.out]; exact zero80.2
      have I5 : Hid ((Tryz.prog.info? 73).map (·.size) = some x.cells.size) := zero5.2
      have SXH := hid SX
      clear SX
      go_wp2_with (first
        | ((with_reducible refine wpl_store (g := w1.heap.size) (cells := cs) GS.out I80.out ?_ HW1.out ?_ ?_ ?_); (rw [zeros_size, HW.out]); exact rfl; exact rfl)
        | ((with_reducible refine wpl_load (g := w.heap.size) GX3.out Tryz.underlying73 ?_ I5.out ?_ ?_); exact rfl; exact rfl)
        | ((with_reducible refine wpl_load (g := w1.heap.size) GX6.out Tryz.underlying135 ?_ I80.out ?_ ?_); exact rfl; exact rfl))
      generalize hX : (w1.alloc (.cells (zeros 80) 135)).setRow w1.heap.size cs = X at *
      clear hX
      have hsx := SXH.out
      have HTX : Table X := (HTr.out.below HB1.out).below BX.out
      have hm := mix_cells x l X HOK.out HL.out HLB.out HTX
      rw [HCS.out] at hm
      refine hm.mono ?_
      clear hm HTX
      rintro q w2 ⟨rfl, hb2⟩
      have G2 : Hid (w2.heap[w.heap.size]? = some (.cells x.cells 73 (0, 0))) := by show _ = _; rw [hb2.block _ (by omega)]; exact GX3.out
      have I5' : Hid ((Tryz.prog.info? 73).map (·.size) = some (Sha.mixed l x).cells.size) := zero5.2
      have H1' := hid (st_one (Sha.mixed l x))
      have hw2 := hb2.size
      have HB2 := hid hb2
      clear hb2
      go_wp2_with ((with_reducible refine wpl_store (g := w.heap.size) (cells := (Sha.mixed l x).cells) G2.out I5'.out ?_ H1'.out ?_ ?_ ?_); exact rfl; exact rfl; exact rfl)
      go_roundw
      case rel =>
        refine ⟨k + 1, by omega, by go_num, ?_, by simp; omega, ?_⟩
        · exact below_setRow (((HB.out.trans (HB1.out.mono (by omega))).trans (BX.out.mono (by omega))).trans (HB2.out.mono (by omega))) (Nat.le_refl _)
        · rw [HN.out]; exact setRow_heap _ _ _ _ _ _ G2.out
      case measure => simp [intOf]; omega
    · have ek : k = bn := by omega
      subst ek
      have HOK := hid (behind_ok s (k * 64) k)
      have HD : Hid (Sha.digest s = (Sha.behind s (k * 64) k).text 5) := by show _ = _; unfold Sha.digest; rw [HBN.out]
      generalize Sha.behind s (k * 64) k = x at *
      have HBW := hid hbw
      have HG := hid hg
      clear hbw hg
      go_wp2
      go_loop [7, 8] (fun t i => ∃ j : Nat, j ≤ 5 ∧ i = .int .i64 j ∧ t = .string ⟨(x.text j).toArray⟩) (fun _ i => 5 - (intOf i).toNat)
      case atStart => exact ⟨0, by omega, rfl, rfl⟩
      case round =>
        obtain ⟨j, hj, rfl, rfl⟩ := hrel
        by_cases hlt5 : j < 5
        · have hcell : wr.cell? ⟨w.heap.size, j, none⟩ = some (.int .u32 (x.word j)) := by
            rw [cell_of_row _ _ _ _ _ _ HG.out]; exact x.cells_at j hlt5
          have hwd := HOK.out.word j
          have htl := x.text_length j
          have HX : Hid (x.text (j + 1) = x.text j ++ Sha.hexs (x.word j) 8) := rfl
          have hxl := Sha.hexs_length (x.word j) 8
          have h1 : (ByteArray.mk (x.text j).toArray).size = 8 * j := by simpa [ByteArray.size] using htl
          have h2 : (ByteArray.mk (Sha.hexs (x.word j) 8).toArray).size = 8 := by simpa [ByteArray.size] using hxl
          clear htl hxl
          have HE : Hid (ByteArray.mk (x.text j).toArray ++ ByteArray.mk (Sha.hexs (x.word j) 8).toArray = ByteArray.mk (x.text (j + 1)).toArray) := by
            show _ = _; rw [HX.out]; congr 1
          have hcall := hex_any (x.word j) wr hwd.1 hwd.2
          have HCALL := hid hcall
          clear hcall
          generalize hA : ByteArray.mk (x.text j).toArray = A at *
          generalize hB : ByteArray.mk (Sha.hexs (x.word j) 8).toArray = B at *
          clear hA hB
          go_wp2_with (go_at_call 75; refine HCALL.out.mono ?_; rintro q w' ⟨rfl, rfl⟩)
          exact ⟨⟨j + 1, by omega, by go_num, by rw [HE.out]⟩, by simp [intOf]; omega⟩
        · have e5 : j = 5 := by omega
          subst e5
          go_wp2
          go_ret
          exact ⟨ret_str (by rw [HD.out]), HBW.out⟩

theorem digest_any (s : ByteArray) (w : World) (hs : s.size ≤ 1000000000) (hT : Table w) :
    Calls Tryz.prog 22 #[.string s] w fun q w' => q = .returned (.string ⟨(Sha.digest s).toArray⟩) ∧ Below w.heap.size w w' := by
  have HT := hid hT
  clear hT
  go_enter Tryz.func22, Tryz.ntmps22
  go_wp2_with fail
  refine (of_any s _ hs HT.out).mono ?_
  rintro q w1 ⟨rfl, hb⟩
  go_wp2
  go_ret
  exact ⟨rfl, hb⟩

end Go.Proofs.YtmmkhodaljpjgaaGreatDoor
