import Derived.Test.YtmmkhodaljpjgaaGreatDoorV43
import Derived.Test.YtmmkhodaljpjgaaGreatDoorV44
import Derived.Test.YtmmkhodaljpjgaaGreatDoorTie
import Derived.Test.YtmmkhodaljpjgaaGreatDoorCards
import Derived.LaidMore
import Derived.Stop.Joined
import Derived.SevenTiedAt
import Derived.ChangeOld
import Derived.Below
namespace Go.Proofs.YtmmkhodaljpjgaaGreatDoor.all
open Go.ChangeShapes Go.WideShapes Go.ChangeAt Go.RowKit
set_option linter.unusedVariables false
theorem pows_of_laid {W : World} {laid : List (String × DataW Unit)} (hm : ("internal/strconv.uint64pow10", Lib.tabData .u64 Lib.pow10Tab) ∈ laid) (h : laidMet Tryz.prog laid W) : Pows W :=
 tab_of_laid (P:=Tryz.prog) (g:=1) (by kernel_rfl) (by kernel_rfl) Tryz.underlying239 Tryz.underlying220 (by kernel_rfl) (by kernel_rfl) hm h
theorem script_alloc {w:World} {ao:Option Addr} {ops:List Op} (h:Script w ao ops) (o:Obj):Script (w.alloc o) ao ops:=by
 refine ⟨h.short,fun hp => ?_⟩
 obtain ⟨b,off,e,hb,hc⟩:=h.some hp
 refine ⟨b,off,e,by simp;omega,fun k hk j hj => ?_⟩
 rw [((Below.refl w.heap.size w).alloc (Nat.le_refl _) o).cell (p:=⟨b,off + k * 7 + j,none⟩) hb]
 exact hc k hk j hj
theorem walk (ao:Option Addr) (cap:Nat) (ops:List Op) (w:World) (hS:Script w ao ops) (hlen:ops.length ≤ 140737488351232) (hwf:∀ o ∈ ops,o.Wf) (hT:Table w) (hPw:Pows w) :
  Calls Tryz.prog 11 #[.slice ao ops.length cap] w fun e w' => e = .returned (.bool true) ∧ Below w.heap.size w w':=by
 have hP:=plays_any (X:=fun B => srvXs PS ps_law B) (fun _ _ => ⟨[],many_none⟩) ao cap ops [7,8,9,10,11,12,13,14,15,16,17,18,19,20,21,22] w.heap.size 16 (w.alloc (.cells #[.int .i64 7,.int .i64 8,.int .i64 9,.int .i64 10,.int .i64 11,.int .i64 12,.int .i64 13,.int .i64 14,.int .i64 15,.int .i64 16,.int .i64 17,.int .i64 18,.int .i64 19,.int .i64 20,.int .i64 21,.int .i64 22] 3)) (script_alloc hS _) hlen (by decide)
  (fun j hj => by
   rw [cell_of_row _ _ _ _ _ _ (heap_alloc_new w _)]
   match j,hj with
   | 0,_ => rfl
   | 1,_ => rfl
   | 2,_ => rfl
   | 3,_ => rfl
   | 4,_ => rfl
   | 5,_ => rfl
   | 6,_ => rfl
   | 7,_ => rfl
   | 8,_ => rfl
   | 9,_ => rfl
   | 10,_ => rfl
   | 11,_ => rfl
   | 12,_ => rfl
   | 13,_ => rfl
   | 14,_ => rfl
   | 15,_ => rfl
   | k + 16,h => exact absurd h (Nat.not_lt.2 (Nat.le_add_left 16 k))) (by simp) hwf (fun k hk => by simp at hk;omega)
  (fun o ho hk hok B n wr hB hn hb => by
   have TB:=hT.below ((Below.refl w.heap.size w).alloc (Nat.le_refl _) (.cells #[.int .i64 7,.int .i64 8,.int .i64 9,.int .i64 10,.int .i64 11,.int .i64 12,.int .i64 13,.int .i64 14,.int .i64 15,.int .i64 16,.int .i64 17,.int .i64 18,.int .i64 19,.int .i64 20,.int .i64 21,.int .i64 22] 3))
   have PB:=hPw.below ((Below.refl w.heap.size w).alloc (Nat.le_refl _) (.cells #[.int .i64 7,.int .i64 8,.int .i64 9,.int .i64 10,.int .i64 11,.int .i64 12,.int .i64 13,.int .i64 14,.int .i64 15,.int .i64 16,.int .i64 17,.int .i64 18,.int .i64 19,.int .i64 20,.int .i64 21,.int .i64 22] 3))
   simp at hk
   rcases hk with hk | hk | hk | hk | hk | hk | hk | hk | hk | hk | hk | hk | hk | hk | hk | hk
   ·exact does_dated o (.inl hk) B n wr
   ·exact does_dated o (.inr hk) B n wr
   ·exact does_digest _ TB o hk hok B n wr hB (by omega) hb
   ·exact does_parse _ TB o hk hok B n wr hB (by omega) hb
   ·exact does_print _ TB PB o hk B n wr hB hn hb
   ·exact does_labelled o (.inl hk) B n wr hn
   ·exact does_labelled o (.inr (.inl hk)) B n wr hn
   ·exact does_labelled o (.inr (.inr hk)) B n wr hn
   ·exact kind_step hn hk
   ·exact kind_smear hok hn hk
   ·exact kind_adv hok hn hk
   ·exact kind_load TB hB hb hok hn hk
   ·exact kind_now hok hn hk
   ·exact kind_hear hok hn hk
   ·exact kind_answer hok hn hk
   ·exact kind_look hok hn hk)
 have HP:=hid' hP
 clear hP hS hwf hT hPw
 go_enter Tryz.func11,Tryz.ntmps11
 go_wp2_with fail
 refine HP.out.mono ?_
 rintro e w1 ⟨rfl,hb⟩
 have HB:=hid' hb
 clear hb HP
 go_wp2
 go_ret
 exact ⟨rfl,((Below.refl w.heap.size w).alloc (Nat.le_refl _) _).trans (HB.out.mono (by simp))⟩
theorem own:ownKnob Tryz.prog.godebug = none:=by kernel_rfl
theorem laidOut:laidOutB Tryz.prog = true:=by kernel_rfl
theorem door_met (os:Os) (args:Array Value):laidMetH Tryz.prog Rows.allRow.laid ((World.doorLaid Tryz.prog 400 os).forCall (fun _ _ => 0) ⟨#[],args,[]⟩).memory :=
 laidMetH_of_parts3 (fuel:=8) (laidMet_of_run' 8 (by kernel_rfl) (by kernel_rfl)) (by kernel_rfl) (by kernel_rfl)
theorem of_laid {W:World} (h:laidMetH Tryz.prog Rows.allRow.laid W):Table W ∧ Pows W:=by
 rw [MakeChecks.laidMetH_plain _ _ _ (by kernel_rfl)] at h
 exact ⟨table_of_laid (by first | exact .head _ | exact .tail _ (.head _) | exact .tail _ (.tail _ (.head _)) | exact .tail _ (.tail _ (.tail _ (.head _)))) h,
  pows_of_laid (by first | exact .head _ | exact .tail _ (.head _) | exact .tail _ (.tail _ (.head _)) | exact .tail _ (.tail _ (.tail _ (.head _)))) h⟩
set_option maxRecDepth 100000 in
theorem lifted (os:Os) (started:os.Started) (H:Type) (enc:TypeId × Value → H) :
  ReturnsInHanded {} Tryz.checked os 11 .any (fun w args => (Rows.allSpec.pre enc Tryz.prog Tryz.f11 [] false w args ∧ laidMetH Tryz.prog Rows.allRow.laid w) ∧ sizedMet enc Tryz.prog Tryz.f11 (OpenSpec.ofChange Rows.allSpec) false w args)
   (Rows.allSpec.post enc Tryz.prog Tryz.f11 false true false false):=by
 refine returnsInHanded_of_change_and (C:=Tryz.checked) (X:=fun w _ => laidMetH Tryz.prog Rows.allRow.laid w) (fun _ _ _ hh h => h.of_heap hh) own started (by kernel_rfl) Tryz.func11
  (ChangeSpec.witness_shaped (enc:=enc) (C:=Tryz.checked) (os:=os) (X:=fun w _ => laidMetH Tryz.prog Rows.allRow.laid w) false (World.doorLaid Tryz.prog 400 os) #[.slice none 0 0] 8 rfl (World.shaped_of_RefB (by kernel_rfl) (by kernel_rfl)) (by kernel_rfl) (by kernel_rfl) (by kernel_rfl) (door_met os _)) ?_
 intro W base args ds gs before hval0 hW _ hsz0 hL _
 have hval:∀ (j:Nat) t v,Tryz.f11.params[j]? = some t → args[j]? = some v → Value.okWide Tryz.prog W .any base t v:=hval0
 have hW':=hW
 obtain ⟨p,q,hA0,hV,rfl,hfz,hnd⟩:=hW
 have hA:DataW.TrodAll enc Tryz.prog W 0 (fun _ => true) true Tryz.f11.params.toList args.toList ds p:=hA0
 have hsz:(DataW.weightsEach Tryz.prog (Tryz.f11.params.toList ++ Rows.allSpec.plain.varTypes Tryz.prog) (ds ++ gs)).all (fun n => decide (n ≤ reachBytes)) = true:=hsz0
 rw [Tryz.params11] at hA hval hsz
 obtain ⟨v0,d0,hargs,rfl,h0⟩:=trodAll_one hA
 obtain rfl:args = #[v0]:=by cases args;simp_all
 obtain ⟨rfl,rfl⟩:=trodVars_none hV
 obtain ⟨a0,len0,cap0,rfl⟩:=okWide_slice Tryz.underlying22 (hval 0 22 v0 rfl rfl)
 have k0:=h0
 have lt0:∀ x ∈ p,x.block < W.heap.size:=by obtain ⟨m,hm⟩:=k0;exact DataW.trod_lt m _ _ _ hm
 have hsz1:(DataW.weightsEach Tryz.prog [22] [d0]).all (fun n => decide (n ≤ reachBytes)) = true:=hsz
 obtain ⟨fuel,hf⟩:=h0
 obtain ⟨ao,cap,ops,hv,hS,hlen,hwf⟩:=open_script (x:=(d0,p)) (by simpa [Value.cells] using hf) hsz1
 obtain ⟨rfl,rfl,rfl⟩:=Value.slice.inj hv
 clear hA0 hval0
 refine (walk _ _ ops W hS hlen hwf (of_laid hL).1 (of_laid hL).2).mono fun e W' ⟨he,bel⟩ => ?_
 subst he
 exact ⟨_,rfl,_,_,_,[],_,[],hW',trodAll_mk1 (shut_bool Tryz.underlying4 _),trodAll_mk1 (Below.trod laidOut (by kernel_rfl) (of_decide_eq_true (by kernel_rfl)) k0 bel lt0),rfl,bel.frame _,fun h => by cases h⟩
theorem over:Rows.AllSaid :=
 OpenClaim.holds_of_wide 11 Tryz.f11 rfl rfl rfl rfl rfl rfl rfl ⟨rfl,rfl,rfl,rfl,rfl⟩ rfl rfl rfl rfl rfl (by kernel_rfl) Tryz.func11 (by kernel_rfl)
  (of_decide_eq_true (by kernel_rfl)) (by unfold Func.isWrapper;first | (rw [if_pos (by decide +kernel)];kernel_rfl) | (rw [if_neg (by decide +kernel)];exact ⟨rfl,rfl⟩))
  (fun os started H enc _ => lifted os started H enc)
end Go.Proofs.YtmmkhodaljpjgaaGreatDoor.all
namespace Go.Proofs.YtmmkhodaljpjgaaGreatDoor
open Go
theorem all_holds:Rows.AllCardSaid :=
 Claim7.holds_tied_plain_at .later [] [.data, .data, .data, .data] true Rows.allCard.stood.harness false
  all.over (fun _ h => by cases h) (by kernel_rfl) (fun _ h => by cases h) all_row_tie rfl ⟨rfl,rfl⟩ (by kernel_rfl) rfl
  (fun f fn hf hfn => by
   obtain rfl : f = 11 := Option.some.inj ((show Tryz.prog.funcNamed "smear/smearlaw.All" = some 11 by kernel_rfl).symm.trans hf) |>.symm
   obtain rfl:fn = Tryz.f11:=(Option.some.inj (Tryz.func11.symm.trans hfn)).symm
   exact ⟨by kernel_rfl,fun j t ht => by
    rw [Tryz.params11] at ht
    have hm:t ∈ [22]:=by simpa using Array.mem_of_getElem? ht
    have hall:([22].all fun u => !Tryz.prog.wantsStandIn u) = true:=by kernel_rfl
    exact (show Tryz.prog.wantsStandIn t = false by simpa using List.all_eq_true.1 hall t hm)⟩)
  (by kernel_rfl)
end Go.Proofs.YtmmkhodaljpjgaaGreatDoor
