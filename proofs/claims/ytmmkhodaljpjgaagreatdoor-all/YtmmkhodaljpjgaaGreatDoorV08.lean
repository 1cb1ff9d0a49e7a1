import Derived.Test.YtmmkhodaljpjgaaGreatDoorV07
import Derived.StillTactics
import Derived.Deep.DrawnRows
import Derived.Deep.RegionLaw
import Derived.Deep.QuietTactic
import Derived.BigQuiet
import Derived.Deep.DeepMust
import Derived.Deep.Cut
import Derived.Deep.CutBlock
namespace Go.Proofs.YtmmkhodaljpjgaaGreatDoor
open Go.RowKit
theorem lies_api {w:World} {B g cap:Nat} {ls:List (Int × Int)} (h:w.ownsRow B 84 2 (.slice (some ⟨g,0,none⟩) ls.length cap) ls.length (flat ls)):Lies w g ls:=fun i hi =>
 ⟨by rw [h.cellAt (i * 2) (by omega)];exact flat_at0 ls i hi,by rw [h.cellAt (i * 2 + 1) (by omega)];exact flat_at1 ls i hi⟩
theorem can_follow_own (B:Nat) (lv:Value) (ls:List (Int × Int)) (a o:Int) (w:World) (wa:(Lit.int .i64 a).wf = true) (wo:(Lit.int .i64 o).wf = true) (hv:w.ownsRow B 84 2 lv ls.length (flat ls)) (h40:ls.length ≤ 40)
  (hok:∀ p ∈ ls,0 ≤ p.2 ∧ p.2 ≤ 200):Calls Tryz.prog 169 #[lv,.agg #[.int .i64 a,.int .i64 o]] w fun e w' => e = .returned (.bool (Tab.follows ls a o)) ∧ Below w.heap.size w w':=by
 rcases hv.2 with ⟨rfl,e⟩ | ⟨g,cap,cur,rfl,_⟩
 ·obtain rfl:ls = []:=List.eq_nil_of_length_eq_zero e
  exact can_follow_nil none 0 a o w wa wo
 ·have:=can_follow g cap ls.length ls a o w wa wo (Nat.le_refl _) h40 (lies_api hv) (hv.lt _ rfl).2 (by rw [List.take_length];exact hok)
  rw [List.take_length] at this
  exact this
theorem entry_text {ls:List (Int × Int)} {ws:List ByteArray} (h0:¬ ws.length = 0) (h:ws.length < 2 ∨ Txt.isNum (ws.getD 0 Txt.em) = false ∨ Txt.isNum (ws.getD 1 Txt.em) = false ∨ (2 < ws.length ∧ Txt.beg (ws.getD 2 Txt.em) ⟨#[35]⟩ = false)):Txt.entryErr ls ws = 3:=by
 unfold Txt.entryErr
 rw [if_neg h0]
 by_cases a:ws.length < 2
 ·rw [if_pos a]
 ·rw [if_neg a]
  by_cases b:Txt.isNum (ws.getD 0 Txt.em) = false
  ·rw [if_pos b]
  ·rw [if_neg b]
   by_cases c:Txt.isNum (ws.getD 1 Txt.em) = false
   ·rw [if_pos c]
   ·rw [if_neg c,if_pos]
    rcases h with h | h | h | h
    ·exact absurd h a
    ·exact absurd h b
    ·exact absurd h c
    ·exact h
set_option maxRecDepth 100000 in
set_option maxHeartbeats 1000000 in
theorem take_entry_text (bR:Nat) (st:Txt.St) (v:Value) (ws:List ByteArray) (w:World) (hR:Rd w bR st) (hW:Ws w v ws)
  (h:ws.length < 2 ∨ Txt.isNum (ws.getD 0 Txt.em) = false ∨ Txt.isNum (ws.getD 1 Txt.em) = false ∨ (2 < ws.length ∧ Txt.beg (ws.getD 2 Txt.em) ⟨#[35]⟩ = false)) :
  Calls Tryz.prog 164 #[.pointer (some ⟨bR,0,none⟩),v] w fun e w' => e = .returned (.int .i64 (Txt.takeE st ws).1) ∧ ((Txt.takeE st ws).1 = 0 → Rd w' bR (Txt.takeE st ws).2) ∧ Below bR w w':=by
 have hlen:=hW.len
 by_cases h0:ws.length = 0
 ·have H:Hid ((Txt.takeE st ws).1 = 0):=by show Txt.entryErr st.ls ws = 0;unfold Txt.entryErr;rw [if_pos h0]
  have HS:Hid ((Txt.takeE st ws).2 = st):=by show (if _ then _ else _) = _;rw [if_pos h0]
  obtain ⟨ao,cap,rfl⟩:=hW.form
  rw [h0]
  have HR:=hid' hR
  clear hR hW h h0 hlen
  go_enter Tryz.func164,Tryz.ntmps164
  go_wp2
  go_ret
  exact ⟨ret_int H.out.symm,fun _ => by rw [HS.out];exact HR.out,Below.refl _ _⟩
 have H:Hid ((Txt.takeE st ws).1 = 3):=entry_text h0 h
 obtain ⟨g,cap,rfl,hgl,hc⟩:=hW.at' (by omega)
 have hl0:((ws.length:Int) == 0) = false:=by rw [beq_eq_false_iff_ne];omega
 by_cases h2:ws.length < 2
 ·clear h h0 hc hW hR
  go_enter Tryz.func164,Tryz.ntmps164
  go_wp2
  go_ret
  exact ⟨ret_int H.out.symm,no_err H.out (by decide),Below.refl _ _⟩
 have c0:=hc 0 (by omega)
 have c1:=hc 1 (by omega)
 have z0:=hW.sz 0
 have z1:=hW.sz 1
 have N0:=hid' (is_number (ws.getD 0 Txt.em) w (by omega))
 have N1:=hid' (is_number (ws.getD 1 Txt.em) w (by omega))
 by_cases n0:Txt.isNum (ws.getD 0 Txt.em) = false
 ·rw [n0] at N0
  clear h h0 hc hW hR n0 N1 c1 z1
  generalize ws.getD 0 Txt.em = s0 at *
  go_enter Tryz.func164,Tryz.ntmps164
  go_wp2_with (go_at_call 190;refine N0.out.mono ?_;rintro e w' ⟨rfl,rfl⟩)
  go_ret
  exact ⟨ret_int H.out.symm,no_err H.out (by decide),Below.refl _ _⟩
 have n0':Txt.isNum (ws.getD 0 Txt.em) = true:=by simpa using n0
 rw [n0'] at N0
 by_cases n1:Txt.isNum (ws.getD 1 Txt.em) = false
 ·rw [n1] at N1
  clear h h0 hc hW hR n0 n0' n1
  generalize ws.getD 0 Txt.em = s0 at *
  generalize ws.getD 1 Txt.em = s1 at *
  go_enter Tryz.func164,Tryz.ntmps164
  go_wp2_with fail
  refine N0.out.mono ?_
  rintro e w' ⟨rfl,rfl⟩
  go_wp2_with fail
  refine N1.out.mono ?_
  rintro e w' ⟨rfl,rfl⟩
  go_wp2
  go_ret
  exact ⟨ret_int H.out.symm,no_err H.out (by decide),Below.refl _ _⟩
 have n1':Txt.isNum (ws.getD 1 Txt.em) = true:=by simpa using n1
 rw [n1'] at N1
 have h3:2 < ws.length ∧ Txt.beg (ws.getD 2 Txt.em) ⟨#[35]⟩ = false:=by
  rcases h with h | h | h | h
  ·exact absurd h h2
  ·exact absurd h n0
  ·exact absurd h n1
  ·exact h
 obtain ⟨h3,hb⟩:=h3
 have c2:=hc 2 h3
 have HB:=hid' (begins_any (ws.getD 2 Txt.em) ⟨#[35]⟩ w)
 rw [hb] at HB
 clear h h0 hc hW hR n0 n0' n1 n1' hb
 generalize ws.getD 0 Txt.em = s0 at *
 generalize ws.getD 1 Txt.em = s1 at *
 generalize ws.getD 2 Txt.em = s2 at *
 go_enter Tryz.func164,Tryz.ntmps164
 go_wp2_with fail
 refine N0.out.mono ?_
 rintro e w' ⟨rfl,rfl⟩
 go_wp2_with fail
 refine N1.out.mono ?_
 rintro e w' ⟨rfl,rfl⟩
 go_wp2_with (go_at_call 159;refine HB.out.mono ?_;rintro e w' ⟨rfl,rfl⟩)
 go_ret
 exact ⟨ret_int H.out.symm,no_err H.out (by decide),Below.refl _ _⟩
end Go.Proofs.YtmmkhodaljpjgaaGreatDoor
