import Derived.Test.YtmmkhodaljpjgaaGreatDoorV02
import Derived.OwnWalk
import Derived.Deep.RegionHeld3
import Derived.Deep.AppendLies
import Derived.Deep.Draws
import Derived.Laws.Rows
import Derived.Laws.AppendOwnNone
import Derived.WalkSmall
import Derived.OpenShut
namespace Go.Proofs.YtmmkhodaljpjgaaGreatDoor
open Go.RowKit
theorem results_four {fn:Func} {t u v x:Tmp} (h:fn.results = #[.tmp t,.tmp u,.tmp v,.tmp x]) (tmps:Array Value) (P:Program) (w:World) :
  (results fn tmps).run P w = .ok (.tuple #[tmps.getD t undef,tmps.getD u undef,tmps.getD v undef,tmps.getD x undef]) w:=by
 simp [results,h]
theorem year_any (n:Int) (w:World) (h0:0 ≤ n) (h1:n < 401767) :
  Calls Tryz.prog 117 #[.int .i64 n] w fun e w' => (∃ y:Int,e = .returned (.int .i64 y) ∧ 1900 ≤ y ∧ y ≤ 2999 ∧ Cal.yb y ≤ n ∧ n < Cal.yb (y + 1)) ∧ w' = w:=by
 have g0:=Cal.yb_guess n h0
 go_enter Tryz.func117,Tryz.ntmps117
 go_wp2
 go_loop [3] (fun t => ∃ y:Int,1900 ≤ y ∧ y ≤ 2999 ∧ Cal.yb y ≤ n ∧ t = .int .i64 y) (fun t => (2999 - intOf t).toNat)
 case atStart => exact ⟨_,by omega,by omega,g0,rfl⟩
 case round =>
  obtain ⟨y,hy1,hy2,hy3,rfl⟩:=hrel
  clear g0
  by_cases hc:y < 2999 ∧ Cal.yb (y + 1) ≤ n
  ·obtain ⟨hlt,hd⟩:=hc
   go_wp2_with (go_at_call 115;refine (begin_any _ _ (by omega) (by omega)).mono ?_;rintro e w' ⟨rfl,rfl⟩)
   go_round
   case rel => exact ⟨y + 1,by omega,by omega,hd,rfl⟩
   case measure => simp [intOf];omega
  ·have hz:n < Cal.yb (y + 1):=by
    by_cases e:y = 2999
    ·have:=Cal.yb_last;rw [e];show _ < Cal.yb 3000;omega
    ·omega
   clear hc
   by_cases hlt:y < 2999
   all_goals
    go_wp2_with (go_at_call 115;refine (begin_any _ _ (by omega) (by omega)).mono ?_;rintro e w' ⟨rfl,rfl⟩)
    go_ret
    exact ⟨⟨y,rfl,hy1,hy2,hy3,hz⟩,rfl⟩
theorem civil_no (n:Int) (w:World) (h:n < 0 ∨ 401767 ≤ n) :
  Calls Tryz.prog 71 #[.int .i64 n] w fun e w' => e = .returned (.tuple #[.int .i64 0,.int .i64 0,.int .i64 0,.int .i64 1]) ∧ w' = w:=by
 rcases h with h | h
 ·go_enter Tryz.func71,Tryz.ntmps71
  go_wp2
  refine bodyPost_ret (results_four rfl _ _ _) rfl ?_
  exact ⟨rfl,rfl⟩
 ·have h':¬ n < 0:=by omega
  go_enter Tryz.func71,Tryz.ntmps71
  go_wp2
  refine bodyPost_ret (results_four rfl _ _ _) rfl ?_
  exact ⟨rfl,rfl⟩
set_option maxHeartbeats 400000 in
theorem civil_yes (n:Int) (w:World) (h0:0 ≤ n) (h1:n < 401767) :
  Calls Tryz.prog 71 #[.int .i64 n] w fun e w' => (∃ y m:Int,e = .returned (.tuple #[.int .i64 y,.int .i64 m,.int .i64 (n - Cal.yb y - Cal.cum y m + 1),.int .i64 0]) ∧ Cal.In y m n) ∧ w' = w:=by
 go_enter Tryz.func71,Tryz.ntmps71
 go_wp2_with fail
 refine (year_any n _ h0 h1).mono ?_
 rintro e w' ⟨⟨y,rfl,hy1,hy2,hy3,hy4⟩,rfl⟩
 have yb0:=Cal.yb_bd y hy1 (by omega)
 have ys:=Cal.yb_succ y
 have l01:=Cal.lp_01 y
 have HS:Hid (Cal.yb (y + 1) = Cal.yb y + 365 + Cal.lp y):=ys
 have hw:n - Cal.yb y < 366:=by omega
 clear ys
 go_wp2_with (go_at_call 115;refine (begin_any _ _ (by omega) (by omega)).mono ?_;rintro e w' ⟨rfl,rfl⟩)
 go_loop [7,8] (fun r k => ∃ m:Int,1 ≤ m ∧ m ≤ 12 ∧ k = .int .i64 m ∧ 0 ≤ n - Cal.yb y - Cal.cum y m ∧ r = .int .i64 (n - Cal.yb y - Cal.cum y m)) (fun _ k => (12 - intOf k).toNat)
 case atStart => exact ⟨1,by omega,by omega,rfl,by rw [Cal.cum_one];omega,by rw [Cal.cum_one];simp⟩
 case round =>
  obtain ⟨m,hm1,hm2,rfl,hr,rfl⟩:=hrel
  have cb:=Cal.cum_bd y m hm1 (by omega)
  have db:=Cal.dim_bd y m
  have cs:=Cal.cum_succ y m hm1 hm2
  by_cases hc:m < 12 ∧ Cal.dim y m ≤ n - Cal.yb y - Cal.cum y m
  ·obtain ⟨hm,hd⟩:=hc
   have HC:Hid (Cal.cum y (m + 1) = Cal.cum y m + Cal.dim y m):=cs
   clear cs
   go_wp2_with (go_at_call 114;refine (dim_any _ _ _ (by omega)).mono ?_;rintro e w' ⟨rfl,rfl⟩)
   go_round
   case rel => exact ⟨m + 1,by omega,by omega,rfl,by rw [HC.out];omega,by rw [HC.out];go_num⟩
   case measure => simp [intOf];omega
  ·have hv:n - Cal.yb y - Cal.cum y m < Cal.dim y m:=by
    by_cases e:m = 12
    ·subst e;have h13:Cal.cum y (12 + 1) = 365 + Cal.lp y:=Cal.cum_end y;have:=HS.out;omega
    ·omega
   clear hc cs
   by_cases hm:m < 12
   all_goals
    go_wp2_with (go_at_call 114;refine (dim_any _ _ _ (by omega)).mono ?_;rintro e w' ⟨rfl,rfl⟩)
    refine bodyPost_ret (results_four rfl _ _ _) rfl ?_
    exact ⟨⟨y,m,rfl,⟨hy1,hy2,hm1,hm2,by omega,by omega⟩⟩,rfl⟩
theorem smear_civil_no (n:Int) (w:World) (h:n < 0 ∨ 401767 ≤ n) :
  Calls Tryz.prog 35 #[.int .i64 n] w fun e w' => e = .returned (.tuple #[.int .i64 0,.int .i64 0,.int .i64 0,.int .i64 1]) ∧ w' = w:=by
 go_enter Tryz.func35,Tryz.ntmps35
 go_wp2_with (go_at_call 71;refine (civil_no _ _ h).mono ?_;rintro e w' ⟨rfl,rfl⟩)
 refine bodyPost_ret (results_four rfl _ _ _) rfl ?_
 exact ⟨rfl,rfl⟩
theorem smear_civil_yes (n:Int) (w:World) (h0:0 ≤ n) (h1:n < 401767) :
  Calls Tryz.prog 35 #[.int .i64 n] w fun e w' => (∃ y m:Int,e = .returned (.tuple #[.int .i64 y,.int .i64 m,.int .i64 (n - Cal.yb y - Cal.cum y m + 1),.int .i64 0]) ∧ Cal.In y m n) ∧ w' = w:=by
 go_enter Tryz.func35,Tryz.ntmps35
 go_wp2_with (go_at_call 71;refine (civil_yes _ _ h0 h1).mono ?_;rintro e w' ⟨⟨y,m,rfl,hin⟩,rfl⟩)
 refine bodyPost_ret (results_four rfl _ _ _) rfl ?_
 exact ⟨⟨y,m,rfl,hin⟩,rfl⟩
def NoDate (y m d:Int):Prop:=y < 1900 ∨ 2999 < y ∨ m < 1 ∨ 12 < m ∨ d < 1 ∨ Cal.dim y m < d
theorem day_no (y m d:Int) (w:World) (h:NoDate y m d) :
  Calls Tryz.prog 68 #[.int .i64 y,.int .i64 m,.int .i64 d] w fun e w' => e = .returned (.tuple #[.int .i64 0,.int .i64 1]) ∧ w' = w:=by
 unfold NoDate at h
 by_cases c1:y < 1900
 ·clear h
  go_enter Tryz.func68,Tryz.ntmps68
  go_wp2
  go_ret2
  exact ⟨rfl,rfl⟩
 by_cases c2:2999 < y
 ·clear h
  go_enter Tryz.func68,Tryz.ntmps68
  go_wp2
  go_ret2
  exact ⟨rfl,rfl⟩
 by_cases c3:m < 1
 ·clear h
  go_enter Tryz.func68,Tryz.ntmps68
  go_wp2
  go_ret2
  exact ⟨rfl,rfl⟩
 by_cases c4:12 < m
 ·clear h
  go_enter Tryz.func68,Tryz.ntmps68
  go_wp2
  go_ret2
  exact ⟨rfl,rfl⟩
 by_cases c5:d < 1
 ·clear h
  go_enter Tryz.func68,Tryz.ntmps68
  go_wp2
  go_ret2
  exact ⟨rfl,rfl⟩
 ·have c6:Cal.dim y m < d:=by omega
  clear h
  go_enter Tryz.func68,Tryz.ntmps68
  go_wp2_with (go_at_call 114;refine (dim_any _ _ _ (by omega)).mono ?_;rintro e w' ⟨rfl,rfl⟩)
  go_ret2
  exact ⟨rfl,rfl⟩
set_option maxHeartbeats 400000 in
theorem day_yes (y m d:Int) (w:World) (hy1:1900 ≤ y) (hy2:y ≤ 2999) (hm1:1 ≤ m) (hm2:m ≤ 12) (hd1:1 ≤ d) (hd2:d ≤ Cal.dim y m) :
  Calls Tryz.prog 68 #[.int .i64 y,.int .i64 m,.int .i64 d] w fun e w' => e = .returned (.tuple #[.int .i64 (Cal.yb y + Cal.cum y m + d - 1),.int .i64 0]) ∧ w' = w:=by
 have db:=Cal.dim_bd y m
 have yb0:=Cal.yb_bd y hy1 (by omega)
 go_enter Tryz.func68,Tryz.ntmps68
 go_wp2_with (first | (go_at_call 114;refine (dim_any _ _ _ (by omega)).mono ?_;rintro e w' ⟨rfl,rfl⟩) | (go_at_call 115;refine (begin_any _ _ (by omega) (by omega)).mono ?_;rintro e w' ⟨rfl,rfl⟩))
 go_loop [8,9] (fun s k => ∃ q:Int,1 ≤ q ∧ q ≤ m ∧ k = .int .i64 q ∧ s = .int .i64 (Cal.yb y + Cal.cum y q)) (fun _ k => (12 - intOf k).toNat)
 case atStart => exact ⟨1,by omega,by omega,rfl,by rw [Cal.cum_one];simp⟩
 case round =>
  obtain ⟨q,hq1,hq2,rfl,rfl⟩:=hrel
  have cb:=Cal.cum_bd y q hq1 (by omega)
  have dq:=Cal.dim_bd y q
  have HC:Hid (Cal.cum y (q + 1) = Cal.cum y q + Cal.dim y q):=Cal.cum_succ y q hq1 (by omega)
  by_cases hlt:q < m
  ·go_wp2_with (go_at_call 114;refine (dim_any _ _ _ (by omega)).mono ?_;rintro e w' ⟨rfl,rfl⟩)
   go_round
   case rel => exact ⟨q + 1,by omega,by omega,rfl,by rw [HC.out];go_num⟩
   case measure => simp [intOf];omega
  ·have e:q = m:=by omega
   subst e
   go_wp2
   go_ret2
   exact ⟨rfl,rfl⟩
theorem smear_day_no (y m d:Int) (w:World) (h:NoDate y m d) :
  Calls Tryz.prog 32 #[.int .i64 y,.int .i64 m,.int .i64 d] w fun e w' => e = .returned (.tuple #[.int .i64 0,.int .i64 1]) ∧ w' = w:=by
 go_enter Tryz.func32,Tryz.ntmps32
 go_wp2_with (go_at_call 68;refine (day_no _ _ _ _ h).mono ?_;rintro e w' ⟨rfl,rfl⟩)
 go_ret2
 exact ⟨rfl,rfl⟩
theorem smear_day_yes (y m d:Int) (w:World) (hy1:1900 ≤ y) (hy2:y ≤ 2999) (hm1:1 ≤ m) (hm2:m ≤ 12) (hd1:1 ≤ d) (hd2:d ≤ Cal.dim y m) :
  Calls Tryz.prog 32 #[.int .i64 y,.int .i64 m,.int .i64 d] w fun e w' => e = .returned (.tuple #[.int .i64 (Cal.yb y + Cal.cum y m + d - 1),.int .i64 0]) ∧ w' = w:=by
 go_enter Tryz.func32,Tryz.ntmps32
 go_wp2_with (go_at_call 68;refine (day_yes _ _ _ _ hy1 hy2 hm1 hm2 hd1 hd2).mono ?_;rintro e w' ⟨rfl,rfl⟩)
 go_ret2
 exact ⟨rfl,rfl⟩
theorem long_yes (y:Int) (w:World) (h0:0 ≤ y) (h:Cal.lp y = 1) :
  Calls Tryz.prog 116 #[.int .i64 y] w fun e w' => e = .returned (.bool true) ∧ w' = w:=by
 have h4:y % 4 = 0:=by unfold Cal.lp at h;split at h <;> omega
 have hr:¬ y % 100 = 0 ∨ y % 400 = 0:=by unfold Cal.lp at h;split at h <;> omega
 clear h
 by_cases c:y % 100 = 0
 ·have d:y % 400 = 0:=by omega
  clear hr
  go_enter Tryz.func116,Tryz.ntmps116
  go_wp2
  go_ret
  exact ⟨rfl,rfl⟩
 ·clear hr
  go_enter Tryz.func116,Tryz.ntmps116
  go_wp2
  go_ret
  exact ⟨rfl,rfl⟩
theorem long_no (y:Int) (w:World) (h0:0 ≤ y) (h:Cal.lp y = 0) :
  Calls Tryz.prog 116 #[.int .i64 y] w fun e w' => e = .returned (.bool false) ∧ w' = w:=by
 have hr:¬ y % 4 = 0 ∨ (y % 100 = 0 ∧ ¬ y % 400 = 0):=by unfold Cal.lp at h;split at h <;> omega
 clear h
 by_cases c:y % 4 = 0
 ·have d:y % 100 = 0:=by omega
  have f:(y % 400 == 0) = false:=by rw [beq_eq_false_iff_ne];omega
  clear hr
  go_enter Tryz.func116,Tryz.ntmps116
  go_wp2
  go_ret
  exact ⟨rfl,rfl⟩
 ·have f:(y % 400 == 0) = false:=by rw [beq_eq_false_iff_ne];omega
  clear hr
  go_enter Tryz.func116,Tryz.ntmps116
  go_wp2
  go_ret
  exact ⟨rfl,rfl⟩
theorem year_len (y:Int) (w:World) (h0:0 ≤ y) :
  Calls Tryz.prog 70 #[.int .i64 y] w fun e w' => e = .returned (.int .i64 (365 + Cal.lp y)) ∧ w' = w:=by
 by_cases hl:Cal.lp y = 1
 ·have H:Hid (365 + Cal.lp y = 366):=by show _ = _;omega
  go_enter Tryz.func70,Tryz.ntmps70
  go_wp2_with (go_at_call 116;refine (long_yes _ _ h0 hl).mono ?_;rintro e w' ⟨rfl,rfl⟩)
  go_ret
  exact ⟨ret_int H.out.symm,rfl⟩
 ·have hz:Cal.lp y = 0:=by have:=Cal.lp_01 y;omega
  have H:Hid (365 + Cal.lp y = 365):=by show _ = _;omega
  go_enter Tryz.func70,Tryz.ntmps70
  go_wp2_with (go_at_call 116;refine (long_no _ _ h0 hz).mono ?_;rintro e w' ⟨rfl,rfl⟩)
  go_ret
  exact ⟨ret_int H.out.symm,rfl⟩
theorem month_len (y m:Int) (w:World) (h0:0 ≤ y) :
  Calls Tryz.prog 69 #[.int .i64 y,.int .i64 m] w fun e w' => e = .returned (.int .i64 (Cal.dim y m)) ∧ w' = w:=by
 by_cases hl:Cal.lp y = 1
 ·by_cases h2:m = 2
  ·subst h2
   have H:Hid (Cal.dim y 2 = 29):=by show _ = _;unfold Cal.dim;rw [if_pos rfl];omega
   go_enter Tryz.func69,Tryz.ntmps69
   go_wp2_with (go_at_call 116;refine (long_yes _ _ h0 hl).mono ?_;rintro e w' ⟨rfl,rfl⟩)
   go_ret
   exact ⟨ret_int H.out.symm,rfl⟩
  ·by_cases h3:m = 4 ∨ m = 6 ∨ m = 9 ∨ m = 11
   ·rcases h3 with rfl | rfl | rfl | rfl
    all_goals
     go_enter Tryz.func69,Tryz.ntmps69
     go_wp2_with (go_at_call 116;refine (long_yes _ _ h0 hl).mono ?_;rintro e w' ⟨rfl,rfl⟩)
     go_ret
     exact ⟨rfl,rfl⟩
   ·have H:Hid (Cal.dim y m = 31):=by show _ = _;unfold Cal.dim;rw [if_neg h2,if_neg h3]
    have a2:(m == 2) = false:=by rw [beq_eq_false_iff_ne];omega
    have a4:(m == 4) = false:=by rw [beq_eq_false_iff_ne];omega
    have a6:(m == 6) = false:=by rw [beq_eq_false_iff_ne];omega
    have a9:(m == 9) = false:=by rw [beq_eq_false_iff_ne];omega
    have a11:(m == 11) = false:=by rw [beq_eq_false_iff_ne];omega
    clear h3 h2
    go_enter Tryz.func69,Tryz.ntmps69
    go_wp2_with (go_at_call 116;refine (long_yes _ _ h0 hl).mono ?_;rintro e w' ⟨rfl,rfl⟩)
    go_ret
    exact ⟨ret_int H.out.symm,rfl⟩
 ·have hz:Cal.lp y = 0:=by have:=Cal.lp_01 y;omega
  by_cases h2:m = 2
  ·subst h2
   have H:Hid (Cal.dim y 2 = 28):=by show _ = _;unfold Cal.dim;rw [if_pos rfl];omega
   go_enter Tryz.func69,Tryz.ntmps69
   go_wp2_with (go_at_call 116;refine (long_no _ _ h0 hz).mono ?_;rintro e w' ⟨rfl,rfl⟩)
   go_ret
   exact ⟨ret_int H.out.symm,rfl⟩
  ·by_cases h3:m = 4 ∨ m = 6 ∨ m = 9 ∨ m = 11
   ·rcases h3 with rfl | rfl | rfl | rfl
    all_goals
     go_enter Tryz.func69,Tryz.ntmps69
     go_wp2_with (go_at_call 116;refine (long_no _ _ h0 hz).mono ?_;rintro e w' ⟨rfl,rfl⟩)
     go_ret
     exact ⟨rfl,rfl⟩
   ·have H:Hid (Cal.dim y m = 31):=by show _ = _;unfold Cal.dim;rw [if_neg h2,if_neg h3]
    have a2:(m == 2) = false:=by rw [beq_eq_false_iff_ne];omega
    have a4:(m == 4) = false:=by rw [beq_eq_false_iff_ne];omega
    have a6:(m == 6) = false:=by rw [beq_eq_false_iff_ne];omega
    have a9:(m == 9) = false:=by rw [beq_eq_false_iff_ne];omega
    have a11:(m == 11) = false:=by rw [beq_eq_false_iff_ne];omega
    clear h3 h2
    go_enter Tryz.func69,Tryz.ntmps69
    go_wp2_with (go_at_call 116;refine (long_no _ _ h0 hz).mono ?_;rintro e w' ⟨rfl,rfl⟩)
    go_ret
    exact ⟨ret_int H.out.symm,rfl⟩
theorem ref_day_no (y m d:Int) (w:World) (h:NoDate y m d) :
  Calls Tryz.prog 33 #[.int .i64 y,.int .i64 m,.int .i64 d] w fun e w' => e = .returned (.tuple #[.int .i64 0,.int .i64 1]) ∧ w' = w:=by
 unfold NoDate at h
 by_cases c1:y < 1900
 ·clear h
  go_enter Tryz.func33,Tryz.ntmps33
  go_wp2
  go_ret2
  exact ⟨rfl,rfl⟩
 by_cases c2:2999 < y
 ·clear h
  go_enter Tryz.func33,Tryz.ntmps33
  go_wp2
  go_ret2
  exact ⟨rfl,rfl⟩
 by_cases c3:m < 1
 ·clear h
  go_enter Tryz.func33,Tryz.ntmps33
  go_wp2
  go_ret2
  exact ⟨rfl,rfl⟩
 by_cases c4:12 < m
 ·clear h
  go_enter Tryz.func33,Tryz.ntmps33
  go_wp2
  go_ret2
  exact ⟨rfl,rfl⟩
 by_cases c5:d < 1
 ·clear h
  go_enter Tryz.func33,Tryz.ntmps33
  go_wp2
  go_ret2
  exact ⟨rfl,rfl⟩
 ·have c6:Cal.dim y m < d:=by omega
  clear h
  go_enter Tryz.func33,Tryz.ntmps33
  go_wp2_with (go_at_call 69;refine (month_len _ _ _ (by omega)).mono ?_;rintro e w' ⟨rfl,rfl⟩)
  go_ret2
  exact ⟨rfl,rfl⟩
set_option maxHeartbeats 400000 in
theorem ref_day_yes (y m d:Int) (w:World) (hy1:1900 ≤ y) (hy2:y ≤ 2999) (hm1:1 ≤ m) (hm2:m ≤ 12) (hd1:1 ≤ d) (hd2:d ≤ Cal.dim y m) :
  Calls Tryz.prog 33 #[.int .i64 y,.int .i64 m,.int .i64 d] w fun e w' => e = .returned (.tuple #[.int .i64 (Cal.yb y + Cal.cum y m + d - 1),.int .i64 0]) ∧ w' = w:=by
 have db:=Cal.dim_bd y m
 go_enter Tryz.func33,Tryz.ntmps33
 go_wp2_with (go_at_call 69;refine (month_len _ _ _ (by omega)).mono ?_;rintro e w' ⟨rfl,rfl⟩)
 go_loop [8,9] (fun s k => ∃ q:Int,1900 ≤ q ∧ q ≤ y ∧ k = .int .i64 q ∧ s = .int .i64 (d - 1 + Cal.yb q)) (fun _ k => (3000 - intOf k).toNat)
 case atStart => exact ⟨1900,by omega,hy1,rfl,by rw [Cal.yb_first];simp⟩
 case round =>
  obtain ⟨q,hq1,hq2,rfl,rfl⟩:=hrel
  have qb:=Cal.yb_bd q hq1 (by omega)
  have l01:=Cal.lp_01 q
  have HS:Hid (Cal.yb (q + 1) = Cal.yb q + 365 + Cal.lp q):=Cal.yb_succ q
  by_cases hlt:q < y
  ·go_wp2_with (go_at_call 70;refine (year_len _ _ (by omega)).mono ?_;rintro e w' ⟨rfl,rfl⟩)
   go_round
   case rel => exact ⟨q + 1,by omega,by omega,rfl,by rw [HS.out];go_num⟩
   case measure => simp [intOf];omega
  ·have e:q = y:=by omega
   subst e
   go_wp2
   go_loop [8,10] (fun s k => ∃ r:Int,1 ≤ r ∧ r ≤ m ∧ k = .int .i64 r ∧ s = .int .i64 (d - 1 + Cal.yb q + Cal.cum q r)) (fun _ k => (12 - intOf k).toNat)
   case atStart => exact ⟨1,by omega,by omega,rfl,by rw [Cal.cum_one];simp⟩
   case round =>
    obtain ⟨r,hr1,hr2,rfl,rfl⟩:=hrel
    have cb:=Cal.cum_bd q r hr1 (by omega)
    have dq:=Cal.dim_bd q r
    have HC:Hid (Cal.cum q (r + 1) = Cal.cum q r + Cal.dim q r):=Cal.cum_succ q r hr1 (by omega)
    by_cases hltr:r < m
    ·go_wp2_with (go_at_call 69;refine (month_len _ _ _ (by omega)).mono ?_;rintro e w' ⟨rfl,rfl⟩)
     go_round
     case rel => exact ⟨r + 1,by omega,by omega,rfl,by rw [HC.out];go_num⟩
     case measure => simp [intOf];omega
    ·have e:r = m:=by omega
     subst e
     have HV:Hid (Cal.yb q + Cal.cum q r + d - 1 = d - 1 + Cal.yb q + Cal.cum q r):=by show _ = _;omega
     go_wp2
     go_ret2
     exact ⟨by rw [HV.out];rfl,rfl⟩
theorem ref_civil_no (n:Int) (w:World) (h:n < 0 ∨ 401767 ≤ n) :
  Calls Tryz.prog 36 #[.int .i64 n] w fun e w' => e = .returned (.tuple #[.int .i64 0,.int .i64 0,.int .i64 0,.int .i64 1]) ∧ w' = w:=by
 rcases h with h | h
 ·go_enter Tryz.func36,Tryz.ntmps36
  go_wp2
  refine bodyPost_ret (results_four rfl _ _ _) rfl ?_
  exact ⟨rfl,rfl⟩
 ·have h':¬ n < 0:=by omega
  go_enter Tryz.func36,Tryz.ntmps36
  go_wp2
  refine bodyPost_ret (results_four rfl _ _ _) rfl ?_
  exact ⟨rfl,rfl⟩
set_option maxHeartbeats 400000 in
theorem ref_civil_yes (n:Int) (w:World) (h0:0 ≤ n) (h1:n < 401767) :
  Calls Tryz.prog 36 #[.int .i64 n] w fun e w' => (∃ y m:Int,e = .returned (.tuple #[.int .i64 y,.int .i64 m,.int .i64 (n - Cal.yb y - Cal.cum y m + 1),.int .i64 0]) ∧ Cal.In y m n) ∧ w' = w:=by
 go_enter Tryz.func36,Tryz.ntmps36
 go_wp2
 go_loop [0,6] (fun r k => ∃ y:Int,1900 ≤ y ∧ y ≤ 2999 ∧ Cal.yb y ≤ n ∧ k = .int .i64 y ∧ r = .int .i64 (n - Cal.yb y)) (fun _ k => (2999 - intOf k).toNat)
 case atStart => exact ⟨1900,by omega,by omega,by rw [Cal.yb_first];exact h0,rfl,by rw [Cal.yb_first];simp⟩
 case round =>
  obtain ⟨y,hy1,hy2,hy3,rfl,rfl⟩:=hrel
  have qb:=Cal.yb_bd y hy1 (by omega)
  have l01:=Cal.lp_01 y
  have ys:=Cal.yb_succ y
  by_cases hc:365 + Cal.lp y ≤ n - Cal.yb y
  ·have y3:y < 2999:=by
    by_cases e:y = 2999
    ·have h3:=Cal.yb_last
     rw [e] at ys
     have:Cal.yb (2999 + 1) = Cal.yb 3000:=rfl
     rw [e] at hc
     omega
    ·omega
   have hle:Cal.yb (y + 1) ≤ n:=by omega
   have HS:Hid (n - Cal.yb (y + 1) = n - Cal.yb y - (365 + Cal.lp y)):=by show _ = _;omega
   clear ys
   go_wp2_with (go_at_call 70;refine (year_len _ _ (by omega)).mono ?_;rintro e w' ⟨rfl,rfl⟩)
   go_round
   case rel => exact ⟨y + 1,by omega,by omega,hle,rfl,by rw [HS.out]⟩
   case measure => simp [intOf];omega
  ·have HS:Hid (Cal.yb (y + 1) = Cal.yb y + 365 + Cal.lp y):=ys
   clear ys
   go_wp2_with (go_at_call 70;refine (year_len _ _ (by omega)).mono ?_;rintro e w' ⟨rfl,rfl⟩)
   go_loop [0,7] (fun r k => ∃ m:Int,1 ≤ m ∧ m ≤ 12 ∧ k = .int .i64 m ∧ 0 ≤ n - Cal.yb y - Cal.cum y m ∧ r = .int .i64 (n - Cal.yb y - Cal.cum y m)) (fun _ k => (12 - intOf k).toNat)
   case atStart => exact ⟨1,by omega,by omega,rfl,by rw [Cal.cum_one];omega,by rw [Cal.cum_one];simp⟩
   case round =>
    obtain ⟨m,hm1,hm2,rfl,hr,rfl⟩:=hrel
    have cb:=Cal.cum_bd y m hm1 (by omega)
    have db:=Cal.dim_bd y m
    have cs:=Cal.cum_succ y m hm1 hm2
    by_cases hd:Cal.dim y m ≤ n - Cal.yb y - Cal.cum y m
    ·have hm:m < 12:=by
      by_cases e:m = 12
      ·subst e;have h13:Cal.cum y (12 + 1) = 365 + Cal.lp y:=Cal.cum_end y;omega
      ·omega
     have HC:Hid (Cal.cum y (m + 1) = Cal.cum y m + Cal.dim y m):=cs
     clear cs
     go_wp2_with (go_at_call 69;refine (month_len _ _ _ (by omega)).mono ?_;rintro e w' ⟨rfl,rfl⟩)
     go_round
     case rel => exact ⟨m + 1,by omega,by omega,rfl,by rw [HC.out];omega,by rw [HC.out];go_num⟩
     case measure => simp [intOf];omega
    ·clear cs
     go_wp2_with (go_at_call 69;refine (month_len _ _ _ (by omega)).mono ?_;rintro e w' ⟨rfl,rfl⟩)
     refine bodyPost_ret (results_four rfl _ _ _) rfl ?_
     exact ⟨⟨y,m,rfl,⟨hy1,hy2,hm1,hm2,by omega,by omega⟩⟩,rfl⟩
theorem num_any (n:Int) (w:World) :
  Calls Tryz.prog 34 #[.int .i64 n] w fun e w' => e = .returned (.int .i64 n) ∧ w' = w:=by
 go_enter Tryz.func34,Tryz.ntmps34
 go_wp2
 go_ret
 exact ⟨rfl,rfl⟩
structure Op where
 kind:Int
 x:Int
 a:Int
 b:Int
 c:Int
 d:Int
 s:ByteArray
def Op.cells (o:Op):Array Value:=#[.int .i64 o.kind,.int .i64 o.x,.int .i64 o.a,.int .i64 o.b,.int .i64 o.c,.int .i64 o.d,.string o.s]
theorem date_or (y m d:Int):NoDate y m d ∨ (1900 ≤ y ∧ y ≤ 2999 ∧ 1 ≤ m ∧ m ≤ 12 ∧ 1 ≤ d ∧ d ≤ Cal.dim y m):=by
 unfold NoDate;omega
theorem dated_day (k x a b c d:Int) (s:ByteArray) (w:World) (hk:k = 7) :
  Calls Tryz.prog 21 #[.agg #[.int .i64 k,.int .i64 x,.int .i64 a,.int .i64 b,.int .i64 c,.int .i64 d,.string s]] w fun e w' => e = .returned (.bool true) ∧ Below w.heap.size w w':=by
 subst hk
 rcases date_or a b c with h | ⟨h1,h2,h3,h4,h5,h6⟩
 ·have H:=hid' h
  clear h
  go_enter Tryz.func21,Tryz.ntmps21
  go_wp2_with fail
  refine (smear_day_no a b c _ H.out).mono ?_
  rintro e w' ⟨rfl,rfl⟩
  go_wp2_with fail
  refine (ref_day_no a b c _ H.out).mono ?_
  rintro e w' ⟨rfl,rfl⟩
  go_wp2_with (go_at_call 34;refine (num_any _ _).mono ?_;rintro e w' ⟨rfl,rfl⟩)
  go_ret
  exact ⟨rfl,(Below.refl _ _).alloc (Nat.le_refl _) _⟩
 ·go_enter Tryz.func21,Tryz.ntmps21
  go_wp2_with fail
  refine (smear_day_yes a b c _ h1 h2 h3 h4 h5 h6).mono ?_
  rintro e w' ⟨rfl,rfl⟩
  go_wp2_with fail
  refine (ref_day_yes a b c _ h1 h2 h3 h4 h5 h6).mono ?_
  rintro e w' ⟨rfl,rfl⟩
  generalize Cal.yb a + Cal.cum a b + c - 1 = v
  have hv:(v == v) = true:=by simp
  go_wp2_with (go_at_call 34;refine (num_any _ _).mono ?_;rintro e w' ⟨rfl,rfl⟩)
  go_ret
  exact ⟨rfl,(Below.refl _ _).alloc (Nat.le_refl _) _⟩
theorem dated_civil (k x a b c d:Int) (s:ByteArray) (w:World) (hk:k ≠ 7) :
  Calls Tryz.prog 21 #[.agg #[.int .i64 k,.int .i64 x,.int .i64 a,.int .i64 b,.int .i64 c,.int .i64 d,.string s]] w fun e w' => e = .returned (.bool true) ∧ Below w.heap.size w w':=by
 have hk7:(k == 7) = false:=by rw [beq_eq_false_iff_ne];exact hk
 clear hk
 by_cases h:a < 0 ∨ 401767 ≤ a
 ·have H:=hid' h
  clear h
  go_enter Tryz.func21,Tryz.ntmps21
  go_wp2_with fail
  refine (smear_civil_no a _ H.out).mono ?_
  rintro e w' ⟨rfl,rfl⟩
  go_wp2_with fail
  refine (ref_civil_no a _ H.out).mono ?_
  rintro e w' ⟨rfl,rfl⟩
  go_wp2_with (go_at_call 34;refine (num_any _ _).mono ?_;rintro e w' ⟨rfl,rfl⟩)
  go_ret
  exact ⟨rfl,(Below.refl _ _).alloc (Nat.le_refl _) _⟩
 ·have h0:0 ≤ a:=by omega
  have h1:a < 401767:=by omega
  clear h
  go_enter Tryz.func21,Tryz.ntmps21
  go_wp2_with fail
  refine (smear_civil_yes a _ h0 h1).mono ?_
  rintro e w' ⟨⟨y,m,rfl,hin⟩,rfl⟩
  have HI:=hid' hin
  clear hin
  go_wp2_with fail
  refine (ref_civil_yes a _ h0 h1).mono ?_
  rintro e w' ⟨⟨z,o,rfl,hin⟩,rfl⟩
  obtain ⟨rfl,rfl⟩:=HI.out.only hin
  clear hin HI
  generalize a - Cal.yb y - Cal.cum y m + 1 = v
  have hv:(v == v) = true:=by simp
  have hy:(y == y) = true:=by simp
  have hm:(m == m) = true:=by simp
  go_wp2_with (go_at_call 34;refine (num_any _ _).mono ?_;rintro e w' ⟨rfl,rfl⟩)
  go_ret
  exact ⟨rfl,(Below.refl _ _).alloc (Nat.le_refl _) _⟩
def Blk (bW:Nat) (tv:Value) (up ex:Int) (lv:Value) (se fr:Int) (xs:Value) (w:World):Prop :=
 w.heap[bW]? = some (.cells #[tv,.int .i64 up,.int .i64 ex,lv,.int .i64 se,.int .i64 fr,xs] 38 (0,0))
theorem Blk.lt {bW:Nat} {tv lv xs:Value} {up ex se fr:Int} {w:World} (h:Blk bW tv up ex lv se fr xs w):bW < w.heap.size:=by
 unfold Blk at h
 by_cases c:bW < w.heap.size
 ·exact c
 ·rw [Array.getElem?_eq_none (by omega)] at h;simp at h
theorem Blk.cell {bW:Nat} {tv lv xs:Value} {up ex se fr:Int} {w:World} (h:Blk bW tv up ex lv se fr xs w) (j:Nat) :
  w.cell? ⟨bW,j,none⟩ = #[tv,.int .i64 up,.int .i64 ex,lv,.int .i64 se,.int .i64 fr,xs][j]?:=cell_of_row _ _ _ _ _ _ h
theorem Blk.free {bW:Nat} {tv lv xs:Value} {up ex se fr:Int} {w:World} (h:Blk bW tv up ex lv se fr xs w) (j:Nat) :
  w.frozen? ⟨bW,j,none⟩ = false:=frozen_of_row _ _ _ _ _ h
theorem Blk.at0 {bW:Nat} {tv lv xs:Value} {up ex se fr:Int} {w:World} (h:Blk bW tv up ex lv se fr xs w) (v:Value):Blk bW v up ex lv se fr xs (w.setCell ⟨bW,0,none⟩ v):=by
 unfold Blk at *;rw [heap_setCell_same _ _ _ _ _ _ h];simp
theorem Blk.at1 {bW:Nat} {tv lv xs:Value} {up ex se fr:Int} {w:World} (h:Blk bW tv up ex lv se fr xs w) (v:Int):Blk bW tv v ex lv se fr xs (w.setCell ⟨bW,1,none⟩ (.int .i64 v)):=by
 unfold Blk at *;rw [heap_setCell_same _ _ _ _ _ _ h];simp
theorem Blk.at2 {bW:Nat} {tv lv xs:Value} {up ex se fr:Int} {w:World} (h:Blk bW tv up ex lv se fr xs w) (v:Int):Blk bW tv up v lv se fr xs (w.setCell ⟨bW,2,none⟩ (.int .i64 v)):=by
 unfold Blk at *;rw [heap_setCell_same _ _ _ _ _ _ h];simp
theorem Blk.at3 {bW:Nat} {tv lv xs:Value} {up ex se fr:Int} {w:World} (h:Blk bW tv up ex lv se fr xs w) (v:Value):Blk bW tv up ex v se fr xs (w.setCell ⟨bW,3,none⟩ v):=by
 unfold Blk at *;rw [heap_setCell_same _ _ _ _ _ _ h];simp
theorem Blk.at4 {bW:Nat} {tv lv xs:Value} {up ex se fr:Int} {w:World} (h:Blk bW tv up ex lv se fr xs w) (v:Int):Blk bW tv up ex lv v fr xs (w.setCell ⟨bW,4,none⟩ (.int .i64 v)):=by
 unfold Blk at *;rw [heap_setCell_same _ _ _ _ _ _ h];simp
theorem Blk.at5 {bW:Nat} {tv lv xs:Value} {up ex se fr:Int} {w:World} (h:Blk bW tv up ex lv se fr xs w) (v:Int):Blk bW tv up ex lv se v xs (w.setCell ⟨bW,5,none⟩ (.int .i64 v)):=by
 unfold Blk at *;rw [heap_setCell_same _ _ _ _ _ _ h];simp
theorem Blk.alloc {bW:Nat} {tv lv xs:Value} {up ex se fr:Int} {w:World} (h:Blk bW tv up ex lv se fr xs w) (o:Obj):Blk bW tv up ex lv se fr xs (w.alloc o):=by
 have:=h.lt
 unfold Blk at *;rw [Below.heap_alloc _ _ _ this];exact h
theorem Blk.grown {bW:Nat} {tv lv xs:Value} {up ex se fr:Int} {w w':World} {v:Value} {base size n:Nat} {l:List Value} {u:TypeId} (h:Blk bW tv up ex lv se fr xs w)
  (hg:w.grownBy w' v.ownBlock) (ho:w.ownsRow base u size v n l) (hu:u ≠ 38):Blk bW tv up ex lv se fr xs w' :=
 (Keep.grown (Keep.refl 38 w) hg ho hu) _ _ _ h
theorem Blk.own {bW:Nat} {tv lv xs:Value} {up ex se fr:Int} {w:World} (h:Blk bW tv up ex lv se fr xs w) {B size n:Nat} {e:TypeId} {v:Value} {l:List Value} (ho:w.ownsRow B e size v n l)
  (he:38 ≠ e) (j:Nat) (x:Value):(w.setCell ⟨bW,j,none⟩ x).ownsRow B e size v n l:=own_set ho (p:=⟨bW,j,none⟩) h he x
theorem Blk.keep {bW:Nat} {tv lv xs:Value} {up ex se fr:Int} {w a:World} (h:Blk bW tv up ex lv se fr xs w) {e:TypeId} (ho:Keep e a w)
  (he:38 ≠ e) (j:Nat) (x:Value):Keep e a (w.setCell ⟨bW,j,none⟩ x):=ho.setCell (p:=⟨bW,j,none⟩) h he x
structure Nums (ts:List ByteArray) (ls:List (Int × Int)) (up ex se fr:Int):Prop where
 txt:∀ t ∈ ts,t.size ≤ 16384
 tab:∀ p ∈ ls,(Lit.int .i64 p.1).wf = true ∧ (Lit.int .i64 p.2).wf = true
 up:(Lit.int .i64 up).wf = true
 ex:(Lit.int .i64 ex).wf = true
 se:(Lit.int .i64 se).wf = true
 fr:(Lit.int .i64 fr).wf = true
def Keeps (w w':World):Prop:=∀ e:TypeId,38 ≠ e → 9 ≠ e → Keep e w w'
theorem Keeps.refl (w:World):Keeps w w:=fun e _ _ => Keep.refl e w
theorem Keeps.trans {a b c:World} (h:Keeps a b) (g:Keeps b c):Keeps a c:=fun e h1 h2 => (h e h1 h2).trans (g e h1 h2)
theorem Keeps.alloc {a w:World} (h:Keeps a w) (o:Obj):Keeps a (w.alloc o):=fun e h1 h2 => (h e h1 h2).alloc o
theorem Keeps.below {w w':World} (hb:Below w.heap.size w w'):Keeps w w':=fun _ _ _ k cs fr e => by rw [hb.block k (lt_of_heap e)];exact e
theorem Keeps.grown {a w w':World} {v:Value} {base size n:Nat} {xs:List Value} (h:Keeps a w) (hg:w.grownBy w' v.ownBlock) (ho:w.ownsRow base 9 size v n xs):Keeps a w':=fun e h1 h2 => (h e h1 h2).grown hg ho h2
theorem Blk.keeps {bW:Nat} {tv lv xs:Value} {up ex se fr:Int} {w a:World} (h:Blk bW tv up ex lv se fr xs w) (ho:Keeps a w) (j:Nat) (x:Value):Keeps a (w.setCell ⟨bW,j,none⟩ x):=fun e h1 h2 => h.keep (ho e h1 h2) h1 j x
theorem Keeps.op {w w':World} (h:Keeps w w'):Keep 27 w w':=h _ (by decide) (by decide)
structure Xs where
 P:Nat → (Nat → Prop) → Value → World → Prop
 up:∀ {n m:Nat} {F:Nat → Prop} {v:Value} {w:World},P n F v w → n ≤ m → P m F v w
 keep:∀ {n:Nat} {F:Nat → Prop} {v:Value} {w w':World},P n F v w → (∀ k,F k → w'.heap[k]? = w.heap[k]?) → P n F v w'
 typ:∀ {n:Nat} {F:Nat → Prop} {v:Value} {w:World},P n F v w → ∀ k,F k → ∃ cs e fr,w.heap[k]? = some (.cells cs e fr) ∧ 38 ≠ e ∧ 9 ≠ e
structure Srv (X:Xs) (n:Nat) (F:Nat → Prop) (lv xv:Value) (w:World):Prop where
 p:X.P n F xv w
 off:∀ k,F k → lv.ownBlock ≠ some k
theorem Keeps.same {w w':World} (h:Keeps w w') {X:Xs} {n:Nat} {F:Nat → Prop} {v:Value} (hp:X.P n F v w):∀ k,F k → w'.heap[k]? = w.heap[k]?:=fun k hk => by
 obtain ⟨cs,e,fr,h1,h2,h3⟩:=X.typ hp k hk
 rw [h1];exact h e h2 h3 k cs fr h1
theorem Srv.keeps {X:Xs} {n m:Nat} {F:Nat → Prop} {lv xv:Value} {w w':World} (h:Srv X n F lv xv w) (hk:Keeps w w') (hm:n ≤ m):Srv X m F lv xv w' :=
 ⟨X.up (X.keep h.p (hk.same h.p)) hm,h.off⟩
theorem Srv.fresh {X:Xs} {n m:Nat} {F:Nat → Prop} {lv xv lv':Value} {w w':World} (h:Srv X n F lv xv w) (hk:Keeps w w') (hm:n ≤ m) (hl:∀ k,lv'.ownBlock = some k → w.heap.size ≤ k):Srv X m F lv' xv w' :=
 ⟨X.up (X.keep h.p (hk.same h.p)) hm,fun k hF q => by
  obtain ⟨cs,e,fr,h1,_⟩:=X.typ h.p k hF
  have:=lt_of_heap h1
  have:=hl k q
  omega⟩
structure Inv (X:Xs) (B bW n:Nat) (w:World):Prop where
 le:B ≤ bW
 is:∃ (tv lv xv:Value) (F:Nat → Prop) (ts:List ByteArray) (ls:List (Int × Int)) (up ex se fr:Int),Blk bW tv up ex lv se fr xv w ∧ w.ownsRow B 9 1 tv ts.length (ts.map Value.string) ∧ w.ownsRow B 46 2 lv ls.length (flat ls) ∧
  ts.length ≤ n ∧ ls.length ≤ n + 40 ∧ Nums ts ls up ex se fr ∧ Srv X n F lv xv w
def Left (X:Xs) (B bW n:Nat) (w w':World):Prop:=Inv X B bW (n + 1) w' ∧ Keeps w w' ∧ Below B w w'
theorem owner_stamps {X:Xs} (B bW n:Nat) (x a b c d:Int) (s:ByteArray) (w:World) (wa:(Lit.int .i64 a).wf = true) (wb:(Lit.int .i64 b).wf = true) (hI:Inv X B bW n w) (hB:B ≤ w.heap.size) :
  Calls Tryz.prog 16 #[.pointer (some ⟨bW,0,none⟩),.agg #[.int .i64 3,.int .i64 x,.int .i64 a,.int .i64 b,.int .i64 c,.int .i64 d,.string s]] w fun e w' =>
   e = .returned (.bool true) ∧ Left X B bW n w w':=by
 have WA:=hid' wa
 have WB:=hid' wb
 clear wa wb
 obtain ⟨le,tv,lv,xv,F,ts,ls,up,ex,se,fr,hb,ht,hl,h1,h2,h3,h4⟩:=hI
 have hlt:=hb.lt
 have c1:=hb.cell 1
 have c2:=hb.cell 2
 have f1:=hb.free 1
 have f2:=hb.free 2
 simp at c1 c2
 have HB:=hid' hb
 have HT:=hid' ht
 have HL:=hid' hl
 have H4:=hid' h4
 clear hb ht hl h4
 go_enter Tryz.func16,Tryz.ntmps16
 go_wp2
 go_ret
 have b1:=HB.out
 have b2:=b1.at1 a
 have b3:=b2.at2 b
 have kk:=fun o => (b2.keeps (b1.keeps (Keeps.refl w) 1 (.int .i64 a)) 2 (.int .i64 b)).alloc o
 refine ⟨rfl,⟨le,tv,lv,xv,F,ts,ls,_,_,_,_,b3.alloc _,(b2.own (b1.own HT.out (by decide) 1 _) (by decide) 2 _).alloc _,(b2.own (b1.own HL.out (by decide) 1 _) (by decide) 2 _).alloc _,by omega,by omega,⟨h3.txt,h3.tab,WA.out,WB.out,h3.se,h3.fr⟩,H4.out.keeps (kk _) (Nat.le_succ _)⟩,kk _,?_⟩
 ·exact (((Below.refl B w).setCell le _).setCell le _).alloc (by simpa using hB) _
theorem owner_none {X:Xs} (B bW n:Nat) (x a b c d:Int) (s:ByteArray) (w:World) (hI:Inv X B bW n w) (hB:B ≤ w.heap.size) :
  Calls Tryz.prog 16 #[.pointer (some ⟨bW,0,none⟩),.agg #[.int .i64 5,.int .i64 x,.int .i64 a,.int .i64 b,.int .i64 c,.int .i64 d,.string s]] w fun e w' =>
   e = .returned (.bool true) ∧ Left X B bW n w w':=by
 obtain ⟨le,tv,lv,xv,F,ts,ls,up,ex,se,fr,hb,ht,hl,h1,h2,h3,h4⟩:=hI
 have hlt:=hb.lt
 have c1:=hb.cell 3
 have f1:=hb.free 3
 simp at c1
 have HB:=hid' hb
 have HT:=hid' ht
 have HL:=hid' hl
 have H4:=hid' h4
 clear hb ht hl h4
 go_enter Tryz.func16,Tryz.ntmps16
 go_wp2
 go_ret
 have b1:=HB.out
 have b2:=b1.at3 (.slice none 0 0)
 have kk:=fun o => (b1.keeps (Keeps.refl w) 3 (.slice none 0 0)).alloc o
 refine ⟨rfl,⟨le,tv,_,xv,F,ts,[],_,_,_,_,b2.alloc _,(b1.own HT.out (by decide) 3 _).alloc _,World.ownsRow_nil _ _ _ _,by omega,by simp,⟨h3.txt,fun p h => (by cases h),h3.up,h3.ex,h3.se,h3.fr⟩,H4.out.fresh (kk _) (Nat.le_succ _) (fun _ h => by simp [Value.ownBlock] at h)⟩,kk _,?_⟩
 ·exact ((Below.refl B w).setCell le _).alloc (by simpa using hB) _
theorem owner_time {X:Xs} (B bW n:Nat) (x a b c d:Int) (s:ByteArray) (w:World) (wa:(Lit.int .i64 a).wf = true) (wb:(Lit.int .i64 b).wf = true) (hI:Inv X B bW n w) (hB:B ≤ w.heap.size) :
  Calls Tryz.prog 16 #[.pointer (some ⟨bW,0,none⟩),.agg #[.int .i64 6,.int .i64 x,.int .i64 a,.int .i64 b,.int .i64 c,.int .i64 d,.string s]] w fun e w' =>
   e = .returned (.bool true) ∧ Left X B bW n w w':=by
 have WA:=hid' wa
 have WB:=hid' wb
 clear wa wb
 obtain ⟨le,tv,lv,xv,F,ts,ls,up,ex,se,fr,hb,ht,hl,h1,h2,h3,h4⟩:=hI
 have hlt:=hb.lt
 have c1:=hb.cell 4
 have f1:=hb.free 4
 have c2:=hb.cell 5
 have f2:=hb.free 5
 simp at c1 c2
 have HB:=hid' hb
 have HT:=hid' ht
 have HL:=hid' hl
 have H4:=hid' h4
 clear hb ht hl h4
 go_enter Tryz.func16,Tryz.ntmps16
 go_wp2
 go_ret
 have b1:=HB.out
 have b2:=b1.at4 a
 have b3:=b2.at5 b
 have kk:=fun o => (b2.keeps (b1.keeps (Keeps.refl w) 4 (.int .i64 a)) 5 (.int .i64 b)).alloc o
 refine ⟨rfl,⟨le,tv,lv,xv,F,ts,ls,_,_,_,_,b3.alloc _,(b2.own (b1.own HT.out (by decide) 4 _) (by decide) 5 _).alloc _,(b2.own (b1.own HL.out (by decide) 4 _) (by decide) 5 _).alloc _,by omega,by omega,⟨h3.txt,h3.tab,h3.up,h3.ex,WA.out,WB.out⟩,H4.out.keeps (kk _) (Nat.le_succ _)⟩,kk _,?_⟩
 ·exact (((Below.refl B w).setCell le _).setCell le _).alloc (by simpa using hB) _
theorem owner_other {X:Xs} (B bW n:Nat) (k x a b c d:Int) (s:ByteArray) (w:World) (hk:k < 1 ∨ 6 < k) (hI:Inv X B bW n w) (hB:B ≤ w.heap.size) :
  Calls Tryz.prog 16 #[.pointer (some ⟨bW,0,none⟩),.agg #[.int .i64 k,.int .i64 x,.int .i64 a,.int .i64 b,.int .i64 c,.int .i64 d,.string s]] w fun e w' =>
   e = .returned (.bool false) ∧ Inv X B bW n w' ∧ Keeps w w' ∧ Below B w w':=by
 obtain ⟨le,tv,lv,xv,F,ts,ls,up,ex,se,fr,hb,ht,hl,h1,h2,h3,h4⟩:=hI
 have k1:(k == 1) = false:=by rw [beq_eq_false_iff_ne];omega
 have k2:(k == 2) = false:=by rw [beq_eq_false_iff_ne];omega
 have k3:(k == 3) = false:=by rw [beq_eq_false_iff_ne];omega
 have k4:(k == 4) = false:=by rw [beq_eq_false_iff_ne];omega
 have k5:(k == 5) = false:=by rw [beq_eq_false_iff_ne];omega
 have k6:(k == 6) = false:=by rw [beq_eq_false_iff_ne];omega
 clear hk
 have HB:=hid' hb
 have HT:=hid' ht
 have HL:=hid' hl
 have H4:=hid' h4
 clear hb ht hl h4
 go_enter Tryz.func16,Tryz.ntmps16
 go_wp2
 go_ret
 exact ⟨rfl,⟨le,tv,lv,xv,F,ts,ls,_,_,_,_,HB.out.alloc _,HT.out.alloc _,HL.out.alloc _,by omega,by omega,h3,H4.out.keeps ((Keeps.refl w).alloc _) (Nat.le_refl _)⟩,(Keeps.refl w).alloc _,(Below.refl B w).alloc hB _⟩
end Go.Proofs.YtmmkhodaljpjgaaGreatDoor
