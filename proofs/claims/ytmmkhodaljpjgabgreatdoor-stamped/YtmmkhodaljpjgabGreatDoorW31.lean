import Derived.Deep.Slices
import Derived.SizedLaws
import Derived.ProofKit
import Derived.OpenShut
import Derived.ChangeSlices
import Derived.Below
import Derived.Test.YtmmkhodaljpjgabGreatDoorW30
namespace Go.Proofs.YtmmkhodaljpjgabGreatDoor
open Go.RowKit
theorem gZ_slope {i : Int} (h0 : 0 ≤ i) (h1 : i ≤ 1023) : gZ (i + 1) - gZ i ≤ 6291448 := by
  have q : 0 ≤ (511 - i) * (512 - i) := by
    by_cases c : i ≤ 511
    · exact Int.mul_nonneg (by omega) (by omega)
    · have := Int.mul_nonneg (show 0 ≤ i - 511 by omega) (show 0 ≤ i - 512 by omega)
      have e : (i - 511) * (i - 512) = (511 - i) * (512 - i) := by grind
      omega
  have e : (511 - i) * (512 - i) = 261632 - i * (1023 - i) := by grind
  rw [gZ_step]
  omega
theorem gZ_far (a : Int) (k : Nat) (h0 : 0 ≤ a) (h1 : a + k ≤ 1024) : 0 ≤ gZ (a + k) - gZ a ∧ gZ (a + k) - gZ a ≤ 6291448 * k := by
  induction k with
  | zero => simp
  | succ k ih =>
    have ih := ih (by omega)
    have s := gZ_slope (i := a + k) (by omega) (by omega)
    have l := gZ_le_succ (i := a + k) (by omega) (by omega)
    have e : a + ((k + 1 : Nat) : Int) = a + k + 1 := by omega
    rw [e]
    omega
/-- How steep the curve is. -/
theorem curve_two {X z1 z2 i1 i2 r1 r2 : Int} (hX : 0 < X) (e1 : z1 = i1 * X + r1) (e2 : z2 = i2 * X + r2) (a0 : 0 ≤ i1) (b1 : i2 ≤ 1024) (r10 : 0 ≤ r1) (r11 : r1 < X) (r20 : 0 ≤ r2) (r21 : r2 < X) (hz : z1 ≤ z2) (hr : i2 = 1024 → r2 = 0) (hi : i1 ≤ i2) :
    0 ≤ (gZ i2 * X + (gZ (i2 + 1) - gZ i2) * r2) - (gZ i1 * X + (gZ (i1 + 1) - gZ i1) * r1) ∧ (gZ i2 * X + (gZ (i2 + 1) - gZ i2) * r2) - (gZ i1 * X + (gZ (i1 + 1) - gZ i1) * r1) ≤ 6291448 * (z2 - z1) := by
  by_cases hc : i1 = i2
  · subst hc
    by_cases h4 : i1 = 1024
    · obtain rfl := hr h4
      have : r1 = 0 := by omega
      subst this
      have : z2 = z1 := by omega
      subst this
      simp
    · have s := gZ_slope a0 (show i1 ≤ 1023 by omega)
      have l := gZ_le_succ a0 (show i1 ≤ 1023 by omega)
      have e : (gZ i1 * X + (gZ (i1 + 1) - gZ i1) * r2) - (gZ i1 * X + (gZ (i1 + 1) - gZ i1) * r1) = (gZ (i1 + 1) - gZ i1) * (r2 - r1) := by grind
      have ez : z2 - z1 = r2 - r1 := by omega
      rw [e, ez]
      refine ⟨Int.mul_nonneg (by omega) (by omega), Int.mul_le_mul_of_nonneg_right s (by omega)⟩
  · have s := gZ_slope a0 (show i1 ≤ 1023 by omega)
    have l := gZ_le_succ a0 (show i1 ≤ 1023 by omega)
    obtain ⟨k, hk⟩ : ∃ k : Nat, i2 = i1 + 1 + k := ⟨(i2 - i1 - 1).toNat, by omega⟩
    have f := gZ_far (i1 + 1) k (by omega) (by omega)
    rw [← hk] at f
    have d2 : 0 ≤ (gZ (i2 + 1) - gZ i2) * r2 ∧ (gZ (i2 + 1) - gZ i2) * r2 ≤ 6291448 * r2 := by
      by_cases h4 : i2 = 1024
      · rw [hr h4]; simp
      · have s := gZ_slope (i := i2) (by omega) (by omega)
        have l := gZ_le_succ (i := i2) (by omega) (by omega)
        exact ⟨Int.mul_nonneg (by omega) r20, Int.mul_le_mul_of_nonneg_right s r20⟩
    have d1 : 0 ≤ (gZ (i1 + 1) - gZ i1) * (X - r1) ∧ (gZ (i1 + 1) - gZ i1) * (X - r1) ≤ 6291448 * (X - r1) := ⟨Int.mul_nonneg (by omega) (by omega), Int.mul_le_mul_of_nonneg_right s (by omega)⟩
    have dm : 0 ≤ (gZ i2 - gZ (i1 + 1)) * X ∧ (gZ i2 - gZ (i1 + 1)) * X ≤ 6291448 * k * X := ⟨Int.mul_nonneg f.1 (by omega), Int.mul_le_mul_of_nonneg_right f.2 (by omega)⟩
    have e : (gZ i2 * X + (gZ (i2 + 1) - gZ i2) * r2) - (gZ i1 * X + (gZ (i1 + 1) - gZ i1) * r1) = (gZ i2 - gZ (i1 + 1)) * X + (gZ (i2 + 1) - gZ i2) * r2 + (gZ (i1 + 1) - gZ i1) * (X - r1) := by grind
    have ez : 6291448 * (z2 - z1) = 6291448 * k * X + 6291448 * r2 + 6291448 * (X - r1) := by
      rw [e1, e2, hk]; grind
    rw [e, ez]
    omega
theorem pull_two {mode W g1 g2 : Int} (hm : mode = 1 ∨ mode = 2) (hW : 0 < W) (h0 : 0 ≤ g1) (h1 : g1 ≤ g2) (h2 : g2 ≤ pX W) :
    pullU mode W g1 ≤ pullU mode W g2 ∧ (pullU mode W g2 - pullU mode W g1) * (2 * W) ≤ (1 + mode) * (g2 - g1) * pullD mode W := by
  have hX : 0 < pX W := by unfold pX; omega
  rcases hm with rfl | rfl
  · unfold pullU pullD
    simp only [if_true]
    refine ⟨h1, ?_⟩
    have e : (g2 - g1) * (2 * W) = (1 + 1) * (g2 - g1) * W := by grind
    omega
  · unfold pullU pullD
    rw [if_neg (by decide), if_neg (by decide), if_neg (by decide)]
    have rr : ∀ g, pR W g = 1024 * g % pX W := fun g => by
      unfold pR pI
      rw [Int.emod_def, Int.mul_comm (pX W)]
    have ee : ∀ g, 1024 * g = pI W g * pX W + pR W g := fun g => by unfold pR; omega
    have r0 : ∀ g, 0 ≤ pR W g := fun g => by rw [rr]; exact Int.emod_nonneg _ (by omega)
    have r1 : ∀ g, pR W g < pX W := fun g => by rw [rr]; exact Int.emod_lt_of_pos _ hX
    have im : ∀ a b, a ≤ b → pI W a ≤ pI W b := fun a b h => by unfold pI; exact Int.ediv_le_ediv hX (by omega)
    have i0 : 0 ≤ pI W g1 := by unfold pI; exact Int.ediv_nonneg (by omega) (by omega)
    have i4 : pI W g2 ≤ 1024 := by
      have : pI W (pX W) = 1024 := by unfold pI; exact Int.mul_ediv_cancel _ (by omega)
      rw [← this]; exact im _ _ h2
    have z : pI W g2 = 1024 → pR W g2 = 0 := fun e => by
      have a := ee g2
      have b := r0 g2
      rw [e] at a
      omega
    have t := curve_two hX (ee g1) (ee g2) i0 i4 (r0 _) (r1 _) (r0 _) (r1 _) (by omega) z (im _ _ h1)
    generalize gZ (pI W g2) * pX W + (gZ (pI W g2 + 1) - gZ (pI W g2)) * pR W g2 = U2 at *
    generalize gZ (pI W g1) * pX W + (gZ (pI W g1 + 1) - gZ (pI W g1)) * pR W g1 = U1 at *
    refine ⟨by omega, ?_⟩
    have a : (U2 - U1) * (2 * W) ≤ 6442442752 * (g2 - g1) * (2 * W) := Int.mul_le_mul_of_nonneg_right (by omega) (by omega)
    have b : 0 ≤ (g2 - g1) * W := Int.mul_nonneg (by omega) (by omega)
    have e : 6442442752 * (g2 - g1) * (2 * W) = 12884885504 * ((g2 - g1) * W) := by grind
    have f : (1 + 2) * (g2 - g1) * pX W = 12884901888 * ((g2 - g1) * W) := by unfold pX; grind
    rw [f]
    omega
theorem quo_step {U1 U2 D : Int} (hD : 0 < D) (h : U1 ≤ U2) (up : Bool) : quo U1 D up ≤ quo U2 D up ∧ (quo U2 D up - quo U1 D up - 1) * D < U2 - U1 := by
  have key : ∀ a b, a ≤ b → a / D ≤ b / D ∧ (b / D - a / D - 1) * D < b - a := fun a b hab => by
    refine ⟨Int.ediv_le_ediv hD hab, ?_⟩
    have x1 := Int.mul_ediv_add_emod a D
    have x2 := Int.mul_ediv_add_emod b D
    have y1 := Int.emod_lt_of_pos a hD
    have y2 := Int.emod_nonneg b (show D ≠ 0 by omega)
    have e : (b / D - a / D - 1) * D = D * (b / D) - D * (a / D) - D := by grind
    omega
  unfold quo
  split
  · have := key (U1 + D - 1) (U2 + D - 1) (by omega)
    exact ⟨this.1, by have := this.2; omega⟩
  · exact key _ _ h
/-- The pull, cut off where the window ends. -/
def cut (mode W g : Int) (up : Bool) : Int := quo (pullU mode W (min g (pX W))) (pullD mode W) up
theorem cut_two {mode W g1 g2 : Int} (hm : mode = 1 ∨ mode = 2) (hW : 0 < W) (h0 : 0 ≤ g1) (h1 : g1 ≤ g2) (up : Bool) :
    0 ≤ cut mode W g2 up - cut mode W g1 up ∧ (cut mode W g2 up - cut mode W g1 up) * (2 * W) < (1 + mode) * (g2 - g1) + 2 * W := by
  have hX : 0 < pX W := by unfold pX; omega
  have hD : 0 < pullD mode W := by unfold pullD; split <;> omega
  have p := pull_two (g1 := min g1 (pX W)) (g2 := min g2 (pX W)) hm hW (by omega) (by omega) (by omega)
  have q := quo_step hD p.1 up
  unfold cut
  generalize quo (pullU mode W (min g1 (pX W))) (pullD mode W) up = c1 at *
  generalize quo (pullU mode W (min g2 (pX W))) (pullD mode W) up = c2 at *
  generalize pullU mode W (min g1 (pX W)) = U1 at *
  generalize pullU mode W (min g2 (pX W)) = U2 at *
  generalize pullD mode W = D at *
  obtain ⟨G, hG⟩ : ∃ G, min g2 (pX W) - min g1 (pX W) = G := ⟨_, rfl⟩
  rw [hG] at p
  have G1 : 0 ≤ G ∧ G ≤ g2 - g1 := by omega
  refine ⟨by omega, ?_⟩
  have a : (c2 - c1 - 1) * D * (2 * W) < (U2 - U1) * (2 * W) := Int.mul_lt_mul_of_pos_right q.2 (by omega)
  have b : (c2 - c1 - 1) * (2 * W) * D < (1 + mode) * G * D := by
    have e : (c2 - c1 - 1) * (2 * W) * D = (c2 - c1 - 1) * D * (2 * W) := by grind
    rw [e]
    exact Int.lt_of_lt_of_le a p.2
  have c : (c2 - c1 - 1) * (2 * W) < (1 + mode) * G := Int.lt_of_mul_lt_mul_right b (by omega)
  have d : (1 + mode) * G ≤ (1 + mode) * (g2 - g1) := Int.mul_le_mul_of_nonneg_left G1.2 (by omega)
  have e : (c2 - c1 - 1) * (2 * W) = (c2 - c1) * (2 * W) - 2 * W := by grind
  omega
theorem gZ_end : gZ 1024 = 4294967296 := by decide
theorem cut_end {mode W g : Int} (hW : 0 < W) (h : pX W ≤ g) (up : Bool) : cut mode W g up = 4294967296 := by
  have hX : 0 < pX W := by unfold pX; omega
  have hD : 0 < pullD mode W := by unfold pullD; split <;> omega
  have e : pullU mode W (pX W) = 4294967296 * pullD mode W := by
    unfold pullU pullD
    split
    · unfold pX; omega
    · have i : pI W (pX W) = 1024 := by unfold pI; exact Int.mul_ediv_cancel _ (by omega)
      have r : pR W (pX W) = 0 := by unfold pR; rw [i]; omega
      rw [i, r, gZ_end]; simp
  unfold cut quo
  rw [show min g (pX W) = pX W by omega, e]
  generalize pullD mode W = D at *
  split
  · rw [show 4294967296 * D + D - 1 = (D - 1) + 4294967296 * D by omega, Int.add_mul_ediv_right _ _ (by omega), Int.ediv_eq_zero_of_lt (by omega) (by omega)]; rfl
  · exact Int.mul_ediv_cancel _ (by omega)
theorem cut_zero {mode W : Int} (hm : mode = 1 ∨ mode = 2) (hW : 0 < W) (up : Bool) : cut mode W 0 up = 0 := by
  have hX : 0 < pX W := by unfold pX; omega
  have hD : 0 < pullD mode W := by unfold pullD; split <;> omega
  have e : pullU mode W 0 = 0 := by
    unfold pullU
    rcases hm with rfl | rfl
    · rfl
    · rw [if_neg (by decide)]
      have i : pI W 0 = 0 := by unfold pI; simp
      have r : pR W 0 = 0 := by unfold pR; rw [i]; simp
      have g : gZ 0 = 0 := by decide
      rw [i, r, g]; simp
  unfold cut quo
  rw [show min 0 (pX W) = 0 by omega, e]
  split
  · exact Int.ediv_eq_zero_of_lt (by omega) (by omega)
  · simp
/-- What the rate's law asks, of the two changes. -/
theorem rate_ok {W mode dt d : Int} (hW : 3600 ≤ W) (hm : mode = 1 ∨ mode = 2) (h0 : 0 ≤ dt) (d0 : 0 ≤ d) (h : d * (2 * W) < (1 + mode) * dt + 2 * W) : d * (2 * W) ≤ (1 + mode) * dt + 2 * W ∧ d ≤ dt ∧ (1 < dt → d < dt) := by
  have a : (1 + mode) * dt ≤ 3 * dt := Int.mul_le_mul_of_nonneg_right (by omega) h0
  refine ⟨by omega, ?_, fun h1 => ?_⟩
  · by_cases c : d ≤ dt
    · exact c
    · exfalso
      have b : (d - 1) * 7200 ≤ (d - 1) * (2 * W) := Int.mul_le_mul_of_nonneg_left (by omega) (by omega)
      have e : (d - 1) * (2 * W) = d * (2 * W) - 2 * W := by grind
      omega
  · by_cases c : d < dt
    · exact c
    · exfalso
      have b : (d - 1) * 7200 ≤ (d - 1) * (2 * W) := Int.mul_le_mul_of_nonneg_left (by omega) (by omega)
      have e : (d - 1) * (2 * W) = d * (2 * W) - 2 * W := by grind
      omega
/-- Not later than. -/
def tLe (a b s f : Int) : Prop := a < s ∨ (a = s ∧ b ≤ f)
theorem tLe.trans {a b s f t g : Int} (h : tLe a b s f) (k : tLe s f t g) : tLe a b t g := by unfold tLe at *; omega
theorem tLe_refl (a b : Int) : tLe a b a b := .inr ⟨rfl, Int.le_refl _⟩
/-- What windows opened between two looks opened behind a time. -/
def Sv.New (a b : Int) (x y : Sv) : Prop := ∃ r, y.began = x.began ++ r ∧ ∀ p ∈ r, tLe a b p.1 p.2
theorem Sv.new_same {a b : Int} {x y : Sv} (h : y.began = x.began) : x.New a b y := ⟨[], by simp [h], fun p hp => by cases hp⟩
theorem Sv.New.trans {a b : Int} {x y z : Sv} (h : x.New a b y) (k : y.New a b z) : x.New a b z := by
  obtain ⟨r, e, f⟩ := h
  obtain ⟨q, e', f'⟩ := k
  refine ⟨r ++ q, by rw [e', e, List.append_assoc], fun p hp => ?_⟩
  rcases List.mem_append.1 hp with c | c
  · exact f p c
  · exact f' p c
theorem begunL_new (a b ns nf : Int) : ∀ (com : List Cm) (d g : List (Int × Int)), (∀ c ∈ com, tLe a b c.bs c.bf) → ∃ r, (begunL ns nf com d g).2.1 = g ++ r ∧ ∀ p ∈ r, tLe a b p.1 p.2
  | [], d, g, _ => ⟨[], by simp [begunL], fun p hp => by cases hp⟩
  | c :: q, d, g, h => by
    rw [begunL]
    split
    · exact ⟨[], by simp, fun p hp => by cases hp⟩
    · obtain ⟨r, e, f⟩ := begunL_new a b ns nf q (d ++ [(c.a, c.o)]) (g ++ [(c.bs, c.bf)]) (fun c' hc => h c' (List.mem_cons_of_mem _ hc))
      refine ⟨[(c.bs, c.bf)] ++ r, by rw [e, List.append_assoc], fun p hp => ?_⟩
      rcases List.mem_append.1 hp with z | z
      · simp at z; subst z; exact h c List.mem_cons_self
      · exact f p z
theorem Sv.begun_new {a b : Int} (x : Sv) (h : ∀ c ∈ x.com, tLe a b c.bs c.bf) : x.New a b x.begun := begunL_new a b _ _ _ _ _ h
theorem Sv.opens_le (x : Sv) (t : Int) : tLe x.ns x.nf (x.opens t).1 (x.opens t).2 := by
  unfold Sv.opens
  split
  · exact tLe_refl _ _
  · rename_i c
    have := not_later (by simpa using c)
    exact this
theorem Sv.voted_new {a b : Int} (x : Sv) (h : tLe a b x.ns x.nf) : x.New a b x.voted := by
  unfold Sv.voted
  split
  · exact Sv.new_same rfl
  · refine Sv.New.trans (y := { x with com := [⟨x.atN, x.old + x.sign, (x.opens x.whenN).1, (x.opens x.whenN).2, true⟩] }) (Sv.new_same rfl) (Sv.begun_new _ fun c hc => ?_)
    have hc' : c = ⟨x.atN, x.old + x.sign, (x.opens x.whenN).1, (x.opens x.whenN).2, true⟩ := by simpa using hc
    subst hc'
    exact h.trans (x.opens_le _)
theorem Sv.weigh_new {a b : Int} (x : Sv) (hc : ∀ c ∈ x.com, tLe a b c.bs c.bf) (h : tLe a b x.ns x.nf) : x.New a b x.weigh := by
  unfold Sv.weigh
  split
  · exact Sv.new_same rfl
  · split
    · exact x.begun_new hc
    · exact (x.begun_new hc).trans (Sv.voted_new _ h)
/-- From one look to the next: the clock, and the windows. -/
structure Sv.Goes2 (x y : Sv) : Prop where
  ck : tLe x.ns x.nf y.ns y.nf
  nw : x.New x.ns x.nf y
theorem Sv.goes2_same {x y : Sv} (h1 : y.ns = x.ns) (h2 : y.nf = x.nf) (h : y.began = x.began) : x.Goes2 y := ⟨by rw [h1, h2]; exact tLe_refl _ _, Sv.new_same h⟩
theorem Sv.Inv.com_le {x : Sv} (h : x.Inv) (hl : x.ld = true) : ∀ c ∈ x.com, tLe x.ns x.nf c.bs c.bf := fun c hc => by
  have := is_later (h.lat hl c hc)
  unfold tLe; omega
theorem Sv.goes2_adv {x : Sv} (h : x.Inv) (hl : x.ld = true) (s f : Int) : x.Goes2 (x.adv s f).2 := by
  unfold Sv.adv
  split
  · exact Sv.goes2_same rfl rfl rfl
  · rename_i c1
    split
    · exact Sv.goes2_same rfl rfl rfl
    · have k := (x.at' (tSum x.ns x.nf s f).1 (tSum x.ns x.nf s f).2).kin_weigh
      have t := isT_bd (show isT s f = true by simpa using c1)
      obtain ⟨t0, t1, t2, t3⟩ := h.num.t'
      have le : tLe x.ns x.nf (tSum x.ns x.nf s f).1 (tSum x.ns x.nf s f).2 := by
        unfold tLe tSum
        simp only
        omega
      refine ⟨?_, Sv.New.trans (y := x.at' (tSum x.ns x.nf s f).1 (tSum x.ns x.nf s f).2) (Sv.new_same rfl) (Sv.weigh_new _ (h.com_le hl) le)⟩
      show tLe x.ns x.nf (Sv.weigh _).ns (Sv.weigh _).nf
      rw [k.ns, k.nf]
      exact le
theorem Sv.goes2_hear {x : Sv} (h : x.Inv) (hl : x.ld = true) (a b : Int) : x.Goes2 (x.hear a b).2 := by
  unfold Sv.hear
  split
  · exact Sv.goes2_same rfl rfl rfl
  · split
    · exact Sv.goes2_same rfl rfl rfl
    · have k := (x.says a.toNat b).kin_weigh
      refine ⟨?_, Sv.New.trans (y := x.says a.toNat b) (Sv.new_same rfl) (Sv.weigh_new _ (h.com_le hl) (tLe_refl _ _))⟩
      show tLe x.ns x.nf (Sv.weigh _).ns (Sv.weigh _).nf
      rw [k.ns, k.nf]
      exact tLe_refl _ _
theorem Sv.goes2_load {x : Sv} (hl : x.ld = true) (g : Txt.Got) : x.Goes2 (x.load g).2.2 := by
  unfold Sv.load
  split
  · exact Sv.goes2_same rfl rfl rfl
  · have k := (x.taken g.up g.ex g.ls).kin_weigh
    obtain ⟨t1, t2, t3, t4, t5, t6, t7, t8, t9⟩ := Sv.taken_kin hl g.up g.ex g.ls
    have b1 : x.begun1 g.ls = x := by unfold Sv.begun1; rw [if_neg (by rw [hl]; simp)]
    refine ⟨?_, Sv.New.trans (y := x.taken g.up g.ex g.ls) (Sv.new_same t9) (Sv.weigh_new _ (fun c hc => ?_) (by rw [t3, t4]; exact tLe_refl _ _))⟩
    · show tLe x.ns x.nf (Sv.weigh _).ns (Sv.weigh _).nf
      rw [k.ns, k.nf, t3, t4]
      exact tLe_refl _ _
    · unfold Sv.taken at hc
      rw [b1] at hc
      obtain ⟨j, hj, rfl⟩ := List.getElem_of_mem (show c ∈ (x.stamp g.up g.ex).cms g.ls _ _ from hc)
      rw [((x.stamp g.up g.ex).cms_at g.ls _ _ j _ (List.getElem?_eq_getElem hj)).2]
      exact (x.stamp g.up g.ex).opens_le _
/-- How far what is served lies ahead of the clock, in parts of a second. -/
def Sv.offP (x : Sv) : Int :=
  if x.done.length < 2 then -(x.done.getD 0 (0, 0)).2 * 4294967296
  else -(x.done.getD (x.done.length - 1 - 1) (0, 0)).2 * 4294967296 + (if (x.done.getD (x.done.length - 1) (0, 0)).2 < (x.done.getD (x.done.length - 1 - 1) (0, 0)).2 then cut x.mode x.win (x.gap (x.done.length - 1)) false else -cut x.mode x.win (x.gap (x.done.length - 1)) true)
theorem Sv.Inv.smear {x : Sv} (h : x.Inv) (hm : x.mode ≠ 0) : (x.mode = 1 ∨ x.mode = 2) ∧ 3600 ≤ x.win ∧ x.win ≤ 604800 := by
  rcases h.num.mode with ⟨a, _⟩ | ⟨a, b, c, _⟩
  · exact absurd a hm
  · exact ⟨a, b, c⟩
theorem Sv.Inv.bgD {x : Sv} (h : x.Inv) (hl : x.ld = true) (i : Nat) (hi : i < x.done.length) : x.Bg (Tab.when x.done i) (x.began.getD i (0, 0)).1 (x.began.getD i (0, 0)).2 := by
  have b := (h.mid hl).bg i hi
  rw [show Tab.when x.all i = Tab.when x.done i from Tab.when_append _ _ _ hi] at b
  exact b
/-- A window is over. -/
theorem Sv.Inv.over {x : Sv} (h : x.Inv) (hl : x.ld = true) (i : Nat) (hi : i < x.done.length) (ht : x.till i = false) : pX x.win ≤ x.gap i ∧ Tab.when x.done i ≤ x.ns := by
  have b := h.bgD hl i hi
  have lo := b.lo
  rw [Sv.till_eq i b.f0 b.f1] at ht
  have q := of_decide_eq_false ht
  have f0 := b.f0
  have f1 := b.f1
  obtain ⟨t0, t1, t2, t3⟩ := h.num.t'
  unfold pX Sv.gap
  generalize (x.began.getD i (0, 0)).1 = bs at *
  generalize (x.began.getD i (0, 0)).2 = bf at *
  constructor
  · omega
  · omega
/-- What is served. -/
theorem Sv.Inv.offAt {x : Sv} (h : x.Inv) (hl : x.ld = true) (hm : x.mode ≠ 0) {ts tf li er : Int} (hT : x.Told ts tf li er) : li = 0 ∧ er = 0 ∧ ts * 4294967296 + tf = x.ns * 4294967296 + x.nf + x.offP := by
  have m := h.mid hl
  have ft := m.doneFit
  have pos := m.pos
  obtain ⟨hmm, w0, w1⟩ := h.smear hm
  obtain ⟨t0, t1, t2, t3⟩ := h.num.t'
  by_cases hw : x.wide
  · obtain ⟨e1, e2, rfl, rfl⟩ := hT.in' hl hm hw
    obtain ⟨l2, ht⟩ := hw
    have ok := h.pullOk hl (x.done.length - 1) (by omega) ht
    rw [Sv.smeared_eq ok t2 t3] at e1 e2
    have n1 := ok.n1
    have c : ∀ up, cut x.mode x.win (x.gap (x.done.length - 1)) up = x.pq (x.done.length - 1) up := fun up => by
      unfold cut Sv.pq
      rw [show min (x.gap (x.done.length - 1)) (pX x.win) = x.gap (x.done.length - 1) by omega]
    refine ⟨rfl, rfl, ?_⟩
    unfold Sv.offP
    rw [if_neg (by omega), c, c]
    by_cases q : (x.done.getD (x.done.length - 1) (0, 0)).2 < (x.done.getD (x.done.length - 1 - 1) (0, 0)).2
    · rw [if_pos q] at e1 e2 ⊢
      have v := moved_val (x.ns - (x.done.getD (x.done.length - 1 - 1) (0, 0)).2) x.nf (x.pq (x.done.length - 1) false)
      rw [← e1, ← e2] at v
      rw [v]; omega
    · rw [if_neg q] at e1 e2 ⊢
      have v := moved_val (x.ns - (x.done.getD (x.done.length - 1 - 1) (0, 0)).2) x.nf (-x.pq (x.done.length - 1) true)
      rw [← e1, ← e2] at v
      rw [v]; omega
  · obtain ⟨rfl, rfl, rfl, rfl⟩ := hT.out hl hm hw
    refine ⟨rfl, rfl, ?_⟩
    have lb := Tab.lastAt_bd x.done x.ns x.done.length
    have l0 := (ft.lastAt_le x.ns m.firstD).1
    unfold Sv.offP Sv.utc
    by_cases l2 : x.done.length < 2
    · rw [if_pos l2, show (Tab.lastAt x.done x.ns x.done.length).toNat = 0 by omega]
      omega
    · rw [if_neg l2]
      have ht : x.till (x.done.length - 1) = false := by
        cases e : x.till (x.done.length - 1) with
        | false => rfl
        | true => exact absurd ⟨by omega, e⟩ hw
      obtain ⟨g, wn⟩ := h.over hl (x.done.length - 1) (by omega) ht
      have i1 := (ft.lastAt_iff x.ns x.done.length (x.done.length - 1) (Nat.le_refl _) (by omega)).1 wn
      rw [show (Tab.lastAt x.done x.ns x.done.length).toNat = x.done.length - 1 by omega, cut_end (by omega) g, cut_end (by omega) g]
      have st := ft.good.off (x.done.length - 1 - 1) (by omega)
      rw [show x.done.length - 1 - 1 + 1 = x.done.length - 1 by omega] at st
      split <;> omega
theorem getD_newmem (a r : List (Int × Int)) (k : Nat) (h : a.length ≤ k) (h2 : k < (a ++ r).length) : (a ++ r).getD k (0, 0) ∈ r := by
  have h3 : k - a.length < r.length := by rw [List.length_append] at h2; omega
  rw [List.getD_eq_getElem?_getD, List.getElem?_append_right h, List.getElem?_eq_getElem h3]
  exact List.getElem_mem h3
/-- How what is served moves against the clock. -/
theorem Sv.rate_key {x y : Sv} (hx : x.Inv) (hy : y.Inv) (lx : x.ld = true) (ly : y.ld = true) (g : x.Goes y) (g2 : x.Goes2 y) (hm : x.mode ≠ 0) (h4 : y.ns - x.ns < 400000) :
    ∃ D, 0 ≤ D ∧ D * (2 * x.win) < (1 + x.mode) * ((y.ns - x.ns) * 4294967296 + y.nf - x.nf) + 2 * x.win ∧ (y.offP - x.offP = D ∨ y.offP - x.offP = -D) := by
  obtain ⟨hmm, w0, w1⟩ := hx.smear hm
  have mx := hx.mid lx
  have my := hy.mid ly
  have fx := mx.doneFit
  have fy := my.doneFit
  have px := mx.pos
  obtain ⟨t0, t1, t2, t3⟩ := hx.num.t'
  obtain ⟨u0, u1, u2, u3⟩ := hy.num.t'
  have ck := g2.ck
  unfold tLe at ck
  obtain ⟨r, er⟩ := g.pre
  obtain ⟨q, eq, hq⟩ := g2.nw
  have lr : y.done.length = x.done.length + r.length := by rw [er, List.length_append]
  have lq : y.began.length = x.began.length + q.length := by rw [eq, List.length_append]
  have bx := mx.bl
  have by' := my.bl
  obtain ⟨dt, hdt⟩ : ∃ dt, (y.ns - x.ns) * 4294967296 + y.nf - x.nf = dt := ⟨_, rfl⟩
  have dt0 : 0 ≤ dt := by omega
  rw [hdt]
  have em := g.mode
  have ew := g.win
  -- a new entry
  have nw : ∀ k, x.done.length ≤ k → k < y.done.length → tLe x.ns x.nf (y.began.getD k (0, 0)).1 (y.began.getD k (0, 0)).2 ∧ x.ns ≤ Tab.when y.done k ∧ Tab.when y.done k ≤ y.ns + 302400 := fun k h1 h2 => by
    have a := hq (y.began.getD k (0, 0)) (by rw [eq]; exact getD_newmem x.began q k (by omega) (by rw [← eq]; omega))
    have b := hy.bgD ly k h2
    have bh := b.hi
    have bo := b.ov
    have bn := b.now
    have bl := b.lo
    rw [ew] at bo bl
    refine ⟨a, ?_, ?_⟩
    · unfold tLe at a; omega
    · omega
  have old : ∀ k, k < x.done.length → y.done.getD k (0, 0) = x.done.getD k (0, 0) ∧ y.began.getD k (0, 0) = x.began.getD k (0, 0) := fun k hk => by
    rw [er, eq]
    exact ⟨Tab.getD_left _ _ k hk, Tab.getD_left _ _ k (by omega)⟩
  have k1 : 0 ≤ (1 + x.mode) * dt := Int.mul_nonneg (by omega) dt0
  rcases Nat.lt_or_ge r.length 1 with c | c
  · -- none
    have en : y.done.length = x.done.length := by omega
    by_cases l2 : x.done.length < 2
    · refine ⟨0, by omega, by omega, .inl ?_⟩
      unfold Sv.offP
      rw [if_pos l2, if_pos (by omega), (old 0 (by omega)).1]
      omega
    · have b := hx.bgD lx (x.done.length - 1) (by omega)
      have bn := b.now
      have gx0 : 0 ≤ x.gap (x.done.length - 1) := by
        unfold Sv.gap
        have := b.f0
        have := b.f1
        generalize (x.began.getD (x.done.length - 1) (0, 0)).1 = bs at *
        generalize (x.began.getD (x.done.length - 1) (0, 0)).2 = bf at *
        omega
      have gy : y.gap (x.done.length - 1) = x.gap (x.done.length - 1) + dt := by
        unfold Sv.gap
        rw [(old _ (by omega)).2]
        omega
      unfold Sv.offP
      rw [en, if_neg l2, if_neg l2, (old _ (by omega)).1, (old _ (by omega)).1, em, ew, gy]
      generalize x.gap (x.done.length - 1) = G at *
      have cf := cut_two hmm (show 0 < x.win by omega) gx0 (show G ≤ G + dt by omega) false
      have ct := cut_two hmm (show 0 < x.win by omega) gx0 (show G ≤ G + dt by omega) true
      rw [show G + dt - G = dt by omega] at cf ct
      split
      · exact ⟨_, cf.1, cf.2, .inl (by omega)⟩
      · exact ⟨_, ct.1, ct.2, .inr (by omega)⟩
  · have n0 := nw x.done.length (Nat.le_refl _) (by omega)
    rcases Nat.lt_or_ge r.length 2 with c2 | c2
    · -- one
      have en : y.done.length = x.done.length + 1 := by omega
      have gp := fy.when_lt (x.done.length - 1) x.done.length (by omega) (by omega)
      have wx : Tab.when y.done (x.done.length - 1) = Tab.when x.done (x.done.length - 1) := by rw [er]; exact Tab.when_append _ _ _ (by omega)
      have b := hx.bgD lx (x.done.length - 1) (by omega)
      have bh := b.hi
      have xo : x.offP = -(x.done.getD (x.done.length - 1) (0, 0)).2 * 4294967296 := by
        unfold Sv.offP
        by_cases l2 : x.done.length < 2
        · rw [if_pos l2, show x.done.length - 1 = 0 by omega]
        · rw [if_neg l2]
          have g : pX x.win ≤ x.gap (x.done.length - 1) := by
            have := b.f0
            have := b.f1
            unfold pX Sv.gap
            generalize (x.began.getD (x.done.length - 1) (0, 0)).1 = bs at *
            generalize (x.began.getD (x.done.length - 1) (0, 0)).2 = bf at *
            omega
          rw [cut_end (by omega) g, cut_end (by omega) g]
          have st := fx.good.off (x.done.length - 1 - 1) (by omega)
          rw [show x.done.length - 1 - 1 + 1 = x.done.length - 1 by omega] at st
          split <;> omega
      have by2 := hy.bgD ly x.done.length (by omega)
      have bn := by2.now
      have bf0 := by2.f0
      have bf1 := by2.f1
      have nl := n0.1
      unfold tLe at nl
      have gy : 0 ≤ y.gap x.done.length ∧ y.gap x.done.length ≤ dt := by
        unfold Sv.gap
        generalize (y.began.getD x.done.length (0, 0)).1 = bs at *
        generalize (y.began.getD x.done.length (0, 0)).2 = bf at *
        omega
      rw [xo]
      unfold Sv.offP
      rw [if_neg (by omega), en, show x.done.length + 1 - 1 = x.done.length by omega, (old _ (by omega)).1, em, ew]
      generalize y.gap x.done.length = G at *
      have cf := cut_two hmm (show 0 < x.win by omega) (Int.le_refl 0) gy.1 false
      have ct := cut_two hmm (show 0 < x.win by omega) (Int.le_refl 0) gy.1 true
      rw [cut_zero hmm (by omega)] at cf ct
      have le : (1 + x.mode) * (G - 0) ≤ (1 + x.mode) * dt := Int.mul_le_mul_of_nonneg_left (by omega) (by omega)
      split
      · exact ⟨_, cf.1, Int.lt_of_lt_of_le cf.2 (by omega), .inl (by omega)⟩
      · exact ⟨_, ct.1, Int.lt_of_lt_of_le ct.2 (by omega), .inr (by omega)⟩
    · -- two and more: there are none
      exfalso
      have n1 := nw (x.done.length + 1) (by omega) (by omega)
      have gp := fy.when_lt x.done.length (x.done.length + 1) (by omega) (by omega)
      omega
theorem Sv.rate {x y : Sv} (hx : x.Inv) (hy : y.Inv) (lx : x.ld = true) (ly : y.ld = true) (g : x.Goes y) (g2 : x.Goes2 y) (hm : x.mode ≠ 0) {ts tf li er ts' tf' li' er' : Int} (hT : x.Told ts tf li er) (hT' : y.Told ts' tf' li' er') (h4 : y.ns - x.ns < 400000) {dt ds : Int} (edt : (y.ns - x.ns) * 4294967296 + y.nf - x.nf = dt) (eds : (ts' - ts) * 4294967296 + tf' - tf = ds) :
    ∃ D, 0 ≤ D ∧ (ds - dt = D ∨ ds - dt = -D) ∧ D * (2 * x.win) ≤ (1 + x.mode) * dt + 2 * x.win ∧ 0 ≤ ds ∧ (1 < dt → 0 < ds) ∧ 0 ≤ dt ∧ dt ≤ 1717991215792129 ∧ D ≤ dt := by
  obtain ⟨hmm, w0, w1⟩ := hx.smear hm
  obtain ⟨t0, t1, t2, t3⟩ := hx.num.t'
  obtain ⟨u0, u1, u2, u3⟩ := hy.num.t'
  obtain ⟨D, d0, d1, d2⟩ := Sv.rate_key hx hy lx ly g g2 hm h4
  have a := (hx.offAt lx hm hT).2.2
  have b := (hy.offAt ly (by rw [g.mode]; exact hm) hT').2.2
  rw [edt] at d1
  have ck := g2.ck
  unfold tLe at ck
  have dt0 : 0 ≤ dt := by omega
  obtain ⟨r1, r2, r3⟩ := rate_ok w0 hmm dt0 d0 d1
  have e : ds - dt = y.offP - x.offP := by omega
  refine ⟨D, d0, by rw [e]; exact d2, r1, ?_, fun h => ?_, dt0, by omega, r2⟩
  · omega
  · have := r3 h; omega
theorem Sv.hear_err {x : Sv} {a b : Int} (h : (x.hear a b).1 ≠ 0) : (x.hear a b).2 = x := by
  unfold Sv.hear at h ⊢
  split
  · rfl
  · rename_i c
    rw [if_neg c] at h
    split
    · rfl
    · rename_i c2
      rw [if_neg c2] at h
      exact absurd rfl h
theorem Stp.goes {k a b : Int} {s s' : Sv} {ev : Int} (h : Stp k a b s s' ev) (hi : s.Inv) (hl : s.ld = true) : s.Goes s' ∧ s.Goes2 s' ∧ (k = 2 → (ev = 0 ↔ s'.ref = s.ref)) := by
  by_cases k1 : k = 1
  · obtain ⟨rfl, rfl⟩ := h.hear k1
    exact ⟨Sv.goes_hear hl a b, Sv.goes2_hear hi hl a b, fun e => by omega⟩
  · by_cases k2 : k = 2
    · obtain ⟨t, rfl, rfl⟩ := h.load k2
      obtain ⟨g, e⟩ := Sv.goes_load hl (Txt.parse t)
      exact ⟨g, Sv.goes2_load hl _, fun _ => e⟩
    · obtain ⟨x, y, rfl, rfl⟩ := h.adv k1 k2
      exact ⟨Sv.goes_adv hi hl x y, Sv.goes2_adv hi hl x y, fun e => absurd e k2⟩
theorem Stp.quiet {a b : Int} {s s' : Sv} {ev : Int} (h : Stp 1 a b s s' ev) (hi : s.Inv) (hl : s.ld = true) (hw : s.Wd) (hu : s.utc < s.ex) : s'.ns = s.ns ∧ s'.nf = s.nf ∧ s'.done.length = s.done.length ∧ s'.com.length = s.com.length ∧ ∀ ts tf li er, s.Told ts tf li er → s'.Told ts tf li er := by
  obtain ⟨rfl, _⟩ := h.hear rfl
  rcases Sv.quiet_hear hi hl hw hu a b with e | ⟨k, l, e⟩
  · rw [e]
    exact ⟨rfl, rfl, rfl, rfl, fun _ _ _ _ t => t⟩
  · rw [e]
    exact ⟨rfl, rfl, rfl, rfl, fun _ _ _ _ t => Sv.told_says t k l⟩
theorem Stp.err {a b : Int} {s s' : Sv} {ev : Int} (h : Stp 1 a b s s' ev) (he : ev ≠ 0) : s'.com.length = s.com.length := by
  obtain ⟨rfl, rfl⟩ := h.hear rfl
  rw [Sv.hear_err he]
end Go.Proofs.YtmmkhodaljpjgabGreatDoor
namespace Go.Proofs.YtmmkhodaljpjgabGreatDoor
open Go.RowKit Go.ChangeShapes Go.WideShapes
/-- Steps that were handed in. -/
structure Stps (w : World) (so : Option Addr) (L : Nat) : Prop where
  some : 0 < L → ∃ b off, so = .some ⟨b, off, none⟩ ∧ b < w.heap.size ∧ ∀ i, i < L → ∃ k a c : Int, w.cell? ⟨b, off + i * 3, none⟩ = .some (.int .i64 k) ∧ w.cell? ⟨b, off + i * 3 + 1, none⟩ = .some (.int .i64 a) ∧ w.cell? ⟨b, off + i * 3 + 2, none⟩ = .some (.int .i64 c) ∧ (Lit.int .i64 k).wf = true ∧ (Lit.int .i64 a).wf = true ∧ (Lit.int .i64 c).wf = true
theorem Stps.below {w w' : World} {so : Option Addr} {L : Nat} (h : Stps w so L) (hb : Below w.heap.size w w') : Stps w' so L := by
  refine ⟨fun hp => ?_⟩
  obtain ⟨b, off, e, hl, hc⟩ := h.some hp
  refine ⟨b, off, e, Nat.lt_of_lt_of_le hl hb.size, fun i hi => ?_⟩
  obtain ⟨k, a, c, h0, h1, h2, r⟩ := hc i hi
  exact ⟨k, a, c, (hb.cell (p := ⟨b, off + i * 3, none⟩) hl).trans h0, (hb.cell (p := ⟨b, off + i * 3 + 1, none⟩) hl).trans h1, (hb.cell (p := ⟨b, off + i * 3 + 2, none⟩) hl).trans h2, r⟩
theorem cellsI : Tryz.prog.cellsOf 3 = 1 := by kernel_rfl
theorem cellsStp : Tryz.prog.cellsOf 43 = 3 := by kernel_rfl
theorem open_l {H : Type} {enc : TypeId × Value → H} {w : World} {base : Nat} {spare : Nat → Bool} {held : Bool} {fuel : Nat} {cs : List Value} {x : DataW H × List MemPlace}
    (h : DataW.trod enc Tryz.prog w base spare held fuel 22 cs = some x) : ∃ lo L lcap, cs = [.slice lo L lcap] ∧ Ints w lo L ∧ L ≤ 9223372036854775807 := by
  rcases ChangeShapes.open_ints Tryz.underlying22 Tryz.underlying3 cellsI h with ⟨rfl, _⟩ | ⟨a, len, cap, zs, rfl, _, hlc, hcm, hzl, _, hc, hwf⟩
  · exact ⟨none, 0, 0, rfl, ⟨fun h => by omega⟩, by omega⟩
  · refine ⟨some a, len, cap, rfl, ⟨fun hp => ?_⟩, by unfold maxLen at hcm; omega⟩
    have hzz : len ≤ zs.length := by rw [hzl]; split <;> omega
    have c0 := hc 0 (by omega)
    have hspot : a.spot = none := by have := World.cell?_spot c0; simpa [Addr.add] using this
    obtain ⟨b, off, spot⟩ := a
    simp only at hspot
    subst hspot
    have hadd : ∀ i, (⟨b, off, none⟩ : Addr).add i = ⟨b, off + i, none⟩ := fun i => by unfold Addr.add; simp only []; split <;> simp_all
    refine ⟨b, off, rfl, ?_, fun k hk => ⟨zs.getD k 0, ?_, ?_⟩⟩
    · have := hc 0 (by omega); rw [hadd] at this; exact block_lt_of_cell this
    · rw [← hadd]; exact hc k (by omega)
    · apply hwf; rw [List.getD_eq_getElem?_getD, List.getElem?_eq_getElem (by omega)]; exact List.getElem_mem _
theorem three {α : Type} {l : List α} (h : l.length = 3) : ∃ a b c, l = [a, b, c] := by
  match l, h with
  | [a, b, c], _ => exact ⟨a, b, c, rfl⟩
theorem open_stp {H : Type} {enc : TypeId × Value → H} {w : World} {base : Nat} {spare : Nat → Bool} {held : Bool} {fuel : Nat} {cs : List Value} {x : DataW H × List MemPlace}
    (h : DataW.trod enc Tryz.prog w base spare held fuel 43 cs = some x) : ∃ k a c : Int, cs = [.int .i64 k, .int .i64 a, .int .i64 c] ∧ (Lit.int .i64 k).wf = true ∧ (Lit.int .i64 a).wf = true ∧ (Lit.int .i64 c).wf = true := by
  obtain ⟨xs, n, _, rfl, hl, hn, hf⟩ := DataW.trod_struct Tryz.underlying43 h
  rw [cellsStp] at hl
  obtain ⟨c0, c1, c2, rfl⟩ := three hl
  obtain ⟨y0, y1, y2, rfl⟩ := three (show xs.length = 3 from hn)
  have f0 : DataW.trod enc Tryz.prog w base spare held n 3 (([c0, c1, c2].drop 0).take (Tryz.prog.cellsOf 3)) = some y0 := hf 0 _ rfl
  rw [cellsI] at f0
  have f1 : DataW.trod enc Tryz.prog w base spare held n 3 (([c0, c1, c2].drop 1).take (Tryz.prog.cellsOf 3)) = some y1 := hf 1 _ rfl
  rw [cellsI] at f1
  have f2 : DataW.trod enc Tryz.prog w base spare held n 3 (([c0, c1, c2].drop 2).take (Tryz.prog.cellsOf 3)) = some y2 := hf 2 _ rfl
  rw [cellsI] at f2
  obtain ⟨k, e0, g0, w0⟩ := DataW.trod_int Tryz.underlying3 (show DataW.trod enc Tryz.prog w base spare held n 3 [c0] = some y0 from f0)
  obtain ⟨a, e1, g1, w1⟩ := DataW.trod_int Tryz.underlying3 (show DataW.trod enc Tryz.prog w base spare held n 3 [c1] = some y1 from f1)
  obtain ⟨c, e2, g2, w2⟩ := DataW.trod_int Tryz.underlying3 (show DataW.trod enc Tryz.prog w base spare held n 3 [c2] = some y2 from f2)
  simp only [List.cons.injEq, and_true] at e0 e1 e2
  subst e0 e1 e2
  exact ⟨k, a, c, rfl, w0, w1, w2⟩
theorem open_steps {H : Type} {enc : TypeId × Value → H} {w : World} {fuel : Nat} {v : Value} {x : DataW H × List MemPlace}
    (h : DataW.trod enc Tryz.prog w 0 (fun _ => true) true fuel 23 [v] = some x) :
    ∃ so L cap, v = .slice so L cap ∧ Stps w so L ∧ L ≤ 9223372036854775807 := by
  rcases Deep.open_slice Tryz.underlying23 h with ⟨hcs, hx⟩ | ⟨a, len, cap, m, n, D, Pl, hcs, _, hlc, hcm, hm, hx, hel⟩
  · simp only [List.cons.injEq, and_true] at hcs
    subst hcs
    exact ⟨none, 0, 0, rfl, ⟨fun h => by omega⟩, by omega⟩
  · simp only [List.cons.injEq, and_true] at hcs
    subst hcs
    have hml : len ≤ m := by simp at hm; omega
    have hop : ∀ i, i < len → ∃ k a' c : Int, w.cells? 0 (a.add (i * 3)) 3 = some [.int .i64 k, .int .i64 a', .int .i64 c] ∧ (Lit.int .i64 k).wf = true ∧ (Lit.int .i64 a').wf = true ∧ (Lit.int .i64 c).wf = true := by
      intro i hi
      obtain ⟨cs', hc, ht⟩ := hel i (by omega)
      rw [cellsStp] at hc
      obtain ⟨k, a', c, rfl, hw⟩ := open_stp ht
      exact ⟨k, a', c, hc, hw⟩
    refine ⟨some a, len, cap, rfl, ⟨fun hpos => ?_⟩, by unfold maxLen at hcm; omega⟩
    obtain ⟨k0, a0, c0', hc00, _⟩ := hop 0 hpos
    obtain ⟨_, _, hc0⟩ := World.cells?_some hc00
    have h00 := hc0 0 (by omega)
    have hspot : a.spot = none := by
      have : w.cell? (a.add 0) = some (.int .i64 k0) := by simpa [Addr.add] using h00
      have := World.cell?_spot this
      simpa [Addr.add] using this
    obtain ⟨b, off, spot⟩ := a
    simp only at hspot
    subst hspot
    have hadd : ∀ i j, ((⟨b, off, none⟩ : Addr).add i).add j = ⟨b, off + i + j, none⟩ := fun i j => by
      unfold Addr.add; simp only []; split <;> split <;> simp_all
    refine ⟨b, off, rfl, ?_, fun i hi => ?_⟩
    · exact World.cells?_block (a := ((⟨b, off, none⟩ : Addr).add (0 * 3))) hc00 (by omega)
    · obtain ⟨k, a', c, hc, hw⟩ := hop i hi
      obtain ⟨_, _, hc'⟩ := World.cells?_some hc
      have q0 := hc' 0 (by omega)
      have q1 := hc' 1 (by omega)
      have q2 := hc' 2 (by omega)
      rw [hadd] at q0 q1 q2
      exact ⟨k, a', c, by simpa using q0, by simpa using q1, by simpa using q2, hw⟩
end Go.Proofs.YtmmkhodaljpjgabGreatDoor
namespace Go.Proofs.YtmmkhodaljpjgabGreatDoor
open Go.RowKit
set_option maxRecDepth 100000 in
set_option maxHeartbeats 6400000 in
theorem near_walk (c : Int) (lo : Option Addr) (L lcap : Nat) (so : Option Addr) (S scap : Nat) (w : World) (wc : (Lit.int .i64 c).wf = true) (hI : Ints w lo L) (hL : L ≤ 9223372036854775807) (hS : Stps w so S) (hSL : S ≤ 9223372036854775807) (hT : Table w) (hP : Pows w) :
    Calls Tryz.prog 4 #[.int .i64 c, .slice lo L lcap, .slice so S scap] w fun e w' => e = .returned (.bool true) ∧ Below w.heap.size w w' := by
  have BG := hid' (k_begun c lo L lcap w wc hI hL hT hP)
  have HS := hid' hS
  clear wc hI hS hT hP
  go_enter Tryz.func4, Tryz.ntmps4
  go_wp2_with fail
  refine Calls.mono BG.out ?_
  rintro e w1 ⟨q, n1, s1, F1, rfl, tri1, b1⟩
  have T1 := hid' tri1
  have BL1 := hid' b1
  clear tri1 b1 BG
  go_wp2_with fail
  go_loopw [8] (fun i wr => ∃ (k n : Nat) (s : Sv) (F : Nat → Prop), k ≤ 61 ∧ i = .int .i64 k ∧ Tri q w.heap.size k n s F wr ∧ Below w.heap.size w wr) (fun i _ => 61 - (intOf i).toNat)
  case atStart => exact ⟨0, n1, s1, F1, by omega, rfl, T1.out, BL1.out⟩
  case round =>
    obtain ⟨k, n, s, F, hk, rfl, tri, hb⟩ := hrel
    have TR := hid' tri
    have BR := hid' hb
    clear tri hb
    by_cases h1 : k ≤ S
    · have i1 : (k : Int) ≤ (S : Int) := by omega
      by_cases h2 : k ≤ 60
      · have i2 : (k : Int) ≤ 60 := by omega
        obtain ⟨ts, tf, li, er, hTo⟩ := TR.out.inv.tells TR.out.ld
        obtain ⟨er0, n0, n2, ⟨f0, f1⟩, o1, o2, o3⟩ := TR.out.inv.near TR.out.ld hTo
        subst er0
        have NW := hid' (TR.out.now hTo)
        have mi := TR.out.inv.mid TR.out.ld
        have dpos := mi.pos
        have dlen : s.done.length ≤ 1000 := by have := TR.out.inv.lens; omega
        have UE : Hid (s.ns - Tab.offTo s.done s.ns (s.done.length - 1) = s.utc) := by
          show _ = _
          unfold Sv.utc
          rw [Tab.offTo_eq _ _ mi.firstD, show s.done.length - 1 + 1 = s.done.length by omega]
        have FI := hid' mi.doneFit.good.fine
        obtain ⟨t0, t1, t2, t3⟩ := TR.out.inv.num.t'
        have aw := Tab.awayTo_bd s.done s.ns (s.done.length - 1)
        have em := TR.out.em
        have ew := TR.out.ew
        rw [em, ew] at o3
        have O3 := hid' o3
        have OB : Hid (Tab.offTo s.done s.ns (s.done.length - 1) ≤ 200 ∧ 0 ≤ Tab.offTo s.done s.ns (s.done.length - 1)) := ⟨(Tab.offTo_bd FI.out s.ns (s.done.length - 1) (by omega)).2, (Tab.offTo_bd FI.out s.ns (s.done.length - 1) (by omega)).1⟩
        clear hTo mi em ew o3
        have c0 := cell_of_row _ _ 0 _ _ _ TR.out.row
        simp at c0
        go_wp2_with fail
        refine Calls.mono NW.out ?_
        rintro e w2 ⟨rfl, b2⟩
        have a2 := (Below.refl w2.heap.size w2).alloc (Nat.le_refl _) (.cells #[.int .i64 ts, .int .i64 tf] 33)
        have BV2 := hid' (b2.trans (a2.mono b2.size))
        have T2 := hid' (TR.out.keep BV2.out)
        have Z2 := hid' (heap_alloc_new w2 (.cells #[.int .i64 ts, .int .i64 tf] 33))
        clear b2 a2 c0 NW
        go_upto_region 8 with fail
        generalize w2.alloc (.cells #[.int .i64 ts, .int .i64 tf] 33) = V2 at *
        have lz2 := lt_of_heap Z2.out
        have c2 := cell_of_row _ _ 0 _ _ _ T2.out.row
        simp at c2
        go_wp2_with fail
        refine Calls.mono T2.out.see ?_
        rintro e w3 ⟨dv, cv, rfl, od, oc, b3⟩
        obtain ⟨g, cap, rfl⟩ := own_some od dpos
        obtain ⟨ao, cp, rfl⟩ := own_slice oc
        have ll := lies_of od rfl
        have gl := (od.lt _ rfl).2
        have a3 := (Below.refl w3.heap.size w3).alloc (Nat.le_refl _) (.cells #[.int .i64 s.ns, .int .i64 s.nf, .bool s.ld, .int .i64 s.up, .int .i64 s.ex, .slice (some ⟨g, 0, none⟩) s.done.length cap, .slice ao s.com.length cp, .int .i64 s.ref] 36)
        have B3 := hid' (b3.trans (a3.mono b3.size))
        have T3 := hid' (T2.out.keep B3.out)
        have S3 := hid' (heap_alloc_new w3 (.cells #[.int .i64 s.ns, .int .i64 s.nf, .bool s.ld, .int .i64 s.up, .int .i64 s.ex, .slice (some ⟨g, 0, none⟩) s.done.length cap, .slice ao s.com.length cp, .int .i64 s.ref] 36))
        have L3 := hid' (ll.below gl a3)
        have gl3 : g < (w3.alloc (.cells #[.int .i64 s.ns, .int .i64 s.nf, .bool s.ld, .int .i64 s.up, .int .i64 s.ex, .slice (some ⟨g, 0, none⟩) s.done.length cap, .slice ao s.com.length cp, .int .i64 s.ref] 36)).heap.size := Nat.lt_of_lt_of_le gl a3.size
        have Z3 := hid' ((B3.out.block _ lz2).trans Z2.out)
        clear b3 a3 c2 od oc ll
        have dp' : ¬ ((s.done.length : Nat) : Int) = 0 := by omega
        go_upto_region 9 with fail
        generalize w3.alloc (.cells #[.int .i64 s.ns, .int .i64 s.nf, .bool s.ld, .int .i64 s.up, .int .i64 s.ex, .slice (some ⟨g, 0, none⟩) s.done.length cap, .slice ao s.com.length cp, .int .i64 s.ref] 36) = V3 at *
        have UT := hid' (k_utc s.ns s.nf s.up s.ex s.ref s.ld g s.done.length cap (.slice ao s.com.length cp) s.done V3 rfl dpos L3.out gl3 FI.out dlen t0 t1)
        unfold stC at UT
        have s0 := cell_of_row _ _ 0 _ _ _ S3.out
        have s1 := cell_of_row _ _ 1 _ _ _ S3.out
        have s2 := cell_of_row _ _ 2 _ _ _ S3.out
        have s3 := cell_of_row _ _ 3 _ _ _ S3.out
        have s4 := cell_of_row _ _ 4 _ _ _ S3.out
        have s5 := cell_of_row _ _ 5 _ _ _ S3.out
        have s6 := cell_of_row _ _ 6 _ _ _ S3.out
        have s7 := cell_of_row _ _ 7 _ _ _ S3.out
        simp at s0 s1 s2 s3 s4 s5 s6 s7
        go_wp2_with fail
        refine Calls.mono UT.out ?_
        rintro e w4 ⟨rfl, b4⟩
        have aU := (Below.refl w4.heap.size w4).alloc (Nat.le_refl _) (.cells #[.int .i64 (s.ns - Tab.offTo s.done s.ns (s.done.length - 1)), .int .i64 s.nf] 33)
        have B4 := hid' (b4.trans (aU.mono b4.size))
        have U4 := hid' (heap_alloc_new w4 (.cells #[.int .i64 (s.ns - Tab.offTo s.done s.ns (s.done.length - 1)), .int .i64 s.nf] 33))
        have ue := UE.out
        have O3' := O3.out
        have BE := hid' ((BV2.out.trans (B3.out.mono BV2.out.size)).trans (B4.out.mono (Nat.le_trans BV2.out.size B3.out.size)))
        clear b4 aU UE O3 UT s0 s1 s2 s3 s4 s5 s6 s7 dp' L3 S3 OB
        go_upto_region 12 with fail
        generalize Tab.awayTo s.done s.ns (s.done.length - 1) = av at *
        generalize s.ns - Tab.offTo s.done s.ns (s.done.length - 1) = uu at *
        subst ue
        generalize w4.alloc (.cells #[.int .i64 s.utc, .int .i64 s.nf] 33) = V4 at *
        have Z4 := hid' ((B4.out.block _ (lt_of_heap Z3.out)).trans Z3.out)
        have T4 := hid' (T3.out.keep B4.out)
        have AF := hid' (k_after s.utc s.nf ts tf V4 (by omega) (by omega) t2 t3 f0 f1)
        have x0 := cell_of_row _ _ 0 _ _ _ U4.out
        have x1 := cell_of_row _ _ 1 _ _ _ U4.out
        have y0 := cell_of_row _ _ 0 _ _ _ Z4.out
        have y1 := cell_of_row _ _ 1 _ _ _ Z4.out
        simp at x0 x1 y0 y1
        go_wp2_with fail
        refine Calls.mono AF.out ?_
        rintro e w5 ⟨rfl, b5⟩
        generalize (ts - s.utc) * 4294967296 + tf - s.nf = of at *
        have T5 := hid' (T4.out.keep b5)
        have B5 := hid' (BR.out.trans ((BE.out.trans (b5.mono BE.out.size)).mono BR.out.size))
        have r5 := cell_of_row _ _ 5 _ _ _ T5.out.row
        have r6 := cell_of_row _ _ 6 _ _ _ T5.out.row
        simp at r5 r6
        clear b5 BE AF x0 x1 y0 y1 Z4 U4 Z3 Z2 T2 T3 T4 TR BR B4 B3 BV2
        have g1 : ¬ 4294967296 < of := by omega
        have g2 : ¬ of < -4294967296 := by omega
        have st : k < S → ∃ (b off : Nat) (kd ka kc : Int), so = some ⟨b, off, none⟩ ∧ w5.cell? ⟨b, off + k * 3, none⟩ = some (.int .i64 kd) ∧ w5.cell? ⟨b, off + k * 3 + 1, none⟩ = some (.int .i64 ka) ∧ w5.cell? ⟨b, off + k * 3 + 2, none⟩ = some (.int .i64 kc) ∧ (Lit.int .i64 ka).wf = true ∧ (Lit.int .i64 kc).wf = true := fun hlt => by
          obtain ⟨b, off, e, _, hc⟩ := (HS.out.below B5.out).some (by omega)
          obtain ⟨kd, ka, kc, h0, h1, h2, _, h4, h5⟩ := hc k hlt
          exact ⟨b, off, kd, ka, kc, e, h0, h1, h2, h4, h5⟩
        by_cases hz : of = 0
        · subst hz
          by_cases hlt : k < S
          · obtain ⟨b, off, kd, ka, kc, rfl, p0, p1, p2, wa, wc⟩ := st hlt
            have i3 : (k : Int) < (S : Int) := by omega
            have DS := hid' (does_step q w.heap.size k n s F w5 kd ka kc wa wc (by omega) T5.out)
            clear st O3'
            go_wp2_with fail
            refine Calls.mono DS.out ?_
            rintro e w6 ⟨ev, s6, F6, n6, rfl, tri6, ⟨o6, f6⟩, st6⟩
            have B6 := hid' (B5.out.trans ((T5.out.off o6)))
            have T6 := hid' tri6
            clear tri6 o6 f6 st6 DS
            go_wp2_with fail
            go_roundw
            case rel => exact ⟨k + 1, n6, s6, F6, by omega, by go_num, T6.out, B6.out⟩
            case measure => simp [intOf]; omega
          · have i3 : ¬ (k : Int) < (S : Int) := by omega
            clear st O3'
            go_wp2_with fail
            go_roundw
            case rel => exact ⟨k + 1, n, s, F, by omega, by go_num, T5.out.more (by omega), B5.out⟩
            case measure => simp [intOf]; omega
        · obtain ⟨m1, m2⟩ := O3' hz
          have m3 : ¬ q.win < av := by omega
          have z1 : (of != 0) = true := bne_iff_ne.2 hz
          have z2 : (q.mode == 0) = false := beq_eq_false_iff_ne.2 m1
          have z3 : decide (q.win < av) = false := decide_eq_false m3
          by_cases hlt : k < S
          · obtain ⟨b, off, kd, ka, kc, rfl, p0, p1, p2, wa, wc⟩ := st hlt
            have i3 : (k : Int) < (S : Int) := by omega
            have DS := hid' (does_step q w.heap.size k n s F w5 kd ka kc wa wc (by omega) T5.out)
            clear st O3'
            go_wp2_with fail
            refine Calls.mono DS.out ?_
            rintro e w6 ⟨ev, s6, F6, n6, rfl, tri6, ⟨o6, f6⟩, st6⟩
            have B6 := hid' (B5.out.trans ((T5.out.off o6)))
            have T6 := hid' tri6
            clear tri6 o6 f6 st6 DS
            go_wp2_with fail
            go_roundw
            case rel => exact ⟨k + 1, n6, s6, F6, by omega, by go_num, T6.out, B6.out⟩
            case measure => simp [intOf]; omega
          · have i3 : ¬ (k : Int) < (S : Int) := by omega
            clear st O3'
            go_wp2_with fail
            go_roundw
            case rel => exact ⟨k + 1, n, s, F, by omega, by go_num, T5.out.more (by omega), B5.out⟩
            case measure => simp [intOf]; omega
      · have i2 : ¬ (k : Int) ≤ 60 := by omega
        go_wp2
        go_ret
        exact ⟨rfl, BR.out⟩
    · have i1 : ¬ (k : Int) ≤ (S : Int) := by omega
      go_wp2
      go_ret
      exact ⟨rfl, BR.out⟩
end Go.Proofs.YtmmkhodaljpjgabGreatDoor
