/-
  Chains of operations whose nothings differ in their sign alone; sines and cosines that are not nothing.
-/
import Derived.Test.YtinopkmcddjgdaaGreatDoorQGbX
import Derived.Test.YtinopkmcddjgdaaGreatDoorQJ6
import Derived.Test.YtinopkmcddjgdaaGreatDoorQGpC
import Derived.Test.YtinopkmcddjgdaaGreatDoorQJ1
namespace Go.Proofs.YtinopkmcddjgdaaGreatDoor
open Go.RowKit FB

/-- A nothing, with or without its sign. -/
def Zr (x : Nat) : Prop := x = 0 ∨ x = 9223372036854775808
theorem read_zr {x : Nat} (h : Zr x) : ∃ s, Ieee.double.read x = .number s 0 (-1074) := by
  rcases h with rfl | rfl
  · exact ⟨false, by decide +kernel⟩
  · exact ⟨true, by decide +kernel⟩
theorem near_zr (s : Bool) (p : Int) : Zr (Ieee.double.nearest s 0 p) := by
  unfold Ieee.Format.nearest Ieee.Format.word
  rw [if_pos rfl, sw]
  cases s
  · exact .inl rfl
  · exact .inr rfl
/-- The same answer, but for the sign of a nothing. -/
def Sim (o p : Option Nat) : Prop := (o = none ∧ p = none) ∨ ∃ r q, o = some r ∧ p = some q ∧ SameZ r q
theorem Sim.refl (o : Option Nat) : Sim o o := by
  cases o with
  | none => exact .inl ⟨rfl, rfl⟩
  | some r => exact .inr ⟨r, r, rfl, rfl, .inl rfl⟩
theorem mul_zr_l {u v : Nat} (h : Zr u) : (Ieee.double.mul u v = none ∧ ∀ u', Zr u' → Ieee.double.mul u' v = none) ∨ (∀ u', Zr u' → ∃ r, Ieee.double.mul u' v = some r ∧ Zr r) := by
  cases hv : Ieee.double.read v with
  | number t n j =>
    refine .inr fun u' h' => ?_
    obtain ⟨s, hs⟩ := read_zr h'
    unfold Ieee.Format.mul; rw [hs, hv]
    refine ⟨_, rfl, ?_⟩
    show Zr (Ieee.double.nearest _ (0 * n) _)
    rw [Nat.zero_mul]; exact near_zr _ _
  | infinity t =>
    have : ∀ u', Zr u' → Ieee.double.mul u' v = none := by
      intro u' h'
      obtain ⟨s, hs⟩ := read_zr h'
      unfold Ieee.Format.mul; rw [hs, hv]; rfl
    exact .inl ⟨this u h, this⟩
  | nan t f =>
    have : ∀ u', Zr u' → Ieee.double.mul u' v = none := by
      intro u' h'
      obtain ⟨s, hs⟩ := read_zr h'
      unfold Ieee.Format.mul; rw [hs, hv]; rfl
    exact .inl ⟨this u h, this⟩
theorem mul_zr_r {u v : Nat} (h : Zr v) : (Ieee.double.mul u v = none ∧ ∀ v', Zr v' → Ieee.double.mul u v' = none) ∨ (∀ v', Zr v' → ∃ r, Ieee.double.mul u v' = some r ∧ Zr r) := by
  cases hu : Ieee.double.read u with
  | number t n j =>
    refine .inr fun v' h' => ?_
    obtain ⟨s, hs⟩ := read_zr h'
    unfold Ieee.Format.mul; rw [hs, hu]
    refine ⟨_, rfl, ?_⟩
    show Zr (Ieee.double.nearest _ (n * 0) _)
    rw [Nat.mul_zero]; exact near_zr _ _
  | infinity t =>
    have : ∀ v', Zr v' → Ieee.double.mul u v' = none := by
      intro v' h'
      obtain ⟨s, hs⟩ := read_zr h'
      unfold Ieee.Format.mul; rw [hs, hu]; rfl
    exact .inl ⟨this v h, this⟩
  | nan t f =>
    have : ∀ v', Zr v' → Ieee.double.mul u v' = none := by
      intro v' h'
      obtain ⟨s, hs⟩ := read_zr h'
      unfold Ieee.Format.mul; rw [hs, hu]; rfl
    exact .inl ⟨this v h, this⟩
theorem mul_sim {u u' v v' : Nat} (hu : SameZ u u') (hv : SameZ v v') : Sim (Ieee.double.mul u v) (Ieee.double.mul u' v') := by
  rcases hu with rfl | ⟨hu1, hu2⟩
  · rcases hv with rfl | ⟨hv1, hv2⟩
    · exact Sim.refl _
    · rcases mul_zr_r (u := u) hv1 with ⟨_, h⟩ | h
      · exact .inl ⟨h v hv1, h v' hv2⟩
      · obtain ⟨r, h1, z1⟩ := h v hv1
        obtain ⟨q, h2, z2⟩ := h v' hv2
        exact .inr ⟨r, q, h1, h2, .inr ⟨z1, z2⟩⟩
  · have hA : Sim (Ieee.double.mul u v) (Ieee.double.mul u' v) := by
      rcases mul_zr_l (v := v) hu1 with ⟨_, h⟩ | h
      · exact .inl ⟨h u hu1, h u' hu2⟩
      · obtain ⟨r, h1, z1⟩ := h u hu1
        obtain ⟨q, h2, z2⟩ := h u' hu2
        exact .inr ⟨r, q, h1, h2, .inr ⟨z1, z2⟩⟩
    rcases hv with rfl | ⟨hv1, hv2⟩
    · exact hA
    · rcases mul_zr_r (u := u) hv1 with ⟨e, h⟩ | h
      · obtain ⟨s, hs⟩ := read_zr hu1
        obtain ⟨t, ht⟩ := read_zr hv1
        unfold Ieee.Format.mul at e; rw [hs, ht] at e; cases e
      · obtain ⟨s, hs⟩ := read_zr hu2
        obtain ⟨t, ht⟩ := read_zr hv2
        obtain ⟨r, h1, z1⟩ := h v hv1
        refine .inr ⟨r, _, h1, by unfold Ieee.Format.mul; rw [hs, ht]; rfl, .inr ⟨z1, ?_⟩⟩
        show Zr (Ieee.double.nearest _ (0 * 0) _)
        exact near_zr _ _
theorem sim_bind_mul {o p : Option Nat} {v v' : Nat} (h : Sim o p) (hv : SameZ v v') : Sim (o.bind fun u => Ieee.double.mul u v) (p.bind fun u => Ieee.double.mul u v') := by
  rcases h with ⟨rfl, rfl⟩ | ⟨r, q, rfl, rfl, hr⟩
  · exact .inl ⟨rfl, rfl⟩
  · exact mul_sim hr hv
theorem uz_z {k x : Nat} (h : Le k x) (hk : k ≤ 2046) : SameZ (uz x) x := by
  unfold uz
  split
  · rename_i he; exact .inr ⟨.inl rfl, zero_of h hk he⟩
  · exact .inl rfl
/-- A word that is what a chain gives but for a nothing's sign: SameBits says yes. -/
theorem same_uz (r q : Nat) (h : SameZ r q) (w : World) : Calls Tryz.prog 16 #[.float .f64 (uz r), .float .f64 q] w fun e w' => e = .returned (.bool true) ∧ w' = w := by
  have hz : uz 0 = 0 ∧ uz 9223372036854775808 = 0 := ⟨by decide +kernel, by decide +kernel⟩
  have z0 : ∀ q, Zr q → Calls Tryz.prog 16 #[.float .f64 0, .float .f64 q] w fun e w' => e = .returned (.bool true) ∧ w' = w := by
    intro q hq
    rcases hq with rfl | rfl
    · exact same_num 0 0 zero_num (by decide +kernel) w
    · exact same_num 0 _ zero_num (by decide +kernel) w
  rcases h with rfl | ⟨h1, h2⟩
  · unfold uz
    split
    · rename_i he
      cases hr : Ieee.double.read r with
      | number s m i => exact same_num 0 r zero_num (order_eq_symm he) w
      | infinity s => unfold Ieee.Format.order at he; rw [hr, show Ieee.double.read 0 = .number false 0 (-1074) by decide +kernel] at he; cases s <;> cases he
      | nan s f => rw [order_nan hr] at he; cases he
    · exact same_got (o := some r) rfl rfl w
  · rcases h1 with rfl | rfl
    · rw [hz.1]; exact z0 q h2
    · rw [hz.2]; exact z0 q h2
theorem uz_nan {r : Nat} (h : Nan r) : uz r = r := by
  obtain ⟨s, f, h⟩ := h
  unfold uz; rw [order_nan h, if_neg (by simp)]
theorem same_sim {o p : Option Nat} {r q : Nat} (h : Sim o p) (hr : Got o r) (hq : Got p q) (w : World) : Calls Tryz.prog 16 #[.float .f64 (uz r), .float .f64 q] w fun e w' => e = .returned (.bool true) ∧ w' = w := by
  rcases h with ⟨rfl, rfl⟩ | ⟨a, b, rfl, rfl, hab⟩
  · rw [uz_nan hr]; exact same_nan r q hr hq w
  · obtain rfl : r = a := hr
    obtain rfl : q = b := hq
    exact same_uz r q hab w

theorem neg_mod {x : Nat} (hx : x < 18446744073709551616) : Op.negFloat .f64 x % 9223372036854775808 = x % 9223372036854775808 := (neg_abs x hx).1
theorem nrm_pos' {t : Int} (h0 : 0 ≤ t) (h1 : t < 360000000000) : nrm t = t := by unfold nrm; omega
theorem nrm_neg' {t : Int} (h0 : t < 0) (h1 : -360000000000 ≤ t) : nrm t = t + 360000000000 := by unfold nrm; omega
theorem cos_45 : cosV 45000000000 % 9223372036854775808 ≠ 0 := by decide +kernel
theorem cos_ne (t : Int) (h0 : -45000000000 ≤ t) (h1 : t ≤ 45000000000) : cosV (nrm t) % 9223372036854775808 ≠ 0 := by
  by_cases c : t = 45000000000
  · subst c; rw [nrm_pos' (by decide) (by decide)]; exact cos_45
  · obtain ⟨n0, n1⟩ := nrm_lt t
    have hq : qOf (nrm t) = 0 ∨ qOf (nrm t) = 4 := by
      unfold qOf
      by_cases c0 : 0 ≤ t
      · rw [nrm_pos' c0 (by omega)]; left; omega
      · rw [nrm_neg' (by omega) (by omega)]; right; omega
    have : cosV (nrm t) = cOf (nrm t) := by
      unfold cosV
      rcases hq with hq | hq <;> rw [hq] <;> rfl
    rw [this]; exact cOf_ne _ n0 n1
theorem sin_ne (t : Int) (h0 : -90000000000 ≤ t) (h1 : t ≤ 90000000000) (h2 : 45000000000 < t ∨ t < -45000000000) : sinV (nrm t) % 9223372036854775808 ≠ 0 := by
  obtain ⟨n0, n1⟩ := nrm_lt t
  have hc := cOf_ne _ n0 n1
  have hl : Le 1131 (cOf (nrm t)) := hor_ang _ 0 n0 n1
  rcases h2 with h2 | h2
  · have hq : qOf (nrm t) = 1 := by unfold qOf; rw [nrm_pos' (by omega) (by omega)]; omega
    have : sinV (nrm t) = cOf (nrm t) := by unfold sinV; rw [hq]; rfl
    rw [this]; exact hc
  · have hq : qOf (nrm t) = 3 := by unfold qOf; rw [nrm_neg' (by omega) (by omega)]; omega
    have : sinV (nrm t) = Op.negFloat .f64 (cOf (nrm t)) := by unfold sinV; rw [hq]; rfl
    rw [this, neg_mod hl.1]; exact hc
theorem uz_ne {k x : Nat} (h : Le k x) (hk : k ≤ 2046) (h0 : x % 9223372036854775808 ≠ 0) : uz x = x := by
  unfold uz
  split
  · rename_i he
    rcases zero_of h hk he with rfl | rfl <;> simp at h0
  · rfl
end Go.Proofs.YtinopkmcddjgdaaGreatDoor
