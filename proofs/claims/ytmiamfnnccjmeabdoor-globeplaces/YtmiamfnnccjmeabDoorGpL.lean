/-
  Places of vectors: what a length that is within bounds tells of the numbers that it is of.
-/
import Derived.Test.YtmiamfnnccjmeabDoorGpF
namespace Go.Proofs.YtmiamfnnccjmeabDoor
open Go.RowKit FB

theorem inB_nan {lo hi r : Nat} (h : Nan r) : inB lo hi r = false := by
  obtain ⟨s, f, h⟩ := h
  have : FloatKind.f64.format.order r lo = none := order_nan h
  unfold inB geB; rw [this]; rfl
/-- The length is from half the axis to 1e10. -/
def okL (a x y z : Nat) : Bool := match lenO x y z with
  | none => false
  | some r => inB (a - 4503599627370496) 4756540486875873280 r
theorem okL_got {a x y z r : Nat} (h : Got (lenO x y z) r) : inB (a - 4503599627370496) 4756540486875873280 r = okL a x y z := by
  unfold okL
  cases hl : lenO x y z with
  | none => rw [hl] at h; exact inB_nan h
  | some q => rw [hl] at h; obtain rfl : r = q := h; rfl
theorem axis_ge {a f : Nat} (ha : a < 18446744073709551616) (h : okG a f = true) : 4607182418800017408 ≤ a ∧ a ≤ 4741671816366391296 := by
  unfold okG at h
  rw [Bool.and_eq_true] at h
  obtain ⟨n1, a1, a2⟩ := in_key ha ⟨by decide, by decide⟩ ⟨by decide, by decide⟩ h.1
  have c1 : key 4607182418800017408 = 4607182418800017408 := rfl
  have c2 : key 4741671816366391296 = 4741671816366391296 := rfl
  rw [c1] at a1
  rw [c2] at a2
  unfold key at a1 a2
  split at a1 <;> split at a2 <;> omega
theorem half_eq {a f : Nat} (ha : a < 18446744073709551616) (h : okG a f = true) : Ieee.double.div a 4611686018427387904 = some (a - 4503599627370496) := by
  obtain ⟨h1, h2⟩ := axis_ge ha h
  exact div_two (by omega) (by omega)
theorem mul_self_pos {x X : Nat} (h : Ieee.double.mul x x = some X) : X ≤ 9218868437227405312 := by
  unfold Ieee.Format.mul at h
  cases hx : Ieee.double.read x with
  | number s m i =>
    rw [hx] at h
    have : Ieee.double.nearest (s ^^ s) (m * m) (i + i) = X := Option.some.inj h
    rw [← this, show (s ^^ s) = false by cases s <;> rfl]
    exact near_lt _ _
  | infinity s =>
    rw [hx] at h
    have : Ieee.double.write (.infinity (s ^^ s)) = X := Option.some.inj h
    rw [← this, show (s ^^ s) = false by cases s <;> rfl]
    decide +kernel
  | nan s f => rw [hx] at h; cases h
theorem write_inf_not (s : Bool) {r : Nat} (h : Ieee.double.write (.infinity s) = r) : ¬ Num r := by
  rintro ⟨t, m, e, hr⟩
  rw [← h] at hr
  have : Ieee.double.read (Ieee.double.write (.infinity s)) = .infinity s := by cases s <;> decide +kernel
  rw [this] at hr; cases hr
theorem add_num_inv {x y r : Nat} (h : Ieee.double.add x y = some r) (hr : Num r) : Num x ∧ Num y := by
  unfold Ieee.Format.add at h
  cases hx : Ieee.double.read x with
  | nan s f => rw [hx] at h; cases h
  | infinity s =>
    rw [hx] at h
    cases hy : Ieee.double.read y with
    | nan t f => rw [hy] at h; cases h
    | infinity t =>
      rw [hy] at h
      by_cases c : s = t
      · have : Ieee.double.write (.infinity s) = r := by
          simp only [Ieee.Datum.sum] at h
          rw [if_pos c] at h
          exact Option.some.inj h
        exact absurd hr (write_inf_not s this)
      · simp only [Ieee.Datum.sum] at h
        rw [if_neg c] at h; cases h
    | number t n j =>
      rw [hy] at h
      exact absurd hr (write_inf_not s (Option.some.inj h))
  | number s m i =>
    refine ⟨⟨s, m, i, hx⟩, ?_⟩
    rw [hx] at h
    cases hy : Ieee.double.read y with
    | nan t f => rw [hy] at h; cases h
    | infinity t => rw [hy] at h; exact absurd hr (write_inf_not t (Option.some.inj h))
    | number t n j => exact ⟨t, n, j, hy⟩
theorem sqrt_num_inv {x r : Nat} (h : Ieee.double.sqrt x = some r) (hr : Num r) : Num x := by
  unfold Ieee.Format.sqrt at h
  cases hx : Ieee.double.read x with
  | nan s f => rw [hx] at h; cases h
  | infinity s =>
    rw [hx] at h
    cases s with
    | true => cases h
    | false => exact absurd hr (write_inf_not false (Option.some.inj h))
  | number s m i => exact ⟨s, m, i, hx⟩
theorem mul_self_num {x r : Nat} (h : Ieee.double.mul x x = some r) (hr : Num r) : Num x := by
  unfold Ieee.Format.mul at h
  cases hx : Ieee.double.read x with
  | nan s f => rw [hx] at h; cases h
  | infinity s => rw [hx] at h; exact absurd hr (write_inf_not _ (Option.some.inj h))
  | number s m i => exact ⟨s, m, i, hx⟩
theorem signed_nn (m u : Nat) : (0 : Int) ≤ Ieee.signed false m u := by rw [signed_false]; exact Int.natCast_nonneg _
theorem add_pos {x y r : Nat} (hx : x < 9218868437227405312) (hy : y < 9218868437227405312) (h : Ieee.double.add x y = some r) : r ≤ 9218868437227405312 := by
  obtain ⟨m, i, rx, _⟩ := read_pos hx
  obtain ⟨n, j, ry, _⟩ := read_pos hy
  unfold Ieee.Format.add at h
  rw [rx, ry] at h
  have h1 := signed_nn m (i - min i j).toNat
  have h2 := signed_nn n (j - min i j).toNat
  have e : Ieee.double.nearest (if Ieee.signed false m (i - min i j).toNat + Ieee.signed false n (j - min i j).toNat = 0 then false && false else decide (Ieee.signed false m (i - min i j).toNat + Ieee.signed false n (j - min i j).toNat < 0)) (Ieee.signed false m (i - min i j).toNat + Ieee.signed false n (j - min i j).toNat).natAbs (min i j) = r := Option.some.inj h
  have h3 : 0 ≤ Ieee.signed false m (i - min i j).toNat + Ieee.signed false n (j - min i j).toNat := by omega
  generalize Ieee.signed false m (i - min i j).toNat + Ieee.signed false n (j - min i j).toNat = T at e h3
  rw [← e]
  have : (if T = 0 then false && false else decide (T < 0)) = false := by
    split
    · rfl
    · rw [decide_eq_false]; omega
  rw [this]; exact near_lt _ _
/-- What is known of a vector whose length is within bounds. -/
structure LOK (x y z : Nat) (p : Nat) : Prop where
  x2 : Ieee.double.mul x x = some (FM x x)
  y2 : Ieee.double.mul y y = some (FM y y)
  s2 : Ieee.double.add (FM x x) (FM y y) = some (FA (FM x x) (FM y y))
  rt : Ieee.double.sqrt (FA (FM x x) (FM y y)) = some p
  np : Num p
  lp : p < 18446744073709551616
  kp : 0 ≤ key p
  nz : Num z
theorem num_lt {x : Nat} (hx : x ≤ 9218868437227405312) (h : Num x) : x < 9218868437227405312 := by
  rcases Nat.lt_or_eq_of_le hx with h1 | h1
  · exact h1
  · subst h1
    obtain ⟨s, m, e, hr⟩ := h
    rw [show Ieee.double.read 9218868437227405312 = .infinity false by decide +kernel] at hr
    cases hr
theorem lok_of {a x y z : Nat} (ha : 4607182418800017408 ≤ a ∧ a ≤ 4741671816366391296) (h : okL a x y z = true) : ∃ p, LOK x y z p := by
  unfold okL lenO at h
  cases hx : Ieee.double.mul x x with
  | none => rw [hx] at h; cases h
  | some X =>
  cases hy : Ieee.double.mul y y with
  | none => rw [hx, hy] at h; cases h
  | some Y =>
  cases hs : Ieee.double.add X Y with
  | none => rw [hx, hy] at h; simp only [Option.bind_some, hs, Option.bind_none] at h; cases h
  | some S =>
  cases hz : Ieee.double.mul z z with
  | none => rw [hx, hy, hz] at h; simp only [Option.bind_some, hs, Option.bind_none] at h; cases h
  | some Z =>
  cases ht : Ieee.double.add S Z with
  | none => rw [hx, hy, hz] at h; simp only [Option.bind_some, hs, ht, Option.bind_none] at h; cases h
  | some T =>
  cases hr : fsq T with
  | none => rw [hx, hy, hz] at h; simp only [Option.bind_some, hs, ht, hr] at h; cases h
  | some r =>
  rw [hx, hy, hz] at h
  simp only [Option.bind_some, hs, ht, hr] at h
  have hX := mul_self_pos hx
  have hY := mul_self_pos hy
  have hr2 : r < 18446744073709551616 := by
    unfold fsq Ieee.Format.sqrt at hr
    cases hT : Ieee.double.read T with
    | nan s f => rw [hT] at hr; cases hr
    | infinity s =>
      rw [hT] at hr
      cases s with
      | true => cases hr
      | false =>
        have : Ieee.double.write (.infinity false) = r := Option.some.inj hr
        rw [← this]; decide +kernel
    | number s m i =>
      rw [hT] at hr
      simp only [Ieee.Datum.root] at hr
      have hh : ∀ neg mag place, Ieee.double.nearest neg mag place = r → r < 18446744073709551616 := by
        intro neg mag place e; rw [← e]; exact (nearest_nn neg mag place).1
      by_cases c : m = 0
      · rw [if_pos c] at hr; exact hh _ _ _ (Option.some.inj hr)
      · rw [if_neg c] at hr
        cases s with
        | true => cases hr
        | false => exact hh _ _ _ (Option.some.inj hr)
  obtain ⟨n1, k1, k2⟩ := in_key hr2 ⟨by omega, by omega⟩ ⟨by decide, by decide⟩ h
  have c2 : key 4756540486875873280 = 4756540486875873280 := rfl
  have c1 : key (a - 4503599627370496) = ((a - 4503599627370496 : Nat) : Int) := by unfold key; rw [if_pos (by omega)]
  have nr : Num r := nn_num n1 ⟨by unfold posInf; omega, by unfold posInf; omega⟩
  have nT := sqrt_num_inv (show Ieee.double.sqrt T = some r from hr) nr
  obtain ⟨nS, nZ⟩ := add_num_inv ht nT
  obtain ⟨nX, nY⟩ := add_num_inv hs nS
  have hS := add_pos (num_lt hX nX) (num_lt hY nY) hs
  have hS2 := num_lt hS nS
  have eX : FM x x = X := by unfold FM; rw [hx]; rfl
  have eY : FM y y = Y := by unfold FM; rw [hy]; rfl
  have eS : FA X Y = S := by unfold FA; rw [hs]; rfl
  have hkS : key S = S := by unfold key; rw [if_pos (by omega)]
  obtain ⟨p, hp, np, kp0, kp1⟩ := sqrt_nn nS (by omega) (by omega)
  refine ⟨p, ?_⟩
  refine ⟨by rw [eX]; exact hx, by rw [eY]; exact hy, by rw [eX, eY, eS]; exact hs, by rw [eX, eY, eS]; exact hp, nn_num np ⟨by unfold posInf; omega, by unfold posInf; omega⟩, np.1, kp0, mul_self_num hz nZ⟩
end Go.Proofs.YtmiamfnnccjmeabDoor
