/-
  Directions, latitudes, heights: the words.
-/
import Derived.Test.YtmiamfnnccjmeabDoorGpL
namespace Go.Proofs.YtmiamfnnccjmeabDoor
open Go.RowKit FB
attribute [local go_sem] run_store_float

theorem FA_zr {z u u' : Nat} (hz : Num z) (hu : Zr u) (hu' : Zr u') : SameZ (FA z u) (FA z u') := by
  obtain ⟨s, m, i, rz⟩ := hz
  obtain ⟨t, ru⟩ := read_zr hu
  obtain ⟨t', ru'⟩ := read_zr hu'
  unfold FA Ieee.Format.add
  rw [rz, ru, ru']
  have e0 : ∀ b : Bool, Ieee.signed b 0 (-1074 - min i (-1074)).toNat = 0 := by
    intro b; cases b <;> simp [signed_false, signed_true]
  show SameZ (Ieee.double.nearest (if Ieee.signed s m (i - min i (-1074)).toNat + Ieee.signed t 0 (-1074 - min i (-1074)).toNat = 0 then s && t else decide (Ieee.signed s m (i - min i (-1074)).toNat + Ieee.signed t 0 (-1074 - min i (-1074)).toNat < 0)) (Ieee.signed s m (i - min i (-1074)).toNat + Ieee.signed t 0 (-1074 - min i (-1074)).toNat).natAbs (min i (-1074))) (Ieee.double.nearest (if Ieee.signed s m (i - min i (-1074)).toNat + Ieee.signed t' 0 (-1074 - min i (-1074)).toNat = 0 then s && t' else decide (Ieee.signed s m (i - min i (-1074)).toNat + Ieee.signed t' 0 (-1074 - min i (-1074)).toNat < 0)) (Ieee.signed s m (i - min i (-1074)).toNat + Ieee.signed t' 0 (-1074 - min i (-1074)).toNat).natAbs (min i (-1074)))
  rw [e0, e0]
  generalize Ieee.signed s m (i - min i (-1074)).toNat + 0 = T
  by_cases c : T = 0
  · subst c
    exact .inr ⟨near_zr _ _, near_zr _ _⟩
  · rw [if_neg c, if_neg c]; exact .inl rfl
theorem FA_z {z u u' : Nat} (hz : Num z) (h : SameZ u u') : SameZ (FA z u) (FA z u') := by
  rcases h with rfl | ⟨h1, h2⟩
  · exact .inl rfl
  · exact FA_zr hz h1 h2
theorem angV_z {y y' x : Nat} (h : SameZ y y') : angV y x = angV y' x := by
  rcases h with rfl | ⟨h1, h2⟩
  · rfl
  · have f0 : ∀ u, Zr u → finV u = true ∧ isZ u = true ∧ isNeg u = false ∧ absB u = 0 := by
      intro u hu
      rcases hu with rfl | rfl
      · exact ⟨by decide +kernel, by decide +kernel, by decide +kernel, by decide +kernel⟩
      · exact ⟨by decide +kernel, by decide +kernel, by decide +kernel, by decide +kernel⟩
    obtain ⟨a1, a2, a3, a4⟩ := f0 y h1
    obtain ⟨b1, b2, b3, b4⟩ := f0 y' h2
    unfold angV
    rw [a1, a2, a3, a4, b1, b2, b3, b4]
/-- In which direction. -/
def dirW (y x : Nat) : Int := sgn (angV y x).1
theorem sgn_lo {q : Int} (h0 : 0 ≤ q) (h1 : q ≤ 90000000000) : -90000000000 ≤ sgn q ∧ sgn q ≤ 90000000000 := by unfold sgn nrm; split <;> omega
theorem sgn_hi {q : Int} (h0 : 0 ≤ q) (h1 : q ≤ 90000000000) : -90000000000 ≤ sgn (nrm (360000000000 - q)) ∧ sgn (nrm (360000000000 - q)) ≤ 90000000000 := by unfold sgn nrm; split <;> omega
theorem dirW_bd {y x : Nat} (hx : isNeg x = false) : -90000000000 ≤ dirW y x ∧ dirW y x ≤ 90000000000 := by
  obtain ⟨q0, q1⟩ := quarter_bd (absB y) (absB x)
  unfold dirW angV
  rw [hx]
  generalize quarter (absB y) (absB x) = q at q0 q1
  simp only [Bool.false_and, Bool.false_eq_true, if_false]
  split
  · exact sgn_lo (by decide) (by decide)
  · split
    · exact sgn_hi q0 q1
    · exact sgn_lo q0 q1
theorem direction_any (y x : Nat) (hy : y < 18446744073709551616) (hx : x < 18446744073709551616) (w : World) : Calls Tryd.prog 37 #[.float .f64 y, .float .f64 x] w fun e w' => e = .returned (.int .i64 (dirW y x)) ∧ Below w.heap.size w w' := by
  have HA := hid (fun w => angle_any y x hy hx w)
  clear hy hx
  go_enter Tryd.func37, Tryd.ntmps37
  go_wp2_with fail
  refine (HA.out _).mono ?_
  rintro e w1 ⟨rfl, hB⟩
  go_wp2_with fail
  refine (signed_any _ _).mono ?_
  rintro e w2 ⟨rfl, rfl⟩
  go_wp2
  go_ret
  exact ⟨rfl, hB⟩
theorem angle2_any (y x : Nat) (hy : y < 18446744073709551616) (hx : x < 18446744073709551616) (w : World) : Calls Tryd.prog 42 #[.float .f64 y, .float .f64 x] w fun e w' => e = .returned (.int .i64 (angV y x).1) ∧ Below w.heap.size w w' := by
  have HA := hid (fun w => angleOf_any y x hy hx w)
  clear hy hx
  go_enter Tryd.func42, Tryd.ntmps42
  go_wp2_with fail
  refine (HA.out _).mono ?_
  rintro e w1 ⟨rfl, hB⟩
  go_wp2
  go_ret
  exact ⟨rfl, hB⟩
/-- What the latitude is sought by: the point's distance from the plane, mended by a latitude. -/
def mW (a f : Nat) (t : Int) : Nat := FM (eOf f) (nW a f t)
def yW (a f z : Nat) (t : Int) (s : Nat) : Nat := FA z (FM (mW a f t) s)
def stepW (a f p z : Nat) (t : Int) : Int := dirW (yW a f z t (sinV (nrm t))) p
def latN (a f p z : Nat) : Nat → Int
  | 0 => dirW z (FM p (e1Of f))
  | k + 1 => stepW a f p z (latN a f p z k)
theorem m_le {a f : Nat} (g : GOK a f) (t : Int) : Le 1621 (mW a f t) := FM_le (e_le g.lf) (n_ok g t).2 (by decide) (by decide) (by decide) (by decide) _ (by decide) (by decide) (by decide)
theorem FA_lt {x y : Nat} (hx : Num x) (hy : Num y) : FA x y < 18446744073709551616 := by
  obtain ⟨r, h, n⟩ := add_nn hx hy
  unfold FA; rw [h]; exact n.1
theorem FM_lt {x y : Nat} (hx : Num x) (hy : Num y) : FM x y < 18446744073709551616 := by
  obtain ⟨r, h, n⟩ := mul_nn hx hy
  unfold FM; rw [h]; exact n.1
theorem y_eqs {a f z : Nat} (g : GOK a f) (t : Int) (s : Nat) (hs : Le 1136 s) (nz : Num z) : Ieee.double.mul (eOf f) (nW a f t) = some (mW a f t) ∧ Ieee.double.mul (mW a f t) s = some (FM (mW a f t) s) ∧ Ieee.double.add z (FM (mW a f t) s) = some (yW a f z t s) ∧ yW a f z t s < 18446744073709551616 := by
  have h1 := m_le g t
  have h2 : Le 1736 (FM (mW a f t) s) := FM_le h1 hs (by decide) (by decide) (by decide) (by decide) _ (by decide) (by decide) (by decide)
  have n1 := h1.num (by decide) (by decide)
  have n2 := h2.num (by decide) (by decide)
  exact ⟨mul_num ((e_le g.lf).num (by decide) (by decide)) ((n_ok g t).2.num (by decide) (by decide)), mul_num n1 (hs.num (by decide) (by decide)), add_num nz n2, FA_lt nz n2⟩
theorem step_uz {a f p z : Nat} (g : GOK a f) (t : Int) (nz : Num z) : dirW (yW a f z t (uz (sinV (nrm t)))) p = stepW a f p z t := by
  obtain ⟨h0, h1⟩ := nrm_lt t
  have hs := (sinV_le (nrm t) h0 h1).1
  have hm := (m_le g t).num (by decide) (by decide)
  unfold stepW dirW yW
  rw [angV_z (FA_z nz (FM_z hm hm ((uz_le hs).num (by decide) (by decide)) (hs.num (by decide) (by decide)) (.inl rfl) (uz_z hs (by decide))))]
end Go.Proofs.YtmiamfnnccjmeabDoor
