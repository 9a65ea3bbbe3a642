/-
  mercatorref1.LnOf; and both logarithms where there is none to reckon.
-/
import Derived.Test.YtkebgnemccaimaaGreatDoorQLn
namespace Go.Proofs.YtkebgnemccaimaaGreatDoor
open Go.RowKit FB

def bitsOf : Value → Nat | .float _ b => b | _ => 0
theorem bitsOf_float (k : FloatKind) (b : Nat) : bitsOf (.float k b) = b := rfl
/-- The word of the half of a great number. -/
def half (t : Nat) : Nat := t - 4503599627370496
theorem half_div {t : Nat} (h0 : 9007199254740992 ≤ t) (h : t < 9218868437227405312) : Ieee.double.div t two = some (half t) := by unfold half; exact div_two h0 h
theorem half_bd {t : Nat} (h0 : 9007199254740992 ≤ t) (h : t < 9218868437227405312) : 0 < half t ∧ half t < 9218868437227405312 ∧ half t < t := by unfold half; omega
theorem half_nM {t : Nat} (h0 : 9007199254740992 ≤ t) : nM (half t) = nM t ∧ nE (half t) = nE t - 1 := by unfold half; exact nM_half h0
theorem half_meas {t : Nat} (h : half t < t) : bitsOf (.float .f64 (half t)) < bitsOf (.float .f64 t) := by
  rw [bitsOf_float, bitsOf_float]; exact h
theorem dbl_meas {t : Nat} (h : t < dbl t) (h2 : t < 4604544271217802189) : 4604544271217802189 - bitsOf (.float .f64 (dbl t)) < 4604544271217802189 - bitsOf (.float .f64 t) := by
  rw [bitsOf_float, bitsOf_float]; omega
/-- The odd numbers as numbers with a point: 2 j - 1. -/
def nF (j : Nat) : Nat := floatOfInt .f64 (2 * (j : Int) - 1)
theorem nF_all : ((List.range 11).all fun j => (Ieee.double.div oneF (nF (j + 1)) == odd12[j]?) && (Ieee.double.sub (nF (j + 1)) two == some (nF j)) && (Ieee.double.order (nF (j + 1)) 0 == some .gt)) = true := by decide +kernel
theorem nF_step (j : Nat) (h1 : 1 ≤ j) (h : j ≤ 11) : (∃ c, odd12[j - 1]? = some c ∧ Ieee.double.div oneF (nF j) = some c) ∧ Ieee.double.sub (nF j) two = some (nF (j - 1)) ∧ Ieee.double.order (nF j) 0 = some .gt := by
  have := List.all_eq_true.1 nF_all (j - 1) (List.mem_range.2 (by omega))
  rw [show j - 1 + 1 = j by omega] at this
  simp only [Bool.and_eq_true, beq_iff_eq] at this
  have hlt : j - 1 < odd12.length := by show j - 1 < 12; omega
  refine ⟨⟨odd12[j - 1], List.getElem?_eq_getElem hlt, ?_⟩, this.1.2, this.2⟩
  rw [this.1.1, List.getElem?_eq_getElem hlt]
theorem nF_11 : nF 11 = 4626604192193052672 := by decide +kernel
def cntOf : Value → Nat
  | .float _ b => ((List.range 12).filter fun j => decide (nF j ≤ b) && decide (b < 9223372036854775808)).length
  | _ => 0
theorem cnt_all : ((List.range 11).all fun j => decide (cntOf (.float .f64 (nF j)) < cntOf (.float .f64 (nF (j + 1))))) = true := by decide +kernel
theorem cnt_lt (j : Nat) (h1 : 1 ≤ j) (h : j ≤ 11) : cntOf (.float .f64 (nF (j - 1))) < cntOf (.float .f64 (nF j)) := by
  have := List.all_eq_true.1 cnt_all (j - 1) (List.mem_range.2 (by omega))
  rw [show j - 1 + 1 = j by omega] at this
  simpa using this
theorem nF_zero : (FloatKind.f64.format.order (nF 0) 0 == some Ordering.gt) = false := by decide +kernel
theorem hor11 (z : Nat) (hz : Num z) : hor (odd12.drop 11) z = 4586426698778222948 := by
  show FA 4586426698778222948 (FM z 0) = 4586426698778222948
  rcases FM_zero hz with h | h <;> rw [h] <;> decide +kernel

theorem geq_pos {t c : Nat} (ht : t < 9218868437227405312) (hc : c < 9218868437227405312) : (FloatKind.f64.format.order t c == some Ordering.gt || FloatKind.f64.format.order t c == some Ordering.eq) = decide (c ≤ t) := by
  rw [ord_pos ht hc]
  rcases Nat.lt_trichotomy t c with h | h | h
  · rw [Nat.compare_eq_lt.2 h]; simp; omega
  · rw [h, Nat.compare_eq_eq.2 rfl]; simp
  · rw [Nat.compare_eq_gt.2 h]; simp; omega
theorem lss_pos {t c : Nat} (ht : t < 9218868437227405312) (hc : c < 9218868437227405312) : (FloatKind.f64.format.order t c == some Ordering.lt) = decide (t < c) := by
  rw [ord_pos ht hc]
  rcases Nat.lt_trichotomy t c with h | h | h
  · rw [Nat.compare_eq_lt.2 h]; simp; omega
  · rw [h, Nat.compare_eq_eq.2 rfl]; simp
  · rw [Nat.compare_eq_gt.2 h]; simp; omega

set_option maxHeartbeats 4000000 in
theorem lnOf_pos (r : Nat) (h0 : 0 < r) (h2 : r < 9218868437227405312) (w : World) : Calls Tryz.prog 68 #[.float .f64 r] w fun e w' => e = .returned (.float .f64 (lnV (lnM r) (lnK r))) ∧ w' = w := by
  have hlt : (FloatKind.f64.format.order r 0 == some Ordering.lt) = false := by rw [ord_pos h2 (by decide), Nat.compare_eq_gt.2 h0]; rfl
  have heq : (FloatKind.f64.format.order r 0 == some Ordering.eq) = false := by rw [ord_pos h2 (by decide), Nat.compare_eq_gt.2 h0]; rfl
  have hnn : (FloatKind.f64.format.order r r != some Ordering.eq) = false := by rw [ord_pos h2 h2, Nat.compare_eq_eq.2 rfl]; rfl
  have HFin := hid (fun w => finiteR_num r (num_pos h2) w)
  have HR := hid (And.intro h0 h2)
  have hEr := nE_bd h0 h2
  go_enter Tryz.func68, Tryz.ntmps68
  go_wp2_with (go_at_call 114; refine (HFin.out _).mono ?_; rintro e w' ⟨rfl, rfl⟩)
  clear hlt heq hnn h0 h2
  go_loop [0, 4] (fun a b => ∃ (t : Nat) (k : Int), 0 < t ∧ t < 9218868437227405312 ∧ Hid (nM t = nM r) ∧ Hid (nE t + k = nE r) ∧ -3000 ≤ k ∧ k ≤ 3000 ∧ a = .float .f64 t ∧ b = .int .i64 k) (fun a _ => bitsOf a)
  case atStart => exact ⟨r, 0, HR.out.1, HR.out.2, rfl, Int.add_zero _, by omega, by omega, rfl, rfl⟩
  case round =>
    obtain ⟨t, k, ht0, ht, HM, HE, hk1, hk2, rfl, rfl⟩ := hrel
    by_cases hge : 4609047870845172685 ≤ t
    · have hc := geq_pos ht (show 4609047870845172685 < 9218868437227405312 by decide)
      rw [decide_eq_true hge] at hc
      have hd := fun w => hquo (half_div (t := t) (by omega) ht) w
      unfold two at hd
      have hEt := nE_bd ht0 ht
      have hkb : nE t + k = nE r := HE.out
      have hkb1 : k ≤ 2100 := by omega
      have HH := hid (half_nM (t := t) (by omega))
      obtain ⟨hh1, hh2, hh3⟩ := half_bd (t := t) (by omega) ht
      have HE2 := hid hkb
      clear hkb hEt
      go_wp2
      go_round
      case rel => exact ⟨half t, k + 1, hh1, hh2, HH.out.1.trans HM.out, by have := HH.out.2; have := HE2.out; show nE _ + _ = _; omega, by omega, by omega, rfl, by go_num⟩
      case measure => exact half_meas hh3
    · have hc := geq_pos ht (show 4609047870845172685 < 9218868437227405312 by decide)
      rw [decide_eq_false hge] at hc
      go_wp2
      have HL := hid (And.intro ht0 (And.intro HM HE))
      have htlt : t < 4609047870845172685 := by omega
      clear hge
      go_loop [0, 4] (fun a b => ∃ (t : Nat) (k : Int), 0 < t ∧ t < 4609047870845172685 ∧ Hid (nM t = nM r) ∧ Hid (nE t + k = nE r) ∧ -3000 ≤ k ∧ k ≤ 3000 ∧ a = .float .f64 t ∧ b = .int .i64 k) (fun a _ => 4604544271217802189 - bitsOf a)
      case atStart => exact ⟨t, k, ht0, htlt, HM, HE, hk1, hk2, rfl, rfl⟩
      case round =>
        clear HL htlt ht0 ht HM HE hk1 hk2
        obtain ⟨t, k, ht0, ht, HM, HE, hk1, hk2, rfl, rfl⟩ := hrel
        have hc := lss_pos (show t < 9218868437227405312 by omega) (show 4604544271217802189 < 9218868437227405312 by decide)
        by_cases hlt : t < 4604544271217802189
        · rw [decide_eq_true hlt] at hc
          have hd := fun w => hmul (mul_two (t := t) ht0 (by omega)).1 w
          unfold two at hd
          have hEt := nE_bd ht0 (show t < 9218868437227405312 by omega)
          have hkb : nE t + k = nE r := HE.out
          have hkb1 : -2100 ≤ k := by omega
          have HH := hid (nM_dbl ht0)
          have HE2 := hid hkb
          have hdb : t < dbl t ∧ dbl t < 4609047870845172685 := by unfold dbl; split <;> omega
          clear hkb hEt
          go_wp2
          go_round
          case rel => exact ⟨dbl t, k - 1, by omega, hdb.2, HH.out.1.trans HM.out, by have := HH.out.2; have := HE2.out; show nE _ + _ = _; omega, by omega, by omega, rfl, rfl⟩
          case measure => exact dbl_meas hdb.1 hlt
        · rw [decide_eq_false hlt] at hc
          obtain ⟨em, ek⟩ := ln_end k (by omega) ht HM.out HE.out
          have hkb := lnK_bd HR.out.1 HR.out.2
          have hL := ln_ok t k ht (by omega) (by omega)
          have HT := hid (And.intro em ek)
          have a1 := fun w => hsub hL.a w
          have a2 := fun w => hadd hL.b w
          have a3 := fun w => hquo hL.s w
          have a4 := fun w => hmul hL.z w
          have HOk := hid hL
          unfold oneF at a1 a2
          clear hL em ek hkb ht0 ht HM HE hk1 hk2
          go_wp2
          go_loop [7, 8] (fun p n => ∃ j : Nat, j ≤ 11 ∧ n = .float .f64 (nF j) ∧ p = .float .f64 (hor (odd12.drop j) (lZ t))) (fun _ n => cntOf n)
          case atStart => exact ⟨11, by omega, by rw [nF_11], by rw [hor11 _ HOk.out.zn]⟩
          case round =>
            obtain ⟨j, hj, rfl, rfl⟩ := hrel
            by_cases hj0 : j = 0
            · have HJ := hid hj0
              have hL := HOk.out
              have a5 := fun w => hmul hL.sp w
              have a6 := fun w => hmul hL.d w
              have a7 := fun w => hmul hL.hi w
              have a8 := fun w => hmul hL.lo w
              have a9 := fun w => hadd hL.t w
              have a10 := fun w => hadd hL.r w
              unfold two at a6
              unfold lnG lK at a7
              unfold lnS lK at a8
              have hz : (FloatKind.f64.format.order (nF j) 0 == some Ordering.gt) = false := by rw [hj0]; exact nF_zero
              have hp : hor (odd12.drop j) (lZ t) = lP t := by rw [hj0]; rfl
              clear hL hj0 a1 a2 a3 a4
              go_wp2
              go_ret
              exact ⟨by rw [← HT.out.1, ← HT.out.2]; rfl, rfl⟩
            · obtain ⟨⟨c, hcj, hdj⟩, hsj, hoj⟩ := nF_step j (by omega) hj
              have hL := HOk.out
              have b1 := fun w => hmul (hL.p.m j) w
              have hadd' := hL.p.a (j - 1) c hcj
              rw [show j - 1 + 1 = j by omega] at hadd'
              have b2 := fun w => hadd hadd' w
              have b3 := fun w => hquo hdj w
              have b4 := fun w => hsub hsj w
              unfold oneF at b3
              unfold two at b4
              have hz : (FloatKind.f64.format.order (nF j) 0 == some Ordering.gt) = true := by
                show (Ieee.double.order (nF j) 0 == some Ordering.gt) = true
                rw [hoj]; rfl
              clear hL hcj hdj hsj hoj hadd' a1 a2 a3 a4
              go_wp2
              go_round
              case rel => exact ⟨j - 1, by omega, rfl, rfl⟩
              case measure => exact cnt_lt j (by omega) hj
end Go.Proofs.YtkebgnemccaimaaGreatDoor
