/-
  math.Frexp of a positive finite number; math.IsInf, NaN, Inf.; grain.Ln and mercatorref1.LnOf.; mercatorref1.LnOf; and both logarithms where there is none to reckon.; Both logarithms, of every number.
-/
import Derived.Test.YtinopkmcddjgdaaGreatDoorQJ2
import Derived.Test.YtinopkmcddjgdaaGreatDoorQJ1
namespace Go.Proofs.YtinopkmcddjgdaaGreatDoor
open Go.RowKit FB

theorem nan_any (w : World) : Calls Tryz.prog 103 #[] w fun e w' => e = .returned (.float .f64 9221120237041090561) ∧ w' = w := by
  have h2 : ∀ w, (callFunc 96 #[.int .u64 9221120237041090561]).run Tryz.prog w = .ok (.value (.float .f64 9221120237041090561)) w := fun w => call_from 9221120237041090561 w
  go_enter Tryz.func103, Tryz.ntmps103
  go_wp2
  go_ret
  exact ⟨rfl, rfl⟩
theorem inf_neg (w : World) : Calls Tryz.prog 69 #[.int .i64 (-1)] w fun e w' => e = .returned (.float .f64 18442240474082181120) ∧ w' = w := by
  have h2 : ∀ w, (callFunc 96 #[.int .u64 18442240474082181120]).run Tryz.prog w = .ok (.value (.float .f64 18442240474082181120)) w := fun w => call_from 18442240474082181120 w
  go_enter Tryz.func69, Tryz.ntmps69
  go_wp2
  go_ret
  exact ⟨rfl, rfl⟩
theorem inf_pos (w : World) : Calls Tryz.prog 69 #[.int .i64 1] w fun e w' => e = .returned (.float .f64 9218868437227405312) ∧ w' = w := by
  have h2 : ∀ w, (callFunc 96 #[.int .u64 9218868437227405312]).run Tryz.prog w = .ok (.value (.float .f64 9218868437227405312)) w := fun w => call_from 9218868437227405312 w
  go_enter Tryz.func69, Tryz.ntmps69
  go_wp2
  go_ret
  exact ⟨rfl, rfl⟩
theorem isInf_one (x : Nat) (b : Bool) (hb : (FloatKind.f64.format.order x maxF == some Ordering.gt) = b) (w : World) : Calls Tryz.prog 95 #[.float .f64 x, .int .i64 1] w fun e w' => e = .returned (.bool b) ∧ w' = w := by
  unfold maxF at hb
  go_enter Tryz.func95, Tryz.ntmps95
  go_wp2
  go_ret
  exact ⟨rfl, rfl⟩

theorem ord_pos {a b : Nat} (ha : a < 9218868437227405312) (hb : b < 9218868437227405312) : FloatKind.f64.format.order a b = some (compare a b) := order_pos ha hb

theorem norm_big (r : Nat) (h1 : 4503599627370496 ≤ r) (h2 : r < 9218868437227405312) (w : World) : Calls Tryz.prog 109 #[.float .f64 r] w fun e w' => e = .returned (.tuple #[.float .f64 r, .int .i64 0]) ∧ w' = w := by
  have hab : absB r = r := by unfold absB; omega
  have hA := hid (abs_any r (by omega))
  have hc : (FloatKind.f64.format.order r 4503599627370496 == some Ordering.lt) = false := by
    rw [ord_pos h2 (by decide)]
    rcases Nat.lt_or_eq_of_le h1 with h | h
    · rw [Nat.compare_eq_gt.2 h]; rfl
    · rw [← h, Nat.compare_eq_eq.2 rfl]; rfl
  rw [hab] at hA
  clear hab
  go_enter Tryz.func109, Tryz.ntmps109
  go_wp2_with (go_at_call 68; refine (hA.out _).mono ?_; rintro e w' ⟨rfl, rfl⟩)
  go_ret2
  exact ⟨rfl, rfl⟩
theorem norm_small (r : Nat) (h0 : 0 < r) (h2 : r < 4503599627370496) (w : World) : Calls Tryz.prog 109 #[.float .f64 r] w fun e w' => e = .returned (.tuple #[.float .f64 (r.log2 * 4503599627370496 + nM r), .int .i64 (-52)]) ∧ w' = w := by
  have hab : absB r = r := by unfold absB; omega
  have hA := hid (abs_any r (by omega))
  have hc : (FloatKind.f64.format.order r 4503599627370496 == some Ordering.lt) = true := by
    rw [ord_pos (by omega) (by decide), Nat.compare_eq_lt.2 h2]; rfl
  have hm := fun w => hmul (mul_p52 h0 h2) w
  unfold p52 at hm
  rw [hab] at hA
  clear hab
  go_enter Tryz.func109, Tryz.ntmps109
  go_wp2_with (go_at_call 68; refine (hA.out _).mono ?_; rintro e w' ⟨rfl, rfl⟩)
  go_ret2
  exact ⟨rfl, rfl⟩

theorem mask_field (y : Nat) (h : y < 9223372036854775808) : bits .andNot .u64 (y : Int) 9218868437227405312 = ((y % 4503599627370496 : Nat) : Int) := by
  have h' := u64_andNot (y : Int) 9218868437227405312 (by omega) (by omega) (by omega) (by omega)
  rw [h']
  congr 1
  show y &&& 9227875636482146303 = y % 4503599627370496
  apply Nat.eq_of_testBit_eq
  intro j
  rw [Nat.testBit_and, show (9227875636482146303 : Nat) = 2 ^ 63 + (2 ^ 52 - 1) by decide, show y % 4503599627370496 = y % 2 ^ 52 from rfl, Nat.testBit_mod_two_pow]
  rcases Nat.lt_or_ge j 63 with hj | hj
  · rw [Nat.testBit_two_pow_add_gt hj, Nat.testBit_two_pow_sub_one, Bool.and_comm]
  · have : y.testBit j = false := Nat.testBit_lt_two_pow (Nat.lt_of_lt_of_le h (by rw [show (9223372036854775808 : Nat) = 2 ^ 63 by decide]; exact Nat.pow_le_pow_right (by decide) hj))
    rw [this]; simp
theorem set_half (y : Nat) (h : y < 4503599627370496) : bits .or .u64 (y : Int) 4602678819172646912 = ((4602678819172646912 + y : Nat) : Int) := by
  have h' := u64_or (y : Int) 4602678819172646912 (by omega) (by omega) (by omega) (by omega)
  rw [h']
  congr 1
  show y ||| 4602678819172646912 = 4602678819172646912 + y
  rw [Nat.or_comm, show (4602678819172646912 : Nat) = 2 ^ 52 * 1022 by decide, Nat.two_pow_add_eq_or_of_lt (by omega)]

set_option maxHeartbeats 400000 in
theorem frexp_core (r y : Nat) (k0 : Int) (h0 : 0 < r) (h2 : r < 9218868437227405312) (hy : y < 9218868437227405312) (hk : k0 = 0 ∨ k0 = -52)
    (hN : ∀ w, Calls Tryz.prog 109 #[.float .f64 r] w fun e w' => e = .returned (.tuple #[.float .f64 y, .int .i64 k0]) ∧ w' = w) (w : World) :
    Calls Tryz.prog 112 #[.float .f64 r] w fun e w' => e = .returned (.tuple #[.float .f64 ((4602678819172646912 + y % 4503599627370496 : Nat)), .int .i64 (k0 + ((y / 4503599627370496 : Nat) : Int) - 1022)]) ∧ w' = w := by
  have HN := hid hN
  clear hN
  have hz : (FloatKind.f64.format.order r 0 == some Ordering.eq) = false := by
    rw [ord_pos h2 (by decide), Nat.compare_eq_gt.2 h0]; rfl
  have hnn : (FloatKind.f64.format.order r r != some Ordering.eq) = false := by
    rw [ord_pos h2 h2, Nat.compare_eq_eq.2 rfl]; rfl
  have hab : absB r = r := by unfold absB; omega
  have hinf : (FloatKind.f64.format.order (absB r) maxF == some Ordering.gt) = false := by
    rw [hab, ord_pos h2 (by decide)]
    have : r ≤ maxF := by unfold maxF; omega
    rcases Nat.lt_or_eq_of_le this with h | h
    · rw [Nat.compare_eq_lt.2 h]; rfl
    · rw [h, Nat.compare_eq_eq.2 rfl]; rfl
  have HI := hid (fun w => isInf_any r (by omega) false hinf w)
  have HJ := hid (fun w => isNaN_any r false hnn w)
  have hb := call_bits y
  have hf : ∀ w, (callFunc 96 #[.int .u64 (4602678819172646912 + (y : Int) % 4503599627370496)]).run Tryz.prog w = .ok (.value (.float .f64 (4602678819172646912 + y % 4503599627370496))) w := fun w => call_from (4602678819172646912 + y % 4503599627370496) w
  have m1 : bits .andNot .u64 (y : Int) 9218868437227405312 = (y : Int) % 4503599627370496 := mask_field y (by omega)
  have m2 : bits .or .u64 ((y : Int) % 4503599627370496) 4602678819172646912 = 4602678819172646912 + (y : Int) % 4503599627370496 := set_half (y % 4503599627370496) (Nat.mod_lt _ (by decide))
  have m3 : bits .and .u64 ((y : Int) / 4503599627370496) 2047 = (y : Int) / 4503599627370496 := by
    have h' := u64_and ((y : Int) / 4503599627370496) 2047 (by omega) (by omega) (by omega) (by omega)
    rw [h']
    have e : ((y : Int) / 4503599627370496).toNat &&& (2047 : Int).toNat = ((y : Int) / 4503599627370496).toNat := by
      show _ &&& 2047 = _
      rw [Nat.and_two_pow_sub_one_eq_mod _ 11]
      exact Nat.mod_eq_of_lt (by omega)
    rw [e]; omega
  have q1 : 0 ≤ (y : Int) / 4503599627370496 := by omega
  have q2 : (y : Int) / 4503599627370496 ≤ 2046 := by omega
  have hk0 : -52 ≤ k0 := by omega
  have hk1 : k0 ≤ 0 := by omega
  clear hk
  clear hab hinf hnn
  go_enter Tryz.func112, Tryz.ntmps112
  go_wp2_with fail
  refine (HI.out _).mono ?_
  rintro e w' ⟨rfl, rfl⟩
  go_wp2_with fail
  refine (HJ.out _).mono ?_
  rintro e w' ⟨rfl, rfl⟩
  go_wp2_with fail
  refine (HN.out _).mono ?_
  rintro e w' ⟨rfl, rfl⟩
  go_wp2
  go_ret2
  refine ⟨?_, rfl⟩
  have e : k0 + ((y : Int) / 4503599627370496 - 1023 + 1) = k0 + ((y / 4503599627370496 : Nat) : Int) - 1022 := by omega
  rw [← e]; rfl

/-- math.Frexp of a positive finite number. -/
theorem frexp_any (r : Nat) (h0 : 0 < r) (h2 : r < 9218868437227405312) (w : World) :
    Calls Tryz.prog 104 #[.float .f64 r] w fun e w' => e = .returned (.tuple #[.float .f64 (lnF r), .int .i64 (nE r - 1022)]) ∧ w' = w := by
  have key : ∀ w, Calls Tryz.prog 112 #[.float .f64 r] w fun e w' => e = .returned (.tuple #[.float .f64 (lnF r), .int .i64 (nE r - 1022)]) ∧ w' = w := by
    intro w
    by_cases c : r < 4503599627370496
    · have hl := log_bd h0 c
      have hb := nM_bd h0
      have := frexp_core r (r.log2 * 4503599627370496 + nM r) (-52) h0 h2 (by omega) (.inr rfl) (fun w => norm_small r h0 c w) w
      have e1 : (4602678819172646912 + (r.log2 * 4503599627370496 + nM r) % 4503599627370496 : Nat) = lnF r := by unfold lnF; omega
      have e2 : (-52 + (((r.log2 * 4503599627370496 + nM r) / 4503599627370496 : Nat) : Int) - 1022) = nE r - 1022 := by
        unfold nE; rw [if_pos c]; omega
      rw [e1, e2] at this
      exact this
    · have := frexp_core r r 0 h0 h2 h2 (.inl rfl) (fun w => norm_big r (by omega) h2 w) w
      have e1 : (4602678819172646912 + r % 4503599627370496 : Nat) = lnF r := by unfold lnF nM; rw [if_neg c]; omega
      have e2 : (0 + ((r / 4503599627370496 : Nat) : Int) - 1022) = nE r - 1022 := by unfold nE; rw [if_neg c]; omega
      rw [e1, e2] at this
      exact this
  go_enter Tryz.func104, Tryz.ntmps104
  go_wp2_with (go_at_call 112; refine (key _).mono ?_; rintro e w' ⟨rfl, rfl⟩)
  go_ret2
  exact ⟨rfl, rfl⟩
end Go.Proofs.YtinopkmcddjgdaaGreatDoor
namespace Go.Proofs.YtinopkmcddjgdaaGreatDoor
open Go.RowKit FB
attribute [local go_sem] run_store_float

theorem twelve {c0 c1 c2 c3 c4 c5 c6 c7 c8 c9 ca cb : Nat} (w : World) (t : TypeId) :
    ∀ i, i < 12 → (w.alloc (.cells #[.float .f64 c0, .float .f64 c1, .float .f64 c2, .float .f64 c3, .float .f64 c4, .float .f64 c5, .float .f64 c6, .float .f64 c7, .float .f64 c8, .float .f64 c9, .float .f64 ca, .float .f64 cb] t)).cell? ⟨w.heap.size, i, none⟩ = some (.float .f64 ([c0, c1, c2, c3, c4, c5, c6, c7, c8, c9, ca, cb].getD i 0)) := by
  intro i hi
  rw [World.cell?_alloc_at _ _ _ _ rfl]
  match i, hi with
  | 0, _ | 1, _ | 2, _ | 3, _ | 4, _ | 5, _ | 6, _ | 7, _ | 8, _ | 9, _ | 10, _ | 11, _ => rfl
theorem odd12_cells (w : World) : ∀ i, i < 12 → (w.alloc (.cells #[.float .f64 4607182418800017408, .float .f64 4599676419421066581, .float .f64 4596373779694328218, .float .f64 4594314991293244562, .float .f64 4592670820000712476, .float .f64 4591215111030249286, .float .f64 4590207312512236308, .float .f64 4589468260265693457, .float .f64 4588638185040256542, .float .f64 4587745830934523688, .float .f64 4587023449039406616, .float .f64 4586426698778222948] 143)).cell? ⟨w.heap.size, i, none⟩ = some (.float .f64 (odd12.getD i 0)) := by
  unfold odd12
  exact twelve w _
theorem get12 (cs : List Nat) (n : Nat) (h : cs.length = n) : ∀ i, i < n → cs[i]? = some (cs.getD i 0) := by
  intro i hi
  rw [List.getElem?_eq_getElem (by omega)]
  simp [List.getElem?_eq_getElem (show i < cs.length by omega)]
theorem poly12 (m : Nat) (hok : Ok odd12 (lZ m)) (b : Nat) (w : World) (hc : ∀ i, i < 12 → w.cell? ⟨b, i, none⟩ = some (.float .f64 (odd12.getD i 0))) :
    Calls Tryz.prog 93 #[.float .f64 (lZ m), .slice (some ⟨b, 0, none⟩) 12 12] w fun e w' => e = .returned (.float .f64 (lP m)) ∧ w' = w :=
  poly_any b (fun i => odd12.getD i 0) odd12 12 (lZ m) w rfl (by decide) hok (get12 _ _ rfl) hc

set_option maxHeartbeats 2000000 in
theorem ln_pos (r : Nat) (h0 : 0 < r) (h2 : r < 9218868437227405312) (w : World) : Calls Tryz.prog 82 #[.float .f64 r] w fun e w' => e = .returned (.float .f64 (lnV (lnM r) (lnK r))) ∧ Below w.heap.size w w' := by
  have hM := lnM_bd h0
  have hK := lnK_bd h0 h2
  have hL := ln_ok (lnM r) (lnK r) hM.2 hK.1 hK.2
  have hlt : (FloatKind.f64.format.order r 0 == some Ordering.lt) = false := by rw [ord_pos h2 (by decide), Nat.compare_eq_gt.2 h0]; rfl
  have heq : (FloatKind.f64.format.order r 0 == some Ordering.eq) = false := by rw [ord_pos h2 (by decide), Nat.compare_eq_gt.2 h0]; rfl
  have hnn : (FloatKind.f64.format.order r r != some Ordering.eq) = false := by rw [ord_pos h2 h2, Nat.compare_eq_eq.2 rfl]; rfl
  have hinf : (FloatKind.f64.format.order r maxF == some Ordering.gt) = false := by
    rw [ord_pos h2 (by decide)]
    have : r ≤ maxF := by unfold maxF; omega
    rcases Nat.lt_or_eq_of_le this with h | h
    · rw [Nat.compare_eq_lt.2 h]; rfl
    · rw [h, Nat.compare_eq_eq.2 rfl]; rfl
  have HJ := hid (fun w => isNaN_any r false hnn w)
  have HI := hid (fun w => isInf_one r false hinf w)
  have HF := hid (fun w => frexp_any r h0 h2 w)
  have HP := hid (fun b w hc => poly12 (lnM r) hL.p b w hc)
  have a1 := fun w => hsub hL.a w
  have a2 := fun w => hadd hL.b w
  have a3 := fun w => hquo hL.s w
  have a4 := fun w => hmul hL.z w
  have a5 := fun w => hmul hL.sp w
  have a6 := fun w => hmul hL.d w
  have a7 := fun w => hmul hL.hi w
  have a8 := fun w => hmul hL.lo w
  have a9 := fun w => hadd hL.t w
  have a10 := fun w => hadd hL.r w
  unfold oneF at a1 a2
  unfold two at a6
  unfold lnG lK at a7
  unfold lnS lK at a8
  have hnb := nE_bd h0 h2
  have hnM := nM_bd h0
  clear hL hnn hinf
  by_cases hc : lnF r < cH
  · have e1 : lnM r = lnF r + 4503599627370496 := by unfold lnM; rw [if_pos hc]
    have e2 : lnK r = nE r - 1022 - 1 := by unfold lnK; rw [if_pos hc]; omega
    have hcc : (FloatKind.f64.format.order (lnF r) 4604544271217802189 == some Ordering.lt) = true := by
      rw [ord_pos (by unfold cH at hc; omega) (by decide), Nat.compare_eq_lt.2 (show lnF r < 4604544271217802189 from hc)]; rfl
    have hFlt : lnF r < 4611686018427387904 := by unfold cH at hc; omega
    have hF0 : 4602678819172646912 ≤ lnF r := by unfold lnF; omega
    have ht := (mul_two (t := lnF r) (by omega) (by omega)).2
    rw [show dbl (lnF r) = lnM r by unfold dbl; rw [if_neg (by omega), e1]] at ht
    have ht2 := fun w => hmul ht w
    unfold two at ht2
    have HE1 := hid e1
    have HE2 := hid e2
    have hkk : nE r - 1022 - 1 = lnK r := e2.symm
    clear e1 e2 hc ht hFlt hF0 hM
    go_enter Tryz.func82, Tryz.ntmps82
    go_wp2_with fail
    refine (HJ.out _).mono ?_
    rintro e w1 ⟨rfl, rfl⟩
    go_wp2_with fail
    refine (HI.out _).mono ?_
    rintro e w2 ⟨rfl, rfl⟩
    go_wp2_with fail
    refine (HF.out _).mono ?_
    rintro e w3 ⟨rfl, rfl⟩
    go_wp2_with fail
    refine (HP.out _ _ (odd12_cells _)).mono ?_
    rintro e w4 ⟨rfl, rfl⟩
    go_wp2
    go_ret
    exact ⟨rfl, (Below.refl _ _).alloc (Nat.le_refl _) _⟩
  · have e1 : lnF r = lnM r := by unfold lnM; rw [if_neg hc]
    have e2 : nE r - 1022 = lnK r := by unfold lnK; rw [if_neg hc]
    have hcc : (FloatKind.f64.format.order (lnM r) 4604544271217802189 == some Ordering.lt) = false := by
      rw [ord_pos (by omega) (by decide)]
      rcases Nat.lt_or_eq_of_le hM.1 with h | h
      · rw [Nat.compare_eq_gt.2 h]; rfl
      · rw [← h, Nat.compare_eq_eq.2 rfl]; rfl
    rw [e1, e2] at HF
    clear e1 e2 hc hM
    go_enter Tryz.func82, Tryz.ntmps82
    go_wp2_with fail
    refine (HJ.out _).mono ?_
    rintro e w1 ⟨rfl, rfl⟩
    go_wp2_with fail
    refine (HI.out _).mono ?_
    rintro e w2 ⟨rfl, rfl⟩
    go_wp2_with fail
    refine (HF.out _).mono ?_
    rintro e w3 ⟨rfl, rfl⟩
    go_wp2_with fail
    refine (HP.out _ _ (odd12_cells _)).mono ?_
    rintro e w4 ⟨rfl, rfl⟩
    go_wp2
    go_ret
    exact ⟨rfl, (Below.refl _ _).alloc (Nat.le_refl _) _⟩

end Go.Proofs.YtinopkmcddjgdaaGreatDoor
namespace Go.Proofs.YtinopkmcddjgdaaGreatDoor
open Go.RowKit FB

def bitsOf : Value → Nat | .float _ b => b | _ => 0
theorem bitsOf_float (k : FloatKind) (b : Nat) : bitsOf (.float k b) = b := rfl
/-- The word of the half of a great number. -/
def half (t : Nat) : Nat := t - 4503599627370496
theorem half_div {t : Nat} (h0 : 9007199254740992 ≤ t) (h : t < 9218868437227405312) : Ieee.double.div t two = some (half t) := by unfold half; exact div_two h0 h
theorem half_bd {t : Nat} (h0 : 9007199254740992 ≤ t) (h : t < 9218868437227405312) : 0 < half t ∧ half t < 9218868437227405312 ∧ half t < t := by unfold half; omega
theorem half_nM {t : Nat} (h0 : 9007199254740992 ≤ t) : nM (half t) = nM t ∧ nE (half t) = nE t - 1 := by unfold half; exact nM_half h0
theorem half_meas {t : Nat} (h : half t < t) : bitsOf (.float .f64 (half t)) < bitsOf (.float .f64 t) := by
  rw [bitsOf_float, bitsOf_float]; exact h
theorem dbl_meas {t : Nat} (h : t < dbl t) (h2 : t < 4604544271217802189) : 4604544271217802189 - bitsOf (.float .f64 (dbl t)) < 4604544271217802189 - bitsOf (.float .f64 t) := by
  rw [bitsOf_float, bitsOf_float]; omega
/-- The odd numbers as numbers with a point: 2 j - 1. -/
def nF (j : Nat) : Nat := floatOfInt .f64 (2 * (j : Int) - 1)
theorem nF_all : ((List.range 11).all fun j => (Ieee.double.div oneF (nF (j + 1)) == odd12[j]?) && (Ieee.double.sub (nF (j + 1)) two == some (nF j)) && (Ieee.double.order (nF (j + 1)) 0 == some .gt)) = true := by decide +kernel
theorem nF_step (j : Nat) (h1 : 1 ≤ j) (h : j ≤ 11) : (∃ c, odd12[j - 1]? = some c ∧ Ieee.double.div oneF (nF j) = some c) ∧ Ieee.double.sub (nF j) two = some (nF (j - 1)) ∧ Ieee.double.order (nF j) 0 = some .gt := by
  have := List.all_eq_true.1 nF_all (j - 1) (List.mem_range.2 (by omega))
  rw [show j - 1 + 1 = j by omega] at this
  simp only [Bool.and_eq_true, beq_iff_eq] at this
  have hlt : j - 1 < odd12.length := by show j - 1 < 12; omega
  refine ⟨⟨odd12[j - 1], List.getElem?_eq_getElem hlt, ?_⟩, this.1.2, this.2⟩
  rw [this.1.1, List.getElem?_eq_getElem hlt]
theorem nF_11 : nF 11 = 4626604192193052672 := by decide +kernel
def cntOf : Value → Nat
  | .float _ b => ((List.range 12).filter fun j => decide (nF j ≤ b) && decide (b < 9223372036854775808)).length
  | _ => 0
theorem cnt_all : ((List.range 11).all fun j => decide (cntOf (.float .f64 (nF j)) < cntOf (.float .f64 (nF (j + 1))))) = true := by decide +kernel
theorem cnt_lt (j : Nat) (h1 : 1 ≤ j) (h : j ≤ 11) : cntOf (.float .f64 (nF (j - 1))) < cntOf (.float .f64 (nF j)) := by
  have := List.all_eq_true.1 cnt_all (j - 1) (List.mem_range.2 (by omega))
  rw [show j - 1 + 1 = j by omega] at this
  simpa using this
theorem nF_zero : (FloatKind.f64.format.order (nF 0) 0 == some Ordering.gt) = false := by decide +kernel
theorem hor11 (z : Nat) (hz : Num z) : hor (odd12.drop 11) z = 4586426698778222948 := by
  show FA 4586426698778222948 (FM z 0) = 4586426698778222948
  rcases FM_zero hz with h | h <;> rw [h] <;> decide +kernel

theorem geq_pos {t c : Nat} (ht : t < 9218868437227405312) (hc : c < 9218868437227405312) : (FloatKind.f64.format.order t c == some Ordering.gt || FloatKind.f64.format.order t c == some Ordering.eq) = decide (c ≤ t) := by
  rw [ord_pos ht hc]
  rcases Nat.lt_trichotomy t c with h | h | h
  · rw [Nat.compare_eq_lt.2 h]; simp; omega
  · rw [h, Nat.compare_eq_eq.2 rfl]; simp
  · rw [Nat.compare_eq_gt.2 h]; simp; omega
theorem lss_pos {t c : Nat} (ht : t < 9218868437227405312) (hc : c < 9218868437227405312) : (FloatKind.f64.format.order t c == some Ordering.lt) = decide (t < c) := by
  rw [ord_pos ht hc]
  rcases Nat.lt_trichotomy t c with h | h | h
  · rw [Nat.compare_eq_lt.2 h]; simp; omega
  · rw [h, Nat.compare_eq_eq.2 rfl]; simp
  · rw [Nat.compare_eq_gt.2 h]; simp; omega

set_option maxHeartbeats 4000000 in
theorem lnOf_pos (r : Nat) (h0 : 0 < r) (h2 : r < 9218868437227405312) (w : World) : Calls Tryz.prog 78 #[.float .f64 r] w fun e w' => e = .returned (.float .f64 (lnV (lnM r) (lnK r))) ∧ w' = w := by
  have hlt : (FloatKind.f64.format.order r 0 == some Ordering.lt) = false := by rw [ord_pos h2 (by decide), Nat.compare_eq_gt.2 h0]; rfl
  have heq : (FloatKind.f64.format.order r 0 == some Ordering.eq) = false := by rw [ord_pos h2 (by decide), Nat.compare_eq_gt.2 h0]; rfl
  have hnn : (FloatKind.f64.format.order r r != some Ordering.eq) = false := by rw [ord_pos h2 h2, Nat.compare_eq_eq.2 rfl]; rfl
  have HFin := hid (fun w => finiteR_num r (num_pos h2) w)
  have HR := hid (And.intro h0 h2)
  have hEr := nE_bd h0 h2
  go_enter Tryz.func78, Tryz.ntmps78
  go_wp2_with (go_at_call 102; refine (HFin.out _).mono ?_; rintro e w' ⟨rfl, rfl⟩)
  clear hlt heq hnn h0 h2
  go_loop [0, 4] (fun a b => ∃ (t : Nat) (k : Int), 0 < t ∧ t < 9218868437227405312 ∧ Hid (nM t = nM r) ∧ Hid (nE t + k = nE r) ∧ -3000 ≤ k ∧ k ≤ 3000 ∧ a = .float .f64 t ∧ b = .int .i64 k) (fun a _ => bitsOf a)
  case atStart => exact ⟨r, 0, HR.out.1, HR.out.2, rfl, Int.add_zero _, by omega, by omega, rfl, rfl⟩
  case round =>
    obtain ⟨t, k, ht0, ht, HM, HE, hk1, hk2, rfl, rfl⟩ := hrel
    by_cases hge : 4609047870845172685 ≤ t
    · have hc := geq_pos ht (show 4609047870845172685 < 9218868437227405312 by decide)
      rw [decide_eq_true hge] at hc
      have hd := fun w => hquo (half_div (t := t) (by omega) ht) w
      unfold two at hd
      have hEt := nE_bd ht0 ht
      have hkb : nE t + k = nE r := HE.out
      have hkb1 : k ≤ 2100 := by omega
      have HH := hid (half_nM (t := t) (by omega))
      obtain ⟨hh1, hh2, hh3⟩ := half_bd (t := t) (by omega) ht
      have HE2 := hid hkb
      clear hkb hEt
      go_wp2
      go_round
      case rel => exact ⟨half t, k + 1, hh1, hh2, HH.out.1.trans HM.out, by have := HH.out.2; have := HE2.out; show nE _ + _ = _; omega, by omega, by omega, rfl, by go_num⟩
      case measure => exact half_meas hh3
    · have hc := geq_pos ht (show 4609047870845172685 < 9218868437227405312 by decide)
      rw [decide_eq_false hge] at hc
      go_wp2
      have HL := hid (And.intro ht0 (And.intro HM HE))
      have htlt : t < 4609047870845172685 := by omega
      clear hge
      go_loop [0, 4] (fun a b => ∃ (t : Nat) (k : Int), 0 < t ∧ t < 4609047870845172685 ∧ Hid (nM t = nM r) ∧ Hid (nE t + k = nE r) ∧ -3000 ≤ k ∧ k ≤ 3000 ∧ a = .float .f64 t ∧ b = .int .i64 k) (fun a _ => 4604544271217802189 - bitsOf a)
      case atStart => exact ⟨t, k, ht0, htlt, HM, HE, hk1, hk2, rfl, rfl⟩
      case round =>
        clear HL htlt ht0 ht HM HE hk1 hk2
        obtain ⟨t, k, ht0, ht, HM, HE, hk1, hk2, rfl, rfl⟩ := hrel
        have hc := lss_pos (show t < 9218868437227405312 by omega) (show 4604544271217802189 < 9218868437227405312 by decide)
        by_cases hlt : t < 4604544271217802189
        · rw [decide_eq_true hlt] at hc
          have hd := fun w => hmul (mul_two (t := t) ht0 (by omega)).1 w
          unfold two at hd
          have hEt := nE_bd ht0 (show t < 9218868437227405312 by omega)
          have hkb : nE t + k = nE r := HE.out
          have hkb1 : -2100 ≤ k := by omega
          have HH := hid (nM_dbl ht0)
          have HE2 := hid hkb
          have hdb : t < dbl t ∧ dbl t < 4609047870845172685 := by unfold dbl; split <;> omega
          clear hkb hEt
          go_wp2
          go_round
          case rel => exact ⟨dbl t, k - 1, by omega, hdb.2, HH.out.1.trans HM.out, by have := HH.out.2; have := HE2.out; show nE _ + _ = _; omega, by omega, by omega, rfl, rfl⟩
          case measure => exact dbl_meas hdb.1 hlt
        · rw [decide_eq_false hlt] at hc
          obtain ⟨em, ek⟩ := ln_end k (by omega) ht HM.out HE.out
          have hkb := lnK_bd HR.out.1 HR.out.2
          have hL := ln_ok t k ht (by omega) (by omega)
          have HT := hid (And.intro em ek)
          have a1 := fun w => hsub hL.a w
          have a2 := fun w => hadd hL.b w
          have a3 := fun w => hquo hL.s w
          have a4 := fun w => hmul hL.z w
          have HOk := hid hL
          unfold oneF at a1 a2
          clear hL em ek hkb ht0 ht HM HE hk1 hk2
          go_wp2
          go_loop [7, 8] (fun p n => ∃ j : Nat, j ≤ 11 ∧ n = .float .f64 (nF j) ∧ p = .float .f64 (hor (odd12.drop j) (lZ t))) (fun _ n => cntOf n)
          case atStart => exact ⟨11, by omega, by rw [nF_11], by rw [hor11 _ HOk.out.zn]⟩
          case round =>
            obtain ⟨j, hj, rfl, rfl⟩ := hrel
            by_cases hj0 : j = 0
            · have HJ := hid hj0
              have hL := HOk.out
              have a5 := fun w => hmul hL.sp w
              have a6 := fun w => hmul hL.d w
              have a7 := fun w => hmul hL.hi w
              have a8 := fun w => hmul hL.lo w
              have a9 := fun w => hadd hL.t w
              have a10 := fun w => hadd hL.r w
              unfold two at a6
              unfold lnG lK at a7
              unfold lnS lK at a8
              have hz : (FloatKind.f64.format.order (nF j) 0 == some Ordering.gt) = false := by rw [hj0]; exact nF_zero
              have hp : hor (odd12.drop j) (lZ t) = lP t := by rw [hj0]; rfl
              clear hL hj0 a1 a2 a3 a4
              go_wp2
              go_ret
              exact ⟨by rw [← HT.out.1, ← HT.out.2]; rfl, rfl⟩
            · obtain ⟨⟨c, hcj, hdj⟩, hsj, hoj⟩ := nF_step j (by omega) hj
              have hL := HOk.out
              have b1 := fun w => hmul (hL.p.m j) w
              have hadd' := hL.p.a (j - 1) c hcj
              rw [show j - 1 + 1 = j by omega] at hadd'
              have b2 := fun w => hadd hadd' w
              have b3 := fun w => hquo hdj w
              have b4 := fun w => hsub hsj w
              unfold oneF at b3
              unfold two at b4
              have hz : (FloatKind.f64.format.order (nF j) 0 == some Ordering.gt) = true := by
                show (Ieee.double.order (nF j) 0 == some Ordering.gt) = true
                rw [hoj]; rfl
              clear hL hcj hdj hsj hoj hadd' a1 a2 a3 a4
              go_wp2
              go_round
              case rel => exact ⟨j - 1, by omega, rfl, rfl⟩
              case measure => exact cnt_lt j (by omega) hj
end Go.Proofs.YtinopkmcddjgdaaGreatDoor
namespace Go.Proofs.YtinopkmcddjgdaaGreatDoor
open Go.RowKit FB

def lnO (x : Nat) : Option Nat :=
  match Ieee.double.read x with
  | .nan _ _ => none
  | .infinity s => if s = true then none else some x
  | .number _ _ _ => if Ieee.double.order x 0 = some .lt then none else if Ieee.double.order x 0 = some .eq then some 18442240474082181120 else some (lnV (lnM x) (lnK x))

theorem nanW : Nan 9221120237041090561 := ⟨false, 2251799813685249, by decide +kernel⟩
theorem inf_word {x : Nat} {s : Bool} (h : Ieee.double.read x = .infinity s) : x % 9223372036854775808 = 9218868437227405312 ∧ s = (x / 9223372036854775808 % 2 == 1) := by
  rw [read_eq] at h
  generalize hr : x % 9223372036854775808 = r at h ⊢
  by_cases c1 : r < 4503599627370496
  · rw [if_pos c1] at h; cases h
  · rw [if_neg c1] at h
    by_cases c2 : r < 9218868437227405312
    · rw [if_pos c2] at h; cases h
    · rw [if_neg c2] at h
      by_cases c3 : r = 9218868437227405312
      · rw [if_pos c3] at h; injection h with h; exact ⟨c3, h.symm⟩
      · rw [if_neg c3] at h; cases h
theorem inf_posw {x : Nat} (hx : x < 18446744073709551616) (h : Ieee.double.read x = .infinity false) : x = 9218868437227405312 := by
  obtain ⟨h1, h2⟩ := inf_word h
  have : ¬ x / 9223372036854775808 % 2 = 1 := by
    intro hc; rw [hc] at h2; cases h2
  omega
theorem pos_word {x : Nat} (hx : x < 18446744073709551616) (hn : Num x) (h1 : Ieee.double.order x 0 ≠ some .lt) (h2 : Ieee.double.order x 0 ≠ some .eq) : 0 < x ∧ x < 9218868437227405312 := by
  have hfin : x % 9223372036854775808 < 9218868437227405312 := by
    obtain ⟨s, m, e, hr⟩ := hn
    rw [read_eq] at hr
    generalize x % 9223372036854775808 = r at hr ⊢
    by_cases c1 : r < 4503599627370496
    · omega
    · rw [if_neg c1] at hr
      by_cases c2 : r < 9218868437227405312
      · exact c2
      · rw [if_neg c2] at hr
        by_cases c3 : r = 9218868437227405312
        · rw [if_pos c3] at hr; cases hr
        · rw [if_neg c3] at hr; cases hr
  rcases ge_zero hx hn h1 with h | ⟨h, _⟩
  · unfold absB at h
    refine ⟨?_, by omega⟩
    rcases Nat.eq_zero_or_pos x with h0 | h0
    · exfalso; apply h2; rw [h0]; decide +kernel
    · exact h0
  · exfalso; apply h2; rw [h]; decide +kernel

theorem eqB {a b : Nat} {o : Ordering} (h : Ieee.double.order a b = some o) (p : Ordering) : (FloatKind.f64.format.order a b == some p) = decide (o = p) := by
  show (Ieee.double.order a b == some p) = _
  rw [h]; cases o <;> cases p <;> rfl

theorem ln_nan (x : Nat) (h : (FloatKind.f64.format.order x x != some Ordering.eq) = true) (w : World) : Calls Tryz.prog 82 #[.float .f64 x] w fun e w' => e = .returned (.float .f64 9221120237041090561) ∧ w' = w := by
  have HJ := hid (fun w => isNaN_any x true h w)
  have HN := hid nan_any
  clear h
  go_enter Tryz.func82, Tryz.ntmps82
  go_wp2_with (first | (go_at_call 94; refine (HJ.out _).mono ?_; rintro e w1 ⟨rfl, rfl⟩) | (go_at_call 103; refine (HN.out _).mono ?_; rintro e w2 ⟨rfl, rfl⟩))
  go_ret
  exact ⟨rfl, rfl⟩
theorem ln_neg (x : Nat) (h : (FloatKind.f64.format.order x x != some Ordering.eq) = false) (h' : (FloatKind.f64.format.order x 0 == some Ordering.lt) = true) (w : World) : Calls Tryz.prog 82 #[.float .f64 x] w fun e w' => e = .returned (.float .f64 9221120237041090561) ∧ w' = w := by
  have HJ := hid (fun w => isNaN_any x false h w)
  have HN := hid nan_any
  clear h
  go_enter Tryz.func82, Tryz.ntmps82
  go_wp2_with (first | (go_at_call 94; refine (HJ.out _).mono ?_; rintro e w1 ⟨rfl, rfl⟩) | (go_at_call 103; refine (HN.out _).mono ?_; rintro e w2 ⟨rfl, rfl⟩))
  go_ret
  exact ⟨rfl, rfl⟩
theorem ln_zero (x : Nat) (h : (FloatKind.f64.format.order x x != some Ordering.eq) = false) (h' : (FloatKind.f64.format.order x 0 == some Ordering.lt) = false) (h3 : (FloatKind.f64.format.order x 0 == some Ordering.eq) = true) (w : World) : Calls Tryz.prog 82 #[.float .f64 x] w fun e w' => e = .returned (.float .f64 18442240474082181120) ∧ w' = w := by
  have HJ := hid (fun w => isNaN_any x false h w)
  have HN := hid inf_neg
  clear h
  go_enter Tryz.func82, Tryz.ntmps82
  go_wp2_with (first | (go_at_call 94; refine (HJ.out _).mono ?_; rintro e w1 ⟨rfl, rfl⟩) | (go_at_call 69; refine (HN.out _).mono ?_; rintro e w2 ⟨rfl, rfl⟩))
  go_ret
  exact ⟨rfl, rfl⟩
theorem ln_inf (w : World) : Calls Tryz.prog 82 #[.float .f64 9218868437227405312] w fun e w' => e = .returned (.float .f64 9218868437227405312) ∧ w' = w := by
  have h : (FloatKind.f64.format.order 9218868437227405312 9218868437227405312 != some Ordering.eq) = false := by decide +kernel
  have h' : (FloatKind.f64.format.order 9218868437227405312 0 == some Ordering.lt) = false := by decide +kernel
  have h3 : (FloatKind.f64.format.order 9218868437227405312 0 == some Ordering.eq) = false := by decide +kernel
  have h4 : (FloatKind.f64.format.order 9218868437227405312 maxF == some Ordering.gt) = true := by decide +kernel
  have HJ := hid (fun w => isNaN_any 9218868437227405312 false h w)
  have HI := hid (fun w => isInf_one 9218868437227405312 true h4 w)
  clear h h4
  go_enter Tryz.func82, Tryz.ntmps82
  go_wp2_with (first | (go_at_call 94; refine (HJ.out _).mono ?_; rintro e w1 ⟨rfl, rfl⟩) | (go_at_call 95; refine (HI.out _).mono ?_; rintro e w2 ⟨rfl, rfl⟩))
  go_ret
  exact ⟨rfl, rfl⟩

theorem lnOf_nan (x : Nat) (h : (FloatKind.f64.format.order x x != some Ordering.eq) = true) (w : World) : Calls Tryz.prog 78 #[.float .f64 x] w fun e w' => e = .returned (.float .f64 9221120237041090561) ∧ w' = w := by
  have HN := hid nan_any
  go_enter Tryz.func78, Tryz.ntmps78
  go_wp2_with (first | (go_at_call 103; refine (HN.out _).mono ?_; rintro e w2 ⟨rfl, rfl⟩))
  go_ret
  exact ⟨rfl, rfl⟩
theorem lnOf_neg (x : Nat) (h : (FloatKind.f64.format.order x x != some Ordering.eq) = false) (h' : (FloatKind.f64.format.order x 0 == some Ordering.lt) = true) (w : World) : Calls Tryz.prog 78 #[.float .f64 x] w fun e w' => e = .returned (.float .f64 9221120237041090561) ∧ w' = w := by
  have HN := hid nan_any
  go_enter Tryz.func78, Tryz.ntmps78
  go_wp2_with (first | (go_at_call 103; refine (HN.out _).mono ?_; rintro e w2 ⟨rfl, rfl⟩))
  go_ret
  exact ⟨rfl, rfl⟩
theorem lnOf_zero (x : Nat) (h : (FloatKind.f64.format.order x x != some Ordering.eq) = false) (h' : (FloatKind.f64.format.order x 0 == some Ordering.lt) = false) (h3 : (FloatKind.f64.format.order x 0 == some Ordering.eq) = true) (w : World) : Calls Tryz.prog 78 #[.float .f64 x] w fun e w' => e = .returned (.float .f64 18442240474082181120) ∧ w' = w := by
  have HN := hid inf_neg
  go_enter Tryz.func78, Tryz.ntmps78
  go_wp2_with (first | (go_at_call 69; refine (HN.out _).mono ?_; rintro e w2 ⟨rfl, rfl⟩))
  go_ret
  exact ⟨rfl, rfl⟩
theorem lnOf_inf (w : World) : Calls Tryz.prog 78 #[.float .f64 9218868437227405312] w fun e w' => e = .returned (.float .f64 9218868437227405312) ∧ w' = w.drew := by
  have h : (FloatKind.f64.format.order 9218868437227405312 9218868437227405312 != some Ordering.eq) = false := by decide +kernel
  have h' : (FloatKind.f64.format.order 9218868437227405312 0 == some Ordering.lt) = false := by decide +kernel
  have h3 : (FloatKind.f64.format.order 9218868437227405312 0 == some Ordering.eq) = false := by decide +kernel
  have HI := hid (fun w => finiteR_not 9218868437227405312 (by decide +kernel) w)
  go_enter Tryz.func78, Tryz.ntmps78
  go_wp2_with (first | (go_at_call 102; refine (HI.out _).mono ?_; rintro e w2 ⟨rfl, rfl⟩))
  go_ret
  exact ⟨rfl, rfl⟩

theorem ln_any (x : Nat) (hx : x < 18446744073709551616) (w : World) :
    (Calls Tryz.prog 82 #[.float .f64 x] w fun e w' => ∃ r, e = .returned (.float .f64 r) ∧ Got (lnO x) r ∧ Below w.heap.size w w') ∧
    (Calls Tryz.prog 78 #[.float .f64 x] w fun e w' => ∃ r, e = .returned (.float .f64 r) ∧ Got (lnO x) r ∧ Below w.heap.size w w') := by
  have hnone : lnO x = none → Got (lnO x) 9221120237041090561 := fun h => by rw [h]; exact nanW
  have hsome : ∀ {q}, lnO x = some q → Got (lnO x) q := fun h => by rw [h]; rfl
  cases hr : Ieee.double.read x with
  | nan s f =>
    have hb : (FloatKind.f64.format.order x x != some Ordering.eq) = true := by show (Ieee.double.order x x != _) = _; rw [order_nan hr]; rfl
    have hO : lnO x = none := by unfold lnO; rw [hr]
    exact ⟨(ln_nan x hb w).mono fun e w' h => ⟨_, h.1, hnone hO, by rw [h.2]; exact Below.refl _ _⟩, (lnOf_nan x hb w).mono fun e w' h => ⟨_, h.1, hnone hO, by rw [h.2]; exact Below.refl _ _⟩⟩
  | infinity s =>
    have hb : (FloatKind.f64.format.order x x != some Ordering.eq) = false := by show (Ieee.double.order x x != _) = _; rw [(order_inf hr).2]; rfl
    cases s with
    | true =>
      have hO : lnO x = none := by unfold lnO; rw [hr]; rfl
      have hl : (FloatKind.f64.format.order x 0 == some Ordering.lt) = true := by
        show (Ieee.double.order x 0 == _) = _
        unfold Ieee.Format.order; rw [hr, show Ieee.double.read 0 = .number false 0 (-1074) by decide +kernel]; rfl
      exact ⟨(ln_neg x hb hl w).mono fun e w' h => ⟨_, h.1, hnone hO, by rw [h.2]; exact Below.refl _ _⟩, (lnOf_neg x hb hl w).mono fun e w' h => ⟨_, h.1, hnone hO, by rw [h.2]; exact Below.refl _ _⟩⟩
    | false =>
      have hO : lnO x = some x := by unfold lnO; rw [hr]; rfl
      have hw := inf_posw hx hr
      have hg := hsome hO
      rw [hw] at hg ⊢
      exact ⟨(ln_inf w).mono fun e w' h => ⟨_, h.1, hg, by rw [h.2]; exact Below.refl _ _⟩, (lnOf_inf w).mono fun e w' h => ⟨_, h.1, hg, by rw [h.2]; exact (Below.refl _ _).drew⟩⟩
  | number s m e =>
    have hn : Num x := ⟨s, m, e, hr⟩
    have hb : (FloatKind.f64.format.order x x != some Ordering.eq) = false := by show (Ieee.double.order x x != _) = _; rw [order_self hn]; rfl
    by_cases h1 : Ieee.double.order x 0 = some .lt
    · have hO : lnO x = none := by unfold lnO; rw [hr]; simp only [h1, if_true]
      have hl := eqB h1 .lt
      exact ⟨(ln_neg x hb hl w).mono fun e w' h => ⟨_, h.1, hnone hO, by rw [h.2]; exact Below.refl _ _⟩, (lnOf_neg x hb hl w).mono fun e w' h => ⟨_, h.1, hnone hO, by rw [h.2]; exact Below.refl _ _⟩⟩
    · by_cases h2 : Ieee.double.order x 0 = some .eq
      · have hO : lnO x = some 18442240474082181120 := by unfold lnO; rw [hr]; simp only [h2, if_true]; rfl
        have hl := eqB h2 .lt
        have he := eqB h2 .eq
        exact ⟨(ln_zero x hb hl he w).mono fun e w' h => ⟨_, h.1, hsome hO, by rw [h.2]; exact Below.refl _ _⟩, (lnOf_zero x hb hl he w).mono fun e w' h => ⟨_, h.1, hsome hO, by rw [h.2]; exact Below.refl _ _⟩⟩
      · obtain ⟨p1, p2⟩ := pos_word hx hn h1 h2
        have hO : lnO x = some (lnV (lnM x) (lnK x)) := by unfold lnO; rw [hr]; simp only [h1, h2, if_false]
        exact ⟨(ln_pos x p1 p2 w).mono fun e w' h => ⟨_, h.1, hsome hO, h.2⟩, (lnOf_pos x p1 p2 w).mono fun e w' h => ⟨_, h.1, hsome hO, by rw [h.2]; exact Below.refl _ _⟩⟩
end Go.Proofs.YtinopkmcddjgdaaGreatDoor
