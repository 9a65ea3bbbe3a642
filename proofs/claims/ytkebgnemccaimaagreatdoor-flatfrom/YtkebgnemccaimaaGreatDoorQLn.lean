/-
  grain.Ln and mercatorref1.LnOf.
-/
import Derived.Test.YtkebgnemccaimaaGreatDoorQFrexp
namespace Go.Proofs.YtkebgnemccaimaaGreatDoor
open Go.RowKit FB
attribute [local go_sem] run_store_float

theorem twelve {c0 c1 c2 c3 c4 c5 c6 c7 c8 c9 ca cb : Nat} (w : World) (t : TypeId) :
    ∀ i, i < 12 → (w.alloc (.cells #[.float .f64 c0, .float .f64 c1, .float .f64 c2, .float .f64 c3, .float .f64 c4, .float .f64 c5, .float .f64 c6, .float .f64 c7, .float .f64 c8, .float .f64 c9, .float .f64 ca, .float .f64 cb] t)).cell? ⟨w.heap.size, i, none⟩ = some (.float .f64 ([c0, c1, c2, c3, c4, c5, c6, c7, c8, c9, ca, cb].getD i 0)) := by
  intro i hi
  rw [World.cell?_alloc_at _ _ _ _ rfl]
  match i, hi with
  | 0, _ | 1, _ | 2, _ | 3, _ | 4, _ | 5, _ | 6, _ | 7, _ | 8, _ | 9, _ | 10, _ | 11, _ => rfl
theorem odd12_cells (w : World) : ∀ i, i < 12 → (w.alloc (.cells #[.float .f64 4607182418800017408, .float .f64 4599676419421066581, .float .f64 4596373779694328218, .float .f64 4594314991293244562, .float .f64 4592670820000712476, .float .f64 4591215111030249286, .float .f64 4590207312512236308, .float .f64 4589468260265693457, .float .f64 4588638185040256542, .float .f64 4587745830934523688, .float .f64 4587023449039406616, .float .f64 4586426698778222948] 135)).cell? ⟨w.heap.size, i, none⟩ = some (.float .f64 (odd12.getD i 0)) := by
  unfold odd12
  exact twelve w _
theorem get12 (cs : List Nat) (n : Nat) (h : cs.length = n) : ∀ i, i < n → cs[i]? = some (cs.getD i 0) := by
  intro i hi
  rw [List.getElem?_eq_getElem (by omega)]
  simp [List.getElem?_eq_getElem (show i < cs.length by omega)]
theorem poly12 (m : Nat) (hok : Ok odd12 (lZ m)) (b : Nat) (w : World) (hc : ∀ i, i < 12 → w.cell? ⟨b, i, none⟩ = some (.float .f64 (odd12.getD i 0))) :
    Calls Tryz.prog 112 #[.float .f64 (lZ m), .slice (some ⟨b, 0, none⟩) 12 12] w fun e w' => e = .returned (.float .f64 (lP m)) ∧ w' = w :=
  poly_any b (fun i => odd12.getD i 0) odd12 12 (lZ m) w rfl (by decide) hok (get12 _ _ rfl) hc

set_option maxHeartbeats 2000000 in
theorem ln_pos (r : Nat) (h0 : 0 < r) (h2 : r < 9218868437227405312) (w : World) : Calls Tryz.prog 62 #[.float .f64 r] w fun e w' => e = .returned (.float .f64 (lnV (lnM r) (lnK r))) ∧ Below w.heap.size w w' := by
  have hM := lnM_bd h0
  have hK := lnK_bd h0 h2
  have hL := ln_ok (lnM r) (lnK r) hM.2 hK.1 hK.2
  have hlt : (FloatKind.f64.format.order r 0 == some Ordering.lt) = false := by rw [ord_pos h2 (by decide), Nat.compare_eq_gt.2 h0]; rfl
  have heq : (FloatKind.f64.format.order r 0 == some Ordering.eq) = false := by rw [ord_pos h2 (by decide), Nat.compare_eq_gt.2 h0]; rfl
  have hnn : (FloatKind.f64.format.order r r != some Ordering.eq) = false := by rw [ord_pos h2 h2, Nat.compare_eq_eq.2 rfl]; rfl
  have hinf : (FloatKind.f64.format.order r maxF == some Ordering.gt) = false := by
    rw [ord_pos h2 (by decide)]
    have : r ≤ maxF := by unfold maxF; omega
    rcases Nat.lt_or_eq_of_le this with h | h
    · rw [Nat.compare_eq_lt.2 h]; rfl
    · rw [h, Nat.compare_eq_eq.2 rfl]; rfl
  have HJ := hid (fun w => isNaN_any r false hnn w)
  have HI := hid (fun w => isInf_one r false hinf w)
  have HF := hid (fun w => frexp_any r h0 h2 w)
  have HP := hid (fun b w hc => poly12 (lnM r) hL.p b w hc)
  have a1 := fun w => hsub hL.a w
  have a2 := fun w => hadd hL.b w
  have a3 := fun w => hquo hL.s w
  have a4 := fun w => hmul hL.z w
  have a5 := fun w => hmul hL.sp w
  have a6 := fun w => hmul hL.d w
  have a7 := fun w => hmul hL.hi w
  have a8 := fun w => hmul hL.lo w
  have a9 := fun w => hadd hL.t w
  have a10 := fun w => hadd hL.r w
  unfold oneF at a1 a2
  unfold two at a6
  unfold lnG lK at a7
  unfold lnS lK at a8
  have hnb := nE_bd h0 h2
  have hnM := nM_bd h0
  clear hL hnn hinf
  by_cases hc : lnF r < cH
  · have e1 : lnM r = lnF r + 4503599627370496 := by unfold lnM; rw [if_pos hc]
    have e2 : lnK r = nE r - 1022 - 1 := by unfold lnK; rw [if_pos hc]; omega
    have hcc : (FloatKind.f64.format.order (lnF r) 4604544271217802189 == some Ordering.lt) = true := by
      rw [ord_pos (by unfold cH at hc; omega) (by decide), Nat.compare_eq_lt.2 (show lnF r < 4604544271217802189 from hc)]; rfl
    have hFlt : lnF r < 4611686018427387904 := by unfold cH at hc; omega
    have hF0 : 4602678819172646912 ≤ lnF r := by unfold lnF; omega
    have ht := (mul_two (t := lnF r) (by omega) (by omega)).2
    rw [show dbl (lnF r) = lnM r by unfold dbl; rw [if_neg (by omega), e1]] at ht
    have ht2 := fun w => hmul ht w
    unfold two at ht2
    have HE1 := hid e1
    have HE2 := hid e2
    have hkk : nE r - 1022 - 1 = lnK r := e2.symm
    clear e1 e2 hc ht hFlt hF0 hM
    go_enter Tryz.func62, Tryz.ntmps62
    go_wp2_with fail
    refine (HJ.out _).mono ?_
    rintro e w1 ⟨rfl, rfl⟩
    go_wp2_with fail
    refine (HI.out _).mono ?_
    rintro e w2 ⟨rfl, rfl⟩
    go_wp2_with fail
    refine (HF.out _).mono ?_
    rintro e w3 ⟨rfl, rfl⟩
    go_wp2_with fail
    refine (HP.out _ _ (odd12_cells _)).mono ?_
    rintro e w4 ⟨rfl, rfl⟩
    go_wp2
    go_ret
    exact ⟨rfl, (Below.refl _ _).alloc (Nat.le_refl _) _⟩
  · have e1 : lnF r = lnM r := by unfold lnM; rw [if_neg hc]
    have e2 : nE r - 1022 = lnK r := by unfold lnK; rw [if_neg hc]
    have hcc : (FloatKind.f64.format.order (lnM r) 4604544271217802189 == some Ordering.lt) = false := by
      rw [ord_pos (by omega) (by decide)]
      rcases Nat.lt_or_eq_of_le hM.1 with h | h
      · rw [Nat.compare_eq_gt.2 h]; rfl
      · rw [← h, Nat.compare_eq_eq.2 rfl]; rfl
    rw [e1, e2] at HF
    clear e1 e2 hc hM
    go_enter Tryz.func62, Tryz.ntmps62
    go_wp2_with fail
    refine (HJ.out _).mono ?_
    rintro e w1 ⟨rfl, rfl⟩
    go_wp2_with fail
    refine (HI.out _).mono ?_
    rintro e w2 ⟨rfl, rfl⟩
    go_wp2_with fail
    refine (HF.out _).mono ?_
    rintro e w3 ⟨rfl, rfl⟩
    go_wp2_with fail
    refine (HP.out _ _ (odd12_cells _)).mono ?_
    rintro e w4 ⟨rfl, rfl⟩
    go_wp2
    go_ret
    exact ⟨rfl, (Below.refl _ _).alloc (Nat.le_refl _) _⟩

end Go.Proofs.YtkebgnemccaimaaGreatDoor
