/-
  mercatorref1.AngleOf.
-/
import Derived.Test.YtkebgnemccaimaaGreatDoorQAngle
namespace Go.Proofs.YtkebgnemccaimaaGreatDoor
open Go.RowKit FB

theorem drewN_zero (w : World) : w.drewN 0 = w := rfl

theorem angleOf_no (y x : Nat) (h : (!finV x || !finV y || (isZ x && isZ y)) = true) (w : World) : Calls Tryz.prog 113 #[.float .f64 y, .float .f64 x] w fun e w' => e = .returned (.tuple #[.int .i64 0, .bool false]) ∧ Below w.heap.size w w' := by
  have HC := hid (fun w => finiteR_any x w)
  have HD := hid (fun w => finiteR_any y w)
  have hcs : finV x = false ∨ (finV x = true ∧ finV y = false) ∨ (finV x = true ∧ finV y = true ∧ isZ x = true ∧ isZ y = true) := by
    cases h1 : finV x <;> cases h2 : finV y <;> cases h3 : isZ x <;> cases h4 : isZ y <;> simp_all
  clear h
  rcases hcs with h1 | ⟨h1, h2⟩ | ⟨h1, h2, h3, h4⟩
  all_goals
    try unfold isZ at h3 h4
    go_enter Tryz.func113, Tryz.ntmps113
    go_wp2_with fail
    refine (HC.out _).mono ?_
    rintro e w1 ⟨rfl, n1, rfl⟩
    go_wp2_with fail
    refine (HD.out _).mono ?_
    rintro e w2 ⟨rfl, n2, rfl⟩
    go_wp2
    go_ret2
    exact ⟨rfl, ⟨rfl, rfl, rfl, Nat.le_refl _, fun _ _ => rfl⟩⟩

/-- What the walk takes for the size: the word itself, or its opposite where it is below 0. -/
def sizeOfF (x : Nat) : Nat := if isNeg x = true then Op.negFloat .f64 x else x
theorem sizeOfF_abs (x : Nat) (hx : x < 18446744073709551616) (hn : Num x) : (sizeOfF x = absB x ∨ (sizeOfF x = 9223372036854775808 ∧ absB x = 0)) ∧ Num (sizeOfF x) := by
  unfold sizeOfF isNeg
  by_cases h : Ieee.double.order x 0 = some .lt
  · have h1 : (FloatKind.f64.format.order x 0 == some Ordering.lt) = true := by show (Ieee.double.order x 0 == some Ordering.lt) = true; rw [h]; rfl
    rw [if_pos h1]
    have := lt_zero hx hn h
    exact ⟨.inl this, by rw [this]; exact num_abs hn⟩
  · have h1 : ¬ (FloatKind.f64.format.order x 0 == some Ordering.lt) = true := by
      intro hc
      apply h
      show FloatKind.f64.format.order x 0 = some Ordering.lt
      simpa using hc
    rw [if_neg h1]
    rcases ge_zero hx hn h with h2 | ⟨h2, h3⟩
    · exact ⟨.inl h2.symm, hn⟩
    · exact ⟨.inr ⟨h2, h3⟩, hn⟩
theorem test_same (y x : Nat) (hy : y < 18446744073709551616) (hx : x < 18446744073709551616) (ny : Num y) (nx : Num x) (m : Int) (h0 : 0 ≤ m) (h1 : m < 360000000000) : cle (FM (sinV m) (sizeOfF x)) (FM (cosV m) (sizeOfF y)) = test (absB y) (absB x) m := by
  obtain ⟨hs, hc⟩ := sin_num m h0 h1
  exact cle_congr (FM_sameZ hs (sizeOfF_abs x hx nx).1) (FM_sameZ hc (sizeOfF_abs y hy ny).1)

set_option maxHeartbeats 2000000 in
theorem angleOf_yes (y x : Nat) (hy : y < 18446744073709551616) (hx : x < 18446744073709551616) (h : finV y = true) (h' : finV x = true) (hz : (isZ y && isZ x) = false) (w : World) :
    Calls Tryz.prog 113 #[.float .f64 y, .float .f64 x] w fun e w' => e = .returned (.tuple #[.int .i64 (angV y x).1, .bool true]) ∧ Below w.heap.size w w' := by
  have ny := finV_num.1 h
  have nx := finV_num.1 h'
  have HC := hid (fun w => finiteR_num x nx w)
  have HD := hid (fun w => finiteR_num y ny w)
  have HV : Hid (angV y x = if (isNeg x && isNeg y) = true then (180000000000 + quarter (absB y) (absB x), true)
      else if isNeg x = true then (180000000000 - quarter (absB y) (absB x), true)
      else if isNeg y = true then (nrm (360000000000 - quarter (absB y) (absB x)), true)
      else (quarter (absB y) (absB x), true)) := by
    unfold angV Hid; rw [h, h', hz]; rfl
  have hqb := quarter_bd (absB y) (absB x)
  have HT := hid (fun m h0 h1 => test_same y x hy hx ny nx m h0 h1)
  have HNX := hid (sizeOfF_abs x hx nx).2
  have HNY := hid (sizeOfF_abs y hy ny).2
  have hzz : (isZ x = false) ∨ (isZ x = true ∧ isZ y = false) := by cases h1 : isZ y <;> cases h2 : isZ x <;> simp_all
  have HU := hid (show sizeOfF x = if isNeg x = true then Op.negFloat .f64 x else x from rfl)
  have HW := hid (show sizeOfF y = if isNeg y = true then Op.negFloat .f64 y else y from rfl)
  have hN := hneg
  clear hz h h' nx ny hx hy
  cases hny : isNeg y <;> cases hnx : isNeg x
  all_goals
    rw [hny, hnx] at HV
    rw [hnx] at HU
    rw [hny] at HW
    first | rw [show sizeOfF x = Op.negFloat .f64 x from HU.out] at HT HNX | rw [show sizeOfF x = x from HU.out] at HT HNX
    first | rw [show sizeOfF y = Op.negFloat .f64 y from HW.out] at HT HNY | rw [show sizeOfF y = y from HW.out] at HT HNY
    clear HU HW
    unfold isNeg at hny hnx
    rcases hzz with hzx | ⟨hzx, hzy⟩
    all_goals
      unfold isZ at hzx
      try unfold isZ at hzy
      go_enter Tryz.func113, Tryz.ntmps113
      go_wp2_with fail
      refine (HC.out _).mono ?_
      rintro e w' ⟨rfl, rfl⟩
      go_wp2_with fail
      refine (HD.out _).mono ?_
      rintro e w' ⟨rfl, rfl⟩
      go_wp2
      go_loop [10, 11] (fun s t => ∃ (lo hi : Int) (n : Nat), 0 ≤ lo ∧ lo < hi ∧ hi ≤ 90000000001 ∧ hi - lo ≤ 2 ^ n ∧ Hid (bis (test (absB y) (absB x)) n lo hi = quarter (absB y) (absB x)) ∧ s = .int .i64 lo ∧ t = .int .i64 hi) (fun s t => (intOf t - intOf s).toNat)
      case atStart => exact ⟨0, 90000000001, 37, by decide, by decide, by decide, by decide, rfl, rfl, rfl⟩
      case round =>
        obtain ⟨lo, hi, n, h1, h2, h3, h4, HB, rfl, rfl⟩ := hrel
        have HP := hid h4
        clear h4
        by_cases hlt : 1 < hi - lo
        · obtain ⟨n', rfl⟩ : ∃ n', n = n' + 1 := by
            rcases n with _ | n'
            · exfalso; have := HP.out; simp at this; omega
            · exact ⟨n', rfl⟩
          have hp : ∀ a : Int, a * 2 ≤ hi - lo + 1 → a ≤ 2 ^ n' := by
            intro a ha
            have := HP.out
            rw [Int.pow_succ] at this
            generalize (2 : Int) ^ n' = P at this ⊢
            omega
          have HQ := hid hp
          clear hp
          obtain ⟨hs, hc⟩ := sin_num ((lo + hi) / 2) (by omega) (by omega)
          have m1 := fun w => hmul (mul_num hs HNX.out) w
          have m2 := fun w => hmul (mul_num hc HNY.out) w
          have HT3 := hid (HT.out ((lo + hi) / 2) (by omega) (by omega))
          have HT4 := hid (show bis (test (absB y) (absB x)) (n' + 1) lo hi = if test (absB y) (absB x) ((lo + hi) / 2) then bis (test (absB y) (absB x)) n' ((lo + hi) / 2) hi else bis (test (absB y) (absB x)) n' lo ((lo + hi) / 2) by
            show (if 1 < hi - lo then _ else _) = _
            rw [if_pos hlt])
          clear hs hc
          generalize test (absB y) (absB x) ((lo + hi) / 2) = tt at *
          have ht := HT3.out
          unfold cle at ht
          change (FloatKind.f64.format.order _ _ == some Ordering.lt || FloatKind.f64.format.order _ _ == some Ordering.eq) = _ at ht
          cases tt with
          | true =>
            go_wp2_with (go_at_call 53; refine (sinCos_at ((lo + hi) / 2) (by omega) (by omega) _).mono ?_; rintro e w2 ⟨rfl, rfl⟩)
            go_round
            case rel => exact ⟨(lo + hi) / 2, hi, n', by omega, by omega, by omega, HQ.out _ (by omega), by rw [← HB.out, HT4.out]; rfl, rfl, rfl⟩
            case measure => simp [intOf]; omega
          | false =>
            go_wp2_with (go_at_call 53; refine (sinCos_at ((lo + hi) / 2) (by omega) (by omega) _).mono ?_; rintro e w2 ⟨rfl, rfl⟩)
            go_round
            case rel => exact ⟨lo, (lo + hi) / 2, n', by omega, by omega, by omega, HQ.out _ (by omega), by rw [← HB.out, HT4.out]; rfl, rfl, rfl⟩
            case measure => simp [intOf]; omega
        · have HS := hid (bis_stop (test (absB y) (absB x)) n lo hi hlt)
          have HLO : Hid (lo = quarter (absB y) (absB x)) := by rw [HS.out] at HB; exact HB.out
          have hlo : lo ≤ 90000000000 := by omega
          go_wp2_with (go_at_call 51; refine (normOf_any _ _).mono ?_; rintro e w3 ⟨rfl, rfl⟩)
          go_ret2
          exact ⟨by rw [HV.out, ← HLO.out]; rfl, Below.refl _ _⟩
end Go.Proofs.YtkebgnemccaimaaGreatDoor
