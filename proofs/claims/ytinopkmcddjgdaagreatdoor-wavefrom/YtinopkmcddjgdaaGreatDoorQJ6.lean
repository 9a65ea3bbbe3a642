/-
  grain.firstQuarter and grain.Angle.; mercatorref1.AngleOf.; The same answer of two chains; the angle of a point, of any point.; The angle between two points on a ball: its words; nothings' signs and the points' order don't matter.
-/
import Derived.Test.YtinopkmcddjgdaaGreatDoorQJ2
import Derived.Test.YtinopkmcddjgdaaGreatDoorQJ1
namespace Go.Proofs.YtinopkmcddjgdaaGreatDoor
open Go.RowKit FB

/-- Halving: the last place, from lo on and below hi, at which the test says yes. -/
def bis (f : Int → Bool) : Nat → Int → Int → Int
  | 0, lo, _ => lo
  | n + 1, lo, hi => if 1 < hi - lo then (if f ((lo + hi) / 2) then bis f n ((lo + hi) / 2) hi else bis f n lo ((lo + hi) / 2)) else lo
theorem bis_stop (f : Int → Bool) (n : Nat) (lo hi : Int) (h : ¬ 1 < hi - lo) : bis f n lo hi = lo := by
  cases n with
  | zero => rfl
  | succ n => unfold bis; rw [if_neg h]
theorem bis_bd (f : Int → Bool) : ∀ (n : Nat) (lo hi : Int), lo < hi → lo ≤ bis f n lo hi ∧ bis f n lo hi < hi := by
  intro n
  induction n with
  | zero => intro lo hi h; exact ⟨Int.le_refl _, h⟩
  | succ n ih =>
    intro lo hi h
    unfold bis
    split
    · split
      · have := ih ((lo + hi) / 2) hi (by omega); omega
      · have := ih lo ((lo + hi) / 2) (by omega); omega
    · exact ⟨Int.le_refl _, h⟩

theorem sin_num (n : Int) (h0 : 0 ≤ n) (h1 : n < 360000000000) : Num (sinV n) ∧ Num (cosV n) := by
  have hs := s_le n h0 h1
  have hc : Le 1131 (cOf n) := hor_ang n 0 h0 h1
  have a1 := hs.num (by decide) (by decide)
  have a2 := (neg_le hs).num (by decide) (by decide)
  have a3 := hc.num (by decide) (by decide)
  have a4 := (neg_le hc).num (by decide) (by decide)
  unfold sinV cosV
  constructor <;> (split <;> first | assumption | (split <;> first | assumption | (split <;> assumption)))

theorem sides_at (m : Int) (h0 : 0 ≤ m) (h1 : m < 360000000000) (w : World) : Calls Tryz.prog 65 #[.int .i64 m] w fun e w' => e = .returned (.tuple #[.float .f64 (sinV m), .float .f64 (cosV m)]) ∧ Below w.heap.size w w' := by
  have := sides_any m w
  rw [show nrm m = m by unfold nrm; omega] at this
  exact this
theorem sinCos_at (m : Int) (h0 : 0 ≤ m) (h1 : m < 360000000000) (w : World) : Calls Tryz.prog 39 #[.int .i64 m] w fun e w' => e = .returned (.tuple #[.float .f64 (sinV m), .float .f64 (cosV m)]) ∧ w' = w := by
  have := sinCos_any m w
  rw [show nrm m = m by unfold nrm; omega] at this
  exact this

def test (y x : Nat) (m : Int) : Bool := cle (FM (sinV m) x) (FM (cosV m) y)
/-- The angle of a point of the first quarter. -/
def quarter (y x : Nat) : Int := bis (test y x) 37 0 90000000001

set_option maxHeartbeats 1000000 in
theorem fq_any (y x : Nat) (hy : Num y) (hx : Num x) (w : World) : Calls Tryz.prog 67 #[.float .f64 y, .float .f64 x] w fun e w' => e = .returned (.int .i64 (quarter y x)) ∧ Below w.heap.size w w' := by
  have HY := hid hy
  have HX := hid hx
  clear hy hx
  go_enter Tryz.func67, Tryz.ntmps67
  go_wp2
  go_loopw [5, 6] (fun s t wr => ∃ (lo hi : Int) (n : Nat), 0 ≤ lo ∧ lo < hi ∧ hi ≤ 90000000001 ∧ hi - lo ≤ 2 ^ n ∧ Hid (bis (test y x) n lo hi = quarter y x) ∧ s = .int .i64 lo ∧ t = .int .i64 hi ∧ Below w.heap.size w wr) (fun s t _ => (intOf t - intOf s).toNat)
  case atStart => exact ⟨0, 90000000001, 37, by decide, by decide, by decide, by decide, rfl, rfl, rfl, Below.refl _ _⟩
  case round =>
    obtain ⟨lo, hi, n, h1, h2, h3, h4, HB, rfl, rfl, hb⟩ := hrel
    have HP := hid h4
    clear h4
    by_cases hlt : 1 < hi - lo
    · obtain ⟨n', rfl⟩ : ∃ n', n = n' + 1 := by
        rcases n with _ | n'
        · exfalso; have := HP.out; simp at this; omega
        · exact ⟨n', rfl⟩
      have hp : ∀ a : Int, a * 2 ≤ hi - lo + 1 → a ≤ 2 ^ n' := by
        intro a ha
        have := HP.out
        rw [Int.pow_succ] at this
        generalize (2 : Int) ^ n' = P at this ⊢
        omega
      have HQ := hid hp
      clear hp
      obtain ⟨hs, hc⟩ := sin_num ((lo + hi) / 2) (by omega) (by omega)
      have m1 := fun w => hmul (mul_num hs HX.out) w
      have m2 := fun w => hmul (mul_num hc HY.out) w
      have HT := hid (show bis (test y x) (n' + 1) lo hi = if test y x ((lo + hi) / 2) then bis (test y x) n' ((lo + hi) / 2) hi else bis (test y x) n' lo ((lo + hi) / 2) by
        show (if 1 < hi - lo then _ else _) = _
        rw [if_pos hlt])
      clear hs hc
      cases ht : test y x ((lo + hi) / 2) with
      | true =>
        have ht' : (FloatKind.f64.format.order (FM (sinV ((lo + hi) / 2)) x) (FM (cosV ((lo + hi) / 2)) y) == some Ordering.lt || FloatKind.f64.format.order (FM (sinV ((lo + hi) / 2)) x) (FM (cosV ((lo + hi) / 2)) y) == some Ordering.eq) = true := ht
        have HTT := hid ht
        clear ht
        go_wp2_with (go_at_call 65; refine (sides_at ((lo + hi) / 2) (by omega) (by omega) _).mono ?_; rintro e w2 ⟨rfl, hb2⟩)
        go_roundw
        case rel => exact ⟨(lo + hi) / 2, hi, n', by omega, by omega, by omega, HQ.out _ (by omega), by rw [← HB.out, HT.out, HTT.out]; rfl, rfl, rfl, hb.trans (hb2.mono hb.size)⟩
        case measure => simp [intOf]; omega
      | false =>
        have ht' : (FloatKind.f64.format.order (FM (sinV ((lo + hi) / 2)) x) (FM (cosV ((lo + hi) / 2)) y) == some Ordering.lt || FloatKind.f64.format.order (FM (sinV ((lo + hi) / 2)) x) (FM (cosV ((lo + hi) / 2)) y) == some Ordering.eq) = false := ht
        have HTT := hid ht
        clear ht
        go_wp2_with (go_at_call 65; refine (sides_at ((lo + hi) / 2) (by omega) (by omega) _).mono ?_; rintro e w2 ⟨rfl, hb2⟩)
        go_roundw
        case rel => exact ⟨lo, (lo + hi) / 2, n', by omega, by omega, by omega, HQ.out _ (by omega), by rw [← HB.out, HT.out, HTT.out]; rfl, rfl, rfl, hb.trans (hb2.mono hb.size)⟩
        case measure => simp [intOf]; omega
    · have HS := hid (bis_stop (test y x) n lo hi hlt)
      go_wp2
      go_ret
      exact ⟨by rw [← HB.out, HS.out]; rfl, hb⟩

def isZ (x : Nat) : Bool := FloatKind.f64.format.order x 0 == some Ordering.eq
def isNeg (x : Nat) : Bool := FloatKind.f64.format.order x 0 == some Ordering.lt
/-- The angle of any point. -/
def angV (y x : Nat) : Int × Bool :=
  if (!finV y || !finV x || (isZ y && isZ x)) = true then (0, false)
  else if (isNeg x && isNeg y) = true then (180000000000 + quarter (absB y) (absB x), true)
  else if isNeg x = true then (180000000000 - quarter (absB y) (absB x), true)
  else if isNeg y = true then (nrm (360000000000 - quarter (absB y) (absB x)), true)
  else (quarter (absB y) (absB x), true)
theorem quarter_bd (y x : Nat) : 0 ≤ quarter y x ∧ quarter y x ≤ 90000000000 := by
  have := bis_bd (test y x) 37 0 90000000001 (by decide)
  unfold quarter; omega

theorem angle_no1 (y x : Nat) (hy : y < 18446744073709551616) (h : finV y = false) (w : World) : Calls Tryz.prog 33 #[.float .f64 y, .float .f64 x] w fun e w' => e = .returned (.tuple #[.int .i64 0, .bool false]) ∧ Below w.heap.size w w' := by
  have HC := hid (fun w => finite_any y hy w)
  go_enter Tryz.func33, Tryz.ntmps33
  go_wp2_with (go_at_call_of 66 (Value.float FloatKind.f64 y); refine (HC.out _).mono ?_; rintro e w' ⟨rfl, rfl⟩)
  go_ret2
  exact ⟨rfl, Below.refl _ _⟩
theorem angle_no2 (y x : Nat) (hy : y < 18446744073709551616) (hx : x < 18446744073709551616) (h : finV y = true) (h' : finV x = false) (w : World) : Calls Tryz.prog 33 #[.float .f64 y, .float .f64 x] w fun e w' => e = .returned (.tuple #[.int .i64 0, .bool false]) ∧ Below w.heap.size w w' := by
  have HC := hid (fun w => finite_any y hy w)
  have HD := hid (fun w => finite_any x hx w)
  go_enter Tryz.func33, Tryz.ntmps33
  go_wp2_with fail
  refine (HC.out _).mono ?_
  rintro e w' ⟨rfl, rfl⟩
  go_wp2_with fail
  refine (HD.out _).mono ?_
  rintro e w' ⟨rfl, rfl⟩
  go_wp2
  go_ret2
  exact ⟨rfl, Below.refl _ _⟩
theorem angle_no3 (y x : Nat) (hy : y < 18446744073709551616) (hx : x < 18446744073709551616) (h : finV y = true) (h' : finV x = true) (zy : isZ y = true) (zx : isZ x = true) (w : World) : Calls Tryz.prog 33 #[.float .f64 y, .float .f64 x] w fun e w' => e = .returned (.tuple #[.int .i64 0, .bool false]) ∧ Below w.heap.size w w' := by
  have HC := hid (fun w => finite_any y hy w)
  have HD := hid (fun w => finite_any x hx w)
  unfold isZ at zy zx
  go_enter Tryz.func33, Tryz.ntmps33
  go_wp2_with fail
  refine (HC.out _).mono ?_
  rintro e w' ⟨rfl, rfl⟩
  go_wp2_with fail
  refine (HD.out _).mono ?_
  rintro e w' ⟨rfl, rfl⟩
  go_wp2
  go_ret2
  exact ⟨rfl, Below.refl _ _⟩

set_option maxHeartbeats 1000000 in
theorem angle_yes (y x : Nat) (hy : y < 18446744073709551616) (hx : x < 18446744073709551616) (h : finV y = true) (h' : finV x = true) (hz : (isZ y && isZ x) = false) (w : World) :
    Calls Tryz.prog 33 #[.float .f64 y, .float .f64 x] w fun e w' => e = .returned (.tuple #[.int .i64 (angV y x).1, .bool true]) ∧ Below w.heap.size w w' := by
  have HC := hid (fun w => finite_any y hy w)
  have HD := hid (fun w => finite_any x hx w)
  have HE := hid (fun w => abs_any y hy w)
  have HF := hid (fun w => abs_any x hx w)
  have HQ := hid (fun w => fq_any (absB y) (absB x) (num_abs (finV_num.1 h)) (num_abs (finV_num.1 h')) w)
  have hqb := quarter_bd (absB y) (absB x)
  have HV : Hid (angV y x = if (isNeg x && isNeg y) = true then (180000000000 + quarter (absB y) (absB x), true)
      else if isNeg x = true then (180000000000 - quarter (absB y) (absB x), true)
      else if isNeg y = true then (nrm (360000000000 - quarter (absB y) (absB x)), true)
      else (quarter (absB y) (absB x), true)) := by
    unfold angV Hid; rw [h, h', hz]; rfl
  generalize quarter (absB y) (absB x) = q at *
  have hzz : (isZ y = false) ∨ (isZ y = true ∧ isZ x = false) := by cases h1 : isZ y <;> cases h2 : isZ x <;> simp_all
  clear hz
  cases hny : isNeg y <;> cases hnx : isNeg x
  all_goals
    rw [hny, hnx] at HV
    unfold isNeg at hny hnx
    rcases hzz with hzy | ⟨hzy, hzx⟩
    all_goals
      unfold isZ at hzy
      try unfold isZ at hzx
      go_enter Tryz.func33, Tryz.ntmps33
      go_wp2_with fail
      refine (HC.out _).mono ?_
      rintro e w' ⟨rfl, rfl⟩
      go_wp2_with fail
      refine (HD.out _).mono ?_
      rintro e w' ⟨rfl, rfl⟩
      go_wp2_with fail
      refine (HE.out _).mono ?_
      rintro e w' ⟨rfl, rfl⟩
      go_wp2_with fail
      refine (HF.out _).mono ?_
      rintro e w' ⟨rfl, rfl⟩
      go_wp2_with fail
      refine (HQ.out _).mono ?_
      rintro e w2 ⟨rfl, hb⟩
      go_wp2_with (go_at_call 53; refine (norm_any _ _).mono ?_; rintro e w3 ⟨rfl, rfl⟩)
      go_ret2
      exact ⟨by rw [HV.out]; rfl, hb⟩
end Go.Proofs.YtinopkmcddjgdaaGreatDoor
namespace Go.Proofs.YtinopkmcddjgdaaGreatDoor
open Go.RowKit FB

theorem drewN_zero (w : World) : w.drewN 0 = w := rfl

theorem angleOf_no (y x : Nat) (h : (!finV x || !finV y || (isZ x && isZ y)) = true) (w : World) : Calls Tryz.prog 77 #[.float .f64 y, .float .f64 x] w fun e w' => e = .returned (.tuple #[.int .i64 0, .bool false]) ∧ Below w.heap.size w w' := by
  have HC := hid (fun w => finiteR_any x w)
  have HD := hid (fun w => finiteR_any y w)
  have hcs : finV x = false ∨ (finV x = true ∧ finV y = false) ∨ (finV x = true ∧ finV y = true ∧ isZ x = true ∧ isZ y = true) := by
    cases h1 : finV x <;> cases h2 : finV y <;> cases h3 : isZ x <;> cases h4 : isZ y <;> simp_all
  clear h
  rcases hcs with h1 | ⟨h1, h2⟩ | ⟨h1, h2, h3, h4⟩
  all_goals
    try unfold isZ at h3 h4
    go_enter Tryz.func77, Tryz.ntmps77
    go_wp2_with fail
    refine (HC.out _).mono ?_
    rintro e w1 ⟨rfl, n1, rfl⟩
    go_wp2_with fail
    refine (HD.out _).mono ?_
    rintro e w2 ⟨rfl, n2, rfl⟩
    go_wp2
    go_ret2
    exact ⟨rfl, ⟨rfl, rfl, rfl, Nat.le_refl _, fun _ _ => rfl⟩⟩

/-- What the walk takes for the size: the word itself, or its opposite where it is below 0. -/
def sizeOfF (x : Nat) : Nat := if isNeg x = true then Op.negFloat .f64 x else x
theorem sizeOfF_abs (x : Nat) (hx : x < 18446744073709551616) (hn : Num x) : (sizeOfF x = absB x ∨ (sizeOfF x = 9223372036854775808 ∧ absB x = 0)) ∧ Num (sizeOfF x) := by
  unfold sizeOfF isNeg
  by_cases h : Ieee.double.order x 0 = some .lt
  · have h1 : (FloatKind.f64.format.order x 0 == some Ordering.lt) = true := by show (Ieee.double.order x 0 == some Ordering.lt) = true; rw [h]; rfl
    rw [if_pos h1]
    have := lt_zero hx hn h
    exact ⟨.inl this, by rw [this]; exact num_abs hn⟩
  · have h1 : ¬ (FloatKind.f64.format.order x 0 == some Ordering.lt) = true := by
      intro hc
      apply h
      show FloatKind.f64.format.order x 0 = some Ordering.lt
      simpa using hc
    rw [if_neg h1]
    rcases ge_zero hx hn h with h2 | ⟨h2, h3⟩
    · exact ⟨.inl h2.symm, hn⟩
    · exact ⟨.inr ⟨h2, h3⟩, hn⟩
theorem test_same (y x : Nat) (hy : y < 18446744073709551616) (hx : x < 18446744073709551616) (ny : Num y) (nx : Num x) (m : Int) (h0 : 0 ≤ m) (h1 : m < 360000000000) : cle (FM (sinV m) (sizeOfF x)) (FM (cosV m) (sizeOfF y)) = test (absB y) (absB x) m := by
  obtain ⟨hs, hc⟩ := sin_num m h0 h1
  exact cle_congr (FM_sameZ hs (sizeOfF_abs x hx nx).1) (FM_sameZ hc (sizeOfF_abs y hy ny).1)

set_option maxHeartbeats 2000000 in
theorem angleOf_yes (y x : Nat) (hy : y < 18446744073709551616) (hx : x < 18446744073709551616) (h : finV y = true) (h' : finV x = true) (hz : (isZ y && isZ x) = false) (w : World) :
    Calls Tryz.prog 77 #[.float .f64 y, .float .f64 x] w fun e w' => e = .returned (.tuple #[.int .i64 (angV y x).1, .bool true]) ∧ Below w.heap.size w w' := by
  have ny := finV_num.1 h
  have nx := finV_num.1 h'
  have HC := hid (fun w => finiteR_num x nx w)
  have HD := hid (fun w => finiteR_num y ny w)
  have HV : Hid (angV y x = if (isNeg x && isNeg y) = true then (180000000000 + quarter (absB y) (absB x), true)
      else if isNeg x = true then (180000000000 - quarter (absB y) (absB x), true)
      else if isNeg y = true then (nrm (360000000000 - quarter (absB y) (absB x)), true)
      else (quarter (absB y) (absB x), true)) := by
    unfold angV Hid; rw [h, h', hz]; rfl
  have hqb := quarter_bd (absB y) (absB x)
  have HT := hid (fun m h0 h1 => test_same y x hy hx ny nx m h0 h1)
  have HNX := hid (sizeOfF_abs x hx nx).2
  have HNY := hid (sizeOfF_abs y hy ny).2
  have hzz : (isZ x = false) ∨ (isZ x = true ∧ isZ y = false) := by cases h1 : isZ y <;> cases h2 : isZ x <;> simp_all
  have HU := hid (show sizeOfF x = if isNeg x = true then Op.negFloat .f64 x else x from rfl)
  have HW := hid (show sizeOfF y = if isNeg y = true then Op.negFloat .f64 y else y from rfl)
  have hN := hneg
  clear hz h h' nx ny hx hy
  cases hny : isNeg y <;> cases hnx : isNeg x
  all_goals
    rw [hny, hnx] at HV
    rw [hnx] at HU
    rw [hny] at HW
    first | rw [show sizeOfF x = Op.negFloat .f64 x from HU.out] at HT HNX | rw [show sizeOfF x = x from HU.out] at HT HNX
    first | rw [show sizeOfF y = Op.negFloat .f64 y from HW.out] at HT HNY | rw [show sizeOfF y = y from HW.out] at HT HNY
    clear HU HW
    unfold isNeg at hny hnx
    rcases hzz with hzx | ⟨hzx, hzy⟩
    all_goals
      unfold isZ at hzx
      try unfold isZ at hzy
      go_enter Tryz.func77, Tryz.ntmps77
      go_wp2_with fail
      refine (HC.out _).mono ?_
      rintro e w' ⟨rfl, rfl⟩
      go_wp2_with fail
      refine (HD.out _).mono ?_
      rintro e w' ⟨rfl, rfl⟩
      go_wp2
      go_loop [10, 11] (fun s t => ∃ (lo hi : Int) (n : Nat), 0 ≤ lo ∧ lo < hi ∧ hi ≤ 90000000001 ∧ hi - lo ≤ 2 ^ n ∧ Hid (bis (test (absB y) (absB x)) n lo hi = quarter (absB y) (absB x)) ∧ s = .int .i64 lo ∧ t = .int .i64 hi) (fun s t => (intOf t - intOf s).toNat)
      case atStart => exact ⟨0, 90000000001, 37, by decide, by decide, by decide, by decide, rfl, rfl, rfl⟩
      case round =>
        obtain ⟨lo, hi, n, h1, h2, h3, h4, HB, rfl, rfl⟩ := hrel
        have HP := hid h4
        clear h4
        by_cases hlt : 1 < hi - lo
        · obtain ⟨n', rfl⟩ : ∃ n', n = n' + 1 := by
            rcases n with _ | n'
            · exfalso; have := HP.out; simp at this; omega
            · exact ⟨n', rfl⟩
          have hp : ∀ a : Int, a * 2 ≤ hi - lo + 1 → a ≤ 2 ^ n' := by
            intro a ha
            have := HP.out
            rw [Int.pow_succ] at this
            generalize (2 : Int) ^ n' = P at this ⊢
            omega
          have HQ := hid hp
          clear hp
          obtain ⟨hs, hc⟩ := sin_num ((lo + hi) / 2) (by omega) (by omega)
          have m1 := fun w => hmul (mul_num hs HNX.out) w
          have m2 := fun w => hmul (mul_num hc HNY.out) w
          have HT3 := hid (HT.out ((lo + hi) / 2) (by omega) (by omega))
          have HT4 := hid (show bis (test (absB y) (absB x)) (n' + 1) lo hi = if test (absB y) (absB x) ((lo + hi) / 2) then bis (test (absB y) (absB x)) n' ((lo + hi) / 2) hi else bis (test (absB y) (absB x)) n' lo ((lo + hi) / 2) by
            show (if 1 < hi - lo then _ else _) = _
            rw [if_pos hlt])
          clear hs hc
          generalize test (absB y) (absB x) ((lo + hi) / 2) = tt at *
          have ht := HT3.out
          unfold cle at ht
          change (FloatKind.f64.format.order _ _ == some Ordering.lt || FloatKind.f64.format.order _ _ == some Ordering.eq) = _ at ht
          cases tt with
          | true =>
            go_wp2_with (go_at_call 39; refine (sinCos_at ((lo + hi) / 2) (by omega) (by omega) _).mono ?_; rintro e w2 ⟨rfl, rfl⟩)
            go_round
            case rel => exact ⟨(lo + hi) / 2, hi, n', by omega, by omega, by omega, HQ.out _ (by omega), by rw [← HB.out, HT4.out]; rfl, rfl, rfl⟩
            case measure => simp [intOf]; omega
          | false =>
            go_wp2_with (go_at_call 39; refine (sinCos_at ((lo + hi) / 2) (by omega) (by omega) _).mono ?_; rintro e w2 ⟨rfl, rfl⟩)
            go_round
            case rel => exact ⟨lo, (lo + hi) / 2, n', by omega, by omega, by omega, HQ.out _ (by omega), by rw [← HB.out, HT4.out]; rfl, rfl, rfl⟩
            case measure => simp [intOf]; omega
        · have HS := hid (bis_stop (test (absB y) (absB x)) n lo hi hlt)
          have HLO : Hid (lo = quarter (absB y) (absB x)) := by rw [HS.out] at HB; exact HB.out
          have hlo : lo ≤ 90000000000 := by omega
          go_wp2_with (go_at_call 35; refine (normOf_any _ _).mono ?_; rintro e w3 ⟨rfl, rfl⟩)
          go_ret2
          exact ⟨by rw [HV.out, ← HLO.out]; rfl, Below.refl _ _⟩
end Go.Proofs.YtinopkmcddjgdaaGreatDoor
namespace Go.Proofs.YtinopkmcddjgdaaGreatDoor
open Go.RowKit FB
attribute [local go_sem] run_store_float

theorem same_got {o : Option Nat} {r s : Nat} (hr : Got o r) (hs : Got o s) (w : World) : Calls Tryz.prog 16 #[.float .f64 r, .float .f64 s] w fun e w' => e = .returned (.bool true) ∧ w' = w := by
  cases o with
  | none => exact same_nan r s hr hs w
  | some q =>
    obtain rfl : r = q := hr
    obtain rfl : s = r := hs
    cases h : Ieee.double.read s with
    | number t m e => exact same_num s s ⟨t, m, e, h⟩ (order_self ⟨t, m, e, h⟩) w
    | infinity t => exact same_inf s t h w
    | nan t f => exact same_nan s s ⟨t, f, h⟩ ⟨t, f, h⟩ w

theorem angle_any (y x : Nat) (hy : y < 18446744073709551616) (hx : x < 18446744073709551616) (w : World) : Calls Tryz.prog 33 #[.float .f64 y, .float .f64 x] w fun e w' => e = .returned (.tuple #[.int .i64 (angV y x).1, .bool (angV y x).2]) ∧ Below w.heap.size w w' := by
  cases h1 : finV y with
  | false =>
    have : angV y x = (0, false) := by unfold angV; rw [h1]; rfl
    rw [this]; exact angle_no1 y x hy h1 w
  | true =>
    cases h2 : finV x with
    | false =>
      have : angV y x = (0, false) := by unfold angV; rw [h1, h2]; rfl
      rw [this]; exact angle_no2 y x hy hx h1 h2 w
    | true =>
      cases h3 : (isZ y && isZ x) with
      | true =>
        have : angV y x = (0, false) := by unfold angV; rw [h1, h2, h3]; rfl
        rw [this]
        rw [Bool.and_eq_true] at h3
        exact angle_no3 y x hy hx h1 h2 h3.1 h3.2 w
      | false =>
        have : (angV y x).2 = true := by
          unfold angV; rw [h1, h2, h3]
          simp only [Bool.not_true, Bool.or_self, Bool.false_eq_true, if_false]
          split <;> first | rfl | (split <;> first | rfl | (split <;> rfl))
        rw [this]; exact angle_yes y x hy hx h1 h2 h3 w
theorem angleOf_any (y x : Nat) (hy : y < 18446744073709551616) (hx : x < 18446744073709551616) (w : World) : Calls Tryz.prog 77 #[.float .f64 y, .float .f64 x] w fun e w' => e = .returned (.tuple #[.int .i64 (angV y x).1, .bool (angV y x).2]) ∧ Below w.heap.size w w' := by
  cases h : (!finV y || !finV x || (isZ y && isZ x)) with
  | true =>
    have : angV y x = (0, false) := by unfold angV; rw [h]; rfl
    rw [this]
    exact angleOf_no y x (by rw [← h]; cases finV x <;> cases finV y <;> cases isZ x <;> cases isZ y <;> rfl) w
  | false =>
    have h' := h
    simp only [Bool.or_eq_false_iff, Bool.not_eq_false'] at h'
    have : (angV y x).2 = true := by
      unfold angV; rw [h]
      simp only [Bool.false_eq_true, if_false]
      split <;> first | rfl | (split <;> first | rfl | (split <;> rfl))
    rw [this]; exact angleOf_yes y x hy hx h'.1.1 h'.1.2 h'.2 w
end Go.Proofs.YtinopkmcddjgdaaGreatDoor
namespace Go.Proofs.YtinopkmcddjgdaaGreatDoor
open Go.RowKit FB

theorem sin_le (n : Int) (h0 : 0 ≤ n) (h1 : n < 360000000000) : Le 1136 (sinV n) ∧ Le 1136 (cosV n) := by
  have hs := s_le n h0 h1
  have hc : Le 1136 (cOf n) := (hor_ang n 0 h0 h1).mono (by decide)
  unfold sinV cosV
  refine ⟨?_, ?_⟩ <;> (repeat' split) <;> first | exact hs | exact hc | exact neg_le hs | exact neg_le hc
theorem uz_of {k x : Nat} (h : Le k x) (hk : k ≤ 2046) : SameZ (uz x) x ∧ Le k (uz x) := by
  unfold uz
  split
  · rename_i he
    refine ⟨.inr ⟨.inl rfl, ?_⟩, ⟨by decide, Nat.zero_le _⟩⟩
    have hn : NN x := ⟨h.1, Nat.le_trans h.2 (by omega)⟩
    have e := order_key hn (⟨by decide, by decide⟩ : NN 0)
    rw [he] at e
    have e2 : compare (key x) (key 0) = .eq := (Option.some.inj e).symm
    rw [Int.compare_eq_eq] at e2
    have k0 : key 0 = 0 := rfl
    rw [k0] at e2
    have := hn.1
    unfold key at e2
    split at e2 <;> omega
  · exact ⟨.inl rfl, h⟩
theorem angV_zz {y y' x x' : Nat} (h : SameZ y y') (k : SameZ x x') : angV y x = angV y' x' := by
  have f0 : ∀ u, Nz u → finV u = true ∧ isZ u = true ∧ isNeg u = false ∧ absB u = 0 := by
    intro u hu
    rcases hu with rfl | rfl
    · exact ⟨by decide +kernel, by decide +kernel, by decide +kernel, by decide +kernel⟩
    · exact ⟨by decide +kernel, by decide +kernel, by decide +kernel, by decide +kernel⟩
  have hy : finV y = finV y' ∧ isZ y = isZ y' ∧ isNeg y = isNeg y' ∧ absB y = absB y' := by
    rcases h with rfl | ⟨h1, h2⟩
    · exact ⟨rfl, rfl, rfl, rfl⟩
    · obtain ⟨a1, a2, a3, a4⟩ := f0 y h1
      obtain ⟨b1, b2, b3, b4⟩ := f0 y' h2
      rw [a1, a2, a3, a4, b1, b2, b3, b4]; exact ⟨rfl, rfl, rfl, rfl⟩
  have hx : finV x = finV x' ∧ isZ x = isZ x' ∧ isNeg x = isNeg x' ∧ absB x = absB x' := by
    rcases k with rfl | ⟨h1, h2⟩
    · exact ⟨rfl, rfl, rfl, rfl⟩
    · obtain ⟨a1, a2, a3, a4⟩ := f0 x h1
      obtain ⟨b1, b2, b3, b4⟩ := f0 x' h2
      rw [a1, a2, a3, a4, b1, b2, b3, b4]; exact ⟨rfl, rfl, rfl, rfl⟩
  unfold angV
  rw [hy.1, hy.2.1, hy.2.2.1, hy.2.2.2, hx.1, hx.2.1, hx.2.2.1, hx.2.2.2]

/-- A point's words, in size. -/
structure P3 (x y z : Nat) : Prop where
  x : Le 1251 x
  y : Le 1251 y
  z : Le 1251 z
/-- One coordinate of the vector that is upright on two others; the length of all three; the product. -/
def gC (a b c d : Nat) : Nat := FS (FM a b) (FM c d)
def gS (x1 y1 z1 x2 y2 z2 : Nat) : Nat := FA (FA (FM (gC y1 z2 z1 y2) (gC y1 z2 z1 y2)) (FM (gC z1 x2 x1 z2) (gC z1 x2 x1 z2))) (FM (gC x1 y2 y1 x2) (gC x1 y2 y1 x2))
def gL (x1 y1 z1 x2 y2 z2 : Nat) : Nat := (fsq (gS x1 y1 z1 x2 y2 z2)).getD 0
def gD (x1 y1 z1 x2 y2 z2 : Nat) : Nat := FA (FA (FM x1 x2) (FM y1 y2)) (FM z1 z2)
/-- The angle between them. -/
def gW (x1 y1 z1 x2 y2 z2 : Nat) : Int := (angV (gL x1 y1 z1 x2 y2 z2) (gD x1 y1 z1 x2 y2 z2)).1

theorem m_le' {a b : Nat} (ha : Le 1251 a) (hb : Le 1251 b) : Le 1481 (FM a b) := FM_le ha hb (by decide) (by decide) (by decide) (by decide) _ (by decide) (by decide) (by decide)
theorem c_le' {a b c d : Nat} (ha : Le 1251 a) (hb : Le 1251 b) (hc : Le 1251 c) (hd : Le 1251 d) : Le 1483 (gC a b c d) := FS_le (m_le' ha hb) (m_le' hc hd) (by decide) (by decide)
theorem q_le' {a : Nat} (ha : Le 1483 a) : Le 1945 (FM a a) := FM_le ha ha (by decide) (by decide) (by decide) (by decide) _ (by decide) (by decide) (by decide)
theorem FM_self_nn {x : Nat} (h : Num x) : 0 ≤ key (FM x x) := by
  obtain ⟨s, m, i, rx⟩ := h
  have e1 : FM x x = Ieee.double.nearest (s ^^ s) (m * m) (i + i) := by unfold FM Ieee.Format.mul; rw [rx]; rfl
  rw [e1, Bool.xor_self]; exact nearest_pos _ _
theorem key_pos_sign {x : Nat} {s : Bool} {m : Nat} {e : Int} (_hx : x < 18446744073709551616) (h : Ieee.double.read x = .number s m e) (hk : 0 ≤ key x) : s = false ∨ m = 0 := by
  obtain ⟨_, _, _, _, hs⟩ := num_bd h
  by_cases c : x < 9223372036854775808
  · left; rw [hs, Nat.div_eq_of_lt c]; rfl
  · right
    unfold key at hk
    rw [if_neg c] at hk
    rw [read_eq, if_pos (by omega)] at h
    injection h with _ h2 _
    omega
theorem FA_key_nn {x y : Nat} (lx : x < 18446744073709551616) (ly : y < 18446744073709551616) (hx : Num x) (hy : Num y) (kx : 0 ≤ key x) (ky : 0 ≤ key y) : 0 ≤ key (FA x y) := by
  obtain ⟨s, m, i, rx⟩ := hx
  obtain ⟨t, n, j, ry⟩ := hy
  have hT : 0 ≤ Ieee.signed s m (i - min i j).toNat + Ieee.signed t n (j - min i j).toNat := by
    have h1 : 0 ≤ Ieee.signed s m (i - min i j).toNat := by
      rcases key_pos_sign lx rx kx with rfl | rfl
      · rw [signed_false]; omega
      · rw [signed_zero]; omega
    have h2 : 0 ≤ Ieee.signed t n (j - min i j).toNat := by
      rcases key_pos_sign ly ry ky with rfl | rfl
      · rw [signed_false]; omega
      · rw [signed_zero]; omega
    omega
  rw [FA_near rx ry]
  unfold near3
  generalize Ieee.signed s m (i - min i j).toNat + Ieee.signed t n (j - min i j).toNat = T at hT
  by_cases c : T = 0
  · subst c
    rcases near_nz (if (0 : Int) = 0 then s && t else decide ((0 : Int) < 0)) (min i j) with h | h
    · show 0 ≤ key (Ieee.double.nearest _ 0 _); rw [h]; decide
    · show 0 ≤ key (Ieee.double.nearest _ 0 _); rw [h]; decide
  · rw [if_neg c, decide_eq_false (by omega)]; exact nearest_pos _ _

theorem gs_le {x1 y1 z1 x2 y2 z2 : Nat} (p : P3 x1 y1 z1) (q : P3 x2 y2 z2) : Le 1949 (gS x1 y1 z1 x2 y2 z2) ∧ Le 1947 (FA (FM (gC y1 z2 z1 y2) (gC y1 z2 z1 y2)) (FM (gC z1 x2 x1 z2) (gC z1 x2 x1 z2))) ∧ 0 ≤ key (gS x1 y1 z1 x2 y2 z2) := by
  have a1 := q_le' (c_le' p.y q.z p.z q.y)
  have a2 := q_le' (c_le' p.z q.x p.x q.z)
  have a3 := q_le' (c_le' p.x q.y p.y q.x)
  have a4 := FA_le a1 a2 (by decide) (by decide)
  have k1 := FM_self_nn ((c_le' p.y q.z p.z q.y).num (by decide) (by decide))
  have k2 := FM_self_nn ((c_le' p.z q.x p.x q.z).num (by decide) (by decide))
  have k3 := FM_self_nn ((c_le' p.x q.y p.y q.x).num (by decide) (by decide))
  have k4 := FA_key_nn a1.1 a2.1 (a1.num (by decide) (by decide)) (a2.num (by decide) (by decide)) k1 k2
  exact ⟨FA_le a4 (a3.mono (by decide)) (by decide) (by decide), a4, FA_key_nn a4.1 a3.1 (a4.num (by decide) (by decide)) (a3.num (by decide) (by decide)) k4 k3⟩
theorem gl_eq {x1 y1 z1 x2 y2 z2 : Nat} (p : P3 x1 y1 z1) (q : P3 x2 y2 z2) : fsq (gS x1 y1 z1 x2 y2 z2) = some (gL x1 y1 z1 x2 y2 z2) ∧ gL x1 y1 z1 x2 y2 z2 < 18446744073709551616 := by
  obtain ⟨h1, _, h3⟩ := gs_le p q
  obtain ⟨r, hr, hn, _⟩ := sqrt_nn (h1.num (by decide) (by decide)) h3 h1.1
  have : fsq (gS x1 y1 z1 x2 y2 z2) = some r := hr
  unfold gL
  rw [this]
  exact ⟨rfl, hn.1⟩
theorem glen_eq {x1 y1 z1 x2 y2 z2 : Nat} (p : P3 x1 y1 z1) (q : P3 x2 y2 z2) : lenO (gC y1 z2 z1 y2) (gC z1 x2 x1 z2) (gC x1 y2 y1 x2) = some (gL x1 y1 z1 x2 y2 z2) := by
  have b1 := c_le' p.y q.z p.z q.y
  have b2 := c_le' p.z q.x p.x q.z
  have b3 := c_le' p.x q.y p.y q.x
  have n1 := b1.num (by decide) (by decide)
  have n2 := b2.num (by decide) (by decide)
  have n3 := b3.num (by decide) (by decide)
  have m1 := (q_le' b1).num (by decide) (by decide)
  have m2 := (q_le' b2).num (by decide) (by decide)
  have m3 := (q_le' b3).num (by decide) (by decide)
  have m4 := (gs_le p q).2.1.num (by decide) (by decide)
  unfold lenO
  rw [mul_num n1 n1, mul_num n2 n2, mul_num n3 n3]
  simp only [Option.bind_some]
  rw [add_num m1 m2]
  simp only [Option.bind_some]
  rw [add_num m4 m3]
  exact (gl_eq p q).1
theorem gd_le {x1 y1 z1 x2 y2 z2 : Nat} (p : P3 x1 y1 z1) (q : P3 x2 y2 z2) : Le 1485 (gD x1 y1 z1 x2 y2 z2) ∧ Le 1483 (FA (FM x1 x2) (FM y1 y2)) := by
  have a := FA_le (m_le' p.x q.x) (m_le' p.y q.y) (by decide) (by decide)
  exact ⟨FA_le a ((m_le' p.z q.z).mono (by decide)) (by decide) (by decide), a⟩
/-- Nothings' signs don't matter. -/
theorem gW_zz {x1 y1 z1 x2 y2 z2 a1 b1 c1 a2 b2 c2 : Nat} (p : P3 x1 y1 z1) (q : P3 x2 y2 z2) (hx1 : SameZ x1 a1) (hy1 : SameZ y1 b1) (hz1 : SameZ z1 c1) (hx2 : SameZ x2 a2) (hy2 : SameZ y2 b2) (hz2 : SameZ z2 c2) : gW x1 y1 z1 x2 y2 z2 = gW a1 b1 c1 a2 b2 c2 := by
  have N : ∀ {x}, Le 1251 x → Num x := fun h => h.num (by decide) (by decide)
  have M : ∀ {a b : Nat}, Le 1251 a → Le 1251 b → Num (FM a b) := fun h k => (m_le' h k).num (by decide) (by decide)
  have C : ∀ {a b c d a' b' c' d' : Nat}, Le 1251 a → Le 1251 b → Le 1251 c → Le 1251 d → SameZ a a' → SameZ b b' → SameZ c c' → SameZ d d' → SameZ (gC a b c d) (gC a' b' c' d') :=
    fun ha hb hc hd sa sb sc sd => FS_zz (M ha hb) (M hc hd) (FM_zz (N ha) (N hb) sa sb) (FM_zz (N hc) (N hd) sc sd)
  have s1 := C p.y q.z p.z q.y hy1 hz2 hz1 hy2
  have s2 := C p.z q.x p.x q.z hz1 hx2 hx1 hz2
  have s3 := C p.x q.y p.y q.x hx1 hy2 hy1 hx2
  have k1 := c_le' p.y q.z p.z q.y
  have k2 := c_le' p.z q.x p.x q.z
  have k3 := c_le' p.x q.y p.y q.x
  have n1 := k1.num (by decide) (by decide)
  have n2 := k2.num (by decide) (by decide)
  have n3 := k3.num (by decide) (by decide)
  have m1 := (q_le' k1).num (by decide) (by decide)
  have m2 := (q_le' k2).num (by decide) (by decide)
  have m3 := (q_le' k3).num (by decide) (by decide)
  have m4 := (gs_le p q).2.1.num (by decide) (by decide)
  have hS : SameZ (gS x1 y1 z1 x2 y2 z2) (gS a1 b1 c1 a2 b2 c2) :=
    FA_zz m4 m3 (FA_zz m1 m2 (FM_zz n1 n1 s1 s1) (FM_zz n2 n2 s2 s2)) (FM_zz n3 n3 s3 s3)
  have hL : SameZ (gL x1 y1 z1 x2 y2 z2) (gL a1 b1 c1 a2 b2 c2) := by
    obtain ⟨r', hr', hz⟩ := sqrt_zz hS (gl_eq p q).1
    have : gL a1 b1 c1 a2 b2 c2 = r' := by unfold gL; rw [show fsq (gS a1 b1 c1 a2 b2 c2) = some r' from hr']; rfl
    rw [this]; exact hz
  have hD : SameZ (gD x1 y1 z1 x2 y2 z2) (gD a1 b1 c1 a2 b2 c2) :=
    FA_zz ((gd_le p q).2.num (by decide) (by decide)) (M p.z q.z) (FA_zz (M p.x q.x) (M p.y q.y) (FM_zz (N p.x) (N q.x) hx1 hx2) (FM_zz (N p.y) (N q.y) hy1 hy2)) (FM_zz (N p.z) (N q.z) hz1 hz2)
  unfold gW
  rw [angV_zz hL hD]
/-- Nor does the order of the two. -/
theorem gW_swap {x1 y1 z1 x2 y2 z2 : Nat} (p : P3 x1 y1 z1) (q : P3 x2 y2 z2) : gW x1 y1 z1 x2 y2 z2 = gW x2 y2 z2 x1 y1 z1 := by
  have N : ∀ {x}, Le 1251 x → Num x := fun h => h.num (by decide) (by decide)
  have M : ∀ {a b : Nat}, Le 1251 a → Le 1251 b → Num (FM a b) := fun h k => (m_le' h k).num (by decide) (by decide)
  have K : ∀ {a b c d : Nat}, Le 1251 a → Le 1251 b → Le 1251 c → Le 1251 d → FM (gC a b c d) (gC a b c d) = FM (gC d c b a) (gC d c b a) := by
    intro a b c d ha hb hc hd
    refine FM_sq ((c_le' ha hb hc hd).num (by decide) (by decide)) ?_
    unfold gC
    rw [FM_comm (N hd) (N hc), FM_comm (N hb) (N ha)]
    exact FS_swap (M ha hb) (M hc hd)
  have hS : gS x1 y1 z1 x2 y2 z2 = gS x2 y2 z2 x1 y1 z1 := by
    unfold gS
    rw [K p.y q.z p.z q.y, K p.z q.x p.x q.z, K p.x q.y p.y q.x]
  have hD : gD x1 y1 z1 x2 y2 z2 = gD x2 y2 z2 x1 y1 z1 := by
    unfold gD
    rw [FM_comm (N p.x) (N q.x), FM_comm (N p.y) (N q.y), FM_comm (N p.z) (N q.z)]
  unfold gW gL
  rw [hS, hD]

/-- A place's point: as the program has it, and as the document's answer has it. -/
def ptX (lon lat : Int) : Nat := FM (uz (cosV (nrm lat))) (uz (cosV (nrm lon)))
def ptY (lon lat : Int) : Nat := FM (uz (cosV (nrm lat))) (uz (sinV (nrm lon)))
def ptZ (lat : Int) : Nat := uz (sinV (nrm lat))
def prX (lon lat : Int) : Nat := FM (cosV (nrm lat)) (cosV (nrm lon))
def prY (lon lat : Int) : Nat := FM (cosV (nrm lat)) (sinV (nrm lon))
def prZ (lat : Int) : Nat := sinV (nrm lat)
theorem pt_eqs (lon lat : Int) : Ieee.double.mul (uz (cosV (nrm lat))) (uz (cosV (nrm lon))) = some (ptX lon lat) ∧ Ieee.double.mul (uz (cosV (nrm lat))) (uz (sinV (nrm lon))) = some (ptY lon lat) ∧ Ieee.double.mul (cosV (nrm lat)) (cosV (nrm lon)) = some (prX lon lat) ∧ Ieee.double.mul (cosV (nrm lat)) (sinV (nrm lon)) = some (prY lon lat) ∧
    P3 (ptX lon lat) (ptY lon lat) (ptZ lat) ∧ P3 (prX lon lat) (prY lon lat) (prZ lat) ∧ SameZ (ptX lon lat) (prX lon lat) ∧ SameZ (ptY lon lat) (prY lon lat) ∧ SameZ (ptZ lat) (prZ lat) := by
  obtain ⟨l0, l1⟩ := nrm_lt lat
  obtain ⟨m0, m1⟩ := nrm_lt lon
  obtain ⟨s1, c1⟩ := sin_le _ l0 l1
  obtain ⟨s2, c2⟩ := sin_le _ m0 m1
  obtain ⟨zs1, us1⟩ := uz_of s1 (by decide)
  obtain ⟨zc1, uc1⟩ := uz_of c1 (by decide)
  obtain ⟨zs2, us2⟩ := uz_of s2 (by decide)
  obtain ⟨zc2, uc2⟩ := uz_of c2 (by decide)
  have N : ∀ {x}, Le 1136 x → Num x := fun h => h.num (by decide) (by decide)
  have L : ∀ {a b : Nat}, Le 1136 a → Le 1136 b → Le 1251 (FM a b) := fun ha hb => FM_le ha hb (by decide) (by decide) (by decide) (by decide) _ (by decide) (by decide) (by decide)
  exact ⟨mul_num (N uc1) (N uc2), mul_num (N uc1) (N us2), mul_num (N c1) (N c2), mul_num (N c1) (N s2), ⟨L uc1 uc2, L uc1 us2, us1.mono (by decide)⟩, ⟨L c1 c2, L c1 s2, s1.mono (by decide)⟩, FM_zz (N uc1) (N uc2) zc1 zc2, FM_zz (N uc1) (N us2) zc1 zs2, zs1⟩
end Go.Proofs.YtinopkmcddjgdaaGreatDoor
