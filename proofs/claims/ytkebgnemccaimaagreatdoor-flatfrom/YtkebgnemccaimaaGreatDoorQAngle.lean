/-
  grain.firstQuarter and grain.Angle.
-/
import Derived.Test.YtkebgnemccaimaaGreatDoorQJ2
namespace Go.Proofs.YtkebgnemccaimaaGreatDoor
open Go.RowKit FB

/-- Halving: the last place, from lo on and below hi, at which the test says yes. -/
def bis (f : Int → Bool) : Nat → Int → Int → Int
  | 0, lo, _ => lo
  | n + 1, lo, hi => if 1 < hi - lo then (if f ((lo + hi) / 2) then bis f n ((lo + hi) / 2) hi else bis f n lo ((lo + hi) / 2)) else lo
theorem bis_stop (f : Int → Bool) (n : Nat) (lo hi : Int) (h : ¬ 1 < hi - lo) : bis f n lo hi = lo := by
  cases n with
  | zero => rfl
  | succ n => unfold bis; rw [if_neg h]
theorem bis_bd (f : Int → Bool) : ∀ (n : Nat) (lo hi : Int), lo < hi → lo ≤ bis f n lo hi ∧ bis f n lo hi < hi := by
  intro n
  induction n with
  | zero => intro lo hi h; exact ⟨Int.le_refl _, h⟩
  | succ n ih =>
    intro lo hi h
    unfold bis
    split
    · split
      · have := ih ((lo + hi) / 2) hi (by omega); omega
      · have := ih lo ((lo + hi) / 2) (by omega); omega
    · exact ⟨Int.le_refl _, h⟩

theorem sin_num (n : Int) (h0 : 0 ≤ n) (h1 : n < 360000000000) : Num (sinV n) ∧ Num (cosV n) := by
  have hs := s_le n h0 h1
  have hc : Le 1131 (cOf n) := hor_ang n 0 h0 h1
  have a1 := hs.num (by decide) (by decide)
  have a2 := (neg_le hs).num (by decide) (by decide)
  have a3 := hc.num (by decide) (by decide)
  have a4 := (neg_le hc).num (by decide) (by decide)
  unfold sinV cosV
  constructor <;> (split <;> first | assumption | (split <;> first | assumption | (split <;> assumption)))

theorem sides_at (m : Int) (h0 : 0 ≤ m) (h1 : m < 360000000000) (w : World) : Calls Tryz.prog 99 #[.int .i64 m] w fun e w' => e = .returned (.tuple #[.float .f64 (sinV m), .float .f64 (cosV m)]) ∧ Below w.heap.size w w' := by
  have := sides_any m w
  rw [show nrm m = m by unfold nrm; omega] at this
  exact this
theorem sinCos_at (m : Int) (h0 : 0 ≤ m) (h1 : m < 360000000000) (w : World) : Calls Tryz.prog 53 #[.int .i64 m] w fun e w' => e = .returned (.tuple #[.float .f64 (sinV m), .float .f64 (cosV m)]) ∧ w' = w := by
  have := sinCos_any m w
  rw [show nrm m = m by unfold nrm; omega] at this
  exact this

def test (y x : Nat) (m : Int) : Bool := cle (FM (sinV m) x) (FM (cosV m) y)
/-- The angle of a point of the first quarter. -/
def quarter (y x : Nat) : Int := bis (test y x) 37 0 90000000001

set_option maxHeartbeats 1000000 in
theorem fq_any (y x : Nat) (hy : Num y) (hx : Num x) (w : World) : Calls Tryz.prog 105 #[.float .f64 y, .float .f64 x] w fun e w' => e = .returned (.int .i64 (quarter y x)) ∧ Below w.heap.size w w' := by
  have HY := hid hy
  have HX := hid hx
  clear hy hx
  go_enter Tryz.func105, Tryz.ntmps105
  go_wp2
  go_loopw [5, 6] (fun s t wr => ∃ (lo hi : Int) (n : Nat), 0 ≤ lo ∧ lo < hi ∧ hi ≤ 90000000001 ∧ hi - lo ≤ 2 ^ n ∧ Hid (bis (test y x) n lo hi = quarter y x) ∧ s = .int .i64 lo ∧ t = .int .i64 hi ∧ Below w.heap.size w wr) (fun s t _ => (intOf t - intOf s).toNat)
  case atStart => exact ⟨0, 90000000001, 37, by decide, by decide, by decide, by decide, rfl, rfl, rfl, Below.refl _ _⟩
  case round =>
    obtain ⟨lo, hi, n, h1, h2, h3, h4, HB, rfl, rfl, hb⟩ := hrel
    have HP := hid h4
    clear h4
    by_cases hlt : 1 < hi - lo
    · obtain ⟨n', rfl⟩ : ∃ n', n = n' + 1 := by
        rcases n with _ | n'
        · exfalso; have := HP.out; simp at this; omega
        · exact ⟨n', rfl⟩
      have hp : ∀ a : Int, a * 2 ≤ hi - lo + 1 → a ≤ 2 ^ n' := by
        intro a ha
        have := HP.out
        rw [Int.pow_succ] at this
        generalize (2 : Int) ^ n' = P at this ⊢
        omega
      have HQ := hid hp
      clear hp
      obtain ⟨hs, hc⟩ := sin_num ((lo + hi) / 2) (by omega) (by omega)
      have m1 := fun w => hmul (mul_num hs HX.out) w
      have m2 := fun w => hmul (mul_num hc HY.out) w
      have HT := hid (show bis (test y x) (n' + 1) lo hi = if test y x ((lo + hi) / 2) then bis (test y x) n' ((lo + hi) / 2) hi else bis (test y x) n' lo ((lo + hi) / 2) by
        show (if 1 < hi - lo then _ else _) = _
        rw [if_pos hlt])
      clear hs hc
      cases ht : test y x ((lo + hi) / 2) with
      | true =>
        have ht' : (FloatKind.f64.format.order (FM (sinV ((lo + hi) / 2)) x) (FM (cosV ((lo + hi) / 2)) y) == some Ordering.lt || FloatKind.f64.format.order (FM (sinV ((lo + hi) / 2)) x) (FM (cosV ((lo + hi) / 2)) y) == some Ordering.eq) = true := ht
        have HTT := hid ht
        clear ht
        go_wp2_with (go_at_call 99; refine (sides_at ((lo + hi) / 2) (by omega) (by omega) _).mono ?_; rintro e w2 ⟨rfl, hb2⟩)
        go_roundw
        case rel => exact ⟨(lo + hi) / 2, hi, n', by omega, by omega, by omega, HQ.out _ (by omega), by rw [← HB.out, HT.out, HTT.out]; rfl, rfl, rfl, hb.trans (hb2.mono hb.size)⟩
        case measure => simp [intOf]; omega
      | false =>
        have ht' : (FloatKind.f64.format.order (FM (sinV ((lo + hi) / 2)) x) (FM (cosV ((lo + hi) / 2)) y) == some Ordering.lt || FloatKind.f64.format.order (FM (sinV ((lo + hi) / 2)) x) (FM (cosV ((lo + hi) / 2)) y) == some Ordering.eq) = false := ht
        have HTT := hid ht
        clear ht
        go_wp2_with (go_at_call 99; refine (sides_at ((lo + hi) / 2) (by omega) (by omega) _).mono ?_; rintro e w2 ⟨rfl, hb2⟩)
        go_roundw
        case rel => exact ⟨lo, (lo + hi) / 2, n', by omega, by omega, by omega, HQ.out _ (by omega), by rw [← HB.out, HT.out, HTT.out]; rfl, rfl, rfl, hb.trans (hb2.mono hb.size)⟩
        case measure => simp [intOf]; omega
    · have HS := hid (bis_stop (test y x) n lo hi hlt)
      go_wp2
      go_ret
      exact ⟨by rw [← HB.out, HS.out]; rfl, hb⟩

def isZ (x : Nat) : Bool := FloatKind.f64.format.order x 0 == some Ordering.eq
def isNeg (x : Nat) : Bool := FloatKind.f64.format.order x 0 == some Ordering.lt
/-- The angle of any point. -/
def angV (y x : Nat) : Int × Bool :=
  if (!finV y || !finV x || (isZ y && isZ x)) = true then (0, false)
  else if (isNeg x && isNeg y) = true then (180000000000 + quarter (absB y) (absB x), true)
  else if isNeg x = true then (180000000000 - quarter (absB y) (absB x), true)
  else if isNeg y = true then (nrm (360000000000 - quarter (absB y) (absB x)), true)
  else (quarter (absB y) (absB x), true)
theorem quarter_bd (y x : Nat) : 0 ≤ quarter y x ∧ quarter y x ≤ 90000000000 := by
  have := bis_bd (test y x) 37 0 90000000001 (by decide)
  unfold quarter; omega

theorem angle_no1 (y x : Nat) (hy : y < 18446744073709551616) (h : finV y = false) (w : World) : Calls Tryz.prog 60 #[.float .f64 y, .float .f64 x] w fun e w' => e = .returned (.tuple #[.int .i64 0, .bool false]) ∧ Below w.heap.size w w' := by
  have HC := hid (fun w => finite_any y hy w)
  go_enter Tryz.func60, Tryz.ntmps60
  go_wp2_with (go_at_call_of 104 (Value.float FloatKind.f64 y); refine (HC.out _).mono ?_; rintro e w' ⟨rfl, rfl⟩)
  go_ret2
  exact ⟨rfl, Below.refl _ _⟩
theorem angle_no2 (y x : Nat) (hy : y < 18446744073709551616) (hx : x < 18446744073709551616) (h : finV y = true) (h' : finV x = false) (w : World) : Calls Tryz.prog 60 #[.float .f64 y, .float .f64 x] w fun e w' => e = .returned (.tuple #[.int .i64 0, .bool false]) ∧ Below w.heap.size w w' := by
  have HC := hid (fun w => finite_any y hy w)
  have HD := hid (fun w => finite_any x hx w)
  go_enter Tryz.func60, Tryz.ntmps60
  go_wp2_with fail
  refine (HC.out _).mono ?_
  rintro e w' ⟨rfl, rfl⟩
  go_wp2_with fail
  refine (HD.out _).mono ?_
  rintro e w' ⟨rfl, rfl⟩
  go_wp2
  go_ret2
  exact ⟨rfl, Below.refl _ _⟩
theorem angle_no3 (y x : Nat) (hy : y < 18446744073709551616) (hx : x < 18446744073709551616) (h : finV y = true) (h' : finV x = true) (zy : isZ y = true) (zx : isZ x = true) (w : World) : Calls Tryz.prog 60 #[.float .f64 y, .float .f64 x] w fun e w' => e = .returned (.tuple #[.int .i64 0, .bool false]) ∧ Below w.heap.size w w' := by
  have HC := hid (fun w => finite_any y hy w)
  have HD := hid (fun w => finite_any x hx w)
  unfold isZ at zy zx
  go_enter Tryz.func60, Tryz.ntmps60
  go_wp2_with fail
  refine (HC.out _).mono ?_
  rintro e w' ⟨rfl, rfl⟩
  go_wp2_with fail
  refine (HD.out _).mono ?_
  rintro e w' ⟨rfl, rfl⟩
  go_wp2
  go_ret2
  exact ⟨rfl, Below.refl _ _⟩

set_option maxHeartbeats 1000000 in
theorem angle_yes (y x : Nat) (hy : y < 18446744073709551616) (hx : x < 18446744073709551616) (h : finV y = true) (h' : finV x = true) (hz : (isZ y && isZ x) = false) (w : World) :
    Calls Tryz.prog 60 #[.float .f64 y, .float .f64 x] w fun e w' => e = .returned (.tuple #[.int .i64 (angV y x).1, .bool true]) ∧ Below w.heap.size w w' := by
  have HC := hid (fun w => finite_any y hy w)
  have HD := hid (fun w => finite_any x hx w)
  have HE := hid (fun w => abs_any y hy w)
  have HF := hid (fun w => abs_any x hx w)
  have HQ := hid (fun w => fq_any (absB y) (absB x) (num_abs (finV_num.1 h)) (num_abs (finV_num.1 h')) w)
  have hqb := quarter_bd (absB y) (absB x)
  have HV : Hid (angV y x = if (isNeg x && isNeg y) = true then (180000000000 + quarter (absB y) (absB x), true)
      else if isNeg x = true then (180000000000 - quarter (absB y) (absB x), true)
      else if isNeg y = true then (nrm (360000000000 - quarter (absB y) (absB x)), true)
      else (quarter (absB y) (absB x), true)) := by
    unfold angV Hid; rw [h, h', hz]; rfl
  generalize quarter (absB y) (absB x) = q at *
  have hzz : (isZ y = false) ∨ (isZ y = true ∧ isZ x = false) := by cases h1 : isZ y <;> cases h2 : isZ x <;> simp_all
  clear hz
  cases hny : isNeg y <;> cases hnx : isNeg x
  all_goals
    rw [hny, hnx] at HV
    unfold isNeg at hny hnx
    rcases hzz with hzy | ⟨hzy, hzx⟩
    all_goals
      unfold isZ at hzy
      try unfold isZ at hzx
      go_enter Tryz.func60, Tryz.ntmps60
      go_wp2_with fail
      refine (HC.out _).mono ?_
      rintro e w' ⟨rfl, rfl⟩
      go_wp2_with fail
      refine (HD.out _).mono ?_
      rintro e w' ⟨rfl, rfl⟩
      go_wp2_with fail
      refine (HE.out _).mono ?_
      rintro e w' ⟨rfl, rfl⟩
      go_wp2_with fail
      refine (HF.out _).mono ?_
      rintro e w' ⟨rfl, rfl⟩
      go_wp2_with fail
      refine (HQ.out _).mono ?_
      rintro e w2 ⟨rfl, hb⟩
      go_wp2_with (go_at_call 43; refine (norm_any _ _).mono ?_; rintro e w3 ⟨rfl, rfl⟩)
      go_ret2
      exact ⟨by rw [HV.out]; rfl, hb⟩
end Go.Proofs.YtkebgnemccaimaaGreatDoor
