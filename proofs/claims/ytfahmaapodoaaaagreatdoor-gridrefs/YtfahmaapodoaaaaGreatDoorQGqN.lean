/-
  Digits of a number, so many; squares' letters.
-/
import Derived.Lib.ItoaNum
import Derived.Lib.Repeat
namespace Go.Proofs.YtfahmaapodoaaaaGreatDoor
namespace GQ
def dgs : Nat → Nat → List UInt8
  | _, 0 => []
  | n, k + 1 => dgs (n / 10) k ++ [UInt8.ofNat (48 + n % 10)]
theorem dgs_length : ∀ (k n : Nat), (dgs n k).length = k
  | 0, _ => rfl
  | k + 1, n => by simp [dgs, dgs_length k]
theorem dgs_front : ∀ (k n : Nat), dgs n (k + 1) = UInt8.ofNat (48 + n / 10 ^ k % 10) :: dgs n k
  | 0, n => by simp [dgs]
  | k + 1, n => by
    rw [dgs, dgs_front k (n / 10), Nat.div_div_eq_div_mul, ← Nat.pow_succ', List.cons_append]
    rfl
theorem dgs_take : ∀ (b a n : Nat), (dgs n (a + b)).take a = dgs (n / 10 ^ b) a
  | 0, a, n => by
    have h := dgs_length a n
    simp only [Nat.add_zero, Nat.pow_zero, Nat.div_one]
    exact List.take_of_length_le (by omega)
  | b + 1, a, n => by
    rw [← Nat.add_assoc, dgs, List.take_append_of_le_length (by rw [dgs_length]; omega), dgs_take b a (n / 10), Nat.div_div_eq_div_mul, ← Nat.pow_succ']
theorem dgs_zero : ∀ (k : Nat), dgs 0 k = Lib.repeatL [48] k
  | 0 => rfl
  | k + 1 => by
    have e : Lib.repeatL [48] (k + 1) = Lib.repeatL [48] k ++ [48] := by rw [Lib.repeatL_add, Lib.repeatL_one]
    rw [dgs, e, Nat.zero_div, dgs_zero k]
    rfl
theorem ndig_one {n : Nat} (h : n < 10) : (Lib.decDigits n).length = 1 := by rw [Lib.decDigits_one h]; rfl
theorem ndig_pos (n : Nat) : 1 ≤ (Lib.decDigits n).length := by
  by_cases h : n < 10
  · rw [ndig_one h]; omega
  · rw [Lib.decDigits, dif_neg h]; simp
theorem padded_digits : ∀ (k n : Nat), (Lib.decDigits n).length ≤ k → Lib.repeatL [48] (k - (Lib.decDigits n).length) ++ Lib.decDigits n = dgs n k
  | 0, n, h => by have := ndig_pos n; omega
  | k + 1, n, h => by
    by_cases h10 : n < 10
    · rw [ndig_one h10, Lib.decDigits_one h10, dgs, Nat.add_sub_cancel, Nat.div_eq_of_lt h10, dgs_zero, Nat.mod_eq_of_lt h10]
    · have e : Lib.decDigits n = Lib.decDigits (n / 10) ++ [UInt8.ofNat (48 + n % 10)] := by rw [Lib.decDigits, dif_neg h10]
      have el : (Lib.decDigits n).length = (Lib.decDigits (n / 10)).length + 1 := by rw [e]; simp
      rw [el, Nat.add_sub_add_right, e, ← List.append_assoc, padded_digits k (n / 10) (by omega), dgs]
theorem ndig_le : ∀ (k n : Nat), n < 10 ^ (k + 1) → (Lib.decDigits n).length ≤ k + 1
  | 0, n, h => by rw [ndig_one (by simpa using h)]; omega
  | k + 1, n, h => by
    by_cases h10 : n < 10
    · rw [ndig_one h10]; omega
    · have e : Lib.decDigits n = Lib.decDigits (n / 10) ++ [UInt8.ofNat (48 + n % 10)] := by rw [Lib.decDigits, dif_neg h10]
      have := ndig_le k (n / 10) (by rw [Nat.pow_succ] at h; omega)
      rw [e]
      simp
      omega
/-- A square's letter. -/
def ltr (n : Nat) : UInt8 := ([65, 66, 67, 68, 69, 70, 71, 72, 74, 75, 76, 77, 78, 80, 81, 82, 83, 84, 85, 86] : List UInt8).getD n 0
/-- A square's text. -/
def sqt (x y many : Nat) : List UInt8 := ltr (x / 100000) :: ltr (y / 100000 % 20) :: (dgs (x % 100000 / 10 ^ (5 - many)) many ++ dgs (y % 100000 / 10 ^ (5 - many)) many)
end GQ
end Go.Proofs.YtfahmaapodoaaaaGreatDoor
