/-
  Shifts of rows: whole.shifted, whole.lowered: the arithmetic.
-/
import Derived.Test.YtecmkjefoppbiaaDoorQJ10
import Derived.Test.YtecmkjefoppbiaaDoorQFrV
namespace Go.Proofs.YtecmkjefoppbiaaDoor
open Go.RowKit WH

theorem p64 {s : Nat} (h : s ≤ 63) : 2 ^ (64 - s) * 2 ^ s = 18446744073709551616 := by rw [← Nat.pow_add, show 64 - s + s = 64 by omega]
/-- Up: the word that stays, the word that goes over. -/
theorem up_word {x s : Nat} (h : s ≤ 63) : x * 2 ^ s = x * 2 ^ s % 18446744073709551616 + 18446744073709551616 * (x / 2 ^ (64 - s)) := by
  have e1 : x * 2 ^ s / 18446744073709551616 = x / 2 ^ (64 - s) := by rw [← p64 h]; exact Nat.mul_div_mul_right _ _ (Nat.pow_pos (by decide))
  rw [← e1]; omega
theorem up_low {x s : Nat} (h : s ≤ 63) (hx : x < 18446744073709551616) : x / 2 ^ (64 - s) < 2 ^ s := by
  refine (Nat.div_lt_iff_lt_mul (Nat.pow_pos (by decide))).2 ?_
  rw [Nat.mul_comm, p64 h]; exact hx
theorem mod_mul {x s : Nat} (h : s ≤ 63) : x * 2 ^ s % 18446744073709551616 = 2 ^ s * (x % 2 ^ (64 - s)) := by
  rw [← p64 h, Nat.mul_mod_mul_right, Nat.mul_comm]
theorem pow_le63 {s : Nat} (h : s ≤ 63) : 2 ^ s ≤ 9223372036854775808 := Nat.pow_le_pow_right (n := 2) (by decide) h
theorem up_or {x z s : Nat} (h : s ≤ 63) (hz : z < 2 ^ s) : z ||| x * 2 ^ s % 18446744073709551616 = z + x * 2 ^ s % 18446744073709551616 ∧ z + x * 2 ^ s % 18446744073709551616 < 18446744073709551616 := by
  have e : x * 2 ^ s % 18446744073709551616 = 2 ^ s * (x % 2 ^ (64 - s)) := mod_mul h
  have b : x % 2 ^ (64 - s) < 2 ^ (64 - s) := Nat.mod_lt _ (Nat.pow_pos (by decide))
  have b2 : 2 ^ s * (x % 2 ^ (64 - s) + 1) ≤ 2 ^ s * 2 ^ (64 - s) := Nat.mul_le_mul_left _ b
  rw [Nat.mul_comm (2 ^ s) (2 ^ (64 - s)), p64 h, Nat.mul_add, Nat.mul_one] at b2
  rw [e]
  refine ⟨?_, by omega⟩
  rw [Nat.or_comm, Nat.add_comm, Nat.two_pow_add_eq_or_of_lt hz]
/-- Rows that are shifted up, so far. -/
structure ShI (a o : List Nat) (s i : Nat) : Prop where
  len : o.length = a.length + 1
  dg : Dg o
  sum : dv o = dv (a.take i) * 2 ^ s
  zero : ∀ j, (h : j < o.length) → i < j → o[j] = 0
  top : ∀ (h : i < o.length), o[i] < 2 ^ s
theorem ShI.start (a : List Nat) (s : Nat) : ShI a (List.replicate (a.length + 1) 0) s 0 :=
  ⟨by simp, dg_replicate _, by rw [WH.dv_replicate]; simp [WH.dv], fun j hj _ => by simp, fun _ => by simp; exact Nat.pow_pos (by decide)⟩
theorem sh_core {D D1 D2 P Q T x y lo hi z : Nat} (h1 : D1 + P * z = D + P * (z + lo)) (h2 : D2 + Q * 0 = D1 + Q * hi) (hQ : Q = P * 18446744073709551616) (hw : x = lo + 18446744073709551616 * hi) (hD : D = T) (hy : y = P * x) : D2 = T + y := by
  rw [Nat.mul_add] at h1
  have e : P * x = P * lo + Q * hi := by rw [hw, Nat.mul_add, hQ, Nat.mul_assoc]
  omega
theorem ShI.step {a o : List Nat} {s i : Nat} (hs : s ≤ 63) (h : ShI a o s i) (hi : i < a.length) (hx : a[i] < 18446744073709551616) (h1 : i < o.length) : ShI a ((o.set i (o[i] + a[i] * 2 ^ s % 18446744073709551616)).set (i + 1) (a[i] / 2 ^ (64 - s))) s (i + 1) := by
  have h2 : i + 1 < o.length := by rw [h.len]; omega
  have ho := up_or (x := a[i]) hs (h.top h1)
  have hl := up_low hs hx
  have h63 := pow_le63 hs
  refine ⟨by simpa using h.len, WH.dg_set (WH.dg_set h.dg ho.2) (by omega), ?_, ?_, ?_⟩
  · have e1 := WH.dv_set (l := o) (j := i) (d := o[i] + a[i] * 2 ^ s % 18446744073709551616) h1
    have e2 := WH.dv_set (l := o.set i (o[i] + a[i] * 2 ^ s % 18446744073709551616)) (j := i + 1) (d := a[i] / 2 ^ (64 - s)) (by simpa using h2)
    have e0 : (o.set i (o[i] + a[i] * 2 ^ s % 18446744073709551616))[i + 1]'(by simpa using h2) = 0 := by
      rw [List.getElem_set_ne (by omega)]; exact h.zero _ h2 (by omega)
    rw [e0] at e2
    have e3 : dv (a.take (i + 1)) = dv (a.take i) + 18446744073709551616 ^ i * a[i] := by
      rw [WH.take_dv]; congr 2; simp [List.getD, hi]
    rw [e3, Nat.add_mul, Nat.mul_assoc]
    exact sh_core e1 e2 (Nat.pow_succ _ _) (up_word hs) h.sum rfl
  · intro j hj hij
    rw [List.getElem_set_ne (by omega), List.getElem_set_ne (by omega)]
    exact h.zero j (by simpa using hj) (by omega)
  · intro hh
    rw [List.getElem_set_self]
    exact hl
theorem ShI.done {a o : List Nat} {s : Nat} (h : ShI a o s a.length) : dv o = dv a * 2 ^ s := by
  have := h.sum; rwa [List.take_of_length_le (Nat.le_refl _)] at this
/-- Down: the word that stays, the word that goes over. -/
theorem dn_word {x s : Nat} (h : s ≤ 63) : x * 2 ^ (64 - s) = x * 2 ^ (64 - s) % 18446744073709551616 + 18446744073709551616 * (x / 2 ^ s) := by
  have e1 : x * 2 ^ (64 - s) / 18446744073709551616 = x / 2 ^ s := by
    rw [← p64 h, Nat.mul_comm (2 ^ (64 - s)) (2 ^ s)]; exact Nat.mul_div_mul_right _ _ (Nat.pow_pos (by decide))
  rw [← e1]; omega
theorem dn_or {x z s : Nat} (h : s ≤ 63) (hz : z < 2 ^ (64 - s)) : z ||| x * 2 ^ (64 - s) % 18446744073709551616 = z + x * 2 ^ (64 - s) % 18446744073709551616 ∧ z + x * 2 ^ (64 - s) % 18446744073709551616 < 18446744073709551616 := by
  have e : x * 2 ^ (64 - s) % 18446744073709551616 = 2 ^ (64 - s) * (x % 2 ^ s) := by
    rw [← p64 h, Nat.mul_comm (2 ^ (64 - s)) (2 ^ s), Nat.mul_mod_mul_right, Nat.mul_comm]
  have b : x % 2 ^ s < 2 ^ s := Nat.mod_lt _ (Nat.pow_pos (by decide))
  have b2 : 2 ^ (64 - s) * (x % 2 ^ s + 1) ≤ 2 ^ (64 - s) * 2 ^ s := Nat.mul_le_mul_left _ b
  rw [p64 h, Nat.mul_add, Nat.mul_one] at b2
  rw [e]
  refine ⟨?_, by omega⟩
  rw [Nat.or_comm, Nat.add_comm, Nat.two_pow_add_eq_or_of_lt hz]
theorem dn_low {x s : Nat} (h : s ≤ 63) (hx : x < 18446744073709551616) : x / 2 ^ s < 2 ^ (64 - s) := by
  refine (Nat.div_lt_iff_lt_mul (Nat.pow_pos (by decide))).2 ?_
  rw [p64 h]; exact hx
structure LoI (a o : List Nat) (s i : Nat) : Prop where
  len : o.length = a.length
  dg : Dg o
  sum : dv o = dv (a.take i) / 2 ^ s
  zero : ∀ j, (h : j < o.length) → i ≤ j → o[j] = 0
  top : ∀ j, (h : j < o.length) → j + 1 = i → o[j] < 2 ^ (64 - s)
theorem LoI.start (a : List Nat) (s : Nat) : LoI a (List.replicate a.length 0) s 0 :=
  ⟨by simp, dg_replicate _, by rw [WH.dv_replicate]; simp [WH.dv], fun j hj _ => by simp, fun j _ h => by omega⟩
theorem LoI.first {a o : List Nat} {s : Nat} (hs : s ≤ 63) (h : LoI a o s 0) (hi : 0 < a.length) (hx : a[0] < 18446744073709551616) (h1 : 0 < o.length) : LoI a (o.set 0 (a[0] / 2 ^ s)) s 1 := by
  have hl := dn_low hs hx
  have hw : a[0] / 2 ^ s < 18446744073709551616 := Nat.lt_of_le_of_lt (Nat.div_le_self _ _) hx
  refine ⟨by simpa using h.len, WH.dg_set h.dg hw, ?_, ?_, ?_⟩
  · have e1 := WH.dv_set (l := o) (j := 0) (d := a[0] / 2 ^ s) h1
    rw [h.zero 0 h1 (Nat.le_refl _), h.sum] at e1
    have e3 := WH.take_dv (l := a) 0
    rw [show a.getD 0 0 = a[0] by simp [List.getD, hi]] at e3
    simp only [List.take_zero, WH.dv, Nat.zero_div, Nat.mul_zero, Nat.add_zero, Nat.zero_add, Nat.pow_zero, Nat.one_mul] at e1 e3
    rw [e1, e3]
  · intro j hj hij
    rw [List.getElem_set_ne (by omega)]
    exact h.zero j (by simpa using hj) (by omega)
  · intro j hj hij
    obtain rfl : j = 0 := by omega
    rw [List.getElem_set_self]
    exact hl
theorem lo_core {D D1 D2 P Q T x lo hi z p q : Nat} (h1 : D1 + Q * 0 = D + Q * hi) (h2 : D2 + P * z = D1 + P * (z + lo)) (hQ : Q = P * 18446744073709551616) (hB : 18446744073709551616 = q * p) (hw : x * q = lo + 18446744073709551616 * hi) (hD : D = T / p) (hp : 0 < p) : D2 = (T + Q * x) / p := by
  rw [Nat.mul_add] at h2
  have e : P * (x * q) = P * lo + Q * hi := by rw [hw, Nat.mul_add, hQ, Nat.mul_assoc]
  have e2 : Q * x = P * (x * q) * p := by
    rw [hQ, hB, Nat.mul_assoc P (q * p) x, Nat.mul_assoc P (x * q) p, Nat.mul_comm (q * p) x, Nat.mul_assoc x q p]
  rw [e2, Nat.add_mul_div_right _ _ hp]
  omega
theorem LoI.step {a o : List Nat} {s i : Nat} (hs : s ≤ 63) (h : LoI a o s (i + 1)) (hi : i + 1 < a.length) (hx : a[i + 1] < 18446744073709551616) (h1 : i + 1 < o.length) : LoI a ((o.set (i + 1) (a[i + 1] / 2 ^ s)).set i (o[i] + a[i + 1] * 2 ^ (64 - s) % 18446744073709551616)) s (i + 2) := by
  have h2 : i < o.length := by omega
  have ho := dn_or (x := a[i + 1]) hs (h.top i h2 rfl)
  have hl := dn_low hs hx
  have hw : a[i + 1] / 2 ^ s < 18446744073709551616 := Nat.lt_of_le_of_lt (Nat.div_le_self _ _) hx
  refine ⟨by simpa using h.len, WH.dg_set (WH.dg_set h.dg hw) ho.2, ?_, ?_, ?_⟩
  · have e1 := WH.dv_set (l := o) (j := i + 1) (d := a[i + 1] / 2 ^ s) h1
    have e2 := WH.dv_set (l := o.set (i + 1) (a[i + 1] / 2 ^ s)) (j := i) (d := o[i] + a[i + 1] * 2 ^ (64 - s) % 18446744073709551616) (by simpa using h2)
    rw [h.zero _ h1 (Nat.le_refl _)] at e1
    rw [List.getElem_set_ne (by omega)] at e2
    have e3 : dv (a.take (i + 2)) = dv (a.take (i + 1)) + 18446744073709551616 ^ (i + 1) * a[i + 1] := by
      rw [WH.take_dv]; congr 2; simp [List.getD, hi]
    rw [e3]
    exact lo_core e1 e2 (Nat.pow_succ _ _) (p64 hs).symm (dn_word hs) h.sum (Nat.pow_pos (by decide))
  · intro j hj hij
    rw [List.getElem_set_ne (by omega), List.getElem_set_ne (by omega)]
    exact h.zero j (by simpa using hj) (by omega)
  · intro j hj hij
    obtain rfl : j = i + 1 := by omega
    rw [List.getElem_set_ne (by omega), List.getElem_set_self]
    exact hl
theorem LoI.done {a o : List Nat} {s : Nat} (h : LoI a o s a.length) : dv o = dv a / 2 ^ s := by
  have := h.sum; rwa [List.take_of_length_le (Nat.le_refl _)] at this
end Go.Proofs.YtecmkjefoppbiaaDoor
