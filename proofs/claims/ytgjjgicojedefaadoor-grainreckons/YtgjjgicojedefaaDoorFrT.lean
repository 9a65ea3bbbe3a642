/-
  math/bits.Div64: the words of its long division.
-/
import Derived.Test.YtgjjgicojedefaaDoorFrS
namespace Go.Proofs.YtgjjgicojedefaaDoor
open Go.RowKit BG

structure Dv (hi lo y s Y y1 y0 u v d e : Nat) : Prop where
  yy : Y = y * 2 ^ s
  yw : IntKind.u64.wrap ((y : Int) * 2 ^ s) = (Y : Int)
  yh : (Y : Int) / 4294967296 = (y1 : Int)
  yl : bits .and .u64 (Y : Int) 4294967295 = (y0 : Int)
  ys : Y = y1 * 4294967296 + y0
  y0l : y0 < 4294967296
  y1g : 2147483648 ≤ y1
  y1l : y1 < 4294967296
  uw : bits .or .u64 (IntKind.u64.wrap ((hi : Int) * 2 ^ s)) ((lo : Int) / 2 ^ (64 - s)) = (u : Int)
  ul : u < Y
  vw : IntKind.u64.wrap ((lo : Int) * 2 ^ s) = (v : Int)
  vh : (v : Int) / 4294967296 = (d : Int)
  vl : bits .and .u64 (v : Int) 4294967295 = (e : Int)
  dl : d < 4294967296
  el : e < 4294967296
  sum : (hi * 18446744073709551616 + lo) * 2 ^ s = u * 18446744073709551616 + (d * 4294967296 + e)
theorem wrap_pow {a s : Nat} (h : a * 2 ^ s < 18446744073709551616) : IntKind.u64.wrap ((a : Int) * 2 ^ s) = ((a * 2 ^ s : Nat) : Int) := by
  have e : (a : Int) * 2 ^ s = ((a * 2 ^ s : Nat) : Int) := by push_cast; rfl
  rw [e, IntKind.wrap_u64]
  omega
theorem wrap_powm {a s : Nat} : IntKind.u64.wrap ((a : Int) * 2 ^ s) = ((a * 2 ^ s % 18446744073709551616 : Nat) : Int) := by
  have e : (a : Int) * 2 ^ s = ((a * 2 ^ s : Nat) : Int) := by push_cast; rfl
  rw [e, IntKind.wrap_u64]
  omega
theorem div_pow {a s : Nat} : (a : Int) / 2 ^ s = ((a / 2 ^ s : Nat) : Int) := by push_cast; rfl
theorem dv_ex {hi lo y s : Nat} (s63 : s ≤ 63) (y63 : 9223372036854775808 ≤ y * 2 ^ s) (y64 : y * 2 ^ s < 18446744073709551616) (h0 : hi < y) (hl : lo < 18446744073709551616) : ∃ Y y1 y0 u v d e, Dv hi lo y s Y y1 y0 u v d e := by
  have hp : 0 < 2 ^ s := Nat.pow_pos (by decide)
  have hq : 0 < 2 ^ (64 - s) := Nat.pow_pos (by decide)
  have pq : 2 ^ (64 - s) * 2 ^ s = 18446744073709551616 := by rw [← Nat.pow_add, show 64 - s + s = 64 by omega]
  have hh : hi * 2 ^ s + 2 ^ s ≤ y * 2 ^ s := by
    have := Nat.mul_le_mul_right (2 ^ s) (show hi + 1 ≤ y by omega)
    rw [Nat.add_mul, Nat.one_mul] at this
    exact this
  have hlo : lo / 2 ^ (64 - s) < 2 ^ s := by
    refine (Nat.div_lt_iff_lt_mul hq).2 ?_
    rw [Nat.mul_comm, pq]
    exact hl
  have hor : hi * 2 ^ s ||| lo / 2 ^ (64 - s) = hi * 2 ^ s + lo / 2 ^ (64 - s) := by
    rw [Nat.mul_comm, Nat.two_pow_add_eq_or_of_lt hlo]
  have hv : lo * 2 ^ s = lo / 2 ^ (64 - s) * 18446744073709551616 + lo * 2 ^ s % 18446744073709551616 := by
    have e1 : lo * 2 ^ s / 18446744073709551616 = lo / 2 ^ (64 - s) := by rw [← pq]; exact Nat.mul_div_mul_right _ _ hp
    rw [← e1]
    omega
  refine ⟨y * 2 ^ s, y * 2 ^ s / 4294967296, y * 2 ^ s % 4294967296, hi * 2 ^ s + lo / 2 ^ (64 - s), lo * 2 ^ s % 18446744073709551616, lo * 2 ^ s % 18446744073709551616 / 4294967296, lo * 2 ^ s % 18446744073709551616 % 4294967296, ?_⟩
  have um : hi * 2 ^ s < 18446744073709551616 := by omega
  refine ⟨rfl, wrap_pow y64, by omega, M64.maskN _ y64, by omega, by omega, by omega, by omega, ?_, by omega, wrap_powm, by omega, M64.maskN _ (by omega), by omega, by omega, ?_⟩
  · rw [wrap_pow um, div_pow, bits_or_u64_nat _ _ um (by omega), hor]
  · rw [Nat.add_mul, hv, Nat.mul_assoc, Nat.mul_comm 18446744073709551616, ← Nat.mul_assoc]
    generalize hi * 2 ^ s = A at *
    generalize lo / 2 ^ (64 - s) = B at *
    omega
end Go.Proofs.YtgjjgicojedefaaDoor
