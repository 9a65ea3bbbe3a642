/-
  grain's wide.over, wide.left.
-/
import Derived.Test.YtehkonddgiakaaaDoorQFrV
namespace Go.Proofs.YtehkonddgiakaaaDoor
open Go.RowKit BG

theorem w2_nat {n : Nat} (h : n < 340282366920938463463374607431768211456) : W2 (n : Int) = .agg #[.int .u64 ((n / 18446744073709551616 : Nat) : Int), .int .u64 ((n % 18446744073709551616 : Nat) : Int)] := by
  unfold W2
  rw [hi_nat n h, lo_nat n]
theorem split_words {t q p : Nat} (h : t = q * 18446744073709551616 + p) (hp : p < 18446744073709551616) : t / 18446744073709551616 = q ∧ t % 18446744073709551616 = p := by omega
end Go.Proofs.YtehkonddgiakaaaDoor
