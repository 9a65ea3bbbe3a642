/-
  grain.Polynomial: Horner's rule over a row of numbers in memory.
-/
import Derived.Test.YtmiamfnnccjmeacDoorProg
import Derived.Test.YtmiamfnnccjmeacDoorFlt
import Derived.WalkKit
import Derived.WalkLawsBesides
import Derived.Outline
namespace Go.Proofs.YtmiamfnnccjmeacDoor
open Go.RowKit FB

theorem hmul {x y r : Nat} (h : Ieee.double.mul x y = some r) (w : World) : (binOp .mul 22 (.float .f64 x) (.float .f64 y)).run Tryd.prog w = .ok (.float .f64 r) w := run_float_arith w .mul _ _ _ _ _ h
theorem hadd {x y r : Nat} (h : Ieee.double.add x y = some r) (w : World) : (binOp .add 22 (.float .f64 x) (.float .f64 y)).run Tryd.prog w = .ok (.float .f64 r) w := run_float_arith w .add _ _ _ _ _ h
theorem hsub {x y r : Nat} (h : Ieee.double.sub x y = some r) (w : World) : (binOp .sub 22 (.float .f64 x) (.float .f64 y)).run Tryd.prog w = .ok (.float .f64 r) w := run_float_arith w .sub _ _ _ _ _ h
theorem hquo {x y r : Nat} (h : Ieee.double.div x y = some r) (w : World) : (binOp .quo 22 (.float .f64 x) (.float .f64 y)).run Tryd.prog w = .ok (.float .f64 r) w := run_float_arith w .quo _ _ _ _ _ h

set_option maxHeartbeats 400000 in
theorem poly_any (b : Nat) (c : Nat → Nat) (cs : List Nat) (n : Nat) (z : Nat) (w : World) (hn : cs.length = n) (hn2 : n ≤ 100) (hok : Ok cs z)
    (hcs : ∀ i, i < n → cs[i]? = some (c i)) (hc : ∀ i, i < n → w.cell? ⟨b, i, none⟩ = some (.float .f64 (c i))) :
    Calls Tryd.prog 102 #[.float .f64 z, .slice (some ⟨b, 0, none⟩) n n] w fun e w' => e = .returned (.float .f64 (hor cs z)) ∧ w' = w := by
  have HN : Hid (cs.length = n) := hn
  clear hn
  go_enter Tryd.func102, Tryd.ntmps102
  go_wp2
  go_loop [5, 6] (fun p i => ∃ k : Nat, k ≤ n ∧ i = .int .i64 ((k : Int) - 1) ∧ p = .float .f64 (hor (cs.drop k) z)) (fun _ i => (intOf i + 1).toNat)
  case atStart => exact ⟨n, Nat.le_refl _, rfl, by rw [List.drop_of_length_le (by rw [HN.out]; omega)]; rfl⟩
  case round =>
    obtain ⟨k, hk, rfl, rfl⟩ := hrel
    by_cases h0 : k = 0
    · subst h0
      go_wp2
      go_ret
      exact ⟨rfl, rfl⟩
    · obtain ⟨j, rfl⟩ : ∃ j, k = j + 1 := ⟨k - 1, by omega⟩
      have hcj := hc j (by omega)
      have hget := hcs j (by omega)
      have hM := fun w => hmul (hok.m (j + 1)) w
      have hA := fun w => hadd (hok.a j _ hget) w
      have ej : ((j + 1 : Nat) : Int) - 1 = (j : Int) := by omega
      rw [ej]
      clear hget hcs hc hok
      go_wp2
      go_round
      case rel => exact ⟨j, by omega, rfl, rfl⟩
      case measure => simp [intOf]
end Go.Proofs.YtmiamfnnccjmeacDoor
