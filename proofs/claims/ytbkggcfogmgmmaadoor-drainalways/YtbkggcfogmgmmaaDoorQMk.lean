/-
  make of a row of whole numbers, as an equation; new rows.
-/
import Derived.Test.YtbkggcfogmgmmaaDoorQJ2
import Derived.Test.YtbkggcfogmgmmaaDoorQRa
namespace Go.Proofs.YtbkggcfogmgmmaaDoor
open Go.RowKit

theorem made_run (K : Nat) (hK : K ≤ 20000) : ∃ CS : Array Value, CS.toList = ir (List.replicate K 0) ∧ ∀ w, (Instr.makeSlice 25 (.int .i64 (K : Int)) (.int .i64 (K : Int))).run Tryd.prog w = .ok (.slice (some ⟨w.heap.size, 0, none⟩) K K) (w.alloc (.cells CS 3)) := by
  obtain ⟨i0, hi, hz0, hz1, hz2⟩ := info_parts infoJ
  refine ⟨madeCells #[Value.int .i64 0] K, made_ir K, fun w => ?_⟩
  have := run_makeSlice (P := Tryd.prog) w 25 3 i0 (.int .i64 0) undI hi hz0 .i64 .i64 (K : Int) (K : Int) (by omega) (Int.le_refl _) (by rw [hz1]; omega) (by rw [hz2]; omega) (by omega)
  rw [hz1, Int.toNat_natCast, Nat.mul_one] at this
  exact this
theorem At.nxArr (W : World) (o : Obj) (cs : Array Value) (t : Nat) : At ((W.alloc o).alloc (.cells cs t)) (W.heap.size + 1) cs.toList := by
  have := At.newRow (W.alloc o) cs.toList t
  simpa using this
theorem At.newArr (W : World) (cs : Array Value) (t : Nat) : At (W.alloc (.cells cs t)) W.heap.size cs.toList := by
  have := At.newRow W cs.toList t
  simpa using this
end Go.Proofs.YtbkggcfogmgmmaaDoor
