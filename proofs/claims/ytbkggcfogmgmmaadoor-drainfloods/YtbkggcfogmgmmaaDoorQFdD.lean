/-
  field.alike.
-/
import Derived.Test.YtbkggcfogmgmmaaDoorQFdE
namespace Go.Proofs.YtbkggcfogmgmmaaDoor
open Go.RowKit

theorem errV_ne (g : Nat → Addr) (i : Nat) : ¬ errV g i = .nilIface := by intro h; cases h
theorem evc_ne (g : Nat → Addr) {c : Nat} (h : ¬ c = 0) : ∃ i, evc g c = errV g i := ⟨_, by unfold evc; rw [if_neg h]⟩
end Go.Proofs.YtbkggcfogmgmmaaDoor
