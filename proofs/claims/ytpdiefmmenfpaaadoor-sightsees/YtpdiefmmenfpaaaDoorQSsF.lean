/-
  slices.SortFunc of fractions in lowest terms: the call.
-/
import Derived.Test.YtpdiefmmenfpaaaDoorQSsE
import Derived.Shelf.SlSortCmp.NoneTotal
namespace Go.Proofs.YtpdiefmmenfpaaaDoor
open Go.RowKit

theorem sortF_any {B cap : Nat} {l : List RF} (hl : l.length ≤ 20000) (w : World) (h : FB2 w B l.length (fsAt l)) : Calls Tryd.prog 42 #[.slice (some ⟨B, 0, none⟩) l.length cap, .func (.func 43) #[] #[]] w fun e w' => e = .returned (.tuple #[]) ∧ FB2 w' B l.length (fsAt (srt l)) ∧ Onl B w w' := by
  have eg : ∀ args w, (callFunc 43 args).run Tryd.prog w = .ok (.enter 43 args) w := enters_of Tryd.func43 (by kernel_rfl) rfl
  have hH := holdsF h
  have hs : l.toArray.size = l.length := by simp
  have hc := Go.Proofs.AnyQ.slices_SortFunc_total Tryd.laysSF 2 (fun w => by kernel_rfl) (fun w => by kernel_rfl) encF (fun _ => rfl) (fun x v hv => by simp [encF] at hv; rcases hv with rfl | rfl <;> rfl) cfF swoF 43 #[] B 0 cap l.toArray w eg (fun _ _ _ _ x y => stops1c_any x y _) hH h.lt (by rw [hs]; omega) totF
  rw [hs] at hc
  refine hc.mono ?_
  rintro e w' ⟨rfl, n, os, rfl⟩
  refine ⟨rfl, ?_, onl_sort _ _ _⟩
  have k := Go.Proofs.holdsK_sortWorldK_c encF 2 w B 0 l.toArray (srt l).toArray n os hH h.lt (by simp [srt_len])
  have k2 := ofHoldsF k (Nat.lt_of_lt_of_le h.lt (Go.Proofs.size_sortWorldK_c _ _ _ _ _ _ _ _))
  rw [srt_len] at k2
  exact k2
theorem sortF_nil (w : World) : Calls Tryd.prog 42 #[.slice none 0 0, .func (.func 43) #[] #[]] w fun e w' => e = .returned (.tuple #[]) ∧ w' = w :=
  Go.Proofs.AnyF.slices_SortFunc_none Tryd.laysSF none 0 (.func (.func 43) #[] #[]) w
theorem compact_nil (w : World) : Calls Tryd.prog 45 #[.slice none 0 0] w fun e w' => e = .returned (.slice none 0 0) ∧ w' = w := by
  go_enter Tryd.func45, Tryd.ntmps45
  go_wp2
  go_ret
  exact ⟨rfl, rfl⟩
end Go.Proofs.YtpdiefmmenfpaaaDoor
