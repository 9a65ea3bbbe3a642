/-
  mercatorlaw2: strip, waved.
-/
import Derived.Test.YtinopkmcddjgdaaDoorQWvJ
import Derived.Test.YtinopkmcddjgdaaDoorQFtJ
namespace Go.Proofs.YtinopkmcddjgdaaDoor
open Go.RowKit FB
attribute [local go_sem] run_store_float

/-- The law's own trial, word by word. -/
theorem tw_is : isO 0 45000000000 = some x45 := by decide +kernel
theorem tw_t : tRf 0 45000000000 = some 4607182418800017407 := by
  unfold tRf kO oXw
  rw [tw_is]
  show oD (oS (expW x45) (oD (some oneW) (expW x45))) (some twoW) = _
  rw [show expW x45 = some e45 from if_pos rfl]
  decide +kernel
theorem tw_v : vRf 0 45000000000 0 = some 0 := by
  unfold vRf rRf
  rw [tw_t]
  decide +kernel
theorem tw_u : uI 0 45000000000 0 = 44999999999 := by
  unfold uI
  rw [tw_t]
  decide +kernel
theorem kO_zero : kO (some 0) = some 0 := by
  unfold kO oXw
  show oD (oS (expW 0) (oD (some oneW) (expW 0))) (some twoW) = _
  rw [expW_zr (.inl rfl)]
  decide +kernel
theorem hO_zero : hO (some 0) = some oneW := by
  unfold hO oXw
  show oD (oA (expW 0) (oD (some oneW) (expW 0))) (some twoW) = _
  rw [expW_zr (.inl rfl)]
  decide +kernel
theorem vk_zero : vkO 2 (some 0) = some 0 ∧ vkO 4 (some 0) = some 0 ∧ vkO 6 (some 0) = some 0 ∧ vkO 8 (some 0) = some 0 := by decide +kernel
theorem tw_x : oM (srO 4617315517961601024 (uz 0) 4607182418800017408) (zsI 0 0 45000000000 0) = some 0 := by
  unfold zsI
  rw [tw_u, tw_v]
  unfold ripO snI
  rw [vk_zero.1, vk_zero.2.1, vk_zero.2.2.1, vk_zero.2.2.2, kO_zero]
  decide +kernel
theorem tw_y : oM (srO 4617315517961601024 (uz 0) 4607182418800017408) (zsR 0 0 45000000000 0) = some 4616025215989856452 := by
  unfold zsR
  rw [tw_u, tw_v]
  unfold ripO snR
  rw [vk_zero.1, vk_zero.2.1, vk_zero.2.2.1, vk_zero.2.2.2, hO_zero]
  decide +kernel
theorem tw_code : tcode 4617315517961601024 0 4607182418800017408 45000000000 (nrm 0 - nrm 0) = 0 := by decide +kernel
set_option maxHeartbeats 1000000 in
theorem waved_any (g : Nat → Addr) (w : World) (hl : Laid w g) : Calls Tryd.prog 4 #[] w fun x w' => x = .returned (.bool true) ∧ Gr w w' := by
  have HL := hid hl
  have HT := hid (fun w hl => sto_ok g 4617315517961601024 0 0 4607182418800017408 0 0 45000000000 ⟨by decide, by decide⟩ (by decide +kernel) tw_code w hl)
  rw [show nrm 0 - nrm 0 = 0 by decide, tw_x, tw_y] at HT
  clear hl
  have o0 : (FloatKind.f64.format.order 0 0 == some Ordering.eq) = true := by decide +kernel
  have o1 : (FloatKind.f64.format.order 4616025215989856452 4616009474069663580 == some Ordering.gt) = true := by decide +kernel
  have o2 : (FloatKind.f64.format.order 4616025215989856452 4616031992067800433 == some Ordering.lt) = true := by decide +kernel
  go_enter Tryd.func4, Tryd.ntmps4
  go_wp2_with fail
  refine (HT.out _ HL.out).mono ?_
  rintro x w1 ⟨rx, ry, rfl, hx, hy, hB⟩
  obtain rfl : rx = 0 := hx.1
  obtain rfl : ry = 4616025215989856452 := hy.1
  rw [show uz 0 = 0 by decide +kernel, show uz 4616025215989856452 = 4616025215989856452 by decide +kernel]
  clear hx hy
  have HC : Gr w w1 := hB
  go_wp2
  go_ret
  exact ⟨rfl, by ((with_reducible repeat' (first | assumption | refine Gr.drew ?_ | refine Gr.drewN ?_ _ | refine Gr.alloc ?_ _ | refine Gr.set ?_ (by first | omega | (simp; omega)) _ _ | exact Gr.refl _)); done)⟩
end Go.Proofs.YtinopkmcddjgdaaDoor
