/-
  Datum.From, where it fails.
-/
import Derived.Test.YtmiamfnnccjmeacDoorDaE
namespace Go.Proofs.YtmiamfnnccjmeacDoor
open Go.RowKit FB
attribute [local go_sem] run_store_float

set_option maxHeartbeats 1000000 in
theorem from_no (g : Nat → Addr) (X Y Z A B C S x y z : Nat) (h : okD X Y Z A B C S = false) (w : World) (hl : Laid w g) : Calls Tryd.prog 8 #[dV X Y Z A B C S, vV x y z] w fun e w' => e = .returned (.tuple #[vV 0 0 0, errV g 2]) ∧ Below w.heap.size w w' := by
  have HT := hid (fun w hl => takes_no g X Y Z A B C S x y z h w hl)
  go_enter Tryd.func8, Tryd.ntmps8
  go_wp2_with fail
  refine (HT.out _ (((hl.alloc _).alloc _).alloc _)).mono ?_
  rintro e w1 ⟨rfl, hB⟩
  have VV := (TF.init w X Y Z A B C S x y z 30 26 26).below hB
  have HC := bt ((((Below.refl _ _).alloc (Nat.le_refl _) _).alloc (by simp) _).alloc (by simp; omega) _) hB
  clear hB hl
  obtain ⟨d0, d1, d2, d3, d4, d5, d6, v0, v1, v2, r0, r1, r2, z0, z1, z2, lt⟩ := VV
  go_wp2
  exact bodyPost_ret (v := .tuple #[vV 0 0 0, errV g 2]) (by simp [results, Tryd.results8, go_sem, r0, r1, r2]) rfl ⟨rfl, ((HC.setCell (by simp; omega) _).setCell (by simp; omega) _).setCell (by simp; omega) _⟩
set_option maxHeartbeats 1000000 in
theorem from_far (g : Nat → Addr) (X Y Z A B C S x y z : Nat) (h : okD X Y Z A B C S = true) (hv : okV x y z = false) (w : World) (hl : Laid w g) : Calls Tryd.prog 8 #[dV X Y Z A B C S, vV x y z] w fun e w' => e = .returned (.tuple #[vV 0 0 0, errV g 3]) ∧ Below w.heap.size w w' := by
  have HT := hid (fun w hl => takes_far g X Y Z A B C S x y z h hv w hl)
  go_enter Tryd.func8, Tryd.ntmps8
  go_wp2_with fail
  refine (HT.out _ (((hl.alloc _).alloc _).alloc _)).mono ?_
  rintro e w1 ⟨rfl, hB⟩
  have VV := (TF.init w X Y Z A B C S x y z 30 26 26).below hB
  have HC := bt ((((Below.refl _ _).alloc (Nat.le_refl _) _).alloc (by simp) _).alloc (by simp; omega) _) hB
  clear hB hl
  obtain ⟨d0, d1, d2, d3, d4, d5, d6, v0, v1, v2, r0, r1, r2, z0, z1, z2, lt⟩ := VV
  go_wp2
  exact bodyPost_ret (v := .tuple #[vV 0 0 0, errV g 3]) (by simp [results, Tryd.results8, go_sem, r0, r1, r2]) rfl ⟨rfl, ((HC.setCell (by simp; omega) _).setCell (by simp; omega) _).setCell (by simp; omega) _⟩
end Go.Proofs.YtmiamfnnccjmeacDoor
