/-
  mercatorref2.ToOther.
-/
import Derived.Test.YtmiamfnnccjmeacDoorDaH
import Derived.Deep.CutRange
namespace Go.Proofs.YtmiamfnnccjmeacDoor
open Go.RowKit FB
attribute [local go_sem] run_store_float
attribute [local irreducible] FA FM FS FD rD fD nD kD uz
attribute [local go_sem ↓] Go.wp_at_zero Go.wp_at_succ

theorem dless {s a b m r : Nat} (h1 : Ieee.double.mul a b = some m) (h2 : Ieee.double.sub s m = some r) (w : World) : Calls Tryd.prog 34 #[.float .f64 s, .float .f64 a, .float .f64 b] w fun e w' => e = .returned (.float .f64 r) ∧ w' = w := by
  have e1 := fun w => hmul h1 w
  have e2 := fun w => hsub h2 w
  go_enter Tryd.func34, Tryd.ntmps34
  go_wp2
  go_ret
  exact ⟨rfl, rfl⟩
theorem dplus {s a b m r : Nat} (h1 : Ieee.double.mul a b = some m) (h2 : Ieee.double.add s m = some r) (w : World) : Calls Tryd.prog 33 #[.float .f64 s, .float .f64 a, .float .f64 b] w fun e w' => e = .returned (.float .f64 r) ∧ w' = w := by
  have e1 := fun w => hmul h1 w
  have e2 := fun w => hadd h2 w
  go_enter Tryd.func33, Tryd.ntmps33
  go_wp2
  go_ret
  exact ⟨rfl, rfl⟩
theorem k_eqs {S : Nat} (hS : Q 1033 1000 S) : Ieee.double.mul S 4517329193108106637 = some (FM S 4517329193108106637) ∧ Ieee.double.add 4607182418800017408 (FM S 4517329193108106637) = some (kD S) := by
  have n1 := hS.le.num (by decide) (by decide)
  have l1 : Le 1016 (FM S 4517329193108106637) := FM_le hS.le c6_Q.le (by decide) (by decide) (by decide) (by decide) _ (by decide) (by decide) (by decide)
  unfold kD
  exact ⟨mul_num n1 (c6_Q.le.num (by decide) (by decide)), add_num (one_Q.le.num (by decide) (by decide)) (l1.num (by decide) (by decide))⟩
theorem TF.three {W : World} {b X Y Z A B C S x y z : Nat} (h : TF W b X Y Z A B C S x y z) : W.cell? ⟨b, 0, none⟩ = some (.float .f64 X) ∧ W.cell? ⟨b, 1, none⟩ = some (.float .f64 Y) ∧ W.cell? ⟨b, 2, none⟩ = some (.float .f64 Z) := ⟨h.d0, h.d1, h.d2⟩
theorem TF.keep {W : World} {b X Y Z A B C S x y z : Nat} (h : TF W b X Y Z A B C S x y z) (u v t : Value) : (((W.setCell ⟨b + 1 + 1, 0, none⟩ u).setCell ⟨b + 1 + 1, 1, none⟩ v).setCell ⟨b + 1 + 1, 2, none⟩ t).cell? ⟨b, 0, none⟩ = some (.float .f64 X) ∧ (((W.setCell ⟨b + 1 + 1, 0, none⟩ u).setCell ⟨b + 1 + 1, 1, none⟩ v).setCell ⟨b + 1 + 1, 2, none⟩ t).cell? ⟨b, 1, none⟩ = some (.float .f64 Y) ∧ (((W.setCell ⟨b + 1 + 1, 0, none⟩ u).setCell ⟨b + 1 + 1, 1, none⟩ v).setCell ⟨b + 1 + 1, 2, none⟩ t).cell? ⟨b, 2, none⟩ = some (.float .f64 Z) :=
  ⟨by simp [go_sem, h.d0], by simp [go_sem, h.d1], by simp [go_sem, h.d2]⟩
set_option maxRecDepth 4000 in
set_option maxHeartbeats 4000000 in
theorem toOther_any (X Y Z A B C S x y z : Nat) (q : DQ X Y Z A B C S x y z) (w : World) : Calls Tryd.prog 14 #[dV X Y Z A B C S, vV x y z] w fun e w' => e = .returned (vV (t1D (kD S) X C B x y z) (t2D (kD S) Y C A x y z) (t3D (kD S) Z A B x y z)) ∧ Below w.heap.size w w' := by
  obtain ⟨k1, k2⟩ := k_eqs q.S
  have kl := (k_Q q.S).1.le
  obtain ⟨a1, a2, a3, a4, a5, a6, _⟩ := t1_eqs q.X.le q.C.le q.B.le kl q.x q.y q.z
  obtain ⟨b1, b2, b3, b4, b5, b6, _⟩ := t2_eqs q.Y.le q.C.le q.A.le kl q.x q.y q.z
  obtain ⟨c1, c2, c3, c4, c5, c6, _⟩ := t3_eqs q.Z.le q.A.le q.B.le kl q.x q.y q.z
  have e1 := fun w => hmul k1 w
  have e2 := fun w => hadd k2 w
  have e3 := fun w => hmul b1 w
  have e4 := fun w => hadd b2 w
  have e5 := fun w => hmul c1 w
  have e6 := fun w => hadd c4 w
  have L1 := hid (fun w => dless a1 a2 w)
  have P1 := hid (fun w => dplus a3 a4 w)
  have L2 := hid (fun w => dless b3 b4 w)
  have L3 := hid (fun w => dless c2 c3 w)
  have P4 := hid (fun w => dplus a5 a6 w)
  have P5 := hid (fun w => dplus b5 b6 w)
  have P6 := hid (fun w => dplus c5 c6 w)
  clear a1 a2 a3 a4 a5 a6 b1 b2 b3 b4 b5 b6 c1 c2 c3 c4 c5 c6 k1 k2 kl q
  go_enter Tryd.func14, Tryd.ntmps14
  go_upto_region 1 with fail
  have VV := TF.init w X Y Z A B C S x y z 24 26 26
  have HC : Below w.heap.size w (((w.alloc (.cells #[.float .f64 X, .float .f64 Y, .float .f64 Z, .float .f64 A, .float .f64 B, .float .f64 C, .float .f64 S] 24)).alloc (.cells #[.float .f64 x, .float .f64 y, .float .f64 z] 26)).alloc (.cells #[.float .f64 0, .float .f64 0, .float .f64 0] 26)) := (((Below.refl _ _).alloc (Nat.le_refl _) _).alloc (by simp) _).alloc (by simp; omega) _
  generalize ((w.alloc (.cells #[.float .f64 X, .float .f64 Y, .float .f64 Z, .float .f64 A, .float .f64 B, .float .f64 C, .float .f64 S] 24)).alloc (.cells #[.float .f64 x, .float .f64 y, .float .f64 z] 26)).alloc (.cells #[.float .f64 0, .float .f64 0, .float .f64 0] 26) = w1 at *
  obtain ⟨d0, d1, d2, d3, d4, d5, d6, v0, v1, v2, r0, r1, r2, z0, z1, z2, lt⟩ := id VV
  go_upto_region 3 with fail
  go_quiet ((first | (go_at_call 34; with_reducible exact Calls.quiet_of_same (L1.out _)) | (go_at_call 33; with_reducible exact Calls.quiet_of_same (P1.out _))))
  go_wp2_with (go_at_call 34; refine (L2.out _).mono ?_; rintro e w5 ⟨rfl, rfl⟩)
  generalize hw2 : World.drewN w1 _ = w2
  have hB : Below w1.heap.size w1 w2 := by rw [← hw2]; exact below_drewN (Below.refl _ _) _
  replace VV := VV.below hB
  replace HC := bt HC hB
  clear hB hw2 d0 d1 d2 d3 d4 d5 d6 v0 v1 v2 r0 r1 r2 z0 z1 z2 lt
  obtain ⟨d0, d1, d2, d3, d4, d5, d6, v0, v1, v2, r0, r1, r2, z0, z1, z2, lt⟩ := id VV
  go_quiet ((go_at_call 34; exact Calls.quiet_of_same (L3.out _)))
  go_wp2_with fail
  generalize hw4 : World.drewN w2 _ = w4
  have hB : Below w2.heap.size w2 w4 := by rw [← hw4]; exact below_drewN (Below.refl _ _) _
  replace VV := VV.below hB
  replace HC := bt HC hB
  clear hB hw4 d0 d1 d2 d3 d4 d5 d6 v0 v1 v2 r0 r1 r2 z0 z1 z2 lt
  obtain ⟨d0, d1, d2, d3, d4, d5, d6, v0, v1, v2, r0, r1, r2, z0, z1, z2, lt⟩ := id VV
  go_region_held (fun w' => w'.cell? ⟨w.heap.size, 0, none⟩ = some (.float .f64 X) ∧ w'.cell? ⟨w.heap.size, 1, none⟩ = some (.float .f64 Y) ∧ w'.cell? ⟨w.heap.size, 2, none⟩ = some (.float .f64 Z))
    (first | (with_reducible exact VV.three) | (with_reducible exact VV.keep _ _ _) | exact VV.three | exact VV.keep _ _ _)
    ((first
      | (go_at_call 33; (with_reducible first | refine (P4.out _).mono ?_ | refine (P5.out _).mono ?_ | refine (P6.out _).mono ?_); rintro e w5 ⟨rfl, rfl⟩)))
  go_wp2
  exact bodyPost_ret (v := vV (t1D (kD S) X C B x y z) (t2D (kD S) Y C A x y z) (t3D (kD S) Z A B x y z)) (by simp [results, Tryd.results14, go_sem, r0, r1, r2]) rfl ⟨rfl, (((HC.setCell (by simp; omega) _).setCell (by simp; omega) _).setCell (by simp; omega) _).drew⟩
end Go.Proofs.YtmiamfnnccjmeacDoor
