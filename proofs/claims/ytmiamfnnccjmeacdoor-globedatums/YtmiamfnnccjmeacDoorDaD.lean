/-
  Datum.To.
-/
import Derived.Test.YtmiamfnnccjmeacDoorDaC
namespace Go.Proofs.YtmiamfnnccjmeacDoor
open Go.RowKit FB
attribute [local go_sem] run_store_float

/-- What is known of a datum and a vector that it takes. -/
structure DQ (X Y Z A B C S x y z : Nat) : Prop where
  X : Q 1040 100000 X
  Y : Q 1040 100000 Y
  Z : Q 1040 100000 Z
  A : Q 1014 (1001 / 1000000) A
  B : Q 1014 (1001 / 1000000) B
  C : Q 1014 (1001 / 1000000) C
  S : Q 1033 1000 S
  x : Le 1057 x
  y : Le 1057 y
  z : Le 1057 z
theorem dq_of {X Y Z A B C S x y z : Nat} (hX : X < 18446744073709551616) (hY : Y < 18446744073709551616) (hZ : Z < 18446744073709551616) (hA : A < 18446744073709551616) (hB : B < 18446744073709551616) (hC : C < 18446744073709551616) (hS : S < 18446744073709551616) (hx : x < 18446744073709551616) (hy : y < 18446744073709551616) (hz : z < 18446744073709551616) (h : okD X Y Z A B C S = true) (hv : okV x y z = true) : DQ X Y Z A B C S x y z := by
  unfold okD okX okA in3 at h
  unfold okV in3 at hv
  simp only [Bool.and_eq_true] at h hv
  obtain ⟨⟨a1, a2, a3⟩, ⟨b1, b2, b3⟩, c1⟩ := h
  obtain ⟨v1, v2, v3⟩ := hv
  exact ⟨x_Q hX a1, x_Q hY a2, x_Q hZ a3, a_Q hA b1, a_Q hB b2, a_Q hC b3, s_Q hS c1, (v_Q hx v1).le, (v_Q hy v2).le, (v_Q hz v3).le⟩
theorem mq {k l x y : Nat} (hx : Le k x) (hy : Le l y) (hk1 : 1 ≤ k) (hk : k ≤ 2046) (hl1 : 1 ≤ l) (hl : l ≤ 2046) (n : Nat) (hn : k + l ≤ n + 1021) (hn2 : n ≤ 2046) (hn1 : 2 ≤ n) : Ieee.double.mul x y = some (FM x y) ∧ Le n (FM x y) := ⟨mul_num (hx.num hk1 hk) (hy.num hl1 hl), FM_le hx hy hk1 hk hl1 hl n hn hn2 hn1⟩
theorem aq {k x y : Nat} (hx : Le k x) (hy : Le k y) (hk1 : 1 ≤ k) (hk : k + 2 ≤ 2046) : Ieee.double.add x y = some (FA x y) ∧ Le (k + 2) (FA x y) := ⟨add_num (hx.num hk1 (by omega)) (hy.num hk1 (by omega)), FA_le hx hy hk1 hk⟩
theorem sq {k x y : Nat} (hx : Le k x) (hy : Le k y) (hk1 : 1 ≤ k) (hk : k + 2 ≤ 2046) : Ieee.double.sub x y = some (FS x y) ∧ Le (k + 2) (FS x y) := ⟨sub_num (hx.num hk1 (by omega)) (hy.num hk1 (by omega)), FS_le hx hy hk1 hk⟩
theorem t1_eqs {X C B k x y z : Nat} (hX : Le 1040 X) (hC : Le 1014 C) (hB : Le 1014 B) (hk : Le 1025 k) (hx : Le 1057 x) (hy : Le 1057 y) (hz : Le 1057 z) : Ieee.double.mul C y = some (FM C y) ∧ Ieee.double.sub x (FM C y) = some (FS x (FM C y)) ∧ Ieee.double.mul B z = some (FM B z) ∧ Ieee.double.add (FS x (FM C y)) (FM B z) = some (FA (FS x (FM C y)) (FM B z)) ∧ Ieee.double.mul k (FA (FS x (FM C y)) (FM B z)) = some (FM k (FA (FS x (FM C y)) (FM B z))) ∧ Ieee.double.add X (FM k (FA (FS x (FM C y)) (FM B z))) = some (t1D k X C B x y z) ∧ Le 1067 (t1D k X C B x y z) := by
  obtain ⟨e1, l1⟩ := mq hC hy (by decide) (by decide) (by decide) (by decide) 1050 (by decide) (by decide) (by decide)
  obtain ⟨e2, l2⟩ := sq hx (l1.mono (show 1050 ≤ 1057 by decide)) (by decide) (by decide)
  obtain ⟨e3, l3⟩ := mq hB hz (by decide) (by decide) (by decide) (by decide) 1050 (by decide) (by decide) (by decide)
  obtain ⟨e4, l4⟩ := aq l2 (l3.mono (show 1050 ≤ 1059 by decide)) (by decide) (by decide)
  obtain ⟨e5, l5⟩ := mq hk l4 (by decide) (by decide) (by decide) (by decide) 1065 (by decide) (by decide) (by decide)
  obtain ⟨e6, l6⟩ := aq (hX.mono (show 1040 ≤ 1065 by decide)) l5 (by decide) (by decide)
  exact ⟨e1, e2, e3, e4, e5, e6, l6⟩
theorem t2_eqs {Y C A k x y z : Nat} (hY : Le 1040 Y) (hC : Le 1014 C) (hA : Le 1014 A) (hk : Le 1025 k) (hx : Le 1057 x) (hy : Le 1057 y) (hz : Le 1057 z) : Ieee.double.mul C x = some (FM C x) ∧ Ieee.double.add (FM C x) y = some (FA (FM C x) y) ∧ Ieee.double.mul A z = some (FM A z) ∧ Ieee.double.sub (FA (FM C x) y) (FM A z) = some (FS (FA (FM C x) y) (FM A z)) ∧ Ieee.double.mul k (FS (FA (FM C x) y) (FM A z)) = some (FM k (FS (FA (FM C x) y) (FM A z))) ∧ Ieee.double.add Y (FM k (FS (FA (FM C x) y) (FM A z))) = some (t2D k Y C A x y z) ∧ Le 1067 (t2D k Y C A x y z) := by
  obtain ⟨e1, l1⟩ := mq hC hx (by decide) (by decide) (by decide) (by decide) 1050 (by decide) (by decide) (by decide)
  obtain ⟨e2, l2⟩ := aq (l1.mono (show 1050 ≤ 1057 by decide)) hy (by decide) (by decide)
  obtain ⟨e3, l3⟩ := mq hA hz (by decide) (by decide) (by decide) (by decide) 1050 (by decide) (by decide) (by decide)
  obtain ⟨e4, l4⟩ := sq l2 (l3.mono (show 1050 ≤ 1059 by decide)) (by decide) (by decide)
  obtain ⟨e5, l5⟩ := mq hk l4 (by decide) (by decide) (by decide) (by decide) 1065 (by decide) (by decide) (by decide)
  obtain ⟨e6, l6⟩ := aq (hY.mono (show 1040 ≤ 1065 by decide)) l5 (by decide) (by decide)
  exact ⟨e1, e2, e3, e4, e5, e6, l6⟩
theorem t3_eqs {Z A B k x y z : Nat} (hZ : Le 1040 Z) (hA : Le 1014 A) (hB : Le 1014 B) (hk : Le 1025 k) (hx : Le 1057 x) (hy : Le 1057 y) (hz : Le 1057 z) : Ieee.double.mul A y = some (FM A y) ∧ Ieee.double.mul B x = some (FM B x) ∧ Ieee.double.sub (FM A y) (FM B x) = some (FS (FM A y) (FM B x)) ∧ Ieee.double.add (FS (FM A y) (FM B x)) z = some (FA (FS (FM A y) (FM B x)) z) ∧ Ieee.double.mul k (FA (FS (FM A y) (FM B x)) z) = some (FM k (FA (FS (FM A y) (FM B x)) z)) ∧ Ieee.double.add Z (FM k (FA (FS (FM A y) (FM B x)) z)) = some (t3D k Z A B x y z) ∧ Le 1067 (t3D k Z A B x y z) := by
  obtain ⟨e1, l1⟩ := mq hA hy (by decide) (by decide) (by decide) (by decide) 1050 (by decide) (by decide) (by decide)
  obtain ⟨e2, l2⟩ := mq hB hx (by decide) (by decide) (by decide) (by decide) 1050 (by decide) (by decide) (by decide)
  obtain ⟨e3, l3⟩ := sq (l1.mono (show 1050 ≤ 1057 by decide)) (l2.mono (show 1050 ≤ 1057 by decide)) (by decide) (by decide)
  obtain ⟨e4, l4⟩ := aq l3 (hz.mono (show 1057 ≤ 1059 by decide)) (by decide) (by decide)
  obtain ⟨e5, l5⟩ := mq hk l4 (by decide) (by decide) (by decide) (by decide) 1065 (by decide) (by decide) (by decide)
  obtain ⟨e6, l6⟩ := aq (hZ.mono (show 1040 ≤ 1065 by decide)) l5 (by decide) (by decide)
  exact ⟨e1, e2, e3, e4, e5, e6, l6⟩
set_option maxHeartbeats 1000000 in
theorem to_no (g : Nat → Addr) (X Y Z A B C S x y z : Nat) (h : okD X Y Z A B C S = false) (w : World) (hl : Laid w g) : Calls Tryd.prog 6 #[dV X Y Z A B C S, vV x y z] w fun e w' => e = .returned (.tuple #[vV 0 0 0, errV g 2]) ∧ Below w.heap.size w w' := by
  have HT := hid (fun w hl => takes_no g X Y Z A B C S x y z h w hl)
  go_enter Tryd.func6, Tryd.ntmps6
  go_wp2_with fail
  refine (HT.out _ (((hl.alloc _).alloc _).alloc _)).mono ?_
  rintro e w1 ⟨rfl, hB⟩
  have VV := (TF.init w X Y Z A B C S x y z 30 26 26).below hB
  have HC := bt ((((Below.refl _ _).alloc (Nat.le_refl _) _).alloc (by simp) _).alloc (by simp; omega) _) hB
  clear hB hl
  obtain ⟨d0, d1, d2, d3, d4, d5, d6, v0, v1, v2, r0, r1, r2, z0, z1, z2, lt⟩ := VV
  go_wp2
  exact bodyPost_ret (v := .tuple #[vV 0 0 0, errV g 2]) (by simp [results, Tryd.results6, go_sem, r0, r1, r2]) rfl ⟨rfl, ((HC.setCell (by simp; omega) _).setCell (by simp; omega) _).setCell (by simp; omega) _⟩
set_option maxHeartbeats 1000000 in
theorem to_far (g : Nat → Addr) (X Y Z A B C S x y z : Nat) (h : okD X Y Z A B C S = true) (hv : okV x y z = false) (w : World) (hl : Laid w g) : Calls Tryd.prog 6 #[dV X Y Z A B C S, vV x y z] w fun e w' => e = .returned (.tuple #[vV 0 0 0, errV g 3]) ∧ Below w.heap.size w w' := by
  have HT := hid (fun w hl => takes_far g X Y Z A B C S x y z h hv w hl)
  go_enter Tryd.func6, Tryd.ntmps6
  go_wp2_with fail
  refine (HT.out _ (((hl.alloc _).alloc _).alloc _)).mono ?_
  rintro e w1 ⟨rfl, hB⟩
  have VV := (TF.init w X Y Z A B C S x y z 30 26 26).below hB
  have HC := bt ((((Below.refl _ _).alloc (Nat.le_refl _) _).alloc (by simp) _).alloc (by simp; omega) _) hB
  clear hB hl
  obtain ⟨d0, d1, d2, d3, d4, d5, d6, v0, v1, v2, r0, r1, r2, z0, z1, z2, lt⟩ := VV
  go_wp2
  exact bodyPost_ret (v := .tuple #[vV 0 0 0, errV g 3]) (by simp [results, Tryd.results6, go_sem, r0, r1, r2]) rfl ⟨rfl, ((HC.setCell (by simp; omega) _).setCell (by simp; omega) _).setCell (by simp; omega) _⟩
set_option maxRecDepth 4000 in
set_option maxHeartbeats 4000000 in
theorem to_ok (g : Nat → Addr) (X Y Z A B C S x y z : Nat) (h : okD X Y Z A B C S = true) (hv : okV x y z = true) (q : DQ X Y Z A B C S x y z) (w : World) (hl : Laid w g) : Calls Tryd.prog 6 #[dV X Y Z A B C S, vV x y z] w fun e w' => e = .returned (.tuple #[.agg #[.float .f64 (uz (t1D (kD S) X C B x y z)), .float .f64 (uz (t2D (kD S) Y C A x y z)), .float .f64 (uz (t3D (kD S) Z A B x y z))], .nilIface]) ∧ Below w.heap.size w w' := by
  have HT := hid (fun w hl => takes_ok g X Y Z A B C S x y z h hv w hl)
  have HK := hid (fun w => longer_any X Y Z A B C S q.S w)
  have kl := (k_Q q.S).1.le
  obtain ⟨a1, a2, a3, a4, a5, a6, _⟩ := t1_eqs q.X.le q.C.le q.B.le kl q.x q.y q.z
  obtain ⟨b1, b2, b3, b4, b5, b6, _⟩ := t2_eqs q.Y.le q.C.le q.A.le kl q.x q.y q.z
  obtain ⟨c1, c2, c3, c4, c5, c6, _⟩ := t3_eqs q.Z.le q.A.le q.B.le kl q.x q.y q.z
  have e1 := fun w => hmul a1 w
  have e2 := fun w => hsub a2 w
  have e3 := fun w => hmul a3 w
  have e4 := fun w => hadd a4 w
  have e5 := fun w => hmul a5 w
  have e6 := fun w => hadd a6 w
  have f1 := fun w => hmul b1 w
  have f2 := fun w => hadd b2 w
  have f3 := fun w => hmul b3 w
  have f4 := fun w => hsub b4 w
  have f5 := fun w => hmul b5 w
  have f6 := fun w => hadd b6 w
  have g1 := fun w => hmul c1 w
  have g2 := fun w => hmul c2 w
  have g3 := fun w => hsub c3 w
  have g4 := fun w => hadd c4 w
  have g5 := fun w => hmul c5 w
  have g6 := fun w => hadd c6 w
  clear a1 a2 a3 a4 a5 a6 b1 b2 b3 b4 b5 b6 c1 c2 c3 c4 c5 c6 kl q h hv
  go_enter Tryd.func6, Tryd.ntmps6
  go_wp2_with fail
  refine (HT.out _ (((hl.alloc _).alloc _).alloc _)).mono ?_
  rintro e w1 ⟨rfl, hB⟩
  have VV := (TF.init w X Y Z A B C S x y z 30 26 26).below hB
  have HC := bt ((((Below.refl _ _).alloc (Nat.le_refl _) _).alloc (by simp) _).alloc (by simp; omega) _) hB
  clear hB hl HT
  obtain ⟨d0, d1, d2, d3, d4, d5, d6, v0, v1, v2, r0, r1, r2, z0, z1, z2, lt⟩ := VV
  go_wp2_with fail
  refine (HK.out _).mono ?_
  rintro e w2 ⟨rfl, hB⟩
  have VV := TF.below ⟨d0, d1, d2, d3, d4, d5, d6, v0, v1, v2, r0, r1, r2, z0, z1, z2, lt⟩ hB
  replace HC := bt HC hB
  clear hB d0 d1 d2 d3 d4 d5 d6 v0 v1 v2 r0 r1 r2 z0 z1 z2 lt
  obtain ⟨d0, d1, d2, d3, d4, d5, d6, v0, v1, v2, r0, r1, r2, z0, z1, z2, lt⟩ := VV
  go_wp2_with fail
  refine (unsigned_any _ _ _ _).mono ?_
  rintro e w3 ⟨rfl, hB⟩
  have VV := TF.below ⟨d0, d1, d2, d3, d4, d5, d6, v0, v1, v2, r0, r1, r2, z0, z1, z2, lt⟩ hB
  replace HC := bt HC hB
  clear hB d0 d1 d2 d3 d4 d5 d6 v0 v1 v2 r0 r1 r2 z0 z1 z2 lt
  obtain ⟨d0, d1, d2, d3, d4, d5, d6, v0, v1, v2, r0, r1, r2, z0, z1, z2, lt⟩ := VV
  go_wp2
  exact bodyPost_ret (v := .tuple #[.agg #[.float .f64 (uz (t1D (kD S) X C B x y z)), .float .f64 (uz (t2D (kD S) Y C A x y z)), .float .f64 (uz (t3D (kD S) Z A B x y z))], .nilIface]) (by simp [results, Tryd.results6, go_sem, r0, r1, r2]) rfl ⟨rfl, ((HC.setCell (by simp; omega) _).setCell (by simp; omega) _).setCell (by simp; omega) _⟩
end Go.Proofs.YtmiamfnnccjmeacDoor
