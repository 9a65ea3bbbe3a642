/-
  Datum.takes, Datum.To.
-/
import Derived.Test.YtmiamfnnccjmeacDoorDaB
namespace Go.Proofs.YtmiamfnnccjmeacDoor
open Go.RowKit FB
attribute [local go_sem] run_store_float

/-- What lies in memory while a datum turns a vector. -/
structure TF (W : World) (b X Y Z A B C S x y z : Nat) : Prop where
  d0 : W.cell? ⟨b, 0, none⟩ = some (.float .f64 X)
  d1 : W.cell? ⟨b, 1, none⟩ = some (.float .f64 Y)
  d2 : W.cell? ⟨b, 2, none⟩ = some (.float .f64 Z)
  d3 : W.cell? ⟨b, 3, none⟩ = some (.float .f64 A)
  d4 : W.cell? ⟨b, 4, none⟩ = some (.float .f64 B)
  d5 : W.cell? ⟨b, 5, none⟩ = some (.float .f64 C)
  d6 : W.cell? ⟨b, 6, none⟩ = some (.float .f64 S)
  v0 : W.cell? ⟨b + 1, 0, none⟩ = some (.float .f64 x)
  v1 : W.cell? ⟨b + 1, 1, none⟩ = some (.float .f64 y)
  v2 : W.cell? ⟨b + 1, 2, none⟩ = some (.float .f64 z)
  r0 : W.cell? ⟨b + 1 + 1, 0, none⟩ = some (.float .f64 0)
  r1 : W.cell? ⟨b + 1 + 1, 1, none⟩ = some (.float .f64 0)
  r2 : W.cell? ⟨b + 1 + 1, 2, none⟩ = some (.float .f64 0)
  z0 : W.frozen? ⟨b + 1 + 1, 0, none⟩ = false
  z1 : W.frozen? ⟨b + 1 + 1, 1, none⟩ = false
  z2 : W.frozen? ⟨b + 1 + 1, 2, none⟩ = false
  lt : b + 1 + 1 < W.heap.size
theorem TF.below {W w' : World} {b X Y Z A B C S x y z : Nat} (h : TF W b X Y Z A B C S x y z) (hB : Below W.heap.size W w') : TF w' b X Y Z A B C S x y z := by
  obtain ⟨c, q⟩ := bcell hB
  have hl := h.lt
  exact ⟨by rw [c _ _ (by omega)]; exact h.d0, by rw [c _ _ (by omega)]; exact h.d1, by rw [c _ _ (by omega)]; exact h.d2, by rw [c _ _ (by omega)]; exact h.d3, by rw [c _ _ (by omega)]; exact h.d4, by rw [c _ _ (by omega)]; exact h.d5, by rw [c _ _ (by omega)]; exact h.d6, by rw [c _ _ (by omega)]; exact h.v0, by rw [c _ _ (by omega)]; exact h.v1, by rw [c _ _ (by omega)]; exact h.v2, by rw [c _ _ (by omega)]; exact h.r0, by rw [c _ _ (by omega)]; exact h.r1, by rw [c _ _ (by omega)]; exact h.r2, by rw [q _ _ hl]; exact h.z0, by rw [q _ _ hl]; exact h.z1, by rw [q _ _ hl]; exact h.z2, Nat.lt_of_lt_of_le hl hB.size⟩
theorem TF.init (w : World) (X Y Z A B C S x y z t u v : Nat) : TF (((w.alloc (.cells #[.float .f64 X, .float .f64 Y, .float .f64 Z, .float .f64 A, .float .f64 B, .float .f64 C, .float .f64 S] t)).alloc (.cells #[.float .f64 x, .float .f64 y, .float .f64 z] u)).alloc (.cells #[.float .f64 0, .float .f64 0, .float .f64 0] v)) w.heap.size X Y Z A B C S x y z :=
  ⟨by simp [go_sem], by simp [go_sem], by simp [go_sem], by simp [go_sem], by simp [go_sem], by simp [go_sem], by simp [go_sem], by simp [go_sem], by simp [go_sem], by simp [go_sem], by simp [go_sem], by simp [go_sem], by simp [go_sem], by simp [go_sem], by simp [go_sem], by simp [go_sem], by simp⟩
set_option maxHeartbeats 1000000 in
theorem takes_no (g : Nat → Addr) (X Y Z A B C S x y z : Nat) (h : okD X Y Z A B C S = false) (w : World) (hl : Laid w g) : Calls Tryd.prog 26 #[dV X Y Z A B C S, vV x y z] w fun e w' => e = .returned (errV g 2) ∧ Below w.heap.size w w' := by
  have HV := hid (fun w hl => dvalid_any g X Y Z A B C S w hl)
  rw [show dcode X Y Z A B C S = 3 by unfold dcode; rw [h]; rfl] at HV
  go_enter Tryd.func26, Tryd.ntmps26
  go_wp2_with fail
  refine (HV.out _ ((hl.alloc _).alloc _)).mono ?_
  rintro e w1 ⟨he, hB⟩
  obtain rfl : e = .returned (errV g 2) := he
  have HC := bt (((Below.refl _ _).alloc (Nat.le_refl _) _).alloc (by simp) _) hB
  clear hB hl
  go_wp2
  go_ret
  exact ⟨rfl, HC⟩
set_option maxHeartbeats 1000000 in
theorem takes_far (g : Nat → Addr) (X Y Z A B C S x y z : Nat) (h : okD X Y Z A B C S = true) (hv : okV x y z = false) (w : World) (hl : Laid w g) : Calls Tryd.prog 26 #[dV X Y Z A B C S, vV x y z] w fun e w' => e = .returned (errV g 3) ∧ Below w.heap.size w w' := by
  have HV := hid (fun w hl => dvalid_any g X Y Z A B C S w hl)
  rw [show dcode X Y Z A B C S = 0 by unfold dcode; rw [h]; rfl] at HV
  unfold okV at hv
  go_enter Tryd.func26, Tryd.ntmps26
  go_wp2_with fail
  refine (HV.out _ ((hl.alloc _).alloc _)).mono ?_
  rintro e w1 ⟨he, hB⟩
  obtain rfl : e = .returned .nilIface := he
  have HC := bt (((Below.refl _ _).alloc (Nat.le_refl _) _).alloc (by simp) _) hB
  obtain ⟨hc, hf⟩ := bcell hB
  obtain ⟨c0, c1, c2⟩ : w1.cell? ⟨w.heap.size + 1, 0, none⟩ = some (.float .f64 x) ∧ w1.cell? ⟨w.heap.size + 1, 1, none⟩ = some (.float .f64 y) ∧ w1.cell? ⟨w.heap.size + 1, 2, none⟩ = some (.float .f64 z) := ⟨by rw [hc _ _ (by simp)]; simp [go_sem], by rw [hc _ _ (by simp)]; simp [go_sem], by rw [hc _ _ (by simp)]; simp [go_sem]⟩
  clear hB hc hf
  go_wp2_with fail
  refine (within3 _ _ _ x y z _ (by simp [go_sem]) (by simp [go_sem]) (by simp [go_sem])).mono ?_
  rintro e w2 ⟨rfl, hw2⟩
  replace HC : Below w.heap.size w w2 := by rw [hw2]; exact HC.alloc HC.size _
  have cg : w2.cell? ⟨2, 0, none⟩ = some (.iface 159 (.pointer (some (g 3)))) := (hl.below HC).cell 3 (by decide)
  clear hw2 hl
  go_wp2
  go_ret
  exact ⟨rfl, HC⟩
set_option maxHeartbeats 1000000 in
theorem takes_ok (g : Nat → Addr) (X Y Z A B C S x y z : Nat) (h : okD X Y Z A B C S = true) (hv : okV x y z = true) (w : World) (hl : Laid w g) : Calls Tryd.prog 26 #[dV X Y Z A B C S, vV x y z] w fun e w' => e = .returned .nilIface ∧ Below w.heap.size w w' := by
  have HV := hid (fun w hl => dvalid_any g X Y Z A B C S w hl)
  rw [show dcode X Y Z A B C S = 0 by unfold dcode; rw [h]; rfl] at HV
  unfold okV at hv
  go_enter Tryd.func26, Tryd.ntmps26
  go_wp2_with fail
  refine (HV.out _ ((hl.alloc _).alloc _)).mono ?_
  rintro e w1 ⟨he, hB⟩
  obtain rfl : e = .returned .nilIface := he
  have HC := bt (((Below.refl _ _).alloc (Nat.le_refl _) _).alloc (by simp) _) hB
  obtain ⟨hc, hf⟩ := bcell hB
  obtain ⟨c0, c1, c2⟩ : w1.cell? ⟨w.heap.size + 1, 0, none⟩ = some (.float .f64 x) ∧ w1.cell? ⟨w.heap.size + 1, 1, none⟩ = some (.float .f64 y) ∧ w1.cell? ⟨w.heap.size + 1, 2, none⟩ = some (.float .f64 z) := ⟨by rw [hc _ _ (by simp)]; simp [go_sem], by rw [hc _ _ (by simp)]; simp [go_sem], by rw [hc _ _ (by simp)]; simp [go_sem]⟩
  clear hB hc hf
  go_wp2_with fail
  refine (within3 _ _ _ x y z _ (by simp [go_sem]) (by simp [go_sem]) (by simp [go_sem])).mono ?_
  rintro e w2 ⟨rfl, hw2⟩
  replace HC : Below w.heap.size w w2 := by rw [hw2]; exact HC.alloc HC.size _
  clear hw2 hl
  go_wp2
  go_ret
  exact ⟨rfl, HC⟩
end Go.Proofs.YtmiamfnnccjmeacDoor
