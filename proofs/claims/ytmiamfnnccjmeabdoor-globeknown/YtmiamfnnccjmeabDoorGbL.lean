/-
  The law GlobeKnown: its walk.
-/
import Derived.Test.YtmiamfnnccjmeabDoorGbX
namespace Go.Proofs.YtmiamfnnccjmeabDoor
open Go.RowKit FB
attribute [local go_sem] run_store_float

/-- Which of the names it is; 5: none. -/
def kI (s : ByteArray) : Nat := if (s.toList == [119, 103, 115, 56, 52]) = true then 0 else if (s.toList == [103, 114, 115, 56, 48]) = true then 1 else if (s.toList == [98, 101, 115, 115, 101, 108]) = true then 2 else if (s.toList == [97, 105, 114, 121]) = true then 3 else if (s.toList == [98, 97, 108, 108]) = true then 4 else 5
def kA (s : ByteArray) : Nat := [4708606483430899712, 4708606483430899712, 4708605689028379935, 4708605867528294498, 4708598820135501824, 0].getD (kI s) 0
def kF (s : ByteArray) : Nat := [4569877477558837545, 4569877477596733701, 4569854332699817238, 4569849899622835569, 0, 0].getD (kI s) 0
def kV (g : Nat → Addr) (s : ByteArray) : Value := if kI s = 5 then errV g 4 else .nilIface
def kC (s : ByteArray) : Int := if kI s = 5 then 5 else 0
theorem known_any (g : Nat → Addr) (s : ByteArray) (w : World) (hl : Laid w g) : Calls Tryd.prog 6 #[.string s] w fun e w' => e = .returned (.tuple #[.agg #[.float .f64 (kA s), .float .f64 (kF s)], kV g s]) ∧ Below w.heap.size w w' := by
  cases t0 : s.toList == [119, 103, 115, 56, 52] with
  | true =>
    have hk : kI s = 0 := by unfold kI; rw [if_pos t0]
    unfold kA kF kV; rw [hk]
    exact known_0 s t0 w
  | false =>
    cases t1 : s.toList == [103, 114, 115, 56, 48] with
    | true =>
      have hk : kI s = 1 := by unfold kI; rw [if_neg (by rw [t0]; simp), if_pos t1]
      unfold kA kF kV; rw [hk]
      exact known_1 s t0 t1 w
    | false =>
      cases t2 : s.toList == [98, 101, 115, 115, 101, 108] with
      | true =>
        have hk : kI s = 2 := by unfold kI; rw [if_neg (by rw [t0]; simp), if_neg (by rw [t1]; simp), if_pos t2]
        unfold kA kF kV; rw [hk]
        exact known_2 s t0 t1 t2 w
      | false =>
        cases t3 : s.toList == [97, 105, 114, 121] with
        | true =>
          have hk : kI s = 3 := by unfold kI; rw [if_neg (by rw [t0]; simp), if_neg (by rw [t1]; simp), if_neg (by rw [t2]; simp), if_pos t3]
          unfold kA kF kV; rw [hk]
          exact known_3 s t0 t1 t2 t3 w
        | false =>
          cases t4 : s.toList == [98, 97, 108, 108] with
          | true =>
            have hk : kI s = 4 := by unfold kI; rw [if_neg (by rw [t0]; simp), if_neg (by rw [t1]; simp), if_neg (by rw [t2]; simp), if_neg (by rw [t3]; simp), if_pos t4]
            unfold kA kF kV; rw [hk]
            exact known_4 s t0 t1 t2 t3 t4 w
          | false =>
            have hk : kI s = 5 := by unfold kI; rw [if_neg (by rw [t0]; simp), if_neg (by rw [t1]; simp), if_neg (by rw [t2]; simp), if_neg (by rw [t3]; simp), if_neg (by rw [t4]; simp)]
            unfold kA kF kV; rw [hk]
            exact known_no g s t0 t1 t2 t3 t4 w hl
theorem knownGlobe_any (s : ByteArray) (w : World) : Calls Tryd.prog 7 #[.string s] w fun e w' => e = .returned (.tuple #[.agg #[.float .f64 (kA s), .float .f64 (kF s)], .int .i64 (kC s)]) ∧ Below w.heap.size w w' := by
  cases t0 : s.toList == [119, 103, 115, 56, 52] with
  | true =>
    have hk : kI s = 0 := by unfold kI; rw [if_pos t0]
    unfold kA kF kC; rw [hk]
    exact knownGlobe_0 s t0 w
  | false =>
    cases t1 : s.toList == [103, 114, 115, 56, 48] with
    | true =>
      have hk : kI s = 1 := by unfold kI; rw [if_neg (by rw [t0]; simp), if_pos t1]
      unfold kA kF kC; rw [hk]
      exact knownGlobe_1 s t0 t1 w
    | false =>
      cases t2 : s.toList == [98, 101, 115, 115, 101, 108] with
      | true =>
        have hk : kI s = 2 := by unfold kI; rw [if_neg (by rw [t0]; simp), if_neg (by rw [t1]; simp), if_pos t2]
        unfold kA kF kC; rw [hk]
        exact knownGlobe_2 s t0 t1 t2 w
      | false =>
        cases t3 : s.toList == [97, 105, 114, 121] with
        | true =>
          have hk : kI s = 3 := by unfold kI; rw [if_neg (by rw [t0]; simp), if_neg (by rw [t1]; simp), if_neg (by rw [t2]; simp), if_pos t3]
          unfold kA kF kC; rw [hk]
          exact knownGlobe_3 s t0 t1 t2 t3 w
        | false =>
          cases t4 : s.toList == [98, 97, 108, 108] with
          | true =>
            have hk : kI s = 4 := by unfold kI; rw [if_neg (by rw [t0]; simp), if_neg (by rw [t1]; simp), if_neg (by rw [t2]; simp), if_neg (by rw [t3]; simp), if_pos t4]
            unfold kA kF kC; rw [hk]
            exact knownGlobe_4 s t0 t1 t2 t3 t4 w
          | false =>
            have hk : kI s = 5 := by unfold kI; rw [if_neg (by rw [t0]; simp), if_neg (by rw [t1]; simp), if_neg (by rw [t2]; simp), if_neg (by rw [t3]; simp), if_neg (by rw [t4]; simp)]
            unfold kA kF kC; rw [hk]
            exact knownGlobe_no s t0 t1 t2 t3 t4 w
theorem coded_known (g : Nat → Addr) (s : ByteArray) (w : World) (hl : Laid w g) : Calls Tryd.prog 8 #[kV g s, .int .i64 (kC s)] w fun e w' => e = .returned (.bool true) ∧ Below w.heap.size w w' := by
  unfold kV kC
  split
  · refine (coded_sent g 4 (by decide) 5 w hl).mono ?_
    rintro e w' ⟨rfl, hB⟩
    exact ⟨rfl, hB⟩
  · refine (coded_nil 0 w).mono ?_
    rintro e w' ⟨rfl, rfl⟩
    exact ⟨rfl, Below.refl _ _⟩
theorem kI_le (s : ByteArray) : kI s ≤ 5 := by unfold kI; (repeat' split) <;> decide
theorem kA_ord (s : ByteArray) : Ieee.double.order (kA s) (kA s) = some .eq ∧ Ieee.double.order (kF s) (kF s) = some .eq := by
  have h := kI_le s
  unfold kA kF
  generalize kI s = k at h
  match k, h with
  | 0, _ | 1, _ | 2, _ | 3, _ | 4, _ | 5, _ => exact ⟨by decide +kernel, by decide +kernel⟩
/-- A pair of words at a block that may be written. -/
structure Pair (W : World) (b x y : Nat) : Prop where
  c0 : W.cell? ⟨b, 0, none⟩ = some (.float .f64 x)
  c1 : W.cell? ⟨b, 1, none⟩ = some (.float .f64 y)
  f0 : W.frozen? ⟨b, 0, none⟩ = false
  f1 : W.frozen? ⟨b, 1, none⟩ = false
  lt : b < W.heap.size
theorem Pair.below {W w' : World} {b x y : Nat} (h : Pair W b x y) (hB : Below W.heap.size W w') : Pair w' b x y := by
  obtain ⟨h1, h2⟩ := bcell hB
  exact ⟨by rw [h1 _ _ h.lt]; exact h.c0, by rw [h1 _ _ h.lt]; exact h.c1, by rw [h2 _ _ h.lt]; exact h.f0, by rw [h2 _ _ h.lt]; exact h.f1, Nat.lt_of_lt_of_le h.lt hB.size⟩
theorem Pair.alloc {W : World} {b x y : Nat} (h : Pair W b x y) (o : Obj) : Pair (W.alloc o) b x y := h.below ((Below.refl _ _).alloc (Nat.le_refl _) o)
theorem Pair.drew {W : World} {b x y : Nat} (h : Pair W b x y) : Pair W.drew b x y := ⟨h.c0, h.c1, h.f0, h.f1, h.lt⟩
theorem Pair.new (W : World) (x y t : Nat) : Pair (W.alloc (.cells #[.float .f64 x, .float .f64 y] t)) W.heap.size x y := ⟨by simp [go_sem], by simp [go_sem], by simp [go_sem], by simp [go_sem], by simp⟩
theorem Pair.set {W : World} {b x y : Nat} (h : Pair W b x y) (u v : Nat) : Pair ((W.setCell ⟨b, 0, none⟩ (.float .f64 u)).setCell ⟨b, 1, none⟩ (.float .f64 v)) b u v :=
  ⟨by simp [go_sem, h.c0], by simp [go_sem, h.c1], by simp [go_sem, h.f0], by simp [go_sem, h.f1], by simpa using h.lt⟩
theorem Pair.other {W : World} {b x y : Nat} (h : Pair W b x y) {c : Nat} (hne : c ≠ b) (o : Nat) (v : Value) : Pair (W.setCell ⟨c, o, none⟩ v) b x y :=
  ⟨by simp [go_sem, h.c0], by simp [go_sem, h.c1], by simp [go_sem, h.f0], by simp [go_sem, h.f1], by simpa using h.lt⟩
end Go.Proofs.YtmiamfnnccjmeabDoor
