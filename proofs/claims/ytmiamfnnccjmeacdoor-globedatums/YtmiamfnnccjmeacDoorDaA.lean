/-
  Datums: which are valid; what they can turn; how many times as long.
-/
import Derived.Test.YtmiamfnnccjmeacDoorWth
import Derived.Test.YtmiamfnnccjmeacDoorSpanK
import Derived.Test.YtmiamfnnccjmeacDoorDatT
import Derived.Deep.RegionHeld
namespace Go.Proofs.YtmiamfnnccjmeacDoor
open Go.RowKit FB
attribute [local go_sem] run_store_float

/-- An error of errors.New's make. -/
abbrev errV (a : Nat → Addr) (i : Nat) : Value := .iface 159 (.pointer (some (a i)))
theorem within1 (lo hi b x : Nat) (w : World) (hw : w.cell? ⟨b, 0, none⟩ = some (.float .f64 x)) : Calls Tryd.prog 32 #[.float .f64 lo, .float .f64 hi, .slice (some ⟨b, 0, none⟩) 1 1] w fun e w' => e = .returned (.bool (inB lo hi x)) ∧ w' = w := by
  have := within_any lo hi b [x] (by simp) w (by intro i hi; obtain rfl : i = 0 := by simp at hi; omega
                                                 exact hw)
  simpa using this
/-- Three numbers within bounds. -/
def in3 (lo hi x y z : Nat) : Bool := inB lo hi x && (inB lo hi y && inB lo hi z)
theorem within3 (lo hi b x y z : Nat) (w : World) (h0 : w.cell? ⟨b, 0, none⟩ = some (.float .f64 x)) (h1 : w.cell? ⟨b, 1, none⟩ = some (.float .f64 y)) (h2 : w.cell? ⟨b, 2, none⟩ = some (.float .f64 z)) : Calls Tryd.prog 32 #[.float .f64 lo, .float .f64 hi, .slice (some ⟨b, 0, none⟩) 3 3] w fun e w' => e = .returned (.bool (in3 lo hi x y z)) ∧ w' = w := by
  have := within_any lo hi b [x, y, z] (by simp) w (by
    intro i hi
    rcases i with _ | _ | _ | i
    · exact h0
    · exact h1
    · exact h2
    · exfalso; simp at hi; omega)
  simpa [in3] using this
def okX (X Y Z : Nat) : Bool := in3 13904980397738950656 4681608360884174848 X Y Z
def okA (A B C : Nat) : Bool := in3 13785626545772145148 4562254508917369340 A B C
def okS (S : Nat) : Bool := inB 13875379345695965184 4652007308841189376 S
/-- A vector that can be turned. -/
def okV (x y z : Nat) : Bool := in3 13979912523730649088 4756540486875873280 x y z
def okD (X Y Z A B C S : Nat) : Bool := okX X Y Z && (okA A B C && okS S)
/-- A datum as a value. -/
abbrev dV (X Y Z A B C S : Nat) : Value := .agg #[.float .f64 X, .float .f64 Y, .float .f64 Z, .float .f64 A, .float .f64 B, .float .f64 C, .float .f64 S]
abbrev vV (x y z : Nat) : Value := .agg #[.float .f64 x, .float .f64 y, .float .f64 z]
theorem datum_any (X Y Z A B C S : Nat) (w : World) : Calls Tryd.prog 7 #[dV X Y Z A B C S] w fun e w' => e = .returned (dV X Y Z A B C S) ∧ Below w.heap.size w w' ∧ w.heap.size < w'.heap.size := by
  go_enter Tryd.func7, Tryd.ntmps7
  go_wp2
  exact bodyPost_ret (v := dV X Y Z A B C S) (by simp [results, Tryd.results7, go_sem]) rfl ⟨rfl, ((Below.refl _ _).alloc (Nat.le_refl _) _).alloc (by simp) _, by simp; omega⟩
set_option maxHeartbeats 1000000 in
theorem dvalid_no1 (g : Nat → Addr) (X Y Z A B C S : Nat) (h1 : okX X Y Z = false) (w : World) (hl : Laid w g) : Calls Tryd.prog 11 #[dV X Y Z A B C S] w fun e w' => e = .returned (errV g 2) ∧ Below w.heap.size w w' := by
  unfold okX at h1
  go_enter Tryd.func11, Tryd.ntmps11
  go_wp2_with fail
  refine (within3 _ _ _ X Y Z _ (by simp [go_sem]) (by simp [go_sem]) (by simp [go_sem])).mono ?_
  rintro e w1 ⟨rfl, hw1⟩
  have cg : w1.cell? ⟨0, 0, none⟩ = some (.iface 159 (.pointer (some (g 2)))) := by rw [hw1]; exact ((hl.alloc _).alloc _).cell 2 (by decide)
  have hB : Below w.heap.size w w1 := by rw [hw1]; exact ((Below.refl _ _).alloc (Nat.le_refl _) _).alloc (by simp) _
  clear hw1 hl
  go_wp2
  go_ret
  exact ⟨rfl, hB⟩
set_option maxHeartbeats 1000000 in
theorem dvalid_no2 (g : Nat → Addr) (X Y Z A B C S : Nat) (h1 : okX X Y Z = true) (h2 : okA A B C = false) (w : World) (hl : Laid w g) : Calls Tryd.prog 11 #[dV X Y Z A B C S] w fun e w' => e = .returned (errV g 2) ∧ Below w.heap.size w w' := by
  unfold okX at h1
  unfold okA at h2
  go_enter Tryd.func11, Tryd.ntmps11
  go_wp2_with fail
  refine (within3 _ _ _ X Y Z _ (by simp [go_sem]) (by simp [go_sem]) (by simp [go_sem])).mono ?_
  rintro e w1 ⟨rfl, rfl⟩
  go_wp2_with fail
  refine (within3 _ _ _ A B C _ (by simp [go_sem]) (by simp [go_sem]) (by simp [go_sem])).mono ?_
  rintro e w1 ⟨rfl, hw1⟩
  have cg : w1.cell? ⟨0, 0, none⟩ = some (.iface 159 (.pointer (some (g 2)))) := by rw [hw1]; exact (((hl.alloc _).alloc _).alloc _).cell 2 (by decide)
  have hB : Below w.heap.size w w1 := by rw [hw1]; exact (((Below.refl _ _).alloc (Nat.le_refl _) _).alloc (by simp) _).alloc (by simp; omega) _
  clear hw1 hl
  go_wp2
  go_ret
  exact ⟨rfl, hB⟩
set_option maxHeartbeats 1000000 in
theorem dvalid_no3 (g : Nat → Addr) (X Y Z A B C S : Nat) (h1 : okX X Y Z = true) (h2 : okA A B C = true) (h3 : okS S = false) (w : World) (hl : Laid w g) : Calls Tryd.prog 11 #[dV X Y Z A B C S] w fun e w' => e = .returned (errV g 2) ∧ Below w.heap.size w w' := by
  unfold okX at h1
  unfold okA at h2
  unfold okS at h3
  go_enter Tryd.func11, Tryd.ntmps11
  go_wp2_with fail
  refine (within3 _ _ _ X Y Z _ (by simp [go_sem]) (by simp [go_sem]) (by simp [go_sem])).mono ?_
  rintro e w1 ⟨rfl, rfl⟩
  go_wp2_with fail
  refine (within3 _ _ _ A B C _ (by simp [go_sem]) (by simp [go_sem]) (by simp [go_sem])).mono ?_
  rintro e w1 ⟨rfl, rfl⟩
  go_wp2_with fail
  refine (within1 _ _ _ S _ (by simp [go_sem])).mono ?_
  rintro e w1 ⟨rfl, hw1⟩
  have cg : w1.cell? ⟨0, 0, none⟩ = some (.iface 159 (.pointer (some (g 2)))) := by rw [hw1]; exact ((((hl.alloc _).alloc _).alloc _).alloc _).cell 2 (by decide)
  have hB : Below w.heap.size w w1 := by rw [hw1]; exact ((((Below.refl _ _).alloc (Nat.le_refl _) _).alloc (by simp) _).alloc (by simp; omega) _).alloc (by simp; omega) _
  clear hw1 hl
  go_wp2
  go_ret
  exact ⟨rfl, hB⟩
set_option maxHeartbeats 1000000 in
theorem dvalid_yes (X Y Z A B C S : Nat) (h1 : okX X Y Z = true) (h2 : okA A B C = true) (h3 : okS S = true) (w : World) : Calls Tryd.prog 11 #[dV X Y Z A B C S] w fun e w' => e = .returned .nilIface ∧ Below w.heap.size w w' := by
  unfold okX at h1
  unfold okA at h2
  unfold okS at h3
  go_enter Tryd.func11, Tryd.ntmps11
  go_wp2_with fail
  refine (within3 _ _ _ X Y Z _ (by simp [go_sem]) (by simp [go_sem]) (by simp [go_sem])).mono ?_
  rintro e w1 ⟨rfl, rfl⟩
  go_wp2_with fail
  refine (within3 _ _ _ A B C _ (by simp [go_sem]) (by simp [go_sem]) (by simp [go_sem])).mono ?_
  rintro e w1 ⟨rfl, rfl⟩
  go_wp2_with fail
  refine (within1 _ _ _ S _ (by simp [go_sem])).mono ?_
  rintro e w1 ⟨rfl, hw1⟩
  have hB : Below w.heap.size w w1 := by rw [hw1]; exact ((((Below.refl _ _).alloc (Nat.le_refl _) _).alloc (by simp) _).alloc (by simp; omega) _).alloc (by simp; omega) _
  clear hw1
  go_wp2
  go_ret
  exact ⟨rfl, hB⟩
/-- The error of a number: nil, of the shape, of the range. -/
def evOf (g : Nat → Addr) (c : Nat) : Value := if c = 0 then .nilIface else errV g (c - 1)
def dcode (X Y Z A B C S : Nat) : Nat := if okD X Y Z A B C S = true then 0 else 3
theorem dvalid_any (g : Nat → Addr) (X Y Z A B C S : Nat) (w : World) (hl : Laid w g) : Calls Tryd.prog 11 #[dV X Y Z A B C S] w fun e w' => e = .returned (evOf g (dcode X Y Z A B C S)) ∧ Below w.heap.size w w' := by
  unfold dcode okD
  cases h1 : okX X Y Z with
  | false => exact dvalid_no1 g X Y Z A B C S h1 w hl
  | true =>
    cases h2 : okA A B C with
    | false => exact dvalid_no2 g X Y Z A B C S h1 h2 w hl
    | true =>
      cases h3 : okS S with
      | false => exact dvalid_no3 g X Y Z A B C S h1 h2 h3 w hl
      | true => exact dvalid_yes X Y Z A B C S h1 h2 h3 w
end Go.Proofs.YtmiamfnnccjmeacDoor
