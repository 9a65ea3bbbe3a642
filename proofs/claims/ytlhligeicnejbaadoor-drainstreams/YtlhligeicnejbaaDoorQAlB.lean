/-
  mercatorref4.lower, Wet: where a height is told as a whole number: what is wet is joined by cells that are not above it.
-/
import Derived.Test.YtlhligeicnejbaaDoorQJ13
import Derived.Test.YtlhligeicnejbaaDoorQDrT
import Derived.Test.YtlhligeicnejbaaDoorQJ12
namespace Go.Proofs.YtlhligeicnejbaaDoor
open Go.RowKit
attribute [local go_sem ↓] Go.wp_at_zero Go.wp_at_succ

abbrev br (l : List Bool) : List Value := l.map Value.bool
def glb (l : List Bool) (i : Nat) : Bool := l.getD i false
theorem glb_get {l : List Bool} {i : Nat} (h : i < l.length) : l[i] = glb l i := by unfold glb; simp [h]
theorem infoB : (Tryd.prog.info? 4).map (fun i => (i.zero, i.size, i.bytes)) = some (some (.bool false), 1, 1) := by kernel_rfl
theorem undB : Tryd.prog.underlying 40 = some (.slice 4) := by kernel_rfl
theorem made_runB (K : Nat) (hK : K ≤ 20000) : ∃ CS : Array Value, CS.toList = br (List.replicate K false) ∧ ∀ w, (Instr.makeSlice 40 (.int .i64 (K : Int)) (.int .i64 (K : Int))).run Tryd.prog w = .ok (.slice (some ⟨w.heap.size, 0, none⟩) K K) (w.alloc (.cells CS 4)) := by
  obtain ⟨i0, hi, hz0, hz1, hz2⟩ := info_parts infoB
  refine ⟨madeCells #[Value.bool false] K, by rw [toList_madeCells_one]; simp [br], fun w => ?_⟩
  have := run_makeSlice (P := Tryd.prog) w 40 4 i0 (.bool false) undB hi hz0 .i64 .i64 (K : Int) (K : Int) (by omega) (Int.le_refl _) (by rw [hz1]; omega) (by rw [hz2]; omega) (by omega)
  rw [hz1, Int.toNat_natCast, Nat.mul_one] at this
  exact this
theorem bindex (b n cap k : Nat) (hk : k < n) (w : World) : (Instr.indexAt 40 (.slice (some ⟨b, 0, none⟩) n cap) (.int .i64 k)).run Tryd.prog w = .ok (.pointer (some ⟨b, k, none⟩)) w := by
  have hu : Tryd.prog.underlying 40 = some (.slice (Tryd.prog.elem 40)) := by kernel_rfl
  refine (run_indexAt_slice (P := Tryd.prog) (w := w) 40 ⟨b, 0, none⟩ n cap .i64 (k : Int) hu).trans ?_
  rw [if_pos ⟨by omega, by omega⟩]
  have hs : (sizeOf (Tryd.prog.elem 40)).run Tryd.prog w = .ok 1 w := by kernel_rfl
  rw [hs]
  simp [Addr.add]
  intro h; omega
theorem At.getb {W : World} {B : Nat} {L : List Bool} (h : At W B (br L)) {j : Nat} (hj : j < L.length) : W.cell? ⟨B, j, none⟩ = some (.bool (glb L j)) ∧ W.frozen? ⟨B, j, none⟩ = false := by
  have := h.1 j (by simpa [br] using hj)
  rw [← glb_get hj]
  simpa [br] using this
theorem br_set (L : List Bool) (i : Nat) (x : Bool) : (br L).set i (.bool x) = br (L.set i x) := by simp [br]
/-- How many are not wet. -/
def cf : List Bool → Nat
  | [] => 0
  | b :: l => cf l + if b then 0 else 1
theorem cf_set : ∀ {l : List Bool} {i : Nat}, i < l.length → glb l i = false → cf (l.set i true) + 1 = cf l
  | b :: l, 0, _, h => by
    have : b = false := h
    subst this
    show cf l + 0 + 1 = cf l + 1
    omega
  | b :: l, i + 1, hi, h => by
    have ih := cf_set (l := l) (i := i) (by simp at hi; omega) h
    show cf (l.set i true) + (if b then 0 else 1) + 1 = cf l + (if b then 0 else 1)
    omega
theorem glb_set {L : List Bool} {i : Nat} (h : i < L.length) (x : Bool) (k : Nat) : glb (L.set i x) k = if k = i then x else glb L k := by
  unfold glb
  by_cases e : k = i
  · subst e; simp [h]
  · rw [if_neg e]
    simp [List.getElem?_set_ne (Ne.symm e)]
/-- What lies in memory, and what is wet so far. -/
structure WS (m n : Nat) (l : List Int) (num : Int) (c : Nat) (w W : World) (B : Nat) (L : List Bool) : Prop where
  d : At W B (br L)
  gr : Gr w W
  b : w.heap.size ≤ B
  len : L.length = l.length
  ok : ∀ k, glb L k = true → Rch m l num c k
section
variable {m n : Nat} {l : List Int} {num : Int} {c : Nat} {w W : World} {B : Nat} {L : List Bool}
theorem WS.below {w' : World} (h : WS m n l num c w W B L) (hB : Below W.heap.size W w') : WS m n l num c w w' B L := ⟨At.below hB h.d, Gr.step h.gr hB, h.b, h.len, h.ok⟩
theorem WS.put (h : WS m n l num c w W B L) {i : Nat} (hi : i < l.length) (hr : Rch m l num c i) : WS m n l num c w (W.setCell ⟨B, i, none⟩ (.bool true)) B (L.set i true) := by
  refine ⟨?_, h.gr.set h.b _ _, h.b, by rw [List.length_set]; exact h.len, fun k hk => ?_⟩
  · rw [← br_set]; exact h.d.put i _
  · rw [glb_set (by rw [h.len]; exact hi)] at hk
    by_cases e : k = i
    · rw [e]; exact hr
    · rw [if_neg e] at hk; exact h.ok k hk
end
end Go.Proofs.YtlhligeicnejbaaDoor
