/-
  Heights in memory; fractions that a call writes.
-/
import Derived.Test.YtecmkjefoppbiaaDoorQSwC
namespace Go.Proofs.YtecmkjefoppbiaaDoor
open Go.RowKit

/-- Heights: numbers over one number. -/
structure LV (W : World) (HB n : Nat) (ms : Nat → Bool) (us : Nat → Value) (H : Nat → Int) (mo : Bool) (vo : Value) (ov : Int) : Prop where
  c : ∀ j, j < n → W.cell? ⟨HB, j * 2, none⟩ = some (.bool (ms j)) ∧ W.cell? ⟨HB, j * 2 + 1, none⟩ = some (us j)
  lt : HB < W.heap.size
  z : ∀ j, j < n → Nm W (ms j) (us j) (H j)
  o : Nm W mo vo ov
theorem LV.below {W w' : World} {HB n : Nat} {ms : Nat → Bool} {us : Nat → Value} {H : Nat → Int} {mo : Bool} {vo : Value} {ov : Int} (h : LV W HB n ms us H mo vo ov) (hB : Below W.heap.size W w') : LV w' HB n ms us H mo vo ov :=
  ⟨fun j hj => ⟨(hB.cell (p := ⟨HB, j * 2, none⟩) h.lt).trans (h.c j hj).1, (hB.cell (p := ⟨HB, j * 2 + 1, none⟩) h.lt).trans (h.c j hj).2⟩, Nat.lt_of_lt_of_le h.lt hB.size, fun j hj => (h.z j hj).below hB, h.o.below hB⟩
theorem infoFr : (Tryd.prog.info? 50).map (fun i => (i.zero, i.size, i.bytes)) = some (some (.agg #[.int .i64 0, .int .i64 0]), 2, 16) := by kernel_rfl
theorem undFr : Tryd.prog.underlying 44 = some (.slice 50) := by kernel_rfl
theorem made_runFr (K : Nat) (hK : K ≤ 2000) : ∃ CS : Array Value, CS.toList = ir (List.replicate (2 * K) 0) ∧ ∀ w, (Instr.makeSlice 44 (.int .i64 (K : Int)) (.int .i64 (K : Int))).run Tryd.prog w = .ok (.slice (some ⟨w.heap.size, 0, none⟩) K K) (w.alloc (.cells CS 50)) := by
  obtain ⟨i0, hi, hz0, hz1, hz2⟩ := info_parts infoFr
  refine ⟨madeCells #[.int .i64 0, .int .i64 0] (K * 2), ?_, fun w => ?_⟩
  · apply List.ext_getElem
    · simp [madeCells]; omega
    · intro j h1 h2
      have hj : j % 2 = 0 ∨ j % 2 = 1 := by omega
      rcases hj with e | e <;> simp [madeCells, e]
  · have := run_makeSlice (P := Tryd.prog) w 44 50 i0 (.agg #[.int .i64 0, .int .i64 0]) undFr hi hz0 .i64 .i64 (K : Int) (K : Int) (by omega) (Int.le_refl _) (by rw [hz1]; omega) (by rw [hz2]; omega) (by omega)
    rw [hz1, Int.toNat_natCast] at this
    exact this
theorem frindex (b n cap k : Nat) (hk : k < n) (w : World) : (Instr.indexAt 44 (.slice (some ⟨b, 0, none⟩) n cap) (.int .i64 k)).run Tryd.prog w = .ok (.pointer (some ⟨b, k * 2, none⟩)) w := by
  have hu : Tryd.prog.underlying 44 = some (.slice (Tryd.prog.elem 44)) := by kernel_rfl
  refine (run_indexAt_slice (P := Tryd.prog) (w := w) 44 ⟨b, 0, none⟩ n cap .i64 (k : Int) hu).trans ?_
  rw [if_pos ⟨by omega, by omega⟩]
  have hs : (sizeOf (Tryd.prog.elem 44)).run Tryd.prog w = .ok 2 w := by kernel_rfl
  rw [hs]
  simp [Addr.add]
  intro h; omega
/-- Pairs of whole numbers that lie in a block. -/
structure FB2 (W : World) (B n : Nat) (c : Nat → Int × Int) : Prop where
  cl : ∀ i, i < n → (W.cell? ⟨B, i * 2, none⟩ = some (.int .i64 (c i).1) ∧ W.cell? ⟨B, i * 2 + 1, none⟩ = some (.int .i64 (c i).2)) ∧ W.frozen? ⟨B, i * 2, none⟩ = false ∧ W.frozen? ⟨B, i * 2 + 1, none⟩ = false
  lt : B < W.heap.size
theorem FB2.of {W : World} {B n : Nat} (h : At W B (ir (List.replicate (2 * n) 0))) : FB2 W B n (fun _ => (0, 0)) := by
  refine ⟨fun i hi => ?_, h.2⟩
  have h1 := h.1 (i * 2) (by simp [ir]; omega)
  have h2 := h.1 (i * 2 + 1) (by simp [ir]; omega)
  simp [ir] at h1 h2
  exact ⟨⟨h1.1, h2.1⟩, h1.2, h2.2⟩
theorem FB2.drew {W : World} {B n : Nat} {c : Nat → Int × Int} (h : FB2 W B n c) : FB2 W.drew B n c := ⟨h.cl, h.lt⟩
theorem FB2.below {W w' : World} {B n : Nat} {c : Nat → Int × Int} (h : FB2 W B n c) (hB : Below W.heap.size W w') : FB2 w' B n c :=
  ⟨fun i hi => by
    obtain ⟨⟨a1, a2⟩, a3, a4⟩ := h.cl i hi
    exact ⟨⟨(hB.cell (p := ⟨B, i * 2, none⟩) h.lt).trans a1, (hB.cell (p := ⟨B, i * 2 + 1, none⟩) h.lt).trans a2⟩, (hB.frozen (p := ⟨B, i * 2, none⟩) h.lt).trans a3, (hB.frozen (p := ⟨B, i * 2 + 1, none⟩) h.lt).trans a4⟩, Nat.lt_of_lt_of_le h.lt hB.size⟩
theorem FB2.put {W : World} {B n : Nat} {c : Nat → Int × Int} (h : FB2 W B n c) {k : Nat} (hk : k < n) (x : Int × Int) : FB2 ((W.setCell ⟨B, k * 2, none⟩ (.int .i64 x.1)).setCell ⟨B, k * 2 + 1, none⟩ (.int .i64 x.2)) B n (fun i => if i = k then x else c i) := by
  refine ⟨fun i hi => ?_, by simp; exact h.lt⟩
  obtain ⟨⟨h1, h2⟩, h3, h4⟩ := h.cl i hi
  obtain ⟨⟨k1, k2⟩, k3, k4⟩ := h.cl k hk
  by_cases e : i = k
  · subst e
    simp [go_sem, h1, h2, h3, h4]
  · have n1 : ¬ k * 2 = i * 2 := by omega
    have n2 : ¬ k * 2 + 1 = i * 2 := by omega
    have n3 : ¬ k * 2 = i * 2 + 1 := by omega
    have n4 : ¬ k = i := fun q => e q.symm
    simp [go_sem, h1, h2, h3, h4, e]
end Go.Proofs.YtecmkjefoppbiaaDoor
