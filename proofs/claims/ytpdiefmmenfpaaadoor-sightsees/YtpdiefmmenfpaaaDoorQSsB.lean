/-
  Rows of fractions that are written in place; the ones that are told twice left out.
-/
import Derived.Test.YtpdiefmmenfpaaaDoorQJ7
import Derived.Test.YtpdiefmmenfpaaaDoorQJ6
import Derived.Lib.SliceRun
namespace Go.Proofs.YtpdiefmmenfpaaaDoor
open Go.RowKit

theorem undF : Tryd.prog.underlying 36 = some (.slice 28) := by kernel_rfl
theorem zeroF (w : World) : (zeroValue 28).run Tryd.prog w = .ok (.agg #[.int .i64 0, .int .i64 0]) w := by kernel_rfl
theorem findex (g o n cap k : Nat) (hk : k < n) (w : World) : (Instr.indexAt 36 (.slice (some ⟨g, o, none⟩) n cap) (.int .i64 k)).run Tryd.prog w = .ok (.pointer (some ⟨g, o + k * 2, none⟩)) w := by
  have hu : Tryd.prog.underlying 36 = some (.slice (Tryd.prog.elem 36)) := by kernel_rfl
  refine (run_indexAt_slice (P := Tryd.prog) (w := w) 36 ⟨g, o, none⟩ n cap .i64 (k : Int) hu).trans ?_
  rw [if_pos ⟨by omega, by omega⟩]
  have hs : (sizeOf (Tryd.prog.elem 36)).run Tryd.prog w = .ok 2 w := by kernel_rfl
  rw [hs]
  simp [Addr.add]
theorem fslice (b M cap i : Nat) (hi : i < M) (hc : M ≤ cap) (w : World) : (Instr.slice 36 (.slice (some ⟨b, 0, none⟩) M cap) (some (.int .i64 (i : Int))) none none).run Tryd.prog w = .ok (.slice (some ⟨b, i * 2, none⟩) (M - i) (cap - i)) w := by
  have hu : Tryd.prog.underlying 36 = some (.slice (Tryd.prog.elem 36)) := by kernel_rfl
  have hs : (sizeOf (Tryd.prog.elem 36)).run Tryd.prog w = .ok 2 w := by kernel_rfl
  rw [run_slice_l w 36 _ _ _ hu .i64 _ (by omega) (by omega), hs]
  have hne : ¬ cap = i := by omega
  by_cases h0 : i = 0
  · subst h0
    simp [Result.andThen, sliced, Addr.add, hne]
  · have h9 : ¬ i * 2 = 0 := by omega
    simp [Result.andThen, sliced, Addr.add, hne, h9]
theorem fsliceh (b M cap i : Nat) (hi : i ≤ M) (hc : M ≤ cap) (h0 : 0 < cap) (w : World) : (Instr.slice 36 (.slice (some ⟨b, 0, none⟩) M cap) none (some (.int .i64 (i : Int))) none).run Tryd.prog w = .ok (.slice (some ⟨b, 0, none⟩) i cap) w := by
  have hu : Tryd.prog.underlying 36 = some (.slice (Tryd.prog.elem 36)) := by kernel_rfl
  have hs : (sizeOf (Tryd.prog.elem 36)).run Tryd.prog w = .ok 2 w := by kernel_rfl
  rw [run_slice_h w 36 _ _ _ hu .i64 _ (by omega) (by omega), hs]
  have hne : ¬ cap = 0 := by omega
  simp [Result.andThen, sliced, Addr.add, hne]
/-- Pairs of whole numbers that lie in a block. -/
structure FB2 (W : World) (B n : Nat) (c : Nat → Int × Int) : Prop where
  cl : ∀ i, i < n → (W.cell? ⟨B, i * 2, none⟩ = some (.int .i64 (c i).1) ∧ W.cell? ⟨B, i * 2 + 1, none⟩ = some (.int .i64 (c i).2)) ∧ W.frozen? ⟨B, i * 2, none⟩ = false ∧ W.frozen? ⟨B, i * 2 + 1, none⟩ = false
  lt : B < W.heap.size
theorem FB2.drewN {W : World} {B n : Nat} {c : Nat → Int × Int} (h : FB2 W B n c) (k : Nat) : FB2 (W.drewN k) B n c := ⟨h.cl, h.lt⟩
theorem FB2.put {W : World} {B n : Nat} {c : Nat → Int × Int} (h : FB2 W B n c) {k : Nat} (hk : k < n) (x : Int × Int) : FB2 ((W.setCell ⟨B, k * 2, none⟩ (.int .i64 x.1)).setCell ⟨B, k * 2 + 1, none⟩ (.int .i64 x.2)) B n (fun i => if i = k then x else c i) := by
  refine ⟨fun i hi => ?_, by simp; exact h.lt⟩
  obtain ⟨⟨h1, h2⟩, h3, h4⟩ := h.cl i hi
  obtain ⟨⟨k1, k2⟩, k3, k4⟩ := h.cl k hk
  by_cases e : i = k
  · subst e
    have n1 : ¬ i * 2 + 1 = i * 2 := by omega
    have n2 : ¬ i * 2 = i * 2 + 1 := by omega
    rw [if_pos rfl]
    refine ⟨⟨?_, ?_⟩, ?_, ?_⟩
    · simp [go_sem, h1]
    · simp [go_sem, h2]
    · simp [go_sem, h3]
    · simp [go_sem, h4]
  · have n1 : ¬ i * 2 = k * 2 := by omega
    have n2 : ¬ i * 2 = k * 2 + 1 := by omega
    have n3 : ¬ i * 2 + 1 = k * 2 := by omega
    have n4 : ¬ i = k := e
    rw [if_neg e]
    refine ⟨⟨?_, ?_⟩, ?_, ?_⟩
    · simp [go_sem, h1]
    · simp [go_sem, h2]
    · simp [go_sem, h3]
    · simp [go_sem, h4]
/-- Those of the first m that are not as the one ahead of them. -/
def dfK (c : Nat → Int × Int) (m : Nat) : List (Int × Int) := ((List.range m).filter fun i => decide (i = 0 ∨ c i ≠ c (i - 1))).map c
theorem dfK_succ (c : Nat → Int × Int) (m : Nat) : dfK c (m + 1) = dfK c m ++ if m = 0 ∨ c m ≠ c (m - 1) then [c m] else [] := by
  unfold dfK
  rw [List.range_succ, List.filter_append, List.map_append]
  by_cases h : m = 0 ∨ c m ≠ c (m - 1)
  · rw [if_pos h]; simp [h]
  · rw [if_neg h]; simp [h]
theorem dfK_len (c : Nat → Int × Int) (m : Nat) : (dfK c m).length ≤ m := by
  unfold dfK
  rw [List.length_map]
  exact Nat.le_trans (List.length_filter_le _ _) (by simp)
theorem dfK_all (c : Nat → Int × Int) : ∀ m, (∀ j, 1 ≤ j → j < m → c j ≠ c (j - 1)) → dfK c m = (List.range m).map c
  | 0, _ => rfl
  | m + 1, h => by
    rw [dfK_succ, dfK_all c m (fun j h1 h2 => h j h1 (by omega)), List.range_succ, List.map_append]
    by_cases h0 : m = 0
    · rw [if_pos (.inl h0)]; rfl
    · rw [if_pos (.inr (h m (by omega) (by omega)))]; rfl
theorem frac_ne {x y : Int × Int} (h : ¬ x = y) (w : World) : (binOp .eql 28 (.agg #[.int .i64 x.1, .int .i64 x.2]) (.agg #[.int .i64 y.1, .int .i64 y.2])).run Tryd.prog w = .ok (.bool false) w := by
  by_cases c : x.1 = y.1
  · have d : ¬ x.2 = y.2 := fun e => h (Prod.ext c e)
    simp [go_sem, c, d]
  · simp [go_sem, c]
theorem frac_neq {x y : Int × Int} (h : ¬ x = y) (w : World) : (binOp .neq 28 (.agg #[.int .i64 x.1, .int .i64 x.2]) (.agg #[.int .i64 y.1, .int .i64 y.2])).run Tryd.prog w = .ok (.bool true) w := by
  by_cases c : x.1 = y.1
  · have d : ¬ x.2 = y.2 := fun e => h (Prod.ext c e)
    simp [go_sem, c, d]
  · simp [go_sem, c]
theorem run_clear2 (w : World) (ty b o n c : Nat) (hn : 0 < n) (hc : ∀ j, j < n * 2 → (w.cell? ⟨b, o + j, none⟩).isSome = true) (hf : ∀ j, j < n * 2 → w.frozen? ⟨b, o + j, none⟩ = false) :
    (Builtin.clear_ #[36] ty #[.slice (some ⟨b, o, none⟩) n c]).run Tryd.prog w = .ok (.tuple #[]) (w.setCells b o (List.replicate (n * 2) (.int .i64 0))) := by
  have hzc : (Builtin.zeroCells (Value.agg #[.int .i64 0, .int .i64 0]).cells n).toList = List.replicate (n * 2) (.int .i64 0) := by
    simp [Builtin.zeroCells, Value.cells]
    apply List.ext_getElem
    · simp
    · intro i h1 h2
      have h3 : i % 2 = 0 ∨ i % 2 = 1 := by omega
      rcases h3 with k | k <;> simp [k]
  have hst := run_storeCells_cells (P := Tryd.prog) b o (List.replicate (n * 2) (.int .i64 0)) 0 w (by simpa using hc) (by simpa using hf) (by intro v hv'; rw [List.eq_of_mem_replicate hv']; rfl)
  simp only [Nat.add_zero] at hst
  obtain ⟨m, rfl⟩ : ∃ m, n = m + 1 := ⟨n - 1, by omega⟩
  simp [Builtin.clear_, run_underlying undF, hzc, hst]
end Go.Proofs.YtpdiefmmenfpaaaDoor
