/-
  drain.Way.
-/
import Derived.Test.YtlhligeicnejbaaDoorQGaA
import Derived.Test.YtlhligeicnejbaaDoorQBpA
namespace Go.Proofs.YtlhligeicnejbaaDoor
open Go.RowKit
attribute [local go_sem ↓] Go.wp_at_zero Go.wp_at_succ

/-- A cell and those after it, k steps far. -/
def pth (m n : Nat) (l : List Int) (c k : Nat) : List Nat := (List.range (k + 1)).map (fun i => itw m n l i c)
theorem pth_len (m n : Nat) (l : List Int) (c k : Nat) : (pth m n l c k).length = k + 1 := by simp [pth]
theorem pth_snoc (m n : Nat) (l : List Int) (c k : Nat) : pth m n l c (k + 1) = pth m n l c k ++ [itw m n l (k + 1) c] := by unfold pth; rw [List.range_succ, List.map_append]; rfl
/-- The water comes to the rim after k steps. -/
def Ends (m n : Nat) (l : List Int) (c k : Nat) : Prop := tw m n l (itw m n l k c) = itw m n l k c ∧ ∀ i, i < k → tw m n l (itw m n l i c) ≠ itw m n l i c
theorem Ends.uniq {m n : Nat} {l : List Int} {c k k' : Nat} (h : Ends m n l c k) (h' : Ends m n l c k') : k = k' := by
  rcases Nat.lt_trichotomy k k' with c1 | c1 | c1
  · exact absurd h.1 (h'.2 k c1)
  · exact c1
  · exact absurd h'.1 (h.2 k' c1)
theorem own_one (w : World) (t : Nat) (x : Value) : (w.alloc (.cells #[x] t)).ownsRow w.heap.size t 1 (.slice (some ⟨w.heap.size, 0, none⟩) 1 1) 1 [x] := by
  refine ⟨rfl, .inr ⟨w.heap.size, 1, #[x], rfl, Nat.le_refl _, by show (w.heap.push _)[w.heap.size]? = _; simp, Nat.le_refl _, by decide, rfl, rfl⟩⟩
theorem nbA_none {m n : Nat} {l : List Int} {x : Nat} (h : tw m n l x = x) : nbA (nxO m n l x) = .tuple #[.int .i64 0, .bool false] := by rw [nxO_tw, if_pos h]; rfl
theorem nbA_some {m n : Nat} {l : List Int} {x : Nat} (h : ¬ tw m n l x = x) : nbA (nxO m n l x) = .tuple #[.int .i64 (tw m n l x : Int), .bool true] := by rw [nxO_tw, if_neg h]; rfl
/-- What next tells, part by part. -/
def nxS (m n : Nat) (l : List Int) (x : Nat) (s t : Value) : Prop := (tw m n l x = x ∧ s = .int .i64 0 ∧ t = .bool false) ∨ (¬ tw m n l x = x ∧ s = .int .i64 (tw m n l x : Int) ∧ t = .bool true)
theorem nxS_of (m n : Nat) (l : List Int) (x : Nat) : ∃ s t, nbA (nxO m n l x) = .tuple #[s, t] ∧ nxS m n l x s t := by
  by_cases h : tw m n l x = x
  · exact ⟨_, _, nbA_none h, .inl ⟨h, rfl, rfl⟩⟩
  · exact ⟨_, _, nbA_some h, .inr ⟨h, rfl, rfl⟩⟩
end Go.Proofs.YtlhligeicnejbaaDoor
