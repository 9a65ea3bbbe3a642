/-
  mercatorref3.AroundOf (FaF.tpl, once for each kind).
-/
import Derived.Test.YtphpfongdbidoaaDoorQFaE
import Derived.Test.YtphpfongdbidoaaDoorQFsD
namespace Go.Proofs.YtphpfongdbidoaaDoor
open Go.RowKit

/-- The best so far: of the rows ahead, and of the columns ahead in this row. -/
structure BsF (s : Bool) (l : List Int) (m n r yc xc y x : Nat) (v : Int) : Prop where
  in_ : ∃ y' x', y' < n ∧ x' < m ∧ nr r yc y' ∧ nr r xc x' ∧ v = gl l (y' * m + x')
  up : ∀ y' x', y' < n → x' < m → nr r yc y' → nr r xc x' → (y' < y ∨ (y' = y ∧ x' < x)) → lq s (gl l (y' * m + x')) v
theorem BsF.start {s : Bool} {l : List Int} {m n r yc xc : Nat} (hy : yc < n) (hx : xc < m) : BsF s l m n r yc xc 0 0 (gl l (yc * m + xc)) :=
  ⟨⟨yc, xc, hy, hx, nr_refl _ _, nr_refl _ _, rfl⟩, fun y' x' _ _ _ _ h => by omega⟩
theorem BsF.skip {s : Bool} {l : List Int} {m n r yc xc y x y2 x2 : Nat} {v : Int} (h : BsF s l m n r yc xc y x v) (hs : ∀ y' x', y' < n → x' < m → nr r yc y' → nr r xc x' → (y' < y2 ∨ (y' = y2 ∧ x' < x2)) → (y' < y ∨ (y' = y ∧ x' < x))) : BsF s l m n r yc xc y2 x2 v :=
  ⟨h.in_, fun y' x' a b c d e => h.up y' x' a b c d (hs y' x' a b c d e)⟩
theorem BsF.keep {s : Bool} {l : List Int} {m n r yc xc y x : Nat} {v : Int} (h : BsF s l m n r yc xc y x v) (hv : lq s (gl l (y * m + x)) v) : BsF s l m n r yc xc y (x + 1) v := by
  refine ⟨h.in_, fun y' x' a b c d e => ?_⟩
  by_cases k : y' = y ∧ x' = x
  · obtain ⟨rfl, rfl⟩ := k; exact hv
  · exact h.up y' x' a b c d (by omega)
theorem BsF.turn {s : Bool} {l : List Int} {m n r yc xc y x : Nat} {v : Int} (h : BsF s l m n r yc xc y x v) (hy : y < n) (hx : x < m) (h1 : nr r yc y) (h2 : nr r xc x) (hv : lq s v (gl l (y * m + x))) : BsF s l m n r yc xc y (x + 1) (gl l (y * m + x)) := by
  refine ⟨⟨y, x, hy, hx, h1, h2, rfl⟩, fun y' x' a b c d e => ?_⟩
  by_cases k : y' = y ∧ x' = x
  · obtain ⟨rfl, rfl⟩ := k; exact lq_refl _ _
  · exact lq_trans (h.up y' x' a b c d (by omega)) hv
theorem BsF.done {s : Bool} {l : List Int} {m n r yc xc : Nat} {v : Int} (hy : yc < n) (hx : xc < m) (h : BsF s l m n r yc xc n 0 v) : v = blB s l m n r yc xc :=
  IsB.uniq ⟨fun y' x' a b c d => h.up y' x' a b c d (.inl a), h.in_⟩ (blB_is hy hx)
end Go.Proofs.YtphpfongdbidoaaDoor
