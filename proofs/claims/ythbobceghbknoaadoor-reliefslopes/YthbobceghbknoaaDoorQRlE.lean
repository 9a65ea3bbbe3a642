/-
  mercatorref3.GroundAt.
-/
import Derived.Test.YthbobceghbknoaaDoorQRlD
namespace Go.Proofs.YthbobceghbknoaaDoor
open Go.RowKit

/-- What GroundAt reads: the raster behind its pointer, the point's own block. -/
structure RF (w W : World) (pb po : Nat) (m n : Nat) (b o cap : Nat) (l : List Int) (B : Nat) (x y : Int) : Prop where
  pt : PtR W pb po m n (.slice (some ⟨b, o, none⟩) l.length cap)
  sl : Rs W b o cap l
  a0 : At W B [.int .i64 x, .int .i64 y]
  gr : Gr w W
theorem RF.drewN {w W : World} {pb po m n b o cap : Nat} {l : List Int} {B : Nat} {x y : Int} (h : RF w W pb po m n b o cap l B x y) {k : Nat} {W' : World} (e : World.drewN W k = W') : RF w W' pb po m n b o cap l B x y := by
  subst e
  exact ⟨⟨h.pt.c0, h.pt.c1, h.pt.c2⟩, ⟨h.sl.row, h.sl.lt, h.sl.cap⟩, h.a0.drewN k, h.gr.drewN k⟩
theorem RF.new {w : World} {pb po m n b o cap : Nat} {l : List Int} (x y : Int) (t : Nat) (hp : PtR w pb po m n (.slice (some ⟨b, o, none⟩) l.length cap)) (hs : Rs w b o cap l) : RF w (w.alloc (.cells #[.int .i64 x, .int .i64 y] t)) pb po m n b o cap l w.heap.size x y := by
  have G := (Gr.refl w).alloc (.cells #[.int .i64 x, .int .i64 y] t)
  exact ⟨hp.below G.out, hs.below G.out, At.new2 w _ _ t, G⟩
theorem mul_hi {x a : Int} (x0 : 0 ≤ x) (x1 : x ≤ 256) (ha : hiI a) : -268435456 ≤ a * x ∧ a * x ≤ 268435456 := by
  obtain ⟨a1, a2⟩ := ha
  have h1 : a * x ≤ 1048576 * x := Int.mul_le_mul_of_nonneg_right (by omega) x0
  have h2 : (-1048576) * x ≤ a * x := Int.mul_le_mul_of_nonneg_right (by omega) x0
  omega
/-- Not on the ground: as the reference asks. -/
theorem off_or {m n : Nat} {x y : Int} (_hm : 1 ≤ m) (_hn : 1 ≤ n) (h1 : -9223372036854775808 ≤ y) (h2 : y ≤ 9223372036854775807) (h : onI m n x y = false) : x < 0 ∨ IntKind.i64.wrap (-y) < 0 ∨ 256 * ((m : Int) - 1) < x ∨ 256 * ((n : Int) - 1) < IntKind.i64.wrap (-y) := by
  by_cases c : y = -9223372036854775808
  · subst c
    exact .inr (.inl (by decide))
  · rw [wrap_in (n := -y) (by omega) (by omega)]
    unfold onI inI at h
    simp only [Bool.and_eq_false_iff, decide_eq_false_iff_not] at h
    omega
end Go.Proofs.YthbobceghbknoaaDoor
