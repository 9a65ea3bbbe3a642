/-
  relief.Profile of a line on the ground.
-/
import Derived.Test.YthbobceghbknoaaDoorQRlG
namespace Go.Proofs.YthbobceghbknoaaDoor
open Go.RowKit

/-- What a round of Profile leaves as it was. -/
structure PE (w wr W : World) (B : Nat) (k0 k1 k2 : List Value) : Prop where
  gf : GF w W B k0 k1 k2
  gw : Gr wr W
theorem PE.below {w wr W w' : World} {B : Nat} {k0 k1 k2 : List Value} (h : PE w wr W B k0 k1 k2) (hB : Below W.heap.size W w') : PE w wr w' B k0 k1 k2 := ⟨h.gf.below hB, Gr.step h.gw hB⟩
theorem PE.drew {w wr W : World} {B : Nat} {k0 k1 k2 : List Value} (h : PE w wr W B k0 k1 k2) : PE w wr W.drew B k0 k1 k2 := ⟨h.gf.drew, h.gw.drew⟩
theorem PE.alloc {w wr W : World} {B : Nat} {k0 k1 k2 : List Value} (h : PE w wr W B k0 k1 k2) (o : Obj) : PE w wr (W.alloc o) B k0 k1 k2 := h.below ((Below.refl _ _).alloc (Nat.le_refl _) o)
theorem PE.set2 {w wr W : World} {B : Nat} {k0 k1 k2 : List Value} (h : PE w wr W B k0 k1 k2) (hB : B + 1 + 1 < wr.heap.size) (hw : w.heap.size ≤ wr.heap.size) {D : Nat} (hD : wr.heap.size ≤ D) (u v : Value) : PE w wr ((W.setCell ⟨D, 0, none⟩ u).setCell ⟨D, 1, none⟩ v) B k0 k1 k2 :=
  ⟨⟨(h.gf.a0.skip (by omega) _ _).skip (by omega) _ _, (h.gf.a1.skip (by omega) _ _).skip (by omega) _ _, (h.gf.a2.skip (by omega) _ _).skip (by omega) _ _, (h.gf.gr.set (by omega) _ _).set (by omega) _ _⟩, (h.gw.set hD _ _).set hD _ _⟩
theorem PE.all {w wr W : World} {B : Nat} {a b c d e f g : Value} (h : PE w wr W B [a, b, c] [d, e] [f, g]) : (W.cell? ⟨B, 0, none⟩ = some a ∧ W.cell? ⟨B, 1, none⟩ = some b ∧ W.cell? ⟨B, 2, none⟩ = some c) ∧ (W.cell? ⟨B + 1, 0, none⟩ = some d ∧ W.cell? ⟨B + 1, 1, none⟩ = some e) ∧ (W.cell? ⟨B + 1 + 1, 0, none⟩ = some f ∧ W.cell? ⟨B + 1 + 1, 1, none⟩ = some g) := ⟨h.gf.a0.c3, h.gf.a1.c2, h.gf.a2.c2⟩
theorem At.new2d' (W : World) (a b : Value) (t : Nat) : At (W.drew.alloc (.cells #[a, b] t)) W.heap.size [a, b] := At.new2 W.drew a b t
theorem on_alo {m n : Nat} {x y x2 y2 p : Int} (h1 : onI m n x y = true) (h2 : onI m n x2 y2 = true) (hm : 1 ≤ m) (hn : 1 ≤ n) (hp : 1 ≤ p) (k : Nat) (hk : (k : Int) ≤ p) : alo x x2 k p = (alX x x2 p k : Int) ∧ -(alo y y2 k p) = (alS y y2 p k : Int) ∧ alX x x2 p k ≤ 256 * (m - 1) ∧ alS y y2 p k ≤ 256 * (n - 1) := by
  have b1 := alo_bd (f := x) (t := x2) hp (show 0 ≤ (k : Int) by omega) hk
  have b2 := alo_bd (f := y) (t := y2) hp (show 0 ≤ (k : Int) by omega) hk
  unfold onI inI at h1 h2
  simp only [Bool.and_eq_true, decide_eq_true_eq] at h1 h2
  unfold alX alS
  omega
theorem own_mono {w : World} {base base' e size n : Nat} {v : Value} {xs : List Value} (h : w.ownsRow base e size v n xs) (hb : base' ≤ base) : w.ownsRow base' e size v n xs := by
  obtain ⟨h1, h2⟩ := h
  refine ⟨h1, ?_⟩
  rcases h2 with h2 | ⟨g, cap, cur, rfl, h3, h4, h5⟩
  · exact .inl h2
  · exact .inr ⟨g, cap, cur, rfl, Nat.le_trans hb h3, h4, h5⟩
theorem At.grown' {W w' : World} {B : Nat} {l : List Value} {row : Option Nat} (h : At W B l) (hg : W.grownBy w' row) (hne : some B ≠ row) : At w' B l := by
  have hb := hg.block B h.2 hne
  exact ⟨fun i hi => ⟨(World.cell?_of_block (w := W) (a := ⟨B, i, none⟩) hb).trans (h.1 i hi).1, (World.frozen?_of_block (w := W) (a := ⟨B, i, none⟩) hb).trans (h.1 i hi).2⟩, Nat.lt_of_lt_of_le h.2 hg.size⟩
theorem gf_grown {w W w2 : World} {B n e size : Nat} {o : Obj} {v : Value} {k0 k1 k2 xs : List Value} (h : GF w W B k0 k1 k2) (hO : W.ownsRow (B + 1 + 1 + 1) e size v n xs) (hB : w.heap.size = B) (hg : (W.alloc o).grownBy w2 v.ownBlock) : GF w w2 B k0 k1 k2 := by
  have hne : ∀ C, C < B + 1 + 1 + 1 → some C ≠ v.ownBlock := fun C hC e => by have := (hO.lt C e.symm).1; omega
  refine ⟨At.grown' (h.a0.alloc o) hg (hne _ (by omega)), At.grown' (h.a1.alloc o) hg (hne _ (by omega)), At.grown' (h.a2.alloc o) hg (hne _ (by omega)), ?_⟩
  exact Below.grown (h.gr.alloc o).out hg (by have := h.gr.out.size; simp; omega) (fun k hk => by have := (hO.lt k hk).1; omega)
end Go.Proofs.YthbobceghbknoaaDoor
