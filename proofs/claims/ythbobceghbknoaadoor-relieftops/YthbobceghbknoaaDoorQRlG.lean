/-
  relief.Profile where it has no answer.
-/
import Derived.Test.YthbobceghbknoaaDoorQRlF
namespace Go.Proofs.YthbobceghbknoaaDoor
open Go.RowKit

theorem GF.new' (w : World) (a b c d e x y : Value) (t t' t'' : Nat) : GF w (((w.alloc (.cells #[a, b, c] t)).alloc (.cells #[d, e] t')).alloc (.cells #[x, y] t'')) w.heap.size [a, b, c] [d, e] [x, y] := GF.new w a b c d e x y t t' t''
theorem GF.drewN {w W : World} {B : Nat} {k0 k1 k2 : List Value} (h : GF w W B k0 k1 k2) (n : Nat) : GF w (W.drewN n) B k0 k1 k2 := ⟨h.a0, h.a1, h.a2, h.gr.drewN n⟩
/-- The heights along a line; their cells. -/
def alX (x x2 p : Int) (k : Nat) : Nat := (alo x x2 k p).toNat
def alS (y y2 p : Int) (k : Nat) : Nat := (-(alo y y2 k p)).toNat
def ghk (l : List Int) (m n : Nat) (x y x2 y2 p : Int) (k : Nat) : Int := gh l m n (alX x x2 p k) (alS y y2 p k)
def proL (l : List Int) (m n : Nat) (x y x2 y2 p : Int) (k : Nat) : List Int := (List.range k).map fun i => ghk l m n x y x2 y2 p i
theorem proL_len (l : List Int) (m n : Nat) (x y x2 y2 p : Int) (k : Nat) : (proL l m n x y x2 y2 p k).length = k := by simp [proL]
theorem proL_snoc (l : List Int) (m n : Nat) (x y x2 y2 p : Int) (k : Nat) : proL l m n x y x2 y2 p k ++ [ghk l m n x y x2 y2 p k] = proL l m n x y x2 y2 p (k + 1) := by simp [proL, List.range_succ]
abbrev fcs (z : Int) : List Value := [.int .i64 (frN z), .int .i64 (frD z)]
def fls (l : List Int) : List Value := l.flatMap fcs
theorem fls_snoc (l : List Int) (z : Int) : fls l ++ fcs z = fls (l ++ [z]) := by simp [fls]
theorem fls_len (l : List Int) : (fls l).length = l.length * 2 := by
  induction l with
  | nil => rfl
  | cons s l ih => simp [fls] at ih ⊢; omega
theorem fls_get : ∀ (l : List Int) (k : Nat) (hk : k < l.length) (j : Nat), j < 2 → (fls l)[k * 2 + j]? = (fcs l[k])[j]?
  | s :: l, 0, _, j, hj => by
    match j, hj with
    | 0, _ => rfl
    | 1, _ => rfl
  | s :: l, k + 1, hk, j, hj => by
    have ih := fls_get l k (by simp at hk; omega) j hj
    rw [show (k + 1) * 2 + j = (k * 2 + j) + 2 by omega]
    exact ih
theorem infoFr : (Tryd.prog.info? 48).map (fun i => (i.zero, i.size, i.bytes)) = some (some (.agg #[.int .i64 0, .int .i64 0]), 2, 16) := by kernel_rfl
theorem own_bel {w w' : World} {base e size n : Nat} {v : Value} {xs : List Value} (h : w.ownsRow base e size v n xs) (hB : Below w.heap.size w w') : w'.ownsRow base e size v n xs := by
  have hlt := h.lt
  obtain ⟨h1, h2⟩ := h
  refine ⟨h1, ?_⟩
  rcases h2 with h2 | ⟨g, cap, cur, rfl, h3, h4, h5⟩
  · exact .inl h2
  · exact .inr ⟨g, cap, cur, rfl, h3, (hB.block g (hlt g rfl).2).trans h4, h5⟩
theorem own_shape2 {w : World} {base e size n : Nat} {v : Value} {xs : List Value} (h : w.ownsRow base e size v n xs) : ∃ ad cap, v = .slice ad n cap := by
  obtain ⟨_, ⟨rfl, rfl⟩ | ⟨g, cap, cur, hv, _⟩⟩ := h
  · exact ⟨none, 0, rfl⟩
  · exact ⟨_, _, hv⟩
theorem news2 {w : World} {ad : Addr} {x y : Value} {j : Nat} {u : Value} (hj : ([x, y] : List Value)[j]? = some u) (h0 : w.cell? (ad.add 0) = some x) (h1 : w.cell? (ad.add 1) = some y) : w.cell? (ad.add j) = some u := by
  match j with
  | 0 => simp at hj; subst hj; exact h0
  | 1 => simp at hj; subst hj; exact h1
  | j + 2 => simp at hj
end Go.Proofs.YthbobceghbknoaaDoor
