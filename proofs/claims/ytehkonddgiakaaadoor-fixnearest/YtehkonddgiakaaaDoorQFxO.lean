/-
  A range that the law is handed: what it holds, and that it holds it still.
-/
import Derived.Test.YtehkonddgiakaaaDoorQFxA
import Derived.OpenShut
import Derived.Stop.Joined
import Derived.SevenTiedAt
import Derived.Lib.SmallJoins
namespace Go.Proofs.YtehkonddgiakaaaDoor
open Go.ChangeShapes Go.WideShapes Go.ChangeAt Go.RowKit Go.Joins

section
variable {H : Type} {enc : TypeId × Value → H} {w : World} {base : Nat} {spare : Nat → Bool} {held : Bool}
theorem array3 {cs : Array Value} (h : cs.size = 3) : ∃ c0 c1 c2, cs = #[c0, c1, c2] := by
  obtain ⟨l⟩ := cs
  match l, h with
  | [c0, c1, c2], _ => exact ⟨c0, c1, c2, rfl⟩
theorem cellsSpot : Tryd.prog.cellsOf 45 = 2 := by kernel_rfl
theorem cellsRange : Tryd.prog.cellsOf 58 = 3 := by kernel_rfl
theorem cellsInt : Tryd.prog.cellsOf 3 = 1 := by kernel_rfl
abbrev Rg.d (r : Rg) : DataW H := .agg [.agg [.lit (.int .i64 r.x), .lit (.int .i64 r.y)], .lit (.int .i64 r.q)]
/-- Its numbers are ints. -/
structure Rg.wf (r : Rg) : Prop where
  x : (Lit.int .i64 r.x).wf = true
  y : (Lit.int .i64 r.y).wf = true
  q : (Lit.int .i64 r.q).wf = true
set_option maxRecDepth 100000 in
theorem open_cells {fuel : Nat} {c0 c1 c2 : Value} {x : DataW H × List MemPlace} (hf : DataW.trod enc Tryd.prog w base spare held fuel 58 [c0, c1, c2] = some x) : ∃ r : Rg, [c0, c1, c2] = [.int .i64 r.x, .int .i64 r.y, .int .i64 r.q] ∧ x = (r.d, []) ∧ r.wf := by
  obtain ⟨xs, n, _, hx, _, hlen, hg⟩ := DataW.trod_struct Tryd.underlying58 hf
  match xs, hlen with
  | [y0, y1], _ =>
    have g0 := hg 0 _ rfl
    have g1 := hg 1 _ rfl
    simp [cellsSpot, cellsInt] at g0 g1
    obtain ⟨ys, n', _, hy, _, hlen', hg'⟩ := DataW.trod_struct Tryd.underlying45 g0
    match ys, hlen' with
    | [z0, z1], _ =>
      have k0 := hg' 0 _ rfl
      have k1 := hg' 1 _ rfl
      simp [cellsInt] at k0 k1
      obtain ⟨a, e0, rfl, wa⟩ := DataW.trod_int Tryd.underlying3 k0
      obtain ⟨f, e1, rfl, wf⟩ := DataW.trod_int Tryd.underlying3 k1
      obtain ⟨q, e2, rfl, wq⟩ := DataW.trod_int Tryd.underlying3 g1
      simp at e0 e1 e2
      subst e0 e1 e2
      subst hy
      exact ⟨⟨a, f, q⟩, rfl, by simpa using hx, ⟨wa, wf, wq⟩⟩
set_option maxRecDepth 100000 in
theorem open_range {r : Reach} {b0 : Nat} {v : Value} {d : DataW H} {p : List MemPlace} (hv : Value.okWide Tryd.prog w r b0 58 v) (h : DataW.Trod enc Tryd.prog w base spare held 58 v d p) : ∃ r : Rg, v = r.v ∧ d = r.d ∧ p = [] ∧ r.wf := by
  obtain ⟨cs, rfl, hsz⟩ := okWide_struct Tryd.underlying58 hv
  obtain ⟨c0, c1, c2, rfl⟩ := array3 (hsz.trans cellsRange)
  obtain ⟨fuel, hf⟩ := h
  obtain ⟨r, e, hx, hw⟩ := open_cells hf
  simp only [List.cons.injEq, and_true] at e
  obtain ⟨rfl, rfl, rfl⟩ := e
  simp only [Prod.mk.injEq] at hx
  exact ⟨r, rfl, hx.1, hx.2, hw⟩
set_option maxRecDepth 100000 in
theorem shut_range {r : Rg} (h : r.wf) : DataW.Trod enc Tryd.prog w base spare held 58 r.v r.d [] := by
  have t0 : DataW.trod enc Tryd.prog w base spare held 2 45 [.int .i64 r.x, .int .i64 r.y] = some (.agg [.lit (.int .i64 r.x), .lit (.int .i64 r.y)], []) := by
    have := trod_struct_mk (enc := enc) (w := w) (base := base) (spare := spare) (held := held) (n := 1) (cs := [.int .i64 r.x, .int .i64 r.y]) (xs := [(.lit (.int .i64 r.x), []), (.lit (.int .i64 r.y), [])]) Tryd.underlying45 (by simp [cellsSpot]) (by simp [cellsInt, DataW.trod, Tryd.underlying3, h.x, h.y])
    simpa using this
  have t2 : DataW.trod enc Tryd.prog w base spare held 2 3 [.int .i64 r.q] = some (.lit (.int .i64 r.q), []) := by simp [DataW.trod, Tryd.underlying3, h.q]
  have ts := trod_struct_mk (enc := enc) (w := w) (base := base) (spare := spare) (held := held) (n := 2) (cs := [.int .i64 r.x, .int .i64 r.y, .int .i64 r.q]) (xs := [(.agg [.lit (.int .i64 r.x), .lit (.int .i64 r.y)], []), (.lit (.int .i64 r.q), [])]) Tryd.underlying58 (by simp [cellsRange]) (by simp [cellsSpot, cellsInt, t0, t2])
  exact ⟨3, by simpa [Value.cells] using ts⟩
end
end Go.Proofs.YtehkonddgiakaaaDoor
