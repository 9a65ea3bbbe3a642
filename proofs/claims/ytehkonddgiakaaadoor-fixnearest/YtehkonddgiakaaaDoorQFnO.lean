/-
  A box that the law is handed: what it holds, and that it holds it still.
-/
import Derived.Test.YtehkonddgiakaaaDoorQGlA
import Derived.Test.YtehkonddgiakaaaDoorQFxO
import Derived.OpenShut
import Derived.Stop.Joined
import Derived.SevenTiedAt
import Derived.Lib.SmallJoins
namespace Go.Proofs.YtehkonddgiakaaaDoor
open Go.ChangeShapes Go.WideShapes Go.ChangeAt Go.RowKit Go.Joins

theorem wi_le {n : Int} (h : (Lit.int .i64 n).wf = true) : n ≤ 9223372036854775807 ∧ -9223372036854775808 ≤ n := by
  have h1 : IntKind.i64.min = -9223372036854775808 := by decide
  have h2 : IntKind.i64.max = 9223372036854775807 := by decide
  simp [Lit.wf] at h
  omega
section
variable {H : Type} {enc : TypeId × Value → H} {P : Program} {w : World} {base : Nat} {spare : Nat → Bool} {held : Bool}
theorem array4 {cs : Array Value} (h : cs.size = 4) : ∃ c0 c1 c2 c3, cs = #[c0, c1, c2, c3] := by
  obtain ⟨l⟩ := cs
  match l, h with
  | [c0, c1, c2, c3], _ => exact ⟨c0, c1, c2, c3, rfl⟩
theorem cellsBox : Tryd.prog.cellsOf 47 = 4 := by kernel_rfl
abbrev boD (a b c d : Int) : DataW H := .agg [.agg [.lit (.int .i64 a), .lit (.int .i64 b)], .agg [.lit (.int .i64 c), .lit (.int .i64 d)]]
set_option maxRecDepth 100000 in
theorem open_box {r : Reach} {b0 : Nat} {v : Value} {x : DataW H} {p : List MemPlace} (hv : Value.okWide Tryd.prog w r b0 47 v) (h : DataW.Trod enc Tryd.prog w base spare held 47 v x p) :
    ∃ a b c d, v = boV a b c d ∧ x = boD a b c d ∧ p = [] ∧ (Lit.int .i64 a).wf = true ∧ (Lit.int .i64 b).wf = true ∧ (Lit.int .i64 c).wf = true ∧ (Lit.int .i64 d).wf = true := by
  obtain ⟨cs, rfl, hsz⟩ := okWide_struct Tryd.underlying47 hv
  obtain ⟨c0, c1, c2, c3, rfl⟩ := array4 (hsz.trans cellsBox)
  obtain ⟨fuel, hf⟩ := h
  obtain ⟨xs, n, _, hx, _, hlen, hg⟩ := DataW.trod_struct Tryd.underlying47 hf
  match xs, hlen with
  | [y0, y1], _ =>
    have g0 := hg 0 _ rfl
    have g1 := hg 1 _ rfl
    simp [Value.cells, cellsSpot] at g0 g1
    obtain ⟨ys, n', _, hy, _, hlen', hg'⟩ := DataW.trod_struct Tryd.underlying45 g0
    obtain ⟨zs, n'', _, hz, _, hlen'', hg''⟩ := DataW.trod_struct Tryd.underlying45 g1
    match ys, hlen', zs, hlen'' with
    | [z0, z1], _, [z2, z3], _ =>
      have k0 := hg' 0 _ rfl
      have k1 := hg' 1 _ rfl
      have k2 := hg'' 0 _ rfl
      have k3 := hg'' 1 _ rfl
      simp [cellsInt] at k0 k1 k2 k3
      obtain ⟨a, e0, rfl, wa⟩ := DataW.trod_int Tryd.underlying3 k0
      obtain ⟨b, e1, rfl, wb⟩ := DataW.trod_int Tryd.underlying3 k1
      obtain ⟨c, e2, rfl, wc⟩ := DataW.trod_int Tryd.underlying3 k2
      obtain ⟨d, e3, rfl, wd⟩ := DataW.trod_int Tryd.underlying3 k3
      simp at e0 e1 e2 e3
      subst e0 e1 e2 e3
      subst hy hz
      simp only [Prod.mk.injEq] at hx
      exact ⟨a, b, c, d, rfl, by simpa using hx.1, by simpa using hx.2, wa, wb, wc, wd⟩
set_option maxRecDepth 100000 in
theorem shut_box {a b c d : Int} (wa : (Lit.int .i64 a).wf = true) (wb : (Lit.int .i64 b).wf = true) (wc : (Lit.int .i64 c).wf = true) (wd : (Lit.int .i64 d).wf = true) :
    DataW.Trod enc Tryd.prog w base spare held 47 (boV a b c d) (boD a b c d) [] := by
  have t0 : DataW.trod enc Tryd.prog w base spare held 2 45 [.int .i64 a, .int .i64 b] = some (.agg [.lit (.int .i64 a), .lit (.int .i64 b)], []) := by
    have := trod_struct_mk (enc := enc) (w := w) (base := base) (spare := spare) (held := held) (n := 1) (cs := [.int .i64 a, .int .i64 b]) (xs := [(.lit (.int .i64 a), []), (.lit (.int .i64 b), [])]) Tryd.underlying45 (by simp [cellsSpot]) (by simp [cellsInt, DataW.trod, Tryd.underlying3, wa, wb])
    simpa using this
  have t1 : DataW.trod enc Tryd.prog w base spare held 2 45 [.int .i64 c, .int .i64 d] = some (.agg [.lit (.int .i64 c), .lit (.int .i64 d)], []) := by
    have := trod_struct_mk (enc := enc) (w := w) (base := base) (spare := spare) (held := held) (n := 1) (cs := [.int .i64 c, .int .i64 d]) (xs := [(.lit (.int .i64 c), []), (.lit (.int .i64 d), [])]) Tryd.underlying45 (by simp [cellsSpot]) (by simp [cellsInt, DataW.trod, Tryd.underlying3, wc, wd])
    simpa using this
  have ts := trod_struct_mk (enc := enc) (w := w) (base := base) (spare := spare) (held := held) (n := 2) (cs := [.int .i64 a, .int .i64 b, .int .i64 c, .int .i64 d]) (xs := [(.agg [.lit (.int .i64 a), .lit (.int .i64 b)], []), (.agg [.lit (.int .i64 c), .lit (.int .i64 d)], [])]) Tryd.underlying47 (by simp [cellsBox]) (by simp [cellsSpot, t0, t1])
  exact ⟨3, by simpa [Value.cells] using ts⟩
end
end Go.Proofs.YtehkonddgiakaaaDoor
