/-
  A strip that the law is handed: what it holds, and that it holds it still.
-/
import Derived.Test.YtinopkmcddjgdaaGreatDoorQWvG
import Derived.OpenShut
import Derived.Stop.Joined
import Derived.SevenTiedAt
import Derived.Lib.SmallJoins
namespace Go.Proofs.YtinopkmcddjgdaaGreatDoor
open Go.ChangeShapes Go.WideShapes Go.ChangeAt Go.RowKit Go.Joins FB

theorem wf_lt {b : Nat} (h : (Lit.float .f64 b).wf = true) : b < 18446744073709551616 := by simpa [Lit.wf] using h
section
variable {H : Type} {enc : TypeId × Value → H} {P : Program} {w : World} {base : Nat} {spare : Nat → Bool} {held : Bool}
theorem trodF {fuel : Nat} {t : TypeId} {cs : List Value} {x : DataW H × List MemPlace} {k : FloatKind} (ht : P.underlying t = some (.float k)) (h : DataW.trod enc P w base spare held fuel t cs = some x) : ∃ n, cs = [.float k n] ∧ x = (.lit (.float k n), []) ∧ (Lit.float k n).wf = true := by
  cases fuel with
  | zero => simp [DataW.trod] at h
  | succ n =>
    unfold DataW.trod at h
    rw [ht] at h
    split at h <;> simp_all
theorem array4 {cs : Array Value} (h : cs.size = 4) : ∃ c0 c1 c2 c3, cs = #[c0, c1, c2, c3] := by
  obtain ⟨l⟩ := cs
  match l, h with
  | [c0, c1, c2, c3], _ => exact ⟨c0, c1, c2, c3, rfl⟩
theorem cellsGlobe : Tryz.prog.cellsOf 24 = 2 := by kernel_rfl
theorem cellsStrip : Tryz.prog.cellsOf 26 = 4 := by kernel_rfl
theorem cellsInt : Tryz.prog.cellsOf 3 = 1 := by kernel_rfl
theorem cellsFloat : Tryz.prog.cellsOf 22 = 1 := by kernel_rfl
theorem cellsPlace : Tryz.prog.cellsOf 28 = 2 := by kernel_rfl
abbrev sD (a f : Nat) (mid : Int) (m : Nat) : DataW H := .agg [.agg [.lit (.float .f64 a), .lit (.float .f64 f)], .lit (.int .i64 mid), .lit (.float .f64 m)]
set_option maxRecDepth 100000 in
theorem open_strip {r : Reach} {b0 : Nat} {v : Value} {d : DataW H} {p : List MemPlace} (hv : Value.okWide Tryz.prog w r b0 26 v) (h : DataW.Trod enc Tryz.prog w base spare held 26 v d p) :
    ∃ a f mid m, v = sV a f mid m ∧ d = sD a f mid m ∧ p = [] ∧ (Lit.float .f64 a).wf = true ∧ (Lit.float .f64 f).wf = true ∧ (Lit.int .i64 mid).wf = true ∧ (Lit.float .f64 m).wf = true := by
  obtain ⟨cs, rfl, hsz⟩ := okWide_struct Tryz.underlying26 hv
  obtain ⟨c0, c1, c2, c3, rfl⟩ := array4 (hsz.trans cellsStrip)
  obtain ⟨fuel, hf⟩ := h
  obtain ⟨xs, n, _, hx, _, hlen, hg⟩ := DataW.trod_struct Tryz.underlying26 hf
  match xs, hlen with
  | [y0, y1, y2], _ =>
    have g0 := hg 0 _ rfl
    have g1 := hg 1 _ rfl
    have g2 := hg 2 _ rfl
    simp [Value.cells, cellsGlobe, cellsInt, cellsFloat] at g0 g1 g2
    obtain ⟨ys, n', _, hy, _, hlen', hg'⟩ := DataW.trod_struct Tryz.underlying24 g0
    match ys, hlen' with
    | [z0, z1], _ =>
      have k0 := hg' 0 _ rfl
      have k1 := hg' 1 _ rfl
      simp [cellsFloat] at k0 k1
      obtain ⟨a, e0, rfl, wa⟩ := trodF Tryz.underlying22 k0
      obtain ⟨f, e1, rfl, wf⟩ := trodF Tryz.underlying22 k1
      obtain ⟨mid, e2, rfl, wm⟩ := DataW.trod_int Tryz.underlying3 g1
      obtain ⟨m, e3, rfl, ws⟩ := trodF Tryz.underlying22 g2
      simp at e0 e1 e2 e3
      subst e0 e1 e2 e3
      subst hy
      simp only [Prod.mk.injEq] at hx
      exact ⟨a, f, mid, m, rfl, by simpa using hx.1, by simpa using hx.2, wa, wf, wm, ws⟩
set_option maxRecDepth 100000 in
theorem shut_strip {a f : Nat} {mid : Int} {m : Nat} (wa : (Lit.float .f64 a).wf = true) (wf : (Lit.float .f64 f).wf = true) (wm : (Lit.int .i64 mid).wf = true) (ws : (Lit.float .f64 m).wf = true) :
    DataW.Trod enc Tryz.prog w base spare held 26 (sV a f mid m) (sD a f mid m) [] := by
  have t0 : DataW.trod enc Tryz.prog w base spare held 2 24 [.float .f64 a, .float .f64 f] = some (.agg [.lit (.float .f64 a), .lit (.float .f64 f)], []) := by
    have := trod_struct_mk (enc := enc) (w := w) (base := base) (spare := spare) (held := held) (n := 1) (cs := [.float .f64 a, .float .f64 f]) (xs := [(.lit (.float .f64 a), []), (.lit (.float .f64 f), [])]) Tryz.underlying24 (by simp [cellsGlobe]) (by simp [cellsFloat, DataW.trod, Tryz.underlying22, wa, wf])
    simpa using this
  have t2 : DataW.trod enc Tryz.prog w base spare held 2 3 [.int .i64 mid] = some (.lit (.int .i64 mid), []) := by simp [DataW.trod, Tryz.underlying3, wm]
  have t3 : DataW.trod enc Tryz.prog w base spare held 2 22 [.float .f64 m] = some (.lit (.float .f64 m), []) := by simp [DataW.trod, Tryz.underlying22, ws]
  have ts := trod_struct_mk (enc := enc) (w := w) (base := base) (spare := spare) (held := held) (n := 2) (cs := [.float .f64 a, .float .f64 f, .int .i64 mid, .float .f64 m]) (xs := [(.agg [.lit (.float .f64 a), .lit (.float .f64 f)], []), (.lit (.int .i64 mid), []), (.lit (.float .f64 m), [])]) Tryz.underlying26 (by simp [cellsStrip]) (by simp [cellsGlobe, cellsInt, cellsFloat, t0, t2, t3])
  exact ⟨3, by simpa [Value.cells] using ts⟩
end
end Go.Proofs.YtinopkmcddjgdaaGreatDoor
