/-
  relief.ground.
-/
import Derived.Test.YthbobceghbknoaaDoorQRmA
namespace Go.Proofs.YthbobceghbknoaaDoor
open Go.RowKit

theorem make256 (z : Int) (h1 : -4294967296 ≤ z) (h2 : z ≤ 4294967296) (w : World) : Calls Tryd.prog 48 #[.int .i64 z, .int .i64 256] w fun e w' => e = .returned (.tuple #[frE z, .nilIface]) ∧ Gr w w' :=
  make_ok z 256 (by omega) (by omega) (by decide) (by decide) (by decide) ⟨by have := rn_le z.natAbs (Int.natAbs 256); omega, by have := rd_le z.natAbs (Int.natAbs 256); omega⟩ w
/-- 256 times the height at a point: so far to the east, to the south. -/
def sq0 (l : List Int) (m X S : Nat) : Int := gl l (S / 256 * m + X / 256)
def sq1 (l : List Int) (m X S : Nat) : Int := gl l (S / 256 * m + min (X / 256 + 1) (m - 1))
def sq2 (l : List Int) (m n X S : Nat) : Int := gl l (min (S / 256 + 1) (n - 1) * m + X / 256)
def sq3 (l : List Int) (m n X S : Nat) : Int := gl l (min (S / 256 + 1) (n - 1) * m + min (X / 256 + 1) (m - 1))
def gh (l : List Int) (m n X S : Nat) : Int := rise (sq0 l m X S) (sq1 l m X S) (sq2 l m n X S) (sq3 l m n X S) ((X % 256 : Nat) : Int) ((S % 256 : Nat) : Int)
/-- Three blocks of a call's own. -/
structure GF (w W : World) (B : Nat) (k0 k1 k2 : List Value) : Prop where
  a0 : At W B k0
  a1 : At W (B + 1) k1
  a2 : At W (B + 1 + 1) k2
  gr : Gr w W
theorem GF.below {w W w' : World} {B : Nat} {k0 k1 k2 : List Value} (h : GF w W B k0 k1 k2) (hB : Below W.heap.size W w') : GF w w' B k0 k1 k2 := ⟨h.a0.below hB, h.a1.below hB, h.a2.below hB, Gr.step h.gr hB⟩
theorem GF.drew {w W : World} {B : Nat} {k0 k1 k2 : List Value} (h : GF w W B k0 k1 k2) : GF w W.drew B k0 k1 k2 := ⟨h.a0, h.a1, h.a2, h.gr.drew⟩
theorem GF.all {w W : World} {B : Nat} {a b c d e : Value} {k2 : List Value} (h : GF w W B [a, b, c] [d, e] k2) : (W.cell? ⟨B, 0, none⟩ = some a ∧ W.cell? ⟨B, 1, none⟩ = some b ∧ W.cell? ⟨B, 2, none⟩ = some c) ∧ (W.cell? ⟨B + 1, 0, none⟩ = some d ∧ W.cell? ⟨B + 1, 1, none⟩ = some e) := ⟨h.a0.c3, h.a1.c2⟩
theorem GF.fill {w W : World} {B : Nat} {a b c d e x y : Value} (h : GF w W B [a, b, c] [d, e] [x, y]) (hB : w.heap.size ≤ B) (p q : Value) : GF w ((W.setCell ⟨B + 1 + 1, 0, none⟩ p).setCell ⟨B + 1 + 1, 1, none⟩ q) B [a, b, c] [d, e] [p, q] :=
  ⟨(h.a0.skip (by omega) _ _).skip (by omega) _ _, (h.a1.skip (by omega) _ _).skip (by omega) _ _, At.fill2 (h.a2.has rfl) p q, (h.gr.set (by omega) _ _).set (by omega) _ _⟩
theorem GF.new (w : World) (a b c d e x y : Value) (t t' t'' : Nat) : GF w (((w.alloc (.cells #[a, b, c] t)).alloc (.cells #[d, e] t')).alloc (.cells #[x, y] t'')) w.heap.size [a, b, c] [d, e] [x, y] :=
  ⟨((At.new3 w a b c t).alloc _).alloc _, (At.nx2 _ d e t').alloc _, At.ny2 _ _ x y t'', (((Gr.refl w).alloc _).alloc _).alloc _⟩
set_option maxRecDepth 4000 in
set_option maxHeartbeats 4000000 in
theorem ground_any {b o cap m n X S : Nat} {l : List Int} (x y : Int) (hx : x = (X : Int)) (hy : -y = (S : Int)) (w : World) (h : Rs w b o cap l) (ok : Ok l m n) (hX : X ≤ 256 * (m - 1)) (hS : S ≤ 256 * (n - 1)) : Calls Tryd.prog 37 #[raV m n (.slice (some ⟨b, o, none⟩) l.length cap), spV x y] w fun e w' => e = .returned (.tuple #[frE (gh l m n X S), .nilIface]) ∧ Gr w w' := by
  have hm2 := ok.m2
  have hn2 := ok.n2
  obtain ⟨s, hs⟩ : ∃ s : Int, s = (S : Int) := ⟨_, rfl⟩
  have CT := hidb (fun W1 (hG : Gr w W1) => times_any (p := 256) x s 256 hx hs rfl W1 (h.below hG.out) ok (by decide) (by decide) hX hS)
  rw [show gP l m n X S 256 = gh l m n X S from rfl] at CT
  have bd : -1048576 * ((256 : Nat) : Int) ≤ gh l m n X S ∧ gh l m n X S ≤ 1048576 * ((256 : Nat) : Int) := gP_bd (l := l) (m := m) (n := n) (X := X) (S := S) (p := 256) (by decide) ok.hi
  have CM := hidb (fun W1 => make256 (gh l m n X S) (by omega) (by omega) W1)
  unfold frE at CM ⊢
  generalize frN (gh l m n X S) = fn at *
  generalize frD (gh l m n X S) = fd at *
  generalize gh l m n X S = R at *
  have e0 : IntKind.i64.wrap (-y) = s := by rw [hy, ← hs]; exact wrap_in (by omega) (by omega)
  have F := hidb (GF.new w (.int .i64 m) (.int .i64 n) (.slice (some ⟨b, o, none⟩) l.length cap) (.int .i64 x) (.int .i64 y) (.int .i64 0) (.int .i64 0) 31 52 48)
  clear hm2 hn2 hy hX hS h ok hx hs bd
  go_enter Tryd.func37, Tryd.ntmps37
  go_wp2_with fail
  refine (CT.out _ F.out.gr).mono ?_
  rintro e w1 ⟨rfl, hB⟩
  replace F := hidb (F.out.below hB.out)
  clear hB CT
  go_wp2_with fail
  refine (CM.out _).mono ?_
  rintro e w2 ⟨rfl, hB⟩
  have E := F.out.below hB.out
  clear hB CM F
  obtain ⟨z0, z1⟩ := E.a2.c2
  obtain ⟨f0, f1⟩ := E.a2.f2
  have hge : w.heap.size ≤ w.heap.size := Nat.le_refl _
  go_wp2
  refine bodyPost_ret (v := .tuple #[.agg #[.int .i64 fn, .int .i64 fd], .nilIface]) (by simp [results, Tryd.results37, go_sem, z0, z1]) rfl ⟨rfl, ?_⟩
  exact (E.fill hge _ _).gr
end Go.Proofs.YthbobceghbknoaaDoor
