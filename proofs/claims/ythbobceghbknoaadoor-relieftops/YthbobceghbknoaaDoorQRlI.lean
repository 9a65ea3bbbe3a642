/-
  What ReliefGrounds is handed, and its own blocks.
-/
import Derived.Test.YthbobceghbknoaaDoorQRlH
import Derived.Test.YthbobceghbknoaaDoorQJ1
namespace Go.Proofs.YthbobceghbknoaaDoor
open Go.RowKit

theorem PtR.all {w : World} {pb po : Nat} {W H : Int} {v : Value} (h : PtR w pb po W H v) : w.cell? ⟨pb, po, none⟩ = some (.int .i64 W) ∧ w.cell? ⟨pb, po + 1, none⟩ = some (.int .i64 H) ∧ w.cell? ⟨pb, po + 2, none⟩ = some v := ⟨h.c0, h.c1, h.c2⟩
theorem coded_evc (g : Nat → Addr) (c : Nat) (hc : c ≤ 8) (w : World) (hl : Laid w g) : Calls Tryd.prog 10 #[evc g c, .int .i64 (c : Int)] w fun e w' => e = .returned (.bool true) ∧ Gr w w' := by
  by_cases h : c = 0
  · subst h
    refine (coded_nil 0 w).mono ?_
    rintro e w' ⟨rfl, rfl⟩
    exact ⟨rfl, Gr.refl _⟩
  · unfold evc
    rw [if_neg h]
    refine (coded_sent g (c - 1) (by omega) (c : Int) w hl).mono ?_
    rintro e w' ⟨rfl, hB⟩
    exact ⟨by rw [show ((c - 1 : Nat) : Int) + 1 = (c : Int) by omega]; simp, hB⟩
/-- A raster that the law is handed. -/
structure Rin (w : World) (pb po : Nat) (W H : Int) (ad : Option Addr) (b o cap : Nat) (l : List Int) : Prop where
  pt : PtR w pb po W H (.slice ad l.length cap)
  sl : ISl w ad b o cap l
theorem Rin.below {w w' : World} {pb po : Nat} {W H : Int} {ad : Option Addr} {b o cap : Nat} {l : List Int} (h : Rin w pb po W H ad b o cap l) (hB : Gr w w') : Rin w' pb po W H ad b o cap l := ⟨h.pt.below hB.out, h.sl.below hB.out⟩
/-- Two points' blocks. -/
structure LF (w W : World) (a b c d : Value) : Prop where
  a0 : At W w.heap.size [a, b]
  a1 : At W (w.heap.size + 1) [c, d]
  gr : Gr w W
theorem LF.below {w W w' : World} {a b c d : Value} (h : LF w W a b c d) (hB : Below W.heap.size W w') : LF w w' a b c d := ⟨h.a0.below hB, h.a1.below hB, Gr.step h.gr hB⟩
theorem LF.drew {w W : World} {a b c d : Value} (h : LF w W a b c d) : LF w W.drew a b c d := ⟨h.a0, h.a1, h.gr.drew⟩
theorem LF.alloc {w W : World} {a b c d : Value} (h : LF w W a b c d) (o : Obj) : LF w (W.alloc o) a b c d := h.below ((Below.refl _ _).alloc (Nat.le_refl _) o)
theorem LF.set2 {w W W0 : World} {a b c d : Value} (h : LF w W a b c d) (hD : w.heap.size + 1 < W0.heap.size) (_h : w.heap.size ≤ W0.heap.size) (u v : Value) : LF w ((W.setCell ⟨W0.heap.size, 0, none⟩ u).setCell ⟨W0.heap.size, 1, none⟩ v) a b c d :=
  ⟨(h.a0.skip (by omega) _ _).skip (by omega) _ _, (h.a1.skip (by omega) _ _).skip (by omega) _ _, (h.gr.set (by omega) _ _).set (by omega) _ _⟩
theorem LF.new (w : World) (a b c d : Value) (t t' : Nat) : LF w ((w.alloc (.cells #[a, b] t)).alloc (.cells #[c, d] t')) a b c d := ⟨(At.new2 w a b t).alloc _, At.nx2 _ c d t', ((Gr.refl w).alloc _).alloc _⟩
end Go.Proofs.YthbobceghbknoaaDoor
