/-
  field.Coarse: what lies in memory.
-/
import Derived.Test.YtphpfongdbidoaaDoorQFsG
namespace Go.Proofs.YtphpfongdbidoaaDoor
open Go.RowKit

/-- Coarse's own blocks: the raster, the answer, the sums and their list, the new raster and its cells. -/
structure CoF (w W : World) (S C M B : Nat) (k0 ks kc : List Value) (Ls L : List Int) : Prop where
  a0 : At W w.heap.size k0
  a1 : At W (w.heap.size + 1) [.int .i64 0, .int .i64 0, .slice none 0 0]
  s0 : At W S ks
  c0 : At W C kc
  m0 : At W M (ir Ls)
  b0 : At W B (ir L)
  ns : ¬ B = S
  nc : ¬ B = C
  nm : ¬ B = M
  bw : w.heap.size + 1 < B
  gr : Gr w W
theorem CoF.below {w W w' : World} {S C M B : Nat} {k0 ks kc : List Value} {Ls L : List Int} (h : CoF w W S C M B k0 ks kc Ls L) (hB : Below W.heap.size W w') : CoF w w' S C M B k0 ks kc Ls L := ⟨h.a0.below hB, h.a1.below hB, h.s0.below hB, h.c0.below hB, h.m0.below hB, h.b0.below hB, h.ns, h.nc, h.nm, h.bw, Gr.step h.gr hB⟩
theorem CoF.drew {w W : World} {S C M B : Nat} {k0 ks kc : List Value} {Ls L : List Int} (h : CoF w W S C M B k0 ks kc Ls L) : CoF w W.drew S C M B k0 ks kc Ls L := ⟨h.a0, h.a1, h.s0, h.c0, h.m0, h.b0, h.ns, h.nc, h.nm, h.bw, h.gr.drew⟩
theorem CoF.drewN {w W : World} {S C M B : Nat} {k0 ks kc : List Value} {Ls L : List Int} (h : CoF w W S C M B k0 ks kc Ls L) (n : Nat) : CoF w (W.drewN n) S C M B k0 ks kc Ls L := ⟨h.a0.drewN n, h.a1.drewN n, h.s0.drewN n, h.c0.drewN n, h.m0.drewN n, h.b0.drewN n, h.ns, h.nc, h.nm, h.bw, h.gr.drewN n⟩
theorem CoF.put {w W : World} {S C M B : Nat} {k0 ks kc : List Value} {Ls L : List Int} (h : CoF w W S C M B k0 ks kc Ls L) (j : Nat) (x : Int) : CoF w (W.setCell ⟨B, j, none⟩ (.int .i64 x)) S C M B k0 ks kc Ls (L.set j x) := by
  have h2 := h.bw
  exact ⟨h.a0.skip (by omega) _ _, h.a1.skip (by omega) _ _, h.s0.skip h.ns _ _, h.c0.skip h.nc _ _, h.m0.skip h.nm _ _, by rw [← ir_set]; exact h.b0.put j _, h.ns, h.nc, h.nm, h.bw, h.gr.set (by omega) _ _⟩
/-- What is there at first. -/
structure PrF (w W : World) (k0 : List Value) : Prop where
  a0 : At W w.heap.size k0
  a1 : At W (w.heap.size + 1) [.int .i64 0, .int .i64 0, .slice none 0 0]
  gr : Gr w W
theorem PrF.below {w W w' : World} {k0 : List Value} (h : PrF w W k0) (hB : Below W.heap.size W w') : PrF w w' k0 := ⟨h.a0.below hB, h.a1.below hB, Gr.step h.gr hB⟩
theorem PrF.alloc {w W : World} {k0 : List Value} (h : PrF w W k0) (o : Obj) : PrF w (W.alloc o) k0 := ⟨h.a0.alloc o, h.a1.alloc o, h.gr.alloc o⟩
theorem PrF.drew {w W : World} {k0 : List Value} (h : PrF w W k0) : PrF w W.drew k0 := ⟨h.a0, h.a1, h.gr.drew⟩
theorem PrF.set {w W : World} {k0 : List Value} (h : PrF w W k0) {c : Nat} (hc : w.heap.size + 1 < c) (o : Nat) (v : Value) : PrF w (W.setCell ⟨c, o, none⟩ v) k0 := ⟨h.a0.skip (by omega) _ _, h.a1.skip (by omega) _ _, h.gr.set (by omega) _ _⟩
theorem many_up {n by' : Nat} (hn : 1 ≤ n) (hb : 1 ≤ by') : (n + by' - 1) / by' = many n by' := by
  unfold many
  rw [show n + by' - 1 = (n - 1) + by' by omega, Nat.add_div_right _ hb]
end Go.Proofs.YtphpfongdbidoaaDoor
