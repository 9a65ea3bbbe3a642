/-
  SightMutual: what lies in memory.
-/
import Derived.Test.YtpdiefmmenfpaaaDoorQSiJ
namespace Go.Proofs.YtpdiefmmenfpaaaDoor
open Go.RowKit

/-- The raster that is pointed to, and the look's box. -/
structure MF (w W : World) (pb po : Nat) (a b c : Value) (k : List Value) : Prop where
  a0 : At W w.heap.size k
  p : W.cell? ⟨pb, po, none⟩ = some a ∧ W.cell? ⟨pb, po + 1, none⟩ = some b ∧ W.cell? ⟨pb, po + 2, none⟩ = some c
  gr : Gr w W
  lt : pb < w.heap.size
section
variable {w W w' : World} {pb po : Nat} {a b c : Value} {k : List Value}
theorem MF.below (h : MF w W pb po a b c k) (hB : Below W.heap.size W w') : MF w w' pb po a b c k := by
  have hlt : pb < W.heap.size := Nat.lt_of_lt_of_le h.lt h.gr.out.size
  exact ⟨h.a0.below hB, ⟨(hB.cell (p := ⟨pb, po, none⟩) hlt).trans h.p.1, (hB.cell (p := ⟨pb, po + 1, none⟩) hlt).trans h.p.2.1, (hB.cell (p := ⟨pb, po + 2, none⟩) hlt).trans h.p.2.2⟩, Gr.step h.gr hB, h.lt⟩
theorem MF.drew (h : MF w W pb po a b c k) : MF w W.drew pb po a b c k := ⟨h.a0, h.p, h.gr.drew, h.lt⟩
theorem MF.alloc (h : MF w W pb po a b c k) (o : Obj) : MF w (W.alloc o) pb po a b c k := h.below ((Below.refl _ _).alloc (Nat.le_refl _) o)
theorem MF.all {x0 x1 x2 x3 : Value} (h : MF w W pb po a b c [x0, x1, x2, x3]) : (W.cell? ⟨pb, po, none⟩ = some a ∧ W.cell? ⟨pb, po + 1, none⟩ = some b ∧ W.cell? ⟨pb, po + 2, none⟩ = some c) ∧ W.cell? ⟨w.heap.size, 0, none⟩ = some x0 ∧ W.cell? ⟨w.heap.size, 1, none⟩ = some x1 ∧ W.cell? ⟨w.heap.size, 2, none⟩ = some x2 ∧ W.cell? ⟨w.heap.size, 3, none⟩ = some x3 := ⟨h.p, h.a0.c4⟩
theorem MF.set {D : Nat} (h : MF w W pb po a b c k) (hD : w.heap.size < D) (i : Nat) (v : Value) : MF w (W.setCell ⟨D, i, none⟩ v) pb po a b c k := by
  have hlt := h.lt
  have n1 : ¬ pb = D := by omega
  refine ⟨h.a0.skip (by omega) _ _, ⟨?_, ?_, ?_⟩, h.gr.set (by omega) _ _, h.lt⟩
  · simp [go_sem, h.p.1]
  · simp [go_sem, h.p.2.1]
  · simp [go_sem, h.p.2.2]
end
theorem seeP_turn (l : List Int) (m n f t : Nat) (e u : Int) : decide (seeP l m n t f u e) = decide (seeP l m n f t e u) := decide_eq_decide.2 (frK_turn_iff _ _ _ _ _ _ _ _ _)
theorem seeP_high {l : List Int} {m n f t : Nat} {e u e' : Int} (he : e ≤ e') (h : seeP l m n f t e u) : seeP l m n f t e' u := frK_high (by omega) h
theorem seeP_less {l l' : List Int} {m n f t : Nat} {e u : Int} (hl : ∀ i, gl l i ≤ gl l' i) (hf : gl l' f = gl l f) (ht : gl l' t = gl l t) (h : seeP l' m n f t e u) : seeP l m n f t e u := by
  unfold seeP at h ⊢
  rw [hf, ht] at h
  exact frK_less hl h
theorem nedS_ok {l : List Int} {m n f t : Nat} (ok : Ok l m n) (hf : f < l.length) (ht : t < l.length) {e : Int} (he : 0 ≤ e ∧ e ≤ 1048576) : ndN (nedS l m n f t e) * (nedS l m n f t e).2 = (nedS l m n f t e).1 * ndD (nedS l m n f t e) ∧ (1 ≤ ndD (nedS l m n f t e) ∧ ndD (nedS l m n f t e) ≤ 254) ∧ 0 ≤ ndN (nedS l m n f t e) ∧ ndN (nedS l m n f t e) ≤ 2000000000 := by
  have I := NdI.all' (lkK l m n (f % m) (f / m) (t % m) (t / m) (gl l f + e) (gl l t)) (sts (f % m) (f / m) (t % m) (t / m)) (fun q hq => (sts_in hq).1)
  have hm2 := ok.m2
  have hn2 := ok.n2
  have k1 := ok.div hf
  have k2 := ok.div ht
  have E := nd_eq (s := nedS l m n f t e) I.num I.den
  have B : (nedS l m n f t e).1 ≤ 2000000000 ∧ (nedS l m n f t e).2 ≤ 254 := by
    rcases I.one with q | ⟨p, hp, q⟩
    · rw [show nedS l m n f t e = (0, 1) from q]; simp
    · rw [show nedS l m n f t e = _ from q]
      have hp2 := sts_in hp
      have hp3 := sts_le hp (by omega) (by omega) (by omega) (by omega)
      have := lkK_bd (m := m) (n := n) (c0 := f % m) (r0 := f / m) (c1 := t % m) (r1 := t / m) ok.hi (hiE_add (ok.hi f) he.1 he.2) (by have := hiE_add (ok.hi t) (Int.le_refl 0) (by decide); rwa [Int.add_zero] at this) hp2.1 hp2.2 hp3
      simp only
      omega
  have hn : 0 ≤ (nedS l m n f t e).1 := I.num
  refine ⟨E.1, ⟨E.2.1, ?_⟩, E.2.2, ?_⟩
  · unfold ndD
    have := rd_le (nedS l m n f t e).1.natAbs (nedS l m n f t e).2
    omega
  · unfold ndN
    have := rn_le (nedS l m n f t e).1.natAbs (nedS l m n f t e).2
    omega
/-- Seen, just if up by what is needed. -/
theorem seeP_need {l : List Int} {m n f t : Nat} (ok : Ok l m n) (hf : f < l.length) (ht : t < l.length) {e u : Int} (he : 0 ≤ e ∧ e ≤ 1048576) (hu : 0 ≤ u) : seeP l m n f t e u ↔ ndN (nedS l m n f t e) ≤ u * ndD (nedS l m n f t e) := by
  obtain ⟨h1, h2, -⟩ := nedS_ok ok hf ht he
  exact need_iff u hu (by omega) h1
end Go.Proofs.YtpdiefmmenfpaaaDoor
