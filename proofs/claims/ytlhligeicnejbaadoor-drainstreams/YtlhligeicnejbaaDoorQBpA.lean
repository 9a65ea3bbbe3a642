/-
  basin.Basins.
-/
import Derived.Test.YtlhligeicnejbaaDoorQDgA
import Derived.Test.YtlhligeicnejbaaDoorQJ12
import Derived.Test.YtlhligeicnejbaaDoorQJ13
namespace Go.Proofs.YtlhligeicnejbaaDoor
open Go.RowKit
attribute [local go_sem ↓] Go.wp_at_zero Go.wp_at_succ

/-- The basin of each cell. -/
def hmL (m n : Nat) (l : List Int) : List Int := (List.range l.length).map (fun c => (hom m n l c : Int))
theorem hmL_len (m n : Nat) (l : List Int) : (hmL m n l).length = l.length := by simp [hmL]
theorem oc_on {m n : Nat} {l : List Int} (ok : Ok l m n) {k : Nat} (hk : k < l.length) : gl (on (flo m n l l.length).ord) k = (oc m n l k : Int) := by
  have h := oc_get m n l ok.m1 ok.len hk
  have hl := ord_len m n l ok.m1 ok.len
  unfold flE at h hl
  rw [← gl_get (by rw [List.length_map, hl]; exact hk), ← h, List.getElem_map]
  rfl
theorem nxO_tw (m n : Nat) (l : List Int) (c : Nat) : nxO m n l c = if tw m n l c = c then none else some (tw m n l c) := rfl
theorem bas_none {m n : Nat} {l : List Int} (ok : Ok l m n) {k : Nat} (hk : k < l.length) {L : List Int} (hL : L.length = l.length) (h : ∀ i, i < k → gl L (oc m n l i) = (hom m n l (oc m n l i) : Int)) (hn : nxO m n l (oc m n l k) = none) : ∀ i, i < k + 1 → gl (L.set (oc m n l k) (oc m n l k : Int)) (oc m n l i) = (hom m n l (oc m n l i) : Int) := by
  have hf : tw m n l (oc m n l k) = oc m n l k := by
    rw [nxO_tw] at hn
    by_cases c : tw m n l (oc m n l k) = oc m n l k
    · exact c
    · rw [if_neg c] at hn; cases hn
  intro i hi
  rw [gl_set (by rw [hL]; exact oc_lt m n l ok.m1 ok.len hk)]
  by_cases e : i = k
  · subst e
    rw [if_pos rfl, hom_self m n l hf]
  · rw [if_neg (fun x => e (oc_inj m n l ok.m1 ok.len (by omega) hk x))]
    exact h i (by omega)
theorem bas_some {m n : Nat} {l : List Int} (ok : Ok l m n) {k t : Nat} (hk : k < l.length) {L : List Int} (hL : L.length = l.length) (h : ∀ i, i < k → gl L (oc m n l i) = (hom m n l (oc m n l i) : Int)) (hn : nxO m n l (oc m n l k) = some t) : t < l.length ∧ gl (L.set (oc m n l k) (oc m n l k : Int)) t = (hom m n l t : Int) ∧ ∀ i, i < k + 1 → gl ((L.set (oc m n l k) (oc m n l k : Int)).set (oc m n l k) (hom m n l t : Int)) (oc m n l i) = (hom m n l (oc m n l i) : Int) := by
  have hf : tw m n l (oc m n l k) ≠ oc m n l k ∧ tw m n l (oc m n l k) = t := by
    rw [nxO_tw] at hn
    by_cases c : tw m n l (oc m n l k) = oc m n l k
    · rw [if_pos c] at hn; cases hn
    · rw [if_neg c] at hn; exact ⟨c, Option.some.inj hn⟩
  have hlt := oc_lt m n l ok.m1 ok.len hk
  obtain ⟨j, hj, hjt⟩ := (oc_bef m n l ok.m1 ok.len hk).resolve_left hf.1
  have hjt' : oc m n l j = t := by rw [hjt]; exact hf.2
  have ht : t < l.length := by rw [← hjt']; exact oc_lt m n l ok.m1 ok.len (by omega)
  have hne : t ≠ oc m n l k := by rw [← hf.2]; exact hf.1
  refine ⟨ht, ?_, fun i hi => ?_⟩
  · rw [gl_set (by rw [hL]; exact hlt), if_neg hne, ← hjt']
    exact h j hj
  · rw [gl_set (by rw [List.length_set, hL]; exact hlt)]
    by_cases e : i = k
    · subst e
      rw [if_pos rfl, ← hf.2, hom_tw m n l ok.m1 ok.len hlt]
    · have hne2 : ¬ oc m n l i = oc m n l k := fun x => e (oc_inj m n l ok.m1 ok.len (by omega) hk x)
      rw [if_neg hne2, gl_set (by rw [hL]; exact hlt), if_neg hne2]
      exact h i (by omega)
theorem bas_end {m n : Nat} {l : List Int} (ok : Ok l m n) {L : List Int} (hL : L.length = l.length) (h : ∀ i, i < l.length → gl L (oc m n l i) = (hom m n l (oc m n l i) : Int)) : L = hmL m n l :=
  list_gl hL (fun i hi => by
    obtain ⟨k, hk, rfl⟩ := oc_all m n l ok.m1 ok.len hi
    exact h k hk)
/-- What lies in memory while the basins are told. -/
structure BA (w W : World) (T b1 FL B N : Nat) (t : List Value) (O Fl L : List Int) : Prop where
  t : At W T t
  o : ∀ k, k < N → W.cell? ⟨b1, k, none⟩ = some (.int .i64 (gl O k))
  ol : b1 < W.heap.size
  f : At W FL (ir Fl)
  l : At W B (ir L)
  gr : Gr w W
  ne : (T ≠ B ∧ b1 ≠ B ∧ FL ≠ B) ∧ w.heap.size ≤ B
section
variable {w W : World} {T b1 FL B N : Nat} {t : List Value} {O Fl L : List Int}
theorem BA.below {w' : World} (h : BA w W T b1 FL B N t O Fl L) (hB : Below W.heap.size W w') : BA w w' T b1 FL B N t O Fl L :=
  ⟨At.below hB h.t, fun k hk => ((mcell hB).1 b1 k h.ol).trans (h.o k hk), Nat.lt_of_lt_of_le h.ol hB.size, At.below hB h.f, At.below hB h.l, Gr.step h.gr hB, h.ne⟩
theorem BA.drew (h : BA w W T b1 FL B N t O Fl L) : BA w W.drew T b1 FL B N t O Fl L := ⟨h.t, h.o, h.ol, h.f, h.l, h.gr.drew, h.ne⟩
theorem BA.put (h : BA w W T b1 FL B N t O Fl L) (i : Nat) (x : Int) : BA w (W.setCell ⟨B, i, none⟩ (.int .i64 x)) T b1 FL B N t O Fl (L.set i x) := by
  obtain ⟨⟨n1, n2, n3⟩, n4⟩ := h.ne
  refine ⟨h.t.skip (Ne.symm n1) _ _, fun k hk => ?_, by simpa using h.ol, h.f.skip (Ne.symm n3) _ _, ?_, h.gr.set n4 _ _, h.ne⟩
  · have hk' := h.o k hk
    have n2' : ¬ b1 = B := n2
    simp [go_sem, hk']
  · rw [← ir_set]; exact h.l.put i _
end
end Go.Proofs.YtlhligeicnejbaaDoor
