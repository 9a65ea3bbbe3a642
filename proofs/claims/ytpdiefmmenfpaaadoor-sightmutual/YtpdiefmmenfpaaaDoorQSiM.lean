/-
  SightMutual: a raster that is copied, and one cell of it raised.
-/
import Derived.Test.YtpdiefmmenfpaaaDoorQSiK
import Derived.Test.YtpdiefmmenfpaaaDoorQJ7
import Derived.Deep.AppendLies
namespace Go.Proofs.YtpdiefmmenfpaaaDoor
open Go.RowKit

theorem Rs.drew {w : World} {b o cap : Nat} {l : List Int} (h : Rs w b o cap l) : Rs w.drew b o cap l := ⟨h.row, h.lt, h.cap⟩
theorem own_atN {w : World} {base g n cap : Nat} {l : List Int} (h : w.ownsRow base 3 1 (.slice (some ⟨g, 0, none⟩) n cap) n (ir l)) : At w g (ir l) ∧ n ≤ cap := by
  have hlt := h.lt
  obtain ⟨h1, h2⟩ := h
  rcases h2 with ⟨h2, _⟩ | ⟨g', cap', cur, hv, hb, hg, h3, h4, h5, h6⟩
  · cases h2
  · simp only [Value.slice.injEq, Option.some.injEq, Addr.mk.injEq, and_true] at hv
    obtain ⟨rfl, _, rfl⟩ := hv
    refine ⟨⟨fun i hi => ⟨?_, by simp [World.frozen?, hg]⟩, (hlt g rfl).2⟩, by omega⟩
    have e : (cur.toList.take (n * 1))[i]? = (ir l)[i]? := by rw [h6]
    rw [List.getElem?_take, if_pos (by omega), List.getElem?_eq_getElem hi] at e
    simp [World.cell?, hg]
    simpa using e
/-- All of a list, appended to none, at a step of a region that draws its order. -/
theorem step_all {ops : Array Oper} {o : Oper} {a : Act} {K : Act → World → Prop} {Q : Exit → Act → World → Prop} {Ep : Prop} (W : World) (N cap b of : Nat) (l : List Int) (s x : Operand) (hgd : o.guard = none)
    (ho : o.op = .call { callee := .builtin .append, args := #[s, x], argTypes := #[33, 33] }) (hs : a.eval s = .slice none 0 0) (hx : a.eval x = .slice (some ⟨b, of, none⟩) N cap) (hn : l.length = N) (h1 : 0 < N) (hl : N ≤ 20000) (hR : Rs W b of cap l)
    (h : ∀ cp w', At w' W.heap.size (ir l) → N ≤ cp → Below W.heap.size W w' → K (a.put o.dst (.slice (some ⟨W.heap.size, 0, none⟩) N cp)) w') :
    if Region.wanted o (yielded ops a.tmps) = true then Oper.wp Tryd.prog o a W K Q else Ep := by
  have hml : 30000 ≤ maxLen := by decide
  obtain ⟨i0, hi, hz0, hz1, hz2⟩ := info_parts infoJ
  refine step_append_lies W hgd s x _ ho W.heap.size _ i0 (.int .i64 0) 1 8 undI hi hz0 hz1 hz2 rfl (by decide) (.slice none 0 0) 0 [] hs (World.ownsRow_nil _ _ _ _) ⟨b, of, none⟩ N cap (ir l) hx (by simp [ir, hn]) ?_ ?_ h1 (by omega) (by omega) (Nat.le_refl _) _ rfl ?_
  · intro j u hu
    have hj : j < l.length := by
      rcases Nat.lt_or_ge j l.length with c | c
      · exact c
      · rw [List.getElem?_eq_none (by simp [ir]; exact c)] at hu; cases hu
    rw [List.getElem?_eq_getElem (by simp [ir]; exact hj)] at hu
    have hr := hR.row j hj
    simp [ir] at hu
    subst hu
    have ea : (⟨b, of, none⟩ : Addr).add j = ⟨b, of + j, none⟩ := by
      unfold Addr.add
      split
      · rename_i h0; subst h0; rfl
      · rfl
    rw [ea]
    exact hr
  · intro u hu
    simp only [ir, List.mem_map] at hu
    obtain ⟨y, -, rfl⟩ := hu
    rfl
  · intro g cp w' hown hgrow hat _
    have hg : g = W.heap.size := by
      rcases hat with e | e
      · cases e
      · exact e
    subst hg
    rw [List.nil_append, Nat.zero_add] at hown
    obtain ⟨hA, hcp⟩ := own_atN hown
    have hB : Below W.heap.size W w' := (Below.refl _ W).grown hgrow (Nat.le_refl _) (fun k e => by cases e)
    have := h cp w' hA hcp hB
    rw [Nat.zero_add]
    exact this
/-- The copy, and the look's box. -/
structure MG (w W : World) (Q G : Nat) (a b c : Value) (k : List Value) (L : List Int) : Prop where
  a0 : At W w.heap.size k
  q : At W Q [a, b, c]
  g : At W G (ir L)
  gr : Gr w W
  ne : (w.heap.size < Q ∧ w.heap.size < G) ∧ Q ≠ G
section
variable {w W w' : World} {Q G : Nat} {a b c : Value} {k : List Value} {L : List Int}
theorem MG.below (h : MG w W Q G a b c k L) (hB : Below W.heap.size W w') : MG w w' Q G a b c k L := ⟨h.a0.below hB, h.q.below hB, h.g.below hB, Gr.step h.gr hB, h.ne⟩
theorem MG.drew (h : MG w W Q G a b c k L) : MG w W.drew Q G a b c k L := ⟨h.a0, h.q, h.g, h.gr.drew, h.ne⟩
theorem MG.all {x0 x1 x2 x3 : Value} (h : MG w W Q G a b c [x0, x1, x2, x3] L) : (W.cell? ⟨Q, 0, none⟩ = some a ∧ W.cell? ⟨Q, 1, none⟩ = some b ∧ W.cell? ⟨Q, 2, none⟩ = some c) ∧ W.cell? ⟨w.heap.size, 0, none⟩ = some x0 ∧ W.cell? ⟨w.heap.size, 1, none⟩ = some x1 ∧ W.cell? ⟨w.heap.size, 2, none⟩ = some x2 ∧ W.cell? ⟨w.heap.size, 3, none⟩ = some x3 := ⟨h.q.c3, h.a0.c4⟩
theorem MG.put (h : MG w W Q G a b c k L) (i : Nat) (x : Int) : MG w (W.setCell ⟨G, i, none⟩ (.int .i64 x)) Q G a b c k (L.set i x) := by
  obtain ⟨⟨n1, n2⟩, n3⟩ := h.ne
  refine ⟨h.a0.skip (by omega) _ _, h.q.skip (Ne.symm n3) _ _, ?_, h.gr.set (by omega) _ _, h.ne⟩
  have := h.g.put i (.int .i64 x)
  rwa [show (ir L).set i (.int .i64 x) = ir (L.set i x) by simp [ir]] at this
theorem MG.rs {cp N : Nat} (h : MG w W Q G a b (.slice (some ⟨G, 0, none⟩) N cp) k L) (hN : L.length = N) (hcp : N ≤ cp) : Rs W G 0 cp L :=
  ⟨fun i hi => by rw [Nat.zero_add]; exact (h.g.get hi).1, h.g.lt, by omega⟩
end
/-- What comes of a copy that is filled. -/
theorem MG.mk' {w W w' : World} {pb po Q N cp : Nat} {a b c v : Value} {k : List Value} {L : List Int} (h : MF w W pb po a b c k) (hq : At W Q [a, b, v]) (hlt : w.heap.size < Q) (hA : At w' W.heap.size (ir L)) (hB : Below W.heap.size W w') : MG w (w'.setCell ⟨Q, 2, none⟩ (.slice (some ⟨W.heap.size, 0, none⟩) N cp)) Q W.heap.size a b (.slice (some ⟨W.heap.size, 0, none⟩) N cp) k L := by
  have h1 := hq.lt
  have h2 := h.a0.lt
  refine ⟨(h.a0.below hB).skip (by omega) _ _, (hq.below hB).put 2 _, hA.skip (by omega) _ _, (Gr.step h.gr hB).set (by omega) _ _, ⟨hlt, h2⟩, by omega⟩
theorem gl_setN {l : List Int} {c : Nat} (hc : c < l.length) (x : Int) (i : Nat) : gl (l.set c x) i = if i = c then x else gl l i := by
  unfold gl
  by_cases e : i = c
  · subst e; simp [hc]
  · rw [if_neg e]; simp [List.getElem?_set_ne (Ne.symm e)]
end Go.Proofs.YtpdiefmmenfpaaaDoor
