/-
  mercatorlaw3.measured.
-/
import Derived.Test.YtecmkjefoppbiaaDoorQJ21
import Derived.Deep.RegionLaw
namespace Go.Proofs.YtecmkjefoppbiaaDoor
open Go.RowKit
attribute [local go_sem ↓] Go.wp_at_zero Go.wp_at_succ

abbrev Sn.cs (x : Sn) : List Value := [.int .i64 x.f, .int .i64 x.t, .int .i64 x.u, .int .i64 x.w]
def scL (l : List Sn) : List Value := l.flatMap Sn.cs
theorem sc_snoc (l : List Sn) (x : Sn) : scL l ++ x.cs = scL (l ++ [x]) := by simp [scL]
theorem sc_len (l : List Sn) : (scL l).length = l.length * 4 := by
  induction l with
  | nil => rfl
  | cons s l ih => simp [scL] at ih ⊢; omega
theorem sc_get : ∀ (l : List Sn) (k : Nat) (_ : k < l.length) (j : Nat), j < 4 → (scL l)[k * 4 + j]? = (snX l k).cs[j]?
  | s :: l, 0, _, j, hj => by
    match j, hj with
    | 0, _ => rfl
    | 1, _ => rfl
    | 2, _ => rfl
    | 3, _ => rfl
  | s :: l, k + 1, hk, j, hj => by
    have ih := sc_get l k (by simp at hk; omega) j hj
    rw [show (k + 1) * 4 + j = (k * 4 + j) + 4 by omega]
    exact ih
theorem seindex (b n cap k : Nat) (hk : k < n) (w : World) : (Instr.indexAt 32 (.slice (some ⟨b, 0, none⟩) n cap) (.int .i64 k)).run Tryd.prog w = .ok (.pointer (some ⟨b, 0 + k * 4, none⟩)) w := by
  have hu : Tryd.prog.underlying 32 = some (.slice (Tryd.prog.elem 32)) := by kernel_rfl
  refine (run_indexAt_slice (P := Tryd.prog) (w := w) 32 ⟨b, 0, none⟩ n cap .i64 (k : Int) hu).trans ?_
  rw [if_pos ⟨by omega, by omega⟩]
  have hs : (sizeOf (Tryd.prog.elem 32)).run Tryd.prog w = .ok 4 w := by kernel_rfl
  rw [hs]
  simp [Addr.add]
  try (intro h; omega)
theorem infoSe : (Tryd.prog.info? 47).map (fun i => (i.zero, i.size, i.bytes)) = some (some (.agg #[.int .i64 0, .int .i64 0, .int .i64 0, .int .i64 0]), 4, 32) := by kernel_rfl
theorem undSe : Tryd.prog.underlying 32 = some (.slice 47) := by kernel_rfl
theorem own_se {w : World} {base n : Nat} {v : Value} {l : List Sn} (h : w.ownsRow base 47 4 v n (scL l)) : ∃ ad b cap, v = .slice ad l.length cap ∧ SeL 32 w ad b 0 cap l := by
  have hn : n = l.length := by have := h.1; rw [sc_len] at this; omega
  subst hn
  have hlt := h.lt
  obtain ⟨h1, h | ⟨g, cap, cur, hv, hb, hg, hc, hm, hs, ht⟩⟩ := h
  · obtain ⟨rfl, h0⟩ := h
    have : l = [] := List.eq_nil_of_length_eq_zero h0
    subst this
    exact ⟨none, 0, 0, rfl, fun k hk => by simp at hk, fun k hk => by simp at hk⟩
  · refine ⟨_, g, cap, hv, fun k hk => ?_, fun k hk w => seindex g _ cap k hk w⟩
    have key : ∀ j, (hj : j < 4) → w.cell? ⟨g, 0 + k * 4 + j, none⟩ = (snX l k).cs[j]? := by
      intro j hj
      have e1 : (cur.toList.take (l.length * 4))[k * 4 + j]? = (scL l)[k * 4 + j]? := by rw [ht]
      rw [List.getElem?_take, if_pos (by omega), sc_get l k hk j hj] at e1
      rw [Nat.zero_add]
      simp [World.cell?, hg]
      simpa using e1
    exact ⟨⟨key 0 (by decide), key 1 (by decide), key 2 (by decide), key 3 (by decide)⟩, (hlt g (by rw [hv]; rfl)).2⟩
theorem news_se {W : World} {B : Nat} {l : List Value} (h : At W B l) : ∀ j u, l[j]? = some u → W.cell? ((⟨B, 0, none⟩ : Addr).add j) = some u := by
  intro j u hu
  have hadd : (⟨B, 0, none⟩ : Addr).add j = ⟨B, j, none⟩ := by unfold Addr.add; split <;> simp_all
  obtain ⟨hj, rfl⟩ := List.getElem?_eq_some_iff.1 hu
  rw [hadd]
  exact (h.1 j hj).1
theorem wpList_se {ops : Array Oper} {rest : List Oper} {o : Oper} {a : Act} {Q : Exit → Act → World → Prop} (W : World) (b0 : Nat) (v : Value) (l : List Sn) (r : Sn) (n B : Nat) (s x : Operand) (hgd : o.guard = none)
    (ho : o.op = .call { callee := .builtin .append, args := #[s, x], argTypes := #[32, 32] }) (hs : a.eval s = v) (hx : a.eval x = .slice (some ⟨B, 0, none⟩) 1 1) (hl : n ≤ 200)
    (hO : W.ownsRow b0 47 4 v n (scL l)) (hN : At W B r.cs) (hb : b0 ≤ W.heap.size) (H : Nat) (hH : W.heap.size = H)
    (h : ∀ g cap w', Hid (w'.ownsRow b0 47 4 (.slice (some ⟨g, 0, none⟩) (n + 1) cap) (n + 1) (scL (l ++ [r]))) → Hid (W.grownBy w' v.ownBlock) → wpList Tryd.prog ops Q rest (a.put o.dst (.slice (some ⟨g, 0, none⟩) (n + 1) cap)) w') : wpList Tryd.prog ops Q (o :: rest) a W := by
  have hml : 1000 ≤ maxLen := by decide
  obtain ⟨i0, hi, hz0, hz1, hz2⟩ := info_parts infoSe
  have ones : ∀ u ∈ r.cs, u.oneCell' = true := by
    intro u hu
    simp only [List.mem_cons, List.not_mem_nil, or_false] at hu
    rcases hu with rfl | rfl | rfl | rfl <;> rfl
  refine wpList_plain hgd fun _ hK => wp_append_lies W s x _ ho b0 _ i0 (.agg #[.int .i64 0, .int .i64 0, .int .i64 0, .int .i64 0]) 4 32 undSe hi hz0 hz1 hz2 rfl (by decide) v n (scL l) hs hO ⟨B, 0, none⟩ 1 1 r.cs hx rfl (news_se hN) ones (by decide) (by omega) (by omega) hb H hH ?_
  intro g cap w' h1 h2 h3 _
  rw [sc_snoc] at h1
  exact hK _ _ (h g cap w' h1 h2)
theorem own_sh4 {w : World} {base : Nat} {v : Value} {n e : Nat} {xs : List Value} (h : w.ownsRow base e 4 v n xs) : ∃ ad cap, v = .slice ad n cap := by
  obtain ⟨_, ⟨rfl, rfl⟩ | ⟨g, cap, cur, hv, _⟩⟩ := h
  · exact ⟨none, 0, rfl⟩
  · exact ⟨_, _, hv⟩
/-- A survey that is copied: its block, and the row. -/
structure ME (w W : World) (OB RB base : Nat) (M B : Int) (rc : List Value) (v : Value) (l : List Sn) : Prop where
  o : At W OB [.int .i64 M, .int .i64 B, v]
  q : At W RB rc
  r : W.ownsRow base 47 4 v l.length (scL l)
  gr : Gr w W
  b : w.heap.size ≤ OB ∧ OB < base ∧ RB < base ∧ base ≤ W.heap.size
section
variable {w W w' : World} {OB RB base : Nat} {M B : Int} {rc : List Value} {v : Value} {l : List Sn}
theorem ME.below (h : ME w W OB RB base M B rc v l) (hB : Below W.heap.size W w') : ME w w' OB RB base M B rc v l :=
  ⟨At.below hB h.o, At.below hB h.q, own_kept h.r hB, Gr.step h.gr hB, h.b.1, h.b.2.1, h.b.2.2.1, Nat.le_trans h.b.2.2.2 hB.size⟩
theorem ME.app {ob : Obj} {g cap : Nat} {x : Sn} (h : ME w W OB RB base M B rc v l) (hne : ¬ OB = RB) (hO : w'.ownsRow base 47 4 (.slice (some ⟨g, 0, none⟩) (l.length + 1) cap) (l.length + 1) (scL (l ++ [x]))) (hg : (W.alloc ob).grownBy w' v.ownBlock) : ME w (w'.setCell ⟨OB, 2, none⟩ (.slice (some ⟨g, 0, none⟩) (l.length + 1) cap)) OB RB base M B rc (.slice (some ⟨g, 0, none⟩) (l.length + 1) cap) (l ++ [x]) := by
  obtain ⟨b1, b2, b3, b4⟩ := h.b
  have hv : ∀ k, v.ownBlock = some k → base ≤ k := fun k e => (h.r.lt k e).1
  have hs := hg.size
  have hs1 : W.heap.size ≤ (W.alloc ob).heap.size := by simp
  refine ⟨((h.o.alloc ob).grw1 hg (fun e => by have := hv _ e; omega)).put 2 _, ((h.q.alloc ob).grw1 hg (fun e => by have := hv _ e; omega)).skip hne _ _, by rw [List.length_append]; exact own_over hO b2 _ _, ?_, b1, b2, b3, by simp; omega⟩
  exact Gr.set (Below.grown (h.gr.alloc ob).out hg (by have := h.gr.out.size; omega) (fun k e => by have := hv k e; omega)) b1 _ _
end
end Go.Proofs.YtecmkjefoppbiaaDoor
