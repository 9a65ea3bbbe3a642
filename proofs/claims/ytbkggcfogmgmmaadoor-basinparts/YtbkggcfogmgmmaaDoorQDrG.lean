/-
  drain.flood's take.
-/
import Derived.Test.YtbkggcfogmgmmaaDoorQDrE
import Derived.Test.YtbkggcfogmgmmaaDoorQDrF
namespace Go.Proofs.YtbkggcfogmgmmaaDoor
open Go.RowKit
attribute [local go_sem ↓] Go.wp_at_zero Go.wp_at_succ

/-- An append to a row of whole numbers, at a step of a region that draws its order; where the row lies behind it. -/
theorem step_i2 {ops : Array Oper} {o : Oper} {a : Act} {K : Act → World → Prop} {Q : Exit → Act → World → Prop} {Ep : Prop} (W : World) (b0 : Nat) (v : Value) (l : List Int) (r : Int) (n B : Nat) (s x : Operand) (hgd : o.guard = none)
    (ho : o.op = .call { callee := .builtin .append, args := #[s, x], argTypes := #[25, 25] }) (hs : a.eval s = v) (hx : a.eval x = .slice (some ⟨B, 0, none⟩) 1 1) (hn : l.length = n) (hl : n ≤ 20000)
    (hO : W.ownsRow b0 3 1 v n (ir l)) (hN : At W B [.int .i64 r]) (hb : b0 ≤ W.heap.size)
    (h : ∀ g cap w', w'.ownsRow b0 3 1 (.slice (some ⟨g, 0, none⟩) (n + 1) cap) (n + 1) (ir (l ++ [r])) → W.grownBy w' v.ownBlock → (v.ownBlock = some g ∨ g = W.heap.size) → K (a.put o.dst (.slice (some ⟨g, 0, none⟩) (n + 1) cap)) w') :
    if Region.wanted o (yielded ops a.tmps) = true then Oper.wp Tryd.prog o a W K Q else Ep := by
  have hml : 30000 ≤ maxLen := by decide
  obtain ⟨i0, hi, hz0, hz1, hz2⟩ := info_parts infoJ
  refine step_append_lies W hgd s x _ ho b0 _ i0 (.int .i64 0) 1 8 undI hi hz0 hz1 hz2 rfl (by decide) v n (ir l) hs hO ⟨B, 0, none⟩ 1 1 [.int .i64 r] hx rfl ?_ ?_ (by decide) (by omega) (by omega) hb _ rfl ?_
  · intro j u hu
    match j with
    | 0 => simp at hu; subst hu; exact (hN.1 0 (by simp)).1
    | j + 1 => simp at hu
  · intro u hu; simp at hu; subst hu; rfl
  · intro g cap w' hown hgrow hat _
    rw [ir_snoc] at hown
    exact h g cap w' hown hgrow hat
section
variable {w0 w : World} {base F LV FL N : Nat} {a b c : Value} {Lv Fl : List Int} {vo : Value} {ord : List Nat} {vq : Value} {q : List Wt}
theorem own_grown {W w' : World} {bs e size n : Nat} {v : Value} {xs : List Value} {row : Option Nat} (h : W.ownsRow bs e size v n xs) (hg : W.grownBy w' row) (hne : ∀ k, v.ownBlock = some k → row ≠ some k) : w'.ownsRow bs e size v n xs := by
  have hlt := h.lt
  obtain ⟨h1, h2⟩ := h
  refine ⟨h1, ?_⟩
  rcases h2 with h2 | ⟨g, cap, cur, rfl, h3, h4, h5⟩
  · exact .inl h2
  · exact .inr ⟨g, cap, cur, rfl, h3, (hg.block g (hlt g rfl).2 (fun e2 => hne g rfl e2.symm)).trans h4, h5⟩
theorem FM.order {w' : World} {g cap k : Nat} (h : FM w0 w base F LV FL N a b c Lv Fl vo ord vq q) (hown : w'.ownsRow base 3 1 (.slice (some ⟨g, 0, none⟩) (ord.length + 1) cap) (ord.length + 1) (ir (on ord ++ [(k : Int)]))) (hgr : w.grownBy w' vo.ownBlock) (hat : vo.ownBlock = some g ∨ w.heap.size ≤ g) : FM w0 (w'.setCell ⟨F, 5, none⟩ (.slice (some ⟨g, 0, none⟩) (ord.length + 1) cap)) base F LV FL N a b c Lv Fl (.slice (some ⟨g, 0, none⟩) (ord.length + 1) cap) (ord ++ [k]) vq q := by
  obtain ⟨⟨p1, p2, p3⟩, ⟨p4, p5, p6⟩, p7, p8⟩ := h.b1
  obtain ⟨n1, n2, n3⟩ := h.b2
  have hv : ∀ i, i < base → vo.ownBlock ≠ some i := fun i hi e => by have := (h.ro.lt i e).1; omega
  refine ⟨Gr.set (Below.grown h.gr.out hgr h.gr.out.size (fun i e => by have := (h.ro.lt i e).1; omega)) p1 5 _, (At.grow h.f hgr (hv _ p4)).put 5 _, (At.grow h.lv hgr (hv _ p5)).skip n1 5 _, (At.grow h.fl hgr (hv _ p6)).skip n2 5 _, h.ll, ?_, own_set (own_grown h.rq hgr (fun k e e2 => h.dis k e2 e)) p4 5 _, h.hp, ⟨⟨p1, p2, p3⟩, ⟨p4, p5, p6⟩, by have := hgr.size; simp; omega, p8⟩, h.b2, ?_⟩
  · have e : on (ord ++ [k]) = on ord ++ [(k : Int)] := by simp [on]
    rw [List.length_append, e]
    exact own_set hown p4 5 _
  · intro i hi e
    have e' : g = i := by simpa [Value.ownBlock] using hi
    rcases hat with hat | hat
    · exact h.dis i (by rw [hat, e']) e
    · have := (h.rq.lt i e).2; omega
theorem FM.pop {w' : World} {g cap n : Nat} {q' : List Wt} (h : FM w0 w base F LV FL N a b c Lv Fl vo ord (.slice (some ⟨g, 0, none⟩) (n + 1) cap) q) (hf : At w' F [a, b, c, .slice (some ⟨LV, 0, none⟩) N N, .slice (some ⟨FL, 0, none⟩) N N, vo, .slice (some ⟨g, 0, none⟩) n cap]) (hO : OW w' base g cap (q'.take n)) (hn : q'.length = n + 1) (hp : Hp q' n) (hF : Fr F (.slice (some ⟨g, 0, none⟩) n cap) w w') : FM w0 w' base F LV FL N a b c Lv Fl vo ord (.slice (some ⟨g, 0, none⟩) n cap) (q'.take n) := by
  have hl : (q'.take n).length = n := by rw [List.length_take]; omega
  refine FM.push (q' := q'.take n) h hf hO hl ?_ ⟨hF.os, hF.tape, hF.output, hF.size, hF.block⟩ (.inl rfl)
  intro i h0 h1
  have e : ∀ k, k < n → wx (q'.take n) k = wx q' k := fun k hk => by unfold wx; simp [hk]
  rw [e i h1, e _ (by omega)]
  exact hp i h0 h1
end
end Go.Proofs.YtbkggcfogmgmmaaDoor
