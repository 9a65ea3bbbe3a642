/-
  An int that is appended at a step of a drawn region; what stays.
-/
import Derived.Test.YtbkggcfogmgmmaaDoorQJ2
import Derived.Test.YtbkggcfogmgmmaaDoorQRa
import Derived.Deep.AppendLies
import Derived.Deep.RegionHeldLaw
namespace Go.Proofs.YtbkggcfogmgmmaaDoor
open Go.RowKit

theorem At.belowN {n : Nat} {W w' : World} {B : Nat} {l : List Value} (hB : Below n W w') (hn : B < n) (hs : W.heap.size ≤ w'.heap.size) (h : At W B l) : At w' B l :=
  ⟨fun i hi => ⟨(hB.cell (p := ⟨B, i, none⟩) hn).trans (h.1 i hi).1, (hB.frozen (p := ⟨B, i, none⟩) hn).trans (h.1 i hi).2⟩, Nat.lt_of_lt_of_le h.2 hs⟩
/-- An append to a row of whole numbers, at a step of a region that draws its order. -/
theorem step_i1 {ops : Array Oper} {o : Oper} {a : Act} {K : Act → World → Prop} {Q : Exit → Act → World → Prop} {Ep : Prop} (W : World) (b0 : Nat) (v : Value) (l : List Int) (r : Int) (n B : Nat) (s x : Operand) (hgd : o.guard = none)
    (ho : o.op = .call { callee := .builtin .append, args := #[s, x], argTypes := #[25, 25] }) (hs : a.eval s = v) (hx : a.eval x = .slice (some ⟨B, 0, none⟩) 1 1) (hn : l.length = n) (hl : n ≤ 20000)
    (hO : W.ownsRow b0 3 1 v n (ir l)) (hN : At W B [.int .i64 r]) (hb : b0 ≤ W.heap.size)
    (h : ∀ g cap w', w'.ownsRow b0 3 1 (.slice (some ⟨g, 0, none⟩) (n + 1) cap) (n + 1) (ir (l ++ [r])) → W.grownBy w' v.ownBlock → K (a.put o.dst (.slice (some ⟨g, 0, none⟩) (n + 1) cap)) w') :
    if Region.wanted o (yielded ops a.tmps) = true then Oper.wp Tryd.prog o a W K Q else Ep := by
  have hml : 30000 ≤ maxLen := by decide
  obtain ⟨i0, hi, hz0, hz1, hz2⟩ := info_parts infoJ
  refine step_append_lies W hgd s x _ ho b0 _ i0 (.int .i64 0) 1 8 undI hi hz0 hz1 hz2 rfl (by decide) v n (ir l) hs hO ⟨B, 0, none⟩ 1 1 [.int .i64 r] hx rfl ?_ ?_ (by decide) (by omega) (by omega) hb _ rfl ?_
  · intro j u hu
    match j with
    | 0 => simp at hu; subst hu; exact (hN.1 0 (by simp)).1
    | j + 1 => simp at hu
  · intro u hu; simp at hu; subst hu; rfl
  · intro g cap w' hown hgrow _ _
    rw [ir_snoc] at hown
    exact h g cap w' hown hgrow
theorem own_set {w : World} {base e size n : Nat} {v : Value} {xs : List Value} (h : w.ownsRow base e size v n xs) {c : Nat} (hc : c < base) (o : Nat) (u : Value) : (w.setCell ⟨c, o, none⟩ u).ownsRow base e size v n xs := by
  have k := Below.setCell (Below.refl 0 w) (p := ⟨c, o, none⟩) (Nat.zero_le _) u
  refine h.kept (row := some c) ⟨k.os, k.tape, k.output, by simp, fun i hi hn => ?_⟩ (.inr ?_)
  · exact Below.heap_setCell w ⟨c, o, none⟩ u i (fun e => hn (by rw [e]))
  · intro e
    have := (h.lt c e).1
    omega
theorem app_facts {w wr W w2 : World} {base Wt D n : Nat} {v : Value} {lw ld xs : List Value} (hO : wr.ownsRow base 3 1 v n xs) (hg : W.grownBy w2 v.ownBlock) (hW : Gr wr W) (hb : base ≤ wr.heap.size) (hw : w.heap.size ≤ base) (lW : Wt < base) (lD : D < base) (AW : At wr Wt lw) (AD : At wr D ld) (G : Gr w wr) : At w2 Wt lw ∧ At w2 D ld ∧ Gr w w2 ∧ base ≤ w2.heap.size := by
  have hs := hW.out.size
  have hs2 := hg.size
  have hBb := (Below.refl base W).grown hg (by omega) (fun k hk => (hO.lt k hk).1)
  exact ⟨At.belowN hBb lW hs2 (At.below hW.out AW), At.belowN hBb lD hs2 (At.below hW.out AD), Below.grown (Gr.step G hW.out).out hg (by have := G.out.size; omega) (fun k hk => Nat.le_trans hw (hO.lt k hk).1), by omega⟩
theorem At.put2c {W : World} {B : Nat} {a b c : Value} (h : At W B [a, b, c]) (u : Value) : At (W.setCell ⟨B, 2, none⟩ u) B [a, b, u] := h.put 2 u
theorem At.new1d' (W : World) (a : Value) (t : Nat) : At (W.drew.alloc (.cells #[a] t)) W.heap.size [a] := At.new1 W.drew a t
theorem At.new1dd' (W : World) (a : Value) (t : Nat) : At (W.drew.drew.alloc (.cells #[a] t)) W.heap.size [a] := At.new1 W.drew.drew a t
theorem own_rs2 {w : World} {base : Nat} {v : Value} {n : Nat} {l : List Int} (h : w.ownsRow base 3 1 v n (ir l)) (h0 : 1 ≤ l.length) : ∃ g cap, v = .slice (some ⟨g, 0, none⟩) l.length cap ∧ Rs w g 0 cap l := by
  have hn : n = l.length := by have := h.1; simp [ir] at this; omega
  subst hn
  obtain ⟨h1, h | ⟨g, cap, cur, hv, hb, hg, hc, hm, hs, ht⟩⟩ := h
  · obtain ⟨_, h2⟩ := h; omega
  · refine ⟨g, cap, hv, ?_, ?_, ?_⟩
    · intro i hi
      have e : cur.toList[i]? = some (.int .i64 l[i]) := by
        have : (cur.toList.take (l.length * 1))[i]? = (ir l)[i]? := by rw [ht]
        rw [List.getElem?_take] at this
        rw [if_pos (by omega)] at this
        rw [this]
        simp [ir, hi]
      simp [World.cell?, hg]
      simpa using e
    · rcases Nat.lt_or_ge g w.heap.size with c | c
      · exact c
      · rw [Array.getElem?_eq_none c] at hg; cases hg
    · omega
end Go.Proofs.YtbkggcfogmgmmaaDoor
