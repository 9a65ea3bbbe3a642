/-
  Two marks and one way between them: the equations.
-/
import Derived.Test.YtecmkjefoppbiaaDoorQSwG
namespace Go.Proofs.YtecmkjefoppbiaaDoor
open Go.RowKit

/-- The first cell of the block is no word. -/
def Nw (W : World) (B : Nat) : Prop := ∃ x, W.cell? ⟨B, 0, none⟩ = some x ∧ ∀ z : Int, ¬ x = .int .u64 z
theorem Pt.setX {W : World} {v : Value} {l : List Nat} {B : Nat} (h : Pt W v l) (hc : Nw W B) (j : Nat) (y : Value) : Pt (W.setCell ⟨B, j, none⟩ y) v l := by
  rcases h with h | ⟨b, cap, h1, h2, h3, h4, h5⟩
  · exact .inl h
  · refine .inr ⟨b, cap, h1, h2, h3, fun i hi => ?_, by simpa using h5⟩
    have hne : ¬ B = b := by
      intro e
      subst e
      obtain ⟨x, hx, hz⟩ := hc
      have c := h4 0 (by omega)
      rw [hx] at c
      exact hz _ (Option.some.inj c)
    have hne' : ¬ b = B := fun e => hne e.symm
    simp [go_sem, h4 i hi]
theorem Nm.setX {W : World} {m : Bool} {v : Value} {z : Int} {B : Nat} (h : Nm W m v z) (hc : Nw W B) (j : Nat) (y : Value) : Nm (W.setCell ⟨B, j, none⟩ y) m v z := ⟨h.1.setX hc j y, h.2⟩
theorem At.nw {W : World} {B : Nat} {x : Value} {l : List Value} (h : At W B (x :: l)) (hx : ∀ z : Int, ¬ x = .int .u64 z) : Nw W B := ⟨x, (h.1 0 (by simp)).1, hx⟩
/-- The one row of two numbers. -/
structure QT (W : World) (g g2 cp2 : Nat) (m0 : Bool) (u0 : Value) (m1 : Bool) (u1 : Value) : Prop where
  c : W.cell? ⟨g, 0, none⟩ = some (.slice (some ⟨g2, 0, none⟩) 2 cp2)
  d : (W.cell? ⟨g2, 0, none⟩ = some (.bool m0) ∧ W.cell? ⟨g2, 1, none⟩ = some u0) ∧ W.cell? ⟨g2, 2, none⟩ = some (.bool m1) ∧ W.cell? ⟨g2, 3, none⟩ = some u1
  z0 : Nm W m0 u0 1
  z1 : Nm W m1 u1 3
theorem QT.lt {W : World} {g g2 cp2 : Nat} {m0 m1 : Bool} {u0 u1 : Value} (h : QT W g g2 cp2 m0 u0 m1 u1) : g < W.heap.size ∧ g2 < W.heap.size := ⟨lt_of_cell h.c, lt_of_cell h.d.1.1⟩
theorem QT.below {W w' : World} {g g2 cp2 : Nat} {m0 m1 : Bool} {u0 u1 : Value} (h : QT W g g2 cp2 m0 u0 m1 u1) (hB : Below W.heap.size W w') : QT w' g g2 cp2 m0 u0 m1 u1 := by
  obtain ⟨h1, h2⟩ := h.lt
  have e := fun j => hB.cell (p := ⟨g2, j, none⟩) h2
  exact ⟨(hB.cell (p := ⟨g, 0, none⟩) h1).trans h.c, ⟨⟨(e 0).trans h.d.1.1, (e 1).trans h.d.1.2⟩, (e 2).trans h.d.2.1, (e 3).trans h.d.2.2⟩, h.z0.below hB, h.z1.below hB⟩
theorem QT.set {W : World} {g g2 cp2 B : Nat} {m0 m1 : Bool} {u0 u1 : Value} (h : QT W g g2 cp2 m0 u0 m1 u1) (hg : ¬ B = g ∧ ¬ B = g2) (hw : Nw W B) (j : Nat) (y : Value) : QT (W.setCell ⟨B, j, none⟩ y) g g2 cp2 m0 u0 m1 u1 := by
  have n1 : ¬ g = B := fun e => hg.1 e.symm
  have n2 : ¬ g2 = B := fun e => hg.2 e.symm
  obtain ⟨⟨d0, d1⟩, d2, d3⟩ := h.d
  exact ⟨by simp [go_sem, h.c], ⟨⟨by simp [go_sem, d0], by simp [go_sem, d1]⟩, by simp [go_sem, d2], by simp [go_sem, d3]⟩, h.z0.setX hw j y, h.z1.setX hw j y⟩
def x1s : Sn := ⟨0, 1, 3, 1⟩
theorem ft_one : FT 2 [x1s] := fun k hk => by
  obtain rfl : k = 0 := by simpa using hk
  decide
theorem eq_one : eqM [x1s] 2 1 1 1 = 1 ∧ eqM [x1s] 2 1 1 2 = 3 := by decide
theorem sequations_two {ad : Option Addr} {b o cap : Nat} (w : World) (h : SeL 32 w ad b o cap [x1s]) (B : Int) : Calls Tryd.prog 29 #[svV 2 B (.slice ad 1 cap)] w fun e w' => ∃ g cp g2 cp2 m0 u0 m1 u1, e = .returned (.slice (some ⟨g, 0, none⟩) 1 cp) ∧ QT w' g g2 cp2 m0 u0 m1 u1 ∧ Gr w w' := by
  refine (sequations_any w h (M := 2) (by decide) (by decide) ft_one B).mono ?_
  rintro e w' ⟨v, base, vs, Ps, rfl, hR, hl, ht, -, -, hG⟩
  have hl1 : vs.length = 1 := hl
  have h0 := hR.i 0 (by omega)
  obtain ⟨hp, hr⟩ := h0
  have hf : (fun b => eqM [x1s] 2 [x1s].length (0 + 1) (b + 1)) = fun b => eqM [x1s] 2 1 1 (b + 1) := rfl
  obtain ⟨_, ⟨-, hn⟩ | ⟨g2, cp2, cur2, hv2, hb2, hg2, hc2, -⟩⟩ := id hr.r
  · omega
  · rw [hp] at hv2
    rw [hv2] at hr
    have e0 := hr.cell (j := 0) (by omega)
    have e1 := hr.cell (j := 1) (by omega)
    have z0 := hr.z 0 (by omega)
    have z1 := hr.z 1 (by omega)
    have f1 : eqM [x1s] 2 [x1s].length (0 + 1) (0 + 1) = 1 := eq_one.1
    have f2 : eqM [x1s] 2 [x1s].length (0 + 1) (1 + 1) = 3 := eq_one.2
    rw [f1] at z0
    rw [f2] at z1
    obtain ⟨_, ⟨rfl, hn⟩ | ⟨g, cp, cur, hv, hb, hg, hc, hm, hs, hT⟩⟩ := hR.o
    · omega
    · rw [hl1] at hv
      have c0 : cur.toList[0]? = some (vX vs 0) := by
        have : (cur.toList.take (vs.length * 1))[0]? = vs[0]? := by rw [hT]
        rw [List.getElem?_take, if_pos (by omega)] at this
        rw [this]
        unfold vX
        simp [show 0 < vs.length by omega]
      rw [hv2] at c0
      refine ⟨g, cp, g2, cp2, _, _, _, _, by rw [hv], ⟨?_, ⟨⟨e0.1, e0.2⟩, e1.1, e1.2⟩, z0, z1⟩, hG⟩
      simp [World.cell?, hg]
      simpa using c0
end Go.Proofs.YtecmkjefoppbiaaDoor
