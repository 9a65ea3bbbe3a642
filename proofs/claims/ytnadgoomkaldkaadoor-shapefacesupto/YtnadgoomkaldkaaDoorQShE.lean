/-
  shape.piece.eastOf, shape.Area, Where; mercatorlaw5.few, ringed.
-/
import Derived.Test.YtnadgoomkaldkaaDoorQShD
namespace Go.Proofs.YtnadgoomkaldkaaDoor
open Go.RowKit
attribute [local go_sem ↓] Go.wp_at_zero Go.wp_at_succ

/-- A piece's lower and its upper end. -/
def lwE (p : Pc) : Sp := if p.2.2 < p.1.2 then p.2 else p.1
def upE (p : Pc) : Sp := if p.2.2 < p.1.2 then p.1 else p.2
/-- A piece to the east of a point. -/
def esP (p : Pc) (s : Sp) : Prop := ((lwE p).2 ≤ s.2 ∧ s.2 < (upE p).2) ∧ 0 < tn (lwE p) (upE p) s
instance (p : Pc) (s : Sp) : Decidable (esP p s) := by unfold esP; exact inferInstance
theorem rcd_ok {l : List Sp} (h : rcd l = 0) : l.length ≤ 4000 ∧ rgP l := by
  unfold rcd at h
  split at h
  · cases h
  · split at h
    · exact ⟨by omega, by assumption⟩
    · cases h
theorem rg_ok {l : List Sp} (h : rgP l) : ∀ i, i < l.length → okS (sx l i) := fun i hi => (h.2.1 i hi).1
theorem pk_ok {l : List Sp} {k : Nat} (h : ∀ i, i < l.length → okS (sx l i)) (hk : k < l.length) : ∀ p ∈ pk l k, okS p.1 ∧ okS p.2 := by
  intro p hp
  simp only [pk, List.mem_map, List.mem_range] at hp
  obtain ⟨i, hi, rfl⟩ := hp
  exact ⟨h i (by omega), h (i + 1) (by omega)⟩
theorem eg_ok {l : List Sp} (h : ∀ i, i < l.length → okS (sx l i)) (h1 : 1 ≤ l.length) : ∀ p ∈ eg l, okS p.1 ∧ okS p.2 := by
  intro p hp
  unfold eg at hp
  rcases List.mem_append.1 hp with hp | hp
  · exact pk_ok h (by omega) p hp
  · rw [List.mem_singleton] at hp
    subst hp
    exact ⟨h _ (by omega), h 0 (by omega)⟩
theorem ev_zero (g : Nat → Addr) : ev g 0 = .nilIface := rfl
theorem ev_pos (g : Nat → Addr) {c : Nat} (h : ¬ c = 0) : ev g c = errV g (c - 1) := if_neg h
/-- Where a point is, by the edges. -/
def sdP (L : List Pc) (s : Sp) : Int := L.foldl (fun z e => if esP e s then -z else z) (-1)
theorem sdP_snoc (L : List Pc) (e : Pc) (s : Sp) : sdP (L ++ [e]) s = if esP e s then - sdP L s else sdP L s := by simp [sdP]
theorem sdP_one : ∀ (L : List Pc) (s : Sp), sdP L s = 1 ∨ sdP L s = -1 := by
  have key : ∀ (L : List Pc) (s : Sp) (z : Int), (z = 1 ∨ z = -1) → (L.foldl (fun z e => if esP e s then -z else z) z = 1 ∨ L.foldl (fun z e => if esP e s then -z else z) z = -1) := by
    intro L
    induction L with
    | nil => intro s z hz; exact hz
    | cons e L ih =>
      intro s z hz
      rw [List.foldl_cons]
      refine ih s _ ?_
      split <;> omega
  exact fun L s => key L s (-1) (.inr rfl)
def whP (L : List Pc) (s : Sp) : Int := if ∃ e ∈ L, hsP e s then 0 else sdP L s
theorem whP_hit {L : List Pc} {s : Sp} {e : Pc} (h : e ∈ L) (k : hsP e s) : whP L s = 0 := if_pos ⟨e, h, k⟩
end Go.Proofs.YtnadgoomkaldkaaDoor
