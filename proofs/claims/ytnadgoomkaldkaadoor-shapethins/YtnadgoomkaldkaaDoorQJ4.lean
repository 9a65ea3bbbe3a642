/-
  mercatorref5: PlaceIn, IsSimple.; mercatorref5: IsSimple.
-/
import Derived.Test.YtnadgoomkaldkaaDoorQSrB
namespace Go.Proofs.YtnadgoomkaldkaaDoor
open Go.RowKit
attribute [local go_sem ↓] Go.wp_at_zero Go.wp_at_succ

theorem nxm_lt {n i : Nat} (h : i < n) : (i + 1) % n < n := Nat.mod_lt _ (by omega)
theorem eg_take {l : List Sp} (h : 1 ≤ l.length) {k : Nat} (hk : k < l.length) : (eg l).take (k + 1) = (eg l).take k ++ [ed l k] := by
  have hl : k < (eg l).length := by rw [eg_len h]; exact hk
  rw [List.take_succ_eq_append_getElem hl]
  congr 1
  have : (eg l)[k] = ed l k := by simp only [eg_ed h, List.getElem_map, List.getElem_range]
  rw [this]
/-- An edge to the east, as the reference tells it. -/
theorem es_iff (q r s : Sp) : esP (q, r) s ↔ (q.2 ≤ s.2 ∧ s.2 < r.2 ∧ 0 < tn q r s) ∨ (r.2 ≤ s.2 ∧ s.2 < q.2 ∧ tn q r s < 0) := by
  unfold esP lwE upE
  dsimp only
  by_cases c : r.2 < q.2
  · rw [if_pos c, if_pos c, tn_turn]
    constructor
    · rintro ⟨⟨h1, h2⟩, h3⟩; exact .inr ⟨h1, h2, by omega⟩
    · rintro (⟨h1, h2, h3⟩ | ⟨h1, h2, h3⟩)
      · omega
      · exact ⟨⟨h1, h2⟩, by omega⟩
  · rw [if_neg c, if_neg c]
    constructor
    · rintro ⟨⟨h1, h2⟩, h3⟩; exact .inl ⟨h1, h2, h3⟩
    · rintro (⟨h1, h2, h3⟩ | ⟨h1, h2, h3⟩)
      · exact ⟨⟨h1, h2⟩, h3⟩
      · omega
def ctK (l : List Sp) (s : Sp) (k : Nat) : Nat := ((eg l).take k).countP (fun e => decide (esP e s))
theorem ctK_succ {l : List Sp} (h : 1 ≤ l.length) {k : Nat} (hk : k < l.length) (s : Sp) : ctK l s (k + 1) = ctK l s k + (if esP (ed l k) s then 1 else 0) := by
  unfold ctK
  rw [eg_take h hk, List.countP_append]
  by_cases c : esP (ed l k) s <;> simp [c]
theorem ctK_le (l : List Sp) (s : Sp) (k : Nat) : ctK l s k ≤ k := by
  unfold ctK
  exact Nat.le_trans List.countP_le_length (by rw [List.length_take]; omega)
end Go.Proofs.YtnadgoomkaldkaaDoor
namespace Go.Proofs.YtnadgoomkaldkaaDoor
open Go.RowKit
attribute [local go_sem ↓] Go.wp_at_zero Go.wp_at_succ

/-- Two edges that a simple ring has not. -/
def bdP (l : List Sp) (k i : Nat) : Prop := cmN (sx l k) (sx l ((k + 1) % l.length)) (sx l i) (sx l ((i + 1) % l.length)) = 2 ∨ (cmN (sx l k) (sx l ((k + 1) % l.length)) (sx l i) (sx l ((i + 1) % l.length)) = 1 ∧ ¬ (k + 1 = i ∧ cmA (sx l k) (sx l ((k + 1) % l.length)) (sx l i) (sx l ((i + 1) % l.length)) = sx l ((k + 1) % l.length)) ∧ ¬ ((i + 1) % l.length = k ∧ cmA (sx l k) (sx l ((k + 1) % l.length)) (sx l i) (sx l ((i + 1) % l.length)) = sx l k))
instance (l : List Sp) (k i : Nat) : Decidable (bdP l k i) := by unfold bdP; exact inferInstance
def smP (l : List Sp) : Prop := ∀ i, i < l.length → ∀ k, k < i → ¬ bdP l k i
instance (l : List Sp) : Decidable (smP l) := by unfold smP; exact inferInstance
theorem cmN_two (p q r s : Sp) : cmN p q r s = 0 ∨ cmN p q r s = 1 ∨ cmN p q r s = 2 := by
  unfold cmN
  split
  · exact .inr (.inr rfl)
  · split
    · exact .inr (.inl rfl)
    · split
      · exact .inr (.inr rfl)
      · exact .inl rfl
end Go.Proofs.YtnadgoomkaldkaaDoor
