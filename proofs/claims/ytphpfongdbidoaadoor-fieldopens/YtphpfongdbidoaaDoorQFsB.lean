/-
  field.sumsOf.
-/
import Derived.Test.YtphpfongdbidoaaDoorQFsA
import Derived.Deep.RegionHeld3
namespace Go.Proofs.YtphpfongdbidoaaDoor
open Go.RowKit

theorem gl_set {L : List Int} {j k : Nat} {x : Int} (hj : j < L.length) : gl (L.set j x) k = if j = k then x else gl L k := by
  unfold gl
  rw [List.getD_eq_getElem?_getD, List.getD_eq_getElem?_getD, List.getElem?_set]
  by_cases h : j = k
  · subst h; simp [hj]
  · simp [h]
/-- So far: the corners of the first rows, and of the first columns of one row. -/
structure SumP (l : List Int) (m n r c : Nat) (L : List Int) : Prop where
  len : L.length = (n + 1) * (m + 1)
  top : ∀ c', c' ≤ m → gl L c' = 0
  left : ∀ r', r' ≤ n → gl L (r' * (m + 1)) = 0
  rows : ∀ r' c', r' ≤ r → c' ≤ m → gl L (r' * (m + 1) + c') = ps l m r' c'
  row : ∀ c', c' ≤ c → gl L ((r + 1) * (m + 1) + c') = ps l m (r + 1) c'
theorem ps_left (l : List Int) (m : Nat) : ∀ r, ps l m r 0 = 0
  | 0 => rfl
  | r + 1 => by unfold ps; rw [ps_left l m r]; rfl
theorem div_two {a b c d k : Nat} (hc : c < k) (hd : d < k) (h : a * k + c = b * k + d) : a = b ∧ c = d := by
  have h1 : (a * k + c) / k = a := by rw [Nat.add_comm, Nat.add_mul_div_right _ _ (by omega), Nat.div_eq_of_lt hc, Nat.zero_add]
  have h2 : (b * k + d) / k = b := by rw [Nat.add_comm, Nat.add_mul_div_right _ _ (by omega), Nat.div_eq_of_lt hd, Nat.zero_add]
  have e : a = b := by rw [← h1, h, h2]
  subst e
  exact ⟨rfl, by omega⟩
theorem SumP.start (l : List Int) (m n : Nat) : SumP l m n 0 0 (List.replicate ((n + 1) * (m + 1)) 0) := by
  have hz : ∀ k, gl (List.replicate ((n + 1) * (m + 1)) 0) k = 0 := by
    intro k
    unfold gl
    rw [List.getD_eq_getElem?_getD, List.getElem?_replicate]
    split <;> rfl
  refine ⟨by simp, fun c' _ => hz _, fun r' _ => hz _, fun r' c' h1 h2 => ?_, fun c' h => ?_⟩
  · obtain rfl : r' = 0 := by omega
    rw [hz]; rfl
  · obtain rfl : c' = 0 := by omega
    rw [hz, ps_left]
theorem SumP.step {l : List Int} {m n r c : Nat} {L : List Int} (h : SumP l m n r c L) (hr : r < n) (hc : c < m) : SumP l m n r (c + 1) (L.set ((r + 1) * (m + 1) + (c + 1)) (ps l m r (c + 1) + rs l m r (c + 1))) := by
  have hj : (r + 1) * (m + 1) + (c + 1) < L.length := by
    rw [h.len]
    have : (r + 1 + 1) * (m + 1) ≤ (n + 1) * (m + 1) := Nat.mul_le_mul_right _ (by omega)
    rw [Nat.add_mul (r + 1) 1] at this
    omega
  refine ⟨by rw [List.length_set]; exact h.len, fun c' h1 => ?_, fun r' h1 => ?_, fun r' c' h1 h2 => ?_, fun c' h1 => ?_⟩
  · rw [gl_set hj, if_neg ?_]
    · exact h.top c' h1
    · intro e
      have := div_two (a := r + 1) (b := 0) (c := c + 1) (d := c') (k := m + 1) (by omega) (by omega) (by rw [e]; omega)
      omega
  · rw [gl_set hj, if_neg ?_]
    · exact h.left r' h1
    · intro e
      have := div_two (a := r + 1) (b := r') (c := c + 1) (d := 0) (k := m + 1) (by omega) (by omega) (by rw [e]; omega)
      omega
  · rw [gl_set hj, if_neg ?_]
    · exact h.rows r' c' h1 h2
    · intro e
      have := div_two (a := r + 1) (b := r') (c := c + 1) (d := c') (k := m + 1) (by omega) (by omega) e
      omega
  · by_cases hcc : c' = c + 1
    · subst hcc
      rw [gl_set hj, if_pos rfl]
      rfl
    · rw [gl_set hj, if_neg ?_]
      · exact h.row c' (by omega)
      · intro e
        have := div_two (a := r + 1) (b := r + 1) (c := c + 1) (d := c') (k := m + 1) (by omega) (by omega) e
        omega
theorem SumP.next {l : List Int} {m n r : Nat} {L : List Int} (h : SumP l m n r m L) (hr : r + 1 < n) : SumP l m n (r + 1) 0 L := by
  refine ⟨h.len, h.top, h.left, fun r' c' h1 h2 => ?_, fun c' h1 => ?_⟩
  · by_cases e : r' = r + 1
    · subst e; exact h.row c' h2
    · exact h.rows r' c' (by omega) h2
  · obtain rfl : c' = 0 := by omega
    rw [ps_left]
    exact h.left (r + 1 + 1) (by omega)
theorem SumP.done {l : List Int} {m n r : Nat} {L : List Int} (h : SumP l m n r m L) (hr : r + 1 = n) : SumL l m n L := by
  refine ⟨h.len, fun r' c' h1 h2 => ?_⟩
  by_cases e : r' = r + 1
  · subst e; exact h.row c' h2
  · exact h.rows r' c' (by omega) h2
end Go.Proofs.YtphpfongdbidoaaDoor
