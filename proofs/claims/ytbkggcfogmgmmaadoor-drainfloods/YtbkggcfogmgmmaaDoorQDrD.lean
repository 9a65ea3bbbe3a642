/-
  Directions and neighbours; the rim. No Go text.
-/
import Derived.Test.YtbkggcfogmgmmaaDoorQDrM
namespace Go.Proofs.YtbkggcfogmgmmaaDoor
open Go.RowKit

/-- Directions: so many columns to the east, so many rows to the north. -/
def dE (d : Nat) : Int := if d = 1 ∨ d = 0 ∨ d = 7 then 1 else if d = 3 ∨ d = 4 ∨ d = 5 then -1 else 0
def dN (d : Nat) : Int := if d = 1 ∨ d = 2 ∨ d = 3 then 1 else if d = 7 ∨ d = 6 ∨ d = 5 then -1 else 0
/-- A neighbour. -/
def nbO (m n c d : Nat) : Option Nat :=
  if d = 8 ∨ ¬ (0 ≤ ((c % m : Nat) : Int) + dE d ∧ ((c % m : Nat) : Int) + dE d ≤ (m : Int) - 1) ∨ ¬ (0 ≤ ((c / m : Nat) : Int) - dN d ∧ ((c / m : Nat) : Int) - dN d ≤ (n : Int) - 1) then none
  else some ((((c / m : Nat) : Int) - dN d).toNat * m + (((c % m : Nat) : Int) + dE d).toNat)
/-- The direction from a cell to another one. -/
def wyI (x y : Int) : Nat := if x = 1 then (if y = 0 then 0 else if y = 1 then 1 else 7) else if x = -1 then (4 - y).toNat else if y = 1 then 2 else if y = -1 then 6 else 8
def wyD (m i k : Nat) : Nat := wyI (((k % m : Nat) : Int) - ((i % m : Nat) : Int)) (((i / m : Nat) : Int) - ((k / m : Nat) : Int))
theorem nb_some {m n c d k : Nat} (h : nbO m n c d = some k) : d ≠ 8 ∧ ((k % m : Nat) : Int) = ((c % m : Nat) : Int) + dE d ∧ ((k / m : Nat) : Int) = ((c / m : Nat) : Int) - dN d ∧ k / m < n ∧ k % m < m := by
  unfold nbO at h
  split at h
  · cases h
  · rename_i hh
    have h1 : d ≠ 8 := fun e => hh (.inl e)
    have h2 : 0 ≤ ((c % m : Nat) : Int) + dE d ∧ ((c % m : Nat) : Int) + dE d ≤ (m : Int) - 1 := Classical.not_not.1 (fun e => hh (.inr (.inl e)))
    have h3 : 0 ≤ ((c / m : Nat) : Int) - dN d ∧ ((c / m : Nat) : Int) - dN d ≤ (n : Int) - 1 := Classical.not_not.1 (fun e => hh (.inr (.inr e)))
    obtain rfl := Option.some.inj h
    obtain ⟨e1, e2⟩ := mod_at (m := m) (r := (((c / m : Nat) : Int) - dN d).toNat) (c := (((c % m : Nat) : Int) + dE d).toNat) (by omega)
    rw [e1, e2]
    generalize ((c % m : Nat) : Int) + dE d = x at *
    generalize ((c / m : Nat) : Int) - dN d = y at *
    omega
theorem cell_lt {m n k : Nat} (h1 : k / m < n) (h2 : k % m < m) : k < m * n := by
  have := Nat.div_add_mod k m
  have h3 : m * (k / m + 1) ≤ m * n := Nat.mul_le_mul_left m h1
  rw [Nat.mul_add] at h3
  omega
theorem nb_lt {m n c d k : Nat} (h : nbO m n c d = some k) : k < m * n := cell_lt (nb_some h).2.2.2.1 (nb_some h).2.2.2.2
theorem dir8 {d : Nat} (h : d < 8) : (-1 ≤ dE d ∧ dE d ≤ 1) ∧ (-1 ≤ dN d ∧ dN d ≤ 1) ∧ (dE d ≠ 0 ∨ dN d ≠ 0) ∧ wyI (- dE d) (- dN d) = (d + 4) % 8 ∧ wyI (dE d) (dN d) = d := by
  have : ∀ d : Fin 8, (-1 ≤ dE d ∧ dE d ≤ 1) ∧ (-1 ≤ dN d ∧ dN d ≤ 1) ∧ (dE d ≠ 0 ∨ dN d ≠ 0) ∧ wyI (- dE d) (- dN d) = (d + 4) % 8 ∧ wyI (dE d) (dN d) = d := by decide
  exact this ⟨d, h⟩
theorem nb_tch {m n c d k : Nat} (hd : d < 8) (h : nbO m n c d = some k) : tch m c k ∧ k < m * n ∧ wyD m k c = (d + 4) % 8 ∧ wyD m c k = d := by
  obtain ⟨_, h1, h2, _, _⟩ := nb_some h
  obtain ⟨⟨d1, d2⟩, ⟨d3, d4⟩, d5, d6, d7⟩ := dir8 hd
  refine ⟨?_, nb_lt h, ?_, ?_⟩
  · unfold tch
    refine ⟨fun e => ?_, by omega, by omega⟩
    subst e
    omega
  · unfold wyD
    rw [show ((c % m : Nat) : Int) - ((k % m : Nat) : Int) = - dE d by omega, show ((k / m : Nat) : Int) - ((c / m : Nat) : Int) = - dN d by omega]
    exact d6
  · unfold wyD
    rw [show ((k % m : Nat) : Int) - ((c % m : Nat) : Int) = dE d by omega, show ((c / m : Nat) : Int) - ((k / m : Nat) : Int) = dN d by omega]
    exact d7
theorem way8 {x y : Int} (hx : -1 ≤ x ∧ x ≤ 1) (hy : -1 ≤ y ∧ y ≤ 1) (h : x ≠ 0 ∨ y ≠ 0) : wyI x y < 8 ∧ dE (wyI x y) = x ∧ dN (wyI x y) = y := by
  have hx' : x = -1 ∨ x = 0 ∨ x = 1 := by omega
  have hy' : y = -1 ∨ y = 0 ∨ y = 1 := by omega
  rcases hx' with rfl | rfl | rfl <;> rcases hy' with rfl | rfl | rfl <;> first | decide | (exfalso; omega)
theorem tch_nb {m n c k : Nat} (hm : 1 ≤ m) (h : tch m c k) (hk : k < m * n) : wyD m c k < 8 ∧ nbO m n c (wyD m c k) = some k := by
  unfold tch at h
  obtain ⟨h0, h1, h2⟩ := h
  have hne : ((k % m : Nat) : Int) - ((c % m : Nat) : Int) ≠ 0 ∨ ((c / m : Nat) : Int) - ((k / m : Nat) : Int) ≠ 0 := by
    rcases Nat.eq_or_lt_of_le (Nat.le_refl (k % m)) with _ | e
    · by_cases e1 : k % m = c % m
      · by_cases e2 : c / m = k / m
        · have a1 := Nat.div_add_mod c m
          have a2 := Nat.div_add_mod k m
          rw [e2, ← e1] at a1
          omega
        · omega
      · omega
    · omega
  obtain ⟨w1, w2, w3⟩ := way8 (x := ((k % m : Nat) : Int) - ((c % m : Nat) : Int)) (y := ((c / m : Nat) : Int) - ((k / m : Nat) : Int)) (by omega) (by omega) hne
  have hkm : k % m < m := Nat.mod_lt _ hm
  have hkn : k / m < n := Nat.div_lt_of_lt_mul hk
  refine ⟨w1, ?_⟩
  have w8 : wyI (((k % m : Nat) : Int) - ((c % m : Nat) : Int)) (((c / m : Nat) : Int) - ((k / m : Nat) : Int)) ≠ 8 := by omega
  unfold nbO
  unfold wyD
  rw [w2, w3, if_neg (by
    clear w1 w2 w3 hne h1 h2 h0 hk
    generalize c % m = cr at *
    generalize c / m = cq at *
    generalize k % m = kr at *
    generalize k / m = kq at *
    rintro (h | h | h)
    · exact w8 h
    · omega
    · omega)]
  rw [show ((c / m : Nat) : Int) - (((c / m : Nat) : Int) - ((k / m : Nat) : Int)) = ((k / m : Nat) : Int) by omega, show ((c % m : Nat) : Int) + (((k % m : Nat) : Int) - ((c % m : Nat) : Int)) = ((k % m : Nat) : Int) by omega]
  simp only [Int.toNat_natCast, Option.some.injEq]
  rw [Nat.mul_comm]
  exact Nat.div_add_mod k m
/-- The rim: a direction with no neighbour. -/
theorem rim_iff {m n c : Nat} (hc : c < m * n) : rim m n c ↔ ∃ d, d < 8 ∧ nbO m n c d = none := by
  have hm : 1 ≤ m := by
    rcases Nat.eq_zero_or_pos m with e | e
    · subst e; simp at hc
    · exact e
  have hcm : c % m < m := Nat.mod_lt _ hm
  have hcn : c / m < n := Nat.div_lt_of_lt_mul hc
  unfold rim
  constructor
  · intro h
    rcases h with h | h | h | h
    · exact ⟨4, by omega, by unfold nbO; rw [if_pos]; right; left; simp only [dE]; simp; omega⟩
    · exact ⟨0, by omega, by unfold nbO; rw [if_pos]; right; left; simp only [dE]; simp; omega⟩
    · exact ⟨2, by omega, by unfold nbO; rw [if_pos]; right; right; simp only [dN]; simp; omega⟩
    · exact ⟨6, by omega, by unfold nbO; rw [if_pos]; right; right; simp only [dN]; simp; omega⟩
  · intro ⟨d, hd, h⟩
    obtain ⟨⟨d1, d2⟩, ⟨d3, d4⟩, _⟩ := dir8 hd
    unfold nbO at h
    split at h
    · rename_i hh
      clear h
      generalize c % m = cr at *
      generalize c / m = cq at *
      rcases hh with hh | hh | hh
      · omega
      · omega
      · omega
    · cases h
theorem nodup_filter {L : List Nat} (p : Nat → Bool) (h : L.Nodup) : (L.filter p).Nodup := List.Pairwise.filter p h
/-- How many touch it. -/
def tcs (m c k : Nat) : Nat := ((List.range k).filter (fun i => decide (tch m c i))).length
theorem tcs_succ (m c k : Nat) : tcs m c (k + 1) = tcs m c k + (if tch m c k then 1 else 0) := by
  unfold tcs
  rw [List.range_succ, List.filter_append, List.length_append]
  congr 1
  by_cases h : tch m c k
  · simp [h]
  · simp [h]
theorem tcs_le (m c k : Nat) : tcs m c k ≤ k := by
  unfold tcs
  have := List.length_filter_le (fun i => decide (tch m c i)) (List.range k)
  simpa using this
theorem tcs_rim {m n c : Nat} (hc : c < m * n) : tcs m c (m * n) < 8 ↔ rim m n c := by
  have hm : 1 ≤ m := by
    rcases Nat.eq_zero_or_pos m with e | e
    · subst e; simp at hc
    · exact e
  have hsub : ∀ d k, d < 8 → nbO m n c d = some k → wyD m c k = d := fun d k hd h => (nb_tch hd h).2.2.2
  -- the filtered list and the directions that have a neighbour
  have hl : tcs m c (m * n) = ((List.range 8).filter (fun d => (nbO m n c d).isSome)).length := by
    unfold tcs
    have e : ((List.range (m * n)).filter (fun i => decide (tch m c i))).map (wyD m c) |>.Perm ((List.range 8).filter (fun d => (nbO m n c d).isSome)) := by
      refine (List.perm_ext_iff_of_nodup ?_ (nodup_filter _ List.nodup_range)).2 ?_
      · refine List.Pairwise.map _ (R := fun a b => (a ∈ (List.range (m * n)).filter (fun i => decide (tch m c i)) ∧ b ∈ (List.range (m * n)).filter (fun i => decide (tch m c i)) ∧ a ≠ b)) ?_ ?_
        · rintro a b ⟨ha, hb, hne⟩ e
          simp only [List.mem_filter, List.mem_range, decide_eq_true_eq] at ha hb
          have h1 := (tch_nb hm ha.2 ha.1).2
          have h2 := (tch_nb hm hb.2 hb.1).2
          rw [e, h2] at h1
          exact hne (Option.some.inj h1).symm
        · have : ((List.range (m * n)).filter (fun i => decide (tch m c i))).Nodup := nodup_filter _ List.nodup_range
          exact List.Pairwise.imp_of_mem (fun ha hb h => ⟨ha, hb, h⟩) this
      · intro d
        simp only [List.mem_map, List.mem_filter, List.mem_range, decide_eq_true_eq]
        constructor
        · rintro ⟨k, ⟨hk, ht⟩, rfl⟩
          obtain ⟨h1, h2⟩ := tch_nb hm ht hk
          exact ⟨h1, by rw [h2]; rfl⟩
        · rintro ⟨hd, hs⟩
          obtain ⟨k, hk⟩ := Option.isSome_iff_exists.1 hs
          obtain ⟨h1, h2, _, h4⟩ := nb_tch hd hk
          exact ⟨k, ⟨h2, h1⟩, h4⟩
    have := e.length_eq
    rw [List.length_map] at this
    exact this
  rw [hl, rim_iff hc]
  constructor
  · intro h
    apply Classical.byContradiction
    intro hn
    have : (List.range 8).filter (fun d => (nbO m n c d).isSome) = List.range 8 := by
      rw [List.filter_eq_self]
      intro d hd
      rw [List.mem_range] at hd
      cases hq : nbO m n c d with
      | none => exact absurd ⟨d, hd, hq⟩ hn
      | some _ => rfl
    rw [this] at h
    simp at h
  · rintro ⟨d, hd, hq⟩
    have hle := List.length_filter_le (fun d => (nbO m n c d).isSome) (List.range 8)
    rcases Nat.lt_or_ge ((List.range 8).filter (fun d => (nbO m n c d).isSome)).length 8 with c1 | c1
    · exact c1
    · have : ((List.range 8).filter (fun d => (nbO m n c d).isSome)).length = (List.range 8).length := by simp at hle ⊢; omega
      rw [List.length_filter_eq_length_iff] at this
      have := this d (List.mem_range.2 hd)
      rw [hq] at this
      cases this
end Go.Proofs.YtbkggcfogmgmmaaDoor
