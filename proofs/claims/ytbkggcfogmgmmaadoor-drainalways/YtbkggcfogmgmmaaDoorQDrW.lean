/-
  At the flood's end all were taken; each flows into a neighbour, or stands still on the rim. No Go text.
-/
import Derived.Test.YtbkggcfogmgmmaaDoorQJ12
namespace Go.Proofs.YtbkggcfogmgmmaaDoor
open Go.RowKit

theorem nodup_mem {N : Nat} {L : List Nat} (hd : L.Nodup) (h : ∀ i ∈ L, i < N) (hl : L.length = N) : ∀ i, i < N → i ∈ L := by
  intro i hi
  apply Classical.byContradiction
  intro hn
  have := nodup_len (N := N) (L := i :: L) (List.nodup_cons.2 ⟨hn, hd⟩) (fun k hk => by
    rcases List.mem_cons.1 hk with rfl | hk
    · exact hi
    · exact h k hk)
  simp at this
  omega
section
variable (m n : Nat) (l : List Int)
theorem flo_all (hm : 1 ≤ m) (hl : l.length = m * n) : ∀ i, i < l.length → (flo m n l l.length).st i = 2 := by
  obtain ⟨h1, h2⟩ := flo_inv m n l hm hl l.length (Nat.le_refl _)
  intro i hi
  exact (h1.mem i).1 (nodup_mem h1.nd (fun k hk => h1.lt m n l (by have := (h1.mem k).1 hk; omega)) h2 i hi)
theorem flo_tw (hm : 1 ≤ m) (hl : l.length = m * n) : ∀ k i, (flo m n l k).st i ≠ 0 → (flo m n l k).tw i = i ∨ (tch m i ((flo m n l k).tw i) ∧ (flo m n l k).tw i < l.length)
  | 0, i, _ => .inl rfl
  | k + 1, i, h => by
    have ih := flo_tw hm hl k
    unfold flo at h ⊢
    obtain ⟨b1, b2⟩ := bst_is (flo m n l k) l.length
    cases hq : bst (flo m n l k) l.length with
    | none =>
      rw [hq] at h
      exact ih i h
    | some b =>
      rw [hq] at h
      have hb := b1 b hq
      by_cases c : New m l (flo m n l k) b i
      · have e : (stepF m l (flo m n l k) b).tw i = b := if_pos c
        right
        show tch m i ((stepF m l (flo m n l k) b).tw i) ∧ (stepF m l (flo m n l k) b).tw i < l.length
        rw [e]
        exact ⟨tch_symm c.2.2, hb.1⟩
      · have e : (stepF m l (flo m n l k) b).tw i = (flo m n l k).tw i := if_neg c
        have hs : (flo m n l k).st i ≠ 0 := by
          by_cases d : i = b
          · rw [d, hb.2.1]; omega
          · have e2 : (stepF m l (flo m n l k) b).st i = (flo m n l k).st i := by
              show (if i = b then 2 else if New m l (flo m n l k) b i then 1 else (flo m n l k).st i) = _
              rw [if_neg d, if_neg c]
            have h' : (stepF m l (flo m n l k) b).st i ≠ 0 := h
            rw [e2] at h'
            exact h'
        show (stepF m l (flo m n l k) b).tw i = i ∨ tch m i ((stepF m l (flo m n l k) b).tw i) ∧ (stepF m l (flo m n l k) b).tw i < l.length
        rw [e]
        exact ih i hs
end
end Go.Proofs.YtbkggcfogmgmmaaDoor
