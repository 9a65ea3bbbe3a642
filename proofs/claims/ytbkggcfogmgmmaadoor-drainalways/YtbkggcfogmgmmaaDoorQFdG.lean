/-
  field.Both.
-/
import Derived.Test.YtbkggcfogmgmmaaDoorQJ2
namespace Go.Proofs.YtbkggcfogmgmmaaDoor
open Go.RowKit

/-- Cell by cell. -/
def bothL (h : Int) (l l' : List Int) : List Int := List.zipWith (twoI h) l l'
theorem bothL_len {h : Int} {l l' : List Int} (e : l'.length = l.length) : (bothL h l l').length = l.length := by simp [bothL, e]
/-- So far: the first k are done. -/
def soFar (h : Int) (l l' : List Int) (k : Nat) : List Int := (bothL h l l').take k ++ List.replicate (l.length - k) 0
theorem soFar_set {h : Int} {l l' : List Int} (e : l'.length = l.length) {k : Nat} (hk : k < l.length) : (ir (soFar h l l' k)).set k (.int .i64 (twoI h l[k] (l'[k]'(by omega)))) = ir (soFar h l l' (k + 1)) := by
  have hz : k < (bothL h l l').length := by rw [bothL_len e]; exact hk
  apply List.ext_getElem
  · simp [soFar, bothL, e]; omega
  · intro i h1 h2
    simp only [List.getElem_set, ir, List.getElem_map]
    by_cases c : k = i
    · subst c
      rw [if_pos rfl]
      simp only [soFar]
      rw [List.getElem_append_left (by simp [bothL, e]; omega)]
      simp [bothL]
    · rw [if_neg c]
      simp only [soFar]
      by_cases c2 : i < k
      · rw [List.getElem_append_left (by simp [bothL, e]; omega), List.getElem_append_left (by simp [bothL, e]; omega)]
        simp
      · rw [List.getElem_append_right (by simp [bothL, e]; omega), List.getElem_append_right (by simp [bothL, e]; omega)]
        simp
theorem soFar_zero (h : Int) (l l' : List Int) : soFar h l l' 0 = List.replicate l.length 0 := by simp [soFar]
theorem soFar_end {h : Int} {l l' : List Int} (e : l'.length = l.length) : soFar h l l' l.length = bothL h l l' := by
  simp only [soFar, Nat.sub_self, List.replicate_zero, List.append_nil]
  exact List.take_of_length_le (by rw [bothL_len e]; exact Nat.le_refl _)
theorem At.isl {w : World} {B : Nat} {l : List Int} (h : At w B (ir l)) (cap : Nat) : ISl w (some ⟨B, 0, none⟩) B 0 cap l := by
  refine ISl.mk' (fun i hi => ?_) h.2
  have := (h.1 i (by simpa using hi)).1
  simpa using this
theorem vcode_zero {W H : Int} {l : List Int} (h : vcode W H l = 0) : (1 ≤ W ∧ W ≤ 128) ∧ (1 ≤ H ∧ H ≤ 128) ∧ (l.length : Int) = W * H ∧ ∀ x ∈ l, hiI x := by
  unfold vcode at h
  by_cases c1 : 128 < W ∨ 128 < H
  · rw [if_pos c1] at h; cases h
  · rw [if_neg c1] at h
    by_cases c2 : (W < 1 ∨ H < 1) ∨ ¬ (l.length : Int) = W * H
    · rw [if_pos c2] at h; cases h
    · rw [if_neg c2] at h
      by_cases c3 : ∀ x ∈ l, hiI x
      · exact ⟨⟨by omega, by omega⟩, ⟨by omega, by omega⟩, Classical.not_not.1 (fun hh => c2 (.inr hh)), c3⟩
      · rw [if_neg c3] at h; cases h
theorem acode_zero {W H W' H' : Int} {l l' : List Int} (h : acode W H l W' H' l' = 0) : vcode W H l = 0 ∧ vcode W' H' l' = 0 ∧ W = W' ∧ H = H' := by
  unfold acode at h
  by_cases c1 : vcode W H l = 0
  · rw [if_pos c1] at h
    by_cases c2 : vcode W' H' l' = 0
    · rw [if_pos c2] at h
      by_cases c3 : W = W' ∧ H = H'
      · exact ⟨c1, c2, c3.1, c3.2⟩
      · rw [if_neg c3] at h; cases h
    · rw [if_neg c2] at h; exact absurd h c2
  · rw [if_neg c1] at h; exact absurd h c1
/-- Which error. -/
def bcode (W H : Int) (l : List Int) (W' H' : Int) (l' : List Int) (h : Int) : Nat := if acode W H l W' H' l' = 0 then (if knI h then vcode W H (bothL h l l') else 3) else acode W H l W' H' l'
end Go.Proofs.YtbkggcfogmgmmaaDoor
