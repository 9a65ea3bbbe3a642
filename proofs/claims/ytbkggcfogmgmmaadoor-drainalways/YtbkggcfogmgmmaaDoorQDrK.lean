/-
  The flood's beginning: the rim comes to wait. No Go text.
-/
import Derived.Test.YtbkggcfogmgmmaaDoorQJ12
namespace Go.Proofs.YtbkggcfogmgmmaaDoor
open Go.RowKit

section
variable (m n : Nat) (l : List Int)
def fsK (k : Nat) : FS := ⟨fun i => if i < k ∧ rim m n i then 1 else 0, fun i => if i < k ∧ rim m n i then gl l i else 0, fun i => i, []⟩
theorem fsK_all : fsK m n l l.length = fs0 m n l := rfl
theorem fsK_same (k : Nat) (h : ¬ rim m n k) : fsK m n l (k + 1) = fsK m n l k := by
  have e : ∀ i, (i < k + 1 ∧ rim m n i) ↔ (i < k ∧ rim m n i) := fun i => by
    constructor
    · intro ⟨h1, h2⟩
      refine ⟨?_, h2⟩
      rcases Nat.lt_or_ge i k with c | c
      · exact c
      · have : i = k := by omega
        subst this
        exact absurd h2 h
    · intro ⟨h1, h2⟩
      exact ⟨by omega, h2⟩
  unfold fsK
  simp only [e]
theorem wyD_self (i : Nat) : wyD m i i = 8 := by
  unfold wyD
  rw [Int.sub_self, Int.sub_self]
  decide
theorem Syn.zero {Lv Fl : List Int} (h1 : Lv = List.replicate l.length 0) (h2 : Fl = List.replicate l.length (-1)) : Syn m l (fsK m n l 0) Lv Fl [] := by
  subst h1 h2
  have e : ∀ i, ¬ (i < 0 ∧ rim m n i) := fun i h => absurd h.1 (Nat.not_lt_zero _)
  have s0 : ∀ i, (fsK m n l 0).st i = 0 := fun i => by
    show (if i < 0 ∧ rim m n i then 1 else 0) = 0
    rw [if_neg (e i)]
  refine ⟨fun i hi => ?_, fun i hi => ?_, fun p => ?_, List.nodup_nil, fun i hi => ?_⟩
  · show _ = (if i < 0 ∧ rim m n i then gl l i else 0)
    rw [if_neg (e i)]
    simp [gl, hi]
  · unfold flV
    rw [s0, if_pos rfl]
    simp [gl, hi]
  · constructor
    · intro h; cases h
    · intro ⟨h, _⟩
      rw [s0] at h
      omega
  · exact absurd (s0 i) hi
theorem Syn.rim {Lv Fl : List Int} {q q' : List Wt} {k : Nat} (h : Syn m l (fsK m n l k) Lv Fl q) (hL : Lv.length = l.length ∧ Fl.length = l.length) (hk : k < l.length) (hr : rim m n k) (hp : q'.Perm (q ++ [(gl l k, k)])) : Syn m l (fsK m n l (k + 1)) (Lv.set k (gl l k)) (Fl.set k 8) q' := by
  have e : ∀ i, (i < k + 1 ∧ Go.Proofs.YtbkggcfogmgmmaaDoor.rim m n i) ↔ ((i < k ∧ Go.Proofs.YtbkggcfogmgmmaaDoor.rim m n i) ∨ i = k) := fun i => by
    constructor
    · intro ⟨h1, h2⟩
      by_cases c : i = k
      · exact .inr c
      · exact .inl ⟨by omega, h2⟩
    · rintro (⟨h1, h2⟩ | rfl)
      · exact ⟨by omega, h2⟩
      · exact ⟨by omega, hr⟩
  have s1 : ∀ i, (fsK m n l (k + 1)).st i = if i = k then 1 else (fsK m n l k).st i := fun i => by
    show (if i < k + 1 ∧ Go.Proofs.YtbkggcfogmgmmaaDoor.rim m n i then 1 else 0) = if i = k then 1 else (if i < k ∧ Go.Proofs.YtbkggcfogmgmmaaDoor.rim m n i then 1 else 0)
    by_cases c : i = k
    · rw [if_pos ((e i).2 (.inr c)), if_pos c]
    · rw [if_neg c]
      by_cases d : i < k ∧ Go.Proofs.YtbkggcfogmgmmaaDoor.rim m n i
      · rw [if_pos ((e i).2 (.inl d)), if_pos d]
      · rw [if_neg (fun h => ((e i).1 h).elim d c), if_neg d]
  have s2 : ∀ i, (fsK m n l (k + 1)).fi i = if i = k then gl l k else (fsK m n l k).fi i := fun i => by
    show (if i < k + 1 ∧ Go.Proofs.YtbkggcfogmgmmaaDoor.rim m n i then gl l i else 0) = if i = k then gl l k else (if i < k ∧ Go.Proofs.YtbkggcfogmgmmaaDoor.rim m n i then gl l i else 0)
    by_cases c : i = k
    · rw [if_pos ((e i).2 (.inr c)), if_pos c, c]
    · rw [if_neg c]
      by_cases d : i < k ∧ Go.Proofs.YtbkggcfogmgmmaaDoor.rim m n i
      · rw [if_pos ((e i).2 (.inl d)), if_pos d]
      · rw [if_neg (fun h => ((e i).1 h).elim d c), if_neg d]
  have hst : (fsK m n l k).st k = 0 := if_neg (fun h => Nat.lt_irrefl _ h.1)
  refine ⟨fun i hi => ?_, fun i hi => ?_, fun p => ?_, ?_, fun i hi => ?_⟩
  · rw [gl_set (by rw [hL.1]; exact hk), s2]
    split
    · rfl
    · exact h.lv i hi
  · rw [gl_set (by rw [hL.2]; exact hk)]
    unfold flV
    rw [s1]
    by_cases c : i = k
    · subst c
      rw [if_pos rfl, if_pos rfl, if_neg (by omega)]
      show (8 : Int) = (wyD m i i : Int)
      rw [wyD_self]
      rfl
    · rw [if_neg c, if_neg c]
      exact h.fl i hi
  · rw [hp.mem_iff, List.mem_append, List.mem_singleton, h.mem, s1, s2]
    obtain ⟨p1, p2⟩ := p
    simp only
    by_cases c : p2 = k
    · subst c
      rw [if_pos rfl, if_pos rfl]
      constructor
      · rintro (⟨h1, h2⟩ | h1)
        · omega
        · exact ⟨rfl, (Prod.mk.inj h1).1⟩
      · intro ⟨_, h2⟩
        exact .inr (by rw [h2])
    · rw [if_neg c, if_neg c]
      constructor
      · rintro (h1 | h1)
        · exact h1
        · exact absurd (Prod.mk.inj h1).2 c
      · exact .inl
  · refine hp.nodup_iff.2 (List.nodup_append.2 ⟨h.nd, List.pairwise_singleton _ _, fun y hy z hz hyz => ?_⟩)
    rw [List.mem_singleton.1 hz] at hyz
    rw [hyz] at hy
    have := ((h.mem _).1 hy).1
    simp only at this
    omega
  · rw [s1] at hi
    by_cases c : i = k
    · rw [c]; exact hk
    · rw [if_neg c] at hi; exact h.lt i hi
/-- Where the queue is empty none waits. -/
theorem Syn.empty {S : FS} {Lv Fl : List Int} {q : List Wt} (h : Syn m l S Lv Fl q) (hq : q.length = 0) : ∀ i, i < l.length → S.st i ≠ 1 := by
  intro i _ hs
  have : (S.fi i, i) ∈ q := (h.mem _).2 ⟨hs, rfl⟩
  have := List.length_pos_of_mem this
  omega
end
end Go.Proofs.YtbkggcfogmgmmaaDoor
