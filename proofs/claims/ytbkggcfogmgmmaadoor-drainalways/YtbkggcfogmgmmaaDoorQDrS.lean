/-
  The reference's flood: what lies in memory of it. No walk.
-/
import Derived.Test.YtbkggcfogmgmmaaDoorQDrR
import Derived.Test.YtbkggcfogmgmmaaDoorQDrK
import Derived.Test.YtbkggcfogmgmmaaDoorQJ12
import Derived.Test.YtbkggcfogmgmmaaDoorQMk
namespace Go.Proofs.YtbkggcfogmgmmaaDoor
open Go.RowKit

/-- Where a cell flows, as it is kept: -1 where it does not wait yet. -/
def twV (S : FS) (i : Nat) : Int := if S.st i = 0 then -1 else (S.tw i : Int)
section
variable (m n : Nat) (l : List Int)
/-- What lies in memory of the reference's flood is the flood. -/
structure RSy (S : FS) (Lf Lt Ls : List Int) : Prop where
  f : ∀ i, i < l.length → gl Lf i = S.fi i
  t : ∀ i, i < l.length → gl Lt i = twV S i
  s : ∀ i, i < l.length → gl Ls i = (S.st i : Int)
  ll : Lf.length = l.length ∧ Lt.length = l.length ∧ Ls.length = l.length
/-- Ahead of the rim's end: what follows k is nothing yet. -/
structure RS0 (k : Nat) (Lf Lt Ls : List Int) : Prop where
  f : ∀ i, i < l.length → gl Lf i = (fsK m n l k).fi i
  t : ∀ i, i < k → i < l.length → gl Lt i = twV (fsK m n l k) i
  s : ∀ i, i < l.length → gl Ls i = ((fsK m n l k).st i : Int)
  ll : Lf.length = l.length ∧ Lt.length = l.length ∧ Ls.length = l.length
theorem RS0.zero : RS0 m n l 0 (List.replicate l.length 0) (List.replicate l.length 0) (List.replicate l.length 0) := by
  have e : ∀ i, ¬ (i < 0 ∧ rim m n i) := fun i h => absurd h.1 (Nat.not_lt_zero _)
  refine ⟨fun i hi => ?_, fun i hi => absurd hi (Nat.not_lt_zero _), fun i hi => ?_, by simp⟩
  · show _ = (if i < 0 ∧ rim m n i then gl l i else 0)
    rw [if_neg (e i)]
    simp [gl, hi]
  · show _ = (((if i < 0 ∧ rim m n i then 1 else 0 : Nat)) : Int)
    rw [if_neg (e i)]
    simp [gl, hi]
theorem fsK_lt {k i : Nat} (h : i ≠ k) : (fsK m n l (k + 1)).st i = (fsK m n l k).st i ∧ (fsK m n l (k + 1)).fi i = (fsK m n l k).fi i := by
  have e : (i < k + 1 ∧ rim m n i) ↔ (i < k ∧ rim m n i) := by
    constructor
    · intro ⟨h1, h2⟩; exact ⟨by omega, h2⟩
    · intro ⟨h1, h2⟩; exact ⟨by omega, h2⟩
  constructor
  · show (if i < k + 1 ∧ rim m n i then 1 else 0) = (if i < k ∧ rim m n i then 1 else 0)
    simp only [e]
  · show (if i < k + 1 ∧ rim m n i then gl l i else 0) = (if i < k ∧ rim m n i then gl l i else 0)
    simp only [e]
theorem RS0.rim {k : Nat} {Lf Lt Ls : List Int} (h : RS0 m n l k Lf Lt Ls) (hk : k < l.length) (hr : rim m n k) : RS0 m n l (k + 1) (Lf.set k (gl l k)) ((Lt.set k (-1)).set k (k : Int)) (Ls.set k 1) := by
  obtain ⟨l1, l2, l3⟩ := h.ll
  have hs : (fsK m n l (k + 1)).st k = 1 := if_pos ⟨Nat.lt_succ_self _, hr⟩
  have hf : (fsK m n l (k + 1)).fi k = gl l k := if_pos ⟨Nat.lt_succ_self _, hr⟩
  refine ⟨fun i hi => ?_, fun i hi hil => ?_, fun i hi => ?_, by simp [l1, l2, l3]⟩
  · rw [gl_set (by omega)]
    by_cases c : i = k
    · rw [if_pos c, c, hf]
    · rw [if_neg c, (fsK_lt m n l c).2]; exact h.f i hi
  · rw [gl_set (by simp; omega)]
    unfold twV
    by_cases c : i = k
    · rw [if_pos c, c, hs]; rfl
    · rw [if_neg c, gl_set (by omega), if_neg c, (fsK_lt m n l c).1]; exact h.t i (by omega) hil
  · rw [gl_set (by omega)]
    by_cases c : i = k
    · rw [if_pos c, c, hs]; rfl
    · rw [if_neg c, (fsK_lt m n l c).1]; exact h.s i hi
theorem RS0.not {k : Nat} {Lf Lt Ls : List Int} (h : RS0 m n l k Lf Lt Ls) (hk : k < l.length) (hr : ¬ Go.Proofs.YtbkggcfogmgmmaaDoor.rim m n k) : RS0 m n l (k + 1) Lf (Lt.set k (-1)) Ls := by
  obtain ⟨l1, l2, l3⟩ := h.ll
  have e := fsK_same m n l k hr
  refine ⟨fun i hi => by rw [e]; exact h.f i hi, fun i hi hil => ?_, fun i hi => by rw [e]; exact h.s i hi, by simp [l1, l2, l3]⟩
  rw [e, gl_set (by omega)]
  by_cases c : i = k
  · rw [if_pos c]
    unfold twV
    have : (fsK m n l k).st i = 0 := if_neg (fun h => by have := h.1; omega)
    rw [this]; rfl
  · rw [if_neg c]; exact h.t i (by omega) hil
theorem RS0.all {Lf Lt Ls : List Int} (h : RS0 m n l l.length Lf Lt Ls) : RSy l (flo m n l 0) Lf Lt Ls := ⟨h.f, fun i hi => h.t i hi hi, h.s, h.ll⟩
/-- The step, as far as the first k cells. -/
def NwC (S : FS) (b k i : Nat) : Prop := New m l S b i ∧ i < k
instance (S : FS) (b k i : Nat) : Decidable (NwC m l S b k i) := by unfold NwC; exact inferInstance
def stC (S : FS) (b k : Nat) : FS :=
  ⟨fun i => if i = b then 2 else if NwC m l S b k i then 1 else S.st i, fun i => if NwC m l S b k i then up1 (gl l i) (S.fi b) else S.fi i, fun i => if NwC m l S b k i then b else S.tw i, S.ord ++ [b]⟩
theorem stC_all (S : FS) (b : Nat) : stC m l S b l.length = stepF m l S b := by
  have e : ∀ i, NwC m l S b l.length i ↔ New m l S b i := fun i => ⟨fun h => h.1, fun h => ⟨h, h.1⟩⟩
  unfold stC stepF
  simp only [e]
theorem NwC_succ (S : FS) (b k i : Nat) : NwC m l S b (k + 1) i ↔ NwC m l S b k i ∨ (New m l S b i ∧ i = k) := by
  unfold NwC
  constructor
  · intro ⟨h1, h2⟩
    by_cases c : i = k
    · exact .inr ⟨h1, c⟩
    · exact .inl ⟨h1, by omega⟩
  · rintro (⟨h1, h2⟩ | ⟨h1, h2⟩)
    · exact ⟨h1, by omega⟩
    · exact ⟨h1, by omega⟩
theorem stC_same (S : FS) (b k : Nat) (h : ¬ New m l S b k) : stC m l S b (k + 1) = stC m l S b k := by
  have e : ∀ i, NwC m l S b (k + 1) i ↔ NwC m l S b k i := fun i => by
    rw [NwC_succ]
    refine ⟨fun h' => h'.elim id (fun h' => ?_), .inl⟩
    exact absurd (h'.2 ▸ h'.1) h
  unfold stC
  simp only [e]
theorem stC_st {S : FS} {b k : Nat} (h : k ≠ b) : (stC m l S b k).st k = S.st k := by
  show (if k = b then 2 else if NwC m l S b k k then 1 else S.st k) = _
  rw [if_neg h, if_neg (fun h => by have := h.2; omega)]
theorem RSy.new {S : FS} {b k : Nat} {Lf Lt Ls : List Int} (h : RSy l (stC m l S b k) Lf Lt Ls) (hN : New m l S b k) : RSy l (stC m l S b (k + 1)) (Lf.set k (up1 (gl l k) (S.fi b))) (Lt.set k (b : Int)) (Ls.set k 1) := by
  obtain ⟨l1, l2, l3⟩ := h.ll
  have hk := hN.1
  have hkb : k ≠ b := fun e => hN.2.2.1 e.symm
  have e : ∀ i, NwC m l S b (k + 1) i ↔ NwC m l S b k i ∨ i = k := fun i => by
    rw [NwC_succ]
    exact ⟨fun h => h.imp id (fun h => h.2), fun h => h.imp id (fun h => ⟨by rw [h]; exact hN, h⟩)⟩
  have s1 : ∀ i, (stC m l S b (k + 1)).st i = if i = k then 1 else (stC m l S b k).st i := fun i => by
    show (if i = b then 2 else if NwC m l S b (k + 1) i then 1 else S.st i) = if i = k then 1 else (if i = b then 2 else if NwC m l S b k i then 1 else S.st i)
    by_cases c : i = k
    · subst c; rw [if_neg hkb, if_pos ((e i).2 (.inr rfl)), if_pos rfl]
    · rw [if_neg c]
      by_cases d : NwC m l S b k i
      · rw [if_pos ((e i).2 (.inl d)), if_pos d]
      · rw [if_neg (fun h => ((e i).1 h).elim d c), if_neg d]
  have s2 : ∀ i, (stC m l S b (k + 1)).fi i = if i = k then up1 (gl l k) (S.fi b) else (stC m l S b k).fi i := fun i => by
    show (if NwC m l S b (k + 1) i then up1 (gl l i) (S.fi b) else S.fi i) = if i = k then up1 (gl l k) (S.fi b) else (if NwC m l S b k i then up1 (gl l i) (S.fi b) else S.fi i)
    by_cases c : i = k
    · subst c; rw [if_pos ((e i).2 (.inr rfl)), if_pos rfl]
    · rw [if_neg c]
      by_cases d : NwC m l S b k i
      · rw [if_pos ((e i).2 (.inl d)), if_pos d]
      · rw [if_neg (fun h => ((e i).1 h).elim d c), if_neg d]
  have s3 : ∀ i, (stC m l S b (k + 1)).tw i = if i = k then b else (stC m l S b k).tw i := fun i => by
    show (if NwC m l S b (k + 1) i then b else S.tw i) = if i = k then b else (if NwC m l S b k i then b else S.tw i)
    by_cases c : i = k
    · subst c; rw [if_pos ((e i).2 (.inr rfl)), if_pos rfl]
    · rw [if_neg c]
      by_cases d : NwC m l S b k i
      · rw [if_pos ((e i).2 (.inl d)), if_pos d]
      · rw [if_neg (fun h => ((e i).1 h).elim d c), if_neg d]
  refine ⟨fun i hi => ?_, fun i hi => ?_, fun i hi => ?_, by simp [l1, l2, l3]⟩
  · rw [gl_set (by omega), s2]
    split
    · rfl
    · exact h.f i hi
  · rw [gl_set (by omega)]
    unfold twV
    rw [s1, s3]
    by_cases c : i = k
    · rw [if_pos c, if_pos c, if_pos c]; rfl
    · rw [if_neg c, if_neg c, if_neg c]; exact h.t i hi
  · rw [gl_set (by omega), s1]
    split
    · rfl
    · exact h.s i hi
theorem RSy.take {S : FS} {b : Nat} {Lf Lt Ls : List Int} (h : RSy l S Lf Lt Ls) (hb : b < l.length) (hs : S.st b = 1) : RSy l (stC m l S b 0) Lf Lt (Ls.set b 2) := by
  obtain ⟨l1, l2, l3⟩ := h.ll
  have e : ∀ i, ¬ NwC m l S b 0 i := fun i h => absurd h.2 (Nat.not_lt_zero _)
  have s1 : ∀ i, (stC m l S b 0).st i = if i = b then 2 else S.st i := fun i => by
    show (if i = b then 2 else if NwC m l S b 0 i then 1 else S.st i) = _
    rw [if_neg (e i)]
  refine ⟨fun i hi => ?_, fun i hi => ?_, fun i hi => ?_, by simp [l1, l2, l3]⟩
  · rw [show (stC m l S b 0).fi i = S.fi i from if_neg (e i)]; exact h.f i hi
  · rw [h.t i hi]
    unfold twV
    rw [s1, show (stC m l S b 0).tw i = S.tw i from if_neg (e i)]
    by_cases c : i = b
    · rw [if_pos c, c, hs]; rfl
    · rw [if_neg c]
  · rw [gl_set (by omega), s1]
    split
    · rfl
    · exact h.s i hi
end
/-- The best of the first k, as a number. -/
def bsI (S : FS) (k : Nat) : Int := match bst S k with
  | none => -1
  | some b => (b : Int)
end Go.Proofs.YtbkggcfogmgmmaaDoor
