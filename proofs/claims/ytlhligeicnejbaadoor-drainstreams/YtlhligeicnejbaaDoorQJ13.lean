/-
  A flood's order: each cell comes after the one into which it flows; to which cell of the rim each goes. No Go text of its own.; What gathers: from the last cell taken back, each hands on to the next one; that is what comes if the rain of each goes all its way. No Go text of its own.; A flood's heights: they never fall from one that is taken to the next; none is higher than it must be. No Go text of its own.
-/
import Derived.Test.YtlhligeicnejbaaDoorQJ4
import Derived.Test.YtlhligeicnejbaaDoorQJ12
namespace Go.Proofs.YtlhligeicnejbaaDoor
open Go.RowKit

section
variable (m n : Nat) (l : List Int)
/-- The flood at its end. -/
def flE : FS := flo m n l l.length
/-- The cell that is taken as the k-th. -/
def oc (k : Nat) : Nat := (flE m n l).ord.getD k 0
/-- Into which a cell flows. -/
def tw (c : Nat) : Nat := (flE m n l).tw c
variable (hm : 1 ≤ m) (hl : l.length = m * n)
include hm hl
theorem flo_ord {k : Nat} (hk : k < l.length) : ∃ b, isB (flo m n l k) l.length b ∧ (flo m n l (k + 1)).ord = (flo m n l k).ord ++ [b] := by
  obtain ⟨b, hb⟩ := flo_some m n l hm hl hk
  exact ⟨b, hb, by rw [flo_next m n l hb]; rfl⟩
theorem ord_pre (k : Nat) : ∀ d, k + d ≤ l.length → ∃ r, (flo m n l (k + d)).ord = (flo m n l k).ord ++ r
  | 0, _ => ⟨[], by simp⟩
  | d + 1, h => by
    obtain ⟨r, hr⟩ := ord_pre k d (by omega)
    obtain ⟨b, _, hb⟩ := flo_ord m n l hm hl (k := k + d) (by omega)
    exact ⟨r ++ [b], by rw [← Nat.add_assoc, hb, hr, List.append_assoc]⟩
theorem tw_ord : ∀ k, k ≤ l.length → ∀ i, (flo m n l k).st i ≠ 0 → (flo m n l k).tw i = i ∨ (flo m n l k).tw i ∈ (flo m n l k).ord
  | 0, _, i, _ => .inl rfl
  | k + 1, hk, i, hi => by
    obtain ⟨b, hb⟩ := flo_some m n l hm hl (k := k) (by omega)
    rw [flo_next m n l hb] at hi ⊢
    have e1 : (stepF m l (flo m n l k) b).tw i = if New m l (flo m n l k) b i then b else (flo m n l k).tw i := rfl
    have e2 : (stepF m l (flo m n l k) b).st i = if i = b then 2 else if New m l (flo m n l k) b i then 1 else (flo m n l k).st i := rfl
    have e3 : (stepF m l (flo m n l k) b).ord = (flo m n l k).ord ++ [b] := rfl
    rw [e1, e3]
    by_cases c : New m l (flo m n l k) b i
    · rw [if_pos c]; exact .inr (by simp)
    · rw [if_neg c]
      have h0 : (flo m n l k).st i ≠ 0 := by
        by_cases e : i = b
        · rw [e]; have := hb.2.1; omega
        · rw [e2, if_neg e, if_neg c] at hi; exact hi
      rcases tw_ord k (by omega) i h0 with h | h
      · exact .inl h
      · exact .inr (List.mem_append_left _ h)
theorem tw_rim : ∀ k, k ≤ l.length → ∀ i, (flo m n l k).st i ≠ 0 → ((flo m n l k).tw i = i ↔ rim m n i)
  | 0, _, i, hi => by
    have : (if i < l.length ∧ rim m n i then 1 else 0) ≠ 0 := hi
    have hr : rim m n i := by
      by_cases c : i < l.length ∧ rim m n i
      · exact c.2
      · rw [if_neg c] at this; exact absurd rfl this
    exact ⟨fun _ => hr, fun _ => rfl⟩
  | k + 1, hk, i, hi => by
    obtain ⟨b, hb⟩ := flo_some m n l hm hl (k := k) (by omega)
    obtain ⟨hI, _⟩ := flo_inv m n l hm hl k (by omega)
    rw [flo_next m n l hb] at hi ⊢
    have e1 : (stepF m l (flo m n l k) b).tw i = if New m l (flo m n l k) b i then b else (flo m n l k).tw i := rfl
    have e2 : (stepF m l (flo m n l k) b).st i = if i = b then 2 else if New m l (flo m n l k) b i then 1 else (flo m n l k).st i := rfl
    rw [e1]
    by_cases c : New m l (flo m n l k) b i
    · rw [if_pos c]
      have h1 : b ≠ i := c.2.2.1
      exact ⟨fun h => absurd h h1, fun h => absurd c.2.1 (hI.rim i c.1 h)⟩
    · rw [if_neg c]
      have h0 : (flo m n l k).st i ≠ 0 := by
        by_cases e : i = b
        · rw [e]; have := hb.2.1; omega
        · rw [e2, if_neg e, if_neg c] at hi; exact hi
      exact tw_rim k (by omega) i h0
theorem ord_len : (flE m n l).ord.length = l.length := (flo_inv m n l hm hl l.length (Nat.le_refl _)).2
theorem oc_get {k : Nat} (hk : k < l.length) : (flE m n l).ord[k]'(by rw [ord_len m n l hm hl]; exact hk) = oc m n l k := by
  unfold oc
  rw [List.getD_eq_getElem?_getD, List.getElem?_eq_getElem (by rw [ord_len m n l hm hl]; exact hk)]
  rfl
theorem oc_mem {k : Nat} (hk : k < l.length) : oc m n l k ∈ (flE m n l).ord := by
  rw [← oc_get m n l hm hl hk]; exact List.getElem_mem _
theorem oc_lt {k : Nat} (hk : k < l.length) : oc m n l k < l.length := by
  have hI := (flo_inv m n l hm hl l.length (Nat.le_refl _)).1
  exact hI.lt m n l (by have := (hI.mem _).1 (oc_mem m n l hm hl hk); omega)
theorem oc_all {c : Nat} (hc : c < l.length) : ∃ k, k < l.length ∧ oc m n l k = c := by
  have hI := (flo_inv m n l hm hl l.length (Nat.le_refl _)).1
  have h := (hI.mem c).2 (flo_all m n l hm hl c hc)
  obtain ⟨k, hk, e⟩ := List.getElem_of_mem h
  have hk' : k < l.length := by rw [← ord_len m n l hm hl]; exact hk
  exact ⟨k, hk', by rw [← oc_get m n l hm hl hk']; exact e⟩
theorem oc_inj {j k : Nat} (hj : j < l.length) (hk : k < l.length) (h : oc m n l j = oc m n l k) : j = k := by
  have hI := (flo_inv m n l hm hl l.length (Nat.le_refl _)).1
  rw [← oc_get m n l hm hl hj, ← oc_get m n l hm hl hk] at h
  exact (List.getElem_inj hI.nd).1 h
/-- Each comes after the one into which it flows. -/
theorem oc_bef {k : Nat} (hk : k < l.length) : tw m n l (oc m n l k) = oc m n l k ∨ ∃ j, j < k ∧ oc m n l j = tw m n l (oc m n l k) := by
  obtain ⟨b, hb, hord⟩ := flo_ord m n l hm hl hk
  obtain ⟨_, hlen⟩ := flo_inv m n l hm hl k (by omega)
  have pre : ∀ j, j ≤ l.length → ∃ r, (flE m n l).ord = (flo m n l j).ord ++ r := fun j hj => by
    obtain ⟨r, hr⟩ := ord_pre m n l hm hl j (l.length - j) (by omega)
    rw [show j + (l.length - j) = l.length by omega] at hr
    exact ⟨r, hr⟩
  have hb1 : (flE m n l).ord[k]? = some b := by
    obtain ⟨r, hr⟩ := pre (k + 1) (by omega)
    rw [hr, hord, List.append_assoc, List.getElem?_append_right (by omega), hlen, Nat.sub_self]
    rfl
  have hob : oc m n l k = b := by unfold oc; rw [List.getD_eq_getElem?_getD, hb1]; rfl
  have hs : (flo m n l k).st b ≠ 0 := by have := hb.2.1; omega
  have hst := (flo_stay hs (l.length - k)).1
  rw [show k + (l.length - k) = l.length by omega] at hst
  have htw : tw m n l b = (flo m n l k).tw b := hst
  rw [hob, htw]
  rcases tw_ord m n l hm hl k (by omega) b hs with h | h
  · exact .inl h
  · obtain ⟨j, hj, e⟩ := List.getElem_of_mem h
    obtain ⟨r, hr⟩ := pre k (by omega)
    refine .inr ⟨j, by omega, ?_⟩
    unfold oc
    rw [List.getD_eq_getElem?_getD, hr, List.getElem?_append_left hj, List.getElem?_eq_getElem hj, e]
    rfl
theorem tw_lt {c : Nat} (hc : c < l.length) : tw m n l c < l.length := by
  obtain ⟨k, hk, rfl⟩ := oc_all m n l hm hl hc
  rcases oc_bef m n l hm hl hk with h | ⟨j, hj, h⟩
  · rw [h]; exact hc
  · rw [← h]; exact oc_lt m n l hm hl (by omega)
theorem tw_fix {c : Nat} (hc : c < l.length) : tw m n l c = c ↔ rim m n c :=
  tw_rim m n l hm hl l.length (Nat.le_refl _) c (by rw [flo_all m n l hm hl c hc]; omega)
omit hm hl
def itw : Nat → Nat → Nat
  | 0, c => c
  | k + 1, c => itw k (tw m n l c)
theorem itw_fix {c : Nat} (h : tw m n l c = c) : ∀ k, itw m n l k c = c
  | 0 => rfl
  | k + 1 => by unfold itw; rw [h]; exact itw_fix h k
theorem itw_succ : ∀ k c, itw m n l (k + 1) c = tw m n l (itw m n l k c)
  | 0, _ => rfl
  | k + 1, c => by
    rw [show itw m n l (k + 1 + 1) c = itw m n l (k + 1) (tw m n l c) from rfl, itw_succ k]
    rfl
/-- The cell of the rim to which a cell goes. -/
def hom (c : Nat) : Nat := itw m n l l.length c
theorem hom_self {c : Nat} (h : tw m n l c = c) : hom m n l c = c := itw_fix m n l h _
include hm hl
theorem itw_end : ∀ k, k < l.length → ∀ d, k ≤ d → tw m n l (itw m n l d (oc m n l k)) = itw m n l d (oc m n l k) ∧ itw m n l d (oc m n l k) < l.length := by
  intro k
  induction k using Nat.strongRecOn with
  | _ k ih =>
    intro hk d hd
    rcases oc_bef m n l hm hl hk with h | ⟨j, hj, h⟩
    · rw [itw_fix m n l h]; exact ⟨h, oc_lt m n l hm hl hk⟩
    · obtain ⟨e, rfl⟩ : ∃ e, d = e + 1 := ⟨d - 1, by omega⟩
      rw [show itw m n l (e + 1) (oc m n l k) = itw m n l e (tw m n l (oc m n l k)) from rfl, ← h]
      exact ih j hj (by omega) e (by omega)
theorem hom_fix {c : Nat} (hc : c < l.length) : tw m n l (hom m n l c) = hom m n l c := by
  obtain ⟨k, hk, rfl⟩ := oc_all m n l hm hl hc
  exact (itw_end m n l hm hl k hk l.length (by omega)).1
theorem hom_lt {c : Nat} (hc : c < l.length) : hom m n l c < l.length := by
  obtain ⟨k, hk, rfl⟩ := oc_all m n l hm hl hc
  exact (itw_end m n l hm hl k hk l.length (by omega)).2
theorem hom_tw {c : Nat} (hc : c < l.length) : hom m n l (tw m n l c) = hom m n l c := by
  have h := hom_fix m n l hm hl hc
  unfold hom at h ⊢
  rw [← itw_succ] at h
  exact h
end
end Go.Proofs.YtlhligeicnejbaaDoor
namespace Go.Proofs.YtlhligeicnejbaaDoor
open Go.RowKit

/-- The sum of the first so many. -/
def smF (f : Nat → Int) : Nat → Int
  | 0 => 0
  | k + 1 => smF f k + f k
theorem smF_congr {f g : Nat → Int} : ∀ {k : Nat}, (∀ i, i < k → f i = g i) → smF f k = smF g k
  | 0, _ => rfl
  | k + 1, h => by unfold smF; rw [smF_congr (fun i hi => h i (by omega)), h k (by omega)]
theorem smF_add (f g : Nat → Int) : ∀ k, smF (fun i => f i + g i) k = smF f k + smF g k
  | 0 => rfl
  | k + 1 => by unfold smF; rw [smF_add f g k]; omega
theorem smF_zero : ∀ k, smF (fun _ => 0) k = 0
  | 0 => rfl
  | k + 1 => by unfold smF; rw [smF_zero k]; rfl
theorem smF_le {f : Nat → Int} {B : Int} : ∀ {k : Nat}, (∀ i, i < k → f i ≤ B) → smF f k ≤ (k : Int) * B
  | 0, _ => by simp [smF]
  | k + 1, h => by
    have h1 := smF_le (f := f) (B := B) (k := k) (fun i hi => h i (by omega))
    have h2 := h k (by omega)
    unfold smF
    rw [show ((k + 1 : Nat) : Int) * B = (k : Int) * B + B by rw [Int.natCast_add, Int.add_mul]; simp]
    omega
theorem smF_nonneg {f : Nat → Int} : ∀ {k : Nat}, (∀ i, i < k → 0 ≤ f i) → 0 ≤ smF f k
  | 0, _ => by simp [smF]
  | k + 1, h => by
    have h1 := smF_nonneg (f := f) (k := k) (fun i hi => h i (by omega))
    have h2 := h k (by omega)
    unfold smF
    omega
def dlt (i c : Nat) : Int := if i = c then 1 else 0
theorem smF_dlt (r : Nat → Int) (c : Nat) : ∀ k, smF (fun i => r i * dlt i c) k = if c < k then r c else 0
  | 0 => by simp [smF]
  | k + 1 => by
    unfold smF
    rw [smF_dlt r c k]
    unfold dlt
    by_cases e : k = c
    · subst e
      rw [if_neg (by omega), if_pos rfl, if_pos (by omega)]; omega
    · rw [if_neg e]
      by_cases h : c < k
      · rw [if_pos h, if_pos (by omega)]; omega
      · rw [if_neg h, if_neg (by omega)]; omega
section
variable (m n : Nat) (l : List Int)
/-- Does the cell hand on to c? -/
def hands (x c : Nat) : Prop := tw m n l x ≠ x ∧ c = tw m n l x
instance (x c : Nat) : Decidable (hands m n l x c) := by unfold hands; exact inferInstance
/-- How much of one drop at i has come to c, after the last j have handed on. -/
def cnt : Nat → Nat → Nat → Int
  | 0, i, c => dlt i c
  | j + 1, i, c => cnt j i c + if hands m n l (oc m n l (l.length - 1 - j)) c then cnt j i (oc m n l (l.length - 1 - j)) else 0
/-- What is in each cell, after the last j have handed on. -/
def gvN (r : Nat → Int) : Nat → Nat → Int
  | 0, c => r c
  | j + 1, c => gvN r j c + if hands m n l (oc m n l (l.length - 1 - j)) c then gvN r j (oc m n l (l.length - 1 - j)) else 0
theorem cnt_succ (j i c : Nat) : cnt m n l (j + 1) i c = cnt m n l j i c + if hands m n l (oc m n l (l.length - 1 - j)) c then cnt m n l j i (oc m n l (l.length - 1 - j)) else 0 := rfl
theorem gv_succ (r : Nat → Int) (j c : Nat) : gvN m n l r (j + 1) c = gvN m n l r j c + if hands m n l (oc m n l (l.length - 1 - j)) c then gvN m n l r j (oc m n l (l.length - 1 - j)) else 0 := rfl
variable (hm : 1 ≤ m) (hl : l.length = m * n)
include hm hl
theorem gv_cnt (r : Nat → Int) : ∀ j c, j ≤ l.length → c < l.length → gvN m n l r j c = smF (fun i => r i * cnt m n l j i c) l.length
  | 0, c, _, hc => by
    show r c = smF (fun i => r i * dlt i c) l.length
    rw [smF_dlt, if_pos hc]
  | j + 1, c, hj, hc => by
    have hx := oc_lt m n l hm hl (k := l.length - 1 - j) (by omega)
    simp only [cnt_succ]
    rw [gv_succ]
    rw [gv_cnt r j c (by omega) hc]
    by_cases h : hands m n l (oc m n l (l.length - 1 - j)) c
    · rw [if_pos h, gv_cnt r j _ (by omega) hx, ← smF_add]
      exact smF_congr (fun i _ => by simp only [if_pos h]; rw [Int.mul_add])
    · rw [if_neg h, Int.add_zero]
      exact smF_congr (fun i _ => by simp only [if_neg h]; rw [Int.add_zero])
theorem cnt_A {p : Nat} (hp : p < l.length) (c : Nat) : ∀ j, j + p + 1 ≤ l.length → cnt m n l j (oc m n l p) c = dlt (oc m n l p) c := by
  intro j
  induction j generalizing c with
  | zero => intro _; rfl
  | succ j ih =>
    intro hj
    rw [cnt_succ]
    rw [ih c (by omega), ih _ (by omega)]
    have : dlt (oc m n l p) (oc m n l (l.length - 1 - j)) = 0 := by
      unfold dlt
      rw [if_neg]
      intro h
      have := oc_inj m n l hm hl hp (by omega) h
      omega
    rw [this, ite_self, Int.add_zero]
theorem cnt_B {p : Nat} (hp : p < l.length) (hn : tw m n l (oc m n l p) ≠ oc m n l p) (c : Nat) : ∀ d, d ≤ p → cnt m n l (l.length - p + d) (oc m n l p) c = dlt (oc m n l p) c + cnt m n l (l.length - p + d) (tw m n l (oc m n l p)) c := by
  obtain ⟨q, hq, hqt⟩ := (oc_bef m n l hm hl hp).resolve_left hn
  intro d
  induction d generalizing c with
  | zero =>
    intro _
    rw [Nat.add_zero, ← hqt, cnt_A m n l hm hl (p := q) (by omega) c (l.length - p) (by omega)]
    rw [show l.length - p = (l.length - 1 - p) + 1 by omega]
    show cnt m n l (l.length - 1 - p) _ c + (if hands m n l (oc m n l (l.length - 1 - (l.length - 1 - p))) c then _ else _) = _
    rw [show l.length - 1 - (l.length - 1 - p) = p by omega, cnt_A m n l hm hl hp c _ (by omega), cnt_A m n l hm hl hp _ _ (by omega), hqt]
    by_cases h : c = tw m n l (oc m n l p)
    · rw [if_pos (show hands m n l (oc m n l p) c from ⟨hn, h⟩), ← h]
      unfold dlt
      rw [if_pos rfl, if_pos (rfl : c = c)]
    · rw [if_neg (fun x : hands m n l (oc m n l p) c => h x.2)]
      unfold dlt
      rw [if_neg (Ne.symm h)]
  | succ d ih =>
    intro hd
    rw [← Nat.add_assoc, cnt_succ, cnt_succ]
    rw [ih c (by omega), ih _ (by omega)]
    have : dlt (oc m n l p) (oc m n l (l.length - 1 - (l.length - p + d))) = 0 := by
      unfold dlt
      rw [if_neg]
      intro h
      have := oc_inj m n l hm hl hp (by omega) h
      omega
    rw [this, Int.zero_add, Int.add_assoc]
theorem cnt_C {p : Nat} (hp : p < l.length) (hn : tw m n l (oc m n l p) = oc m n l p) (c : Nat) : ∀ d, d ≤ p → cnt m n l (l.length - p + d) (oc m n l p) c = dlt (oc m n l p) c := by
  intro d
  induction d generalizing c with
  | zero =>
    intro _
    rw [Nat.add_zero]
    rw [show l.length - p = (l.length - 1 - p) + 1 by omega]
    show cnt m n l (l.length - 1 - p) _ c + (if hands m n l (oc m n l (l.length - 1 - (l.length - 1 - p))) c then _ else _) = _
    rw [show l.length - 1 - (l.length - 1 - p) = p by omega, cnt_A m n l hm hl hp c _ (by omega)]
    rw [if_neg (fun x => x.1 hn), Int.add_zero]
  | succ d ih =>
    intro hd
    rw [← Nat.add_assoc, cnt_succ]
    rw [ih c (by omega), ih _ (by omega)]
    have : dlt (oc m n l p) (oc m n l (l.length - 1 - (l.length - p + d))) = 0 := by
      unfold dlt
      rw [if_neg]
      intro h
      have := oc_inj m n l hm hl hp (by omega) h
      omega
    rw [this, ite_self, Int.add_zero]
omit hm hl
/-- How often c is met on the way from i. -/
def cW (i c : Nat) : Int := cnt m n l l.length i c
include hm hl
theorem cW_next {i : Nat} (hi : i < l.length) (h : tw m n l i ≠ i) (c : Nat) : cW m n l i c = dlt i c + cW m n l (tw m n l i) c := by
  obtain ⟨p, hp, rfl⟩ := oc_all m n l hm hl hi
  have := cnt_B m n l hm hl hp h c p (Nat.le_refl _)
  rw [show l.length - p + p = l.length by omega] at this
  exact this
theorem cW_end {i : Nat} (hi : i < l.length) (h : tw m n l i = i) (c : Nat) : cW m n l i c = dlt i c := by
  obtain ⟨p, hp, rfl⟩ := oc_all m n l hm hl hi
  have := cnt_C m n l hm hl hp h c p (Nat.le_refl _)
  rw [show l.length - p + p = l.length by omega] at this
  exact this
omit hm hl
theorem dlt_le (i c : Nat) : 0 ≤ dlt i c ∧ dlt i c ≤ 1 := by unfold dlt; split <;> omega
theorem cnt_pos : ∀ j i c, 0 ≤ cnt m n l j i c
  | 0, i, c => (dlt_le i c).1
  | j + 1, i, c => by
    rw [cnt_succ]
    have h1 := cnt_pos j i c
    have h2 := cnt_pos j i (oc m n l (l.length - 1 - j))
    split <;> omega
theorem cnt_up (i c j : Nat) : ∀ d, cnt m n l j i c ≤ cnt m n l (j + d) i c
  | 0 => Int.le_refl _
  | d + 1 => by
    have h1 := cnt_up i c j d
    have h2 := cnt_pos m n l (j + d) i (oc m n l (l.length - 1 - (j + d)))
    rw [← Nat.add_assoc, cnt_succ]
    split <;> omega
include hm hl
theorem cW_le : ∀ p, p < l.length → ∀ c, cW m n l (oc m n l p) c ≤ (p : Int) + 1 := by
  intro p
  induction p using Nat.strongRecOn with
  | _ p ih =>
    intro hp c
    have hd := dlt_le (oc m n l p) c
    by_cases h : tw m n l (oc m n l p) = oc m n l p
    · rw [cW_end m n l hm hl (oc_lt m n l hm hl hp) h]; omega
    · obtain ⟨q, hq, hqt⟩ := (oc_bef m n l hm hl hp).resolve_left h
      rw [cW_next m n l hm hl (oc_lt m n l hm hl hp) h, ← hqt]
      have := ih q hq (by omega) c
      omega
/-- All of a drop comes to the rim. -/
theorem cW_rim : ∀ p, p < l.length → smF (fun c => if rim m n c then cW m n l (oc m n l p) c else 0) l.length = 1 := by
  intro p
  induction p using Nat.strongRecOn with
  | _ p ih =>
    intro hp
    have hlt := oc_lt m n l hm hl hp
    by_cases h : tw m n l (oc m n l p) = oc m n l p
    · have hr := (tw_fix m n l hm hl hlt).1 h
      have := smF_dlt (fun _ => 1) (oc m n l p) l.length
      rw [if_pos hlt] at this
      rw [← this]
      refine smF_congr (fun c _ => ?_)
      simp only [cW_end m n l hm hl hlt h]
      unfold dlt
      by_cases e : oc m n l p = c
      · rw [if_pos e, ← e, if_pos hr, if_pos rfl]; rfl
      · rw [if_neg e, if_neg (Ne.symm e)]; simp
    · have hr : ¬ rim m n (oc m n l p) := fun c => h ((tw_fix m n l hm hl hlt).2 c)
      obtain ⟨q, hq, hqt⟩ := (oc_bef m n l hm hl hp).resolve_left h
      rw [← ih q hq (by omega)]
      refine smF_congr (fun c _ => ?_)
      simp only [cW_next m n l hm hl hlt h, ← hqt]
      unfold dlt
      by_cases e : oc m n l p = c
      · rw [← e, if_neg hr, if_neg hr]
      · rw [if_neg e, Int.zero_add]
omit hm hl
/-- What gathers in each cell. -/
def gaV (r : Nat → Int) (c : Nat) : Int := smF (fun i => r i * cW m n l i c) l.length
def gaL (r : Nat → Int) : List Int := (List.range l.length).map (gaV m n l r)
include hm hl
theorem gv_bd {r : Nat → Int} {B : Int} (hB : 0 ≤ B) (hr : ∀ i, i < l.length → 0 ≤ r i ∧ r i ≤ B) {j c : Nat} (hj : j ≤ l.length) (hc : c < l.length) : 0 ≤ gvN m n l r j c ∧ gvN m n l r j c ≤ (l.length : Int) * (B * l.length) := by
  rw [gv_cnt m n l hm hl r j c hj hc]
  constructor
  · exact smF_nonneg (fun i hi => Int.mul_nonneg (hr i hi).1 (cnt_pos m n l j i c))
  · refine smF_le (fun i hi => ?_)
    obtain ⟨p, hp, rfl⟩ := oc_all m n l hm hl hi
    have h1 := cnt_up m n l (oc m n l p) c j (l.length - j)
    rw [show j + (l.length - j) = l.length by omega] at h1
    have h2 := cW_le m n l hm hl p hp c
    unfold cW at h2
    exact Int.le_trans (Int.mul_le_mul_of_nonneg_right (hr _ hi).2 (cnt_pos m n l j _ c)) (Int.mul_le_mul_of_nonneg_left (by omega) hB)
theorem gv_all (r : Nat → Int) {c : Nat} (hc : c < l.length) : gvN m n l r l.length c = gaV m n l r c := gv_cnt m n l hm hl r _ c (Nat.le_refl _) hc
end
end Go.Proofs.YtlhligeicnejbaaDoor
namespace Go.Proofs.YtlhligeicnejbaaDoor
open Go.RowKit

section
variable (m n : Nat) (l : List Int)
/-- What holds of the heights, as far as the flood has come. -/
structure FH (S : FS) : Prop where
  mono : ∀ t x, S.st t = 2 → S.st x ≠ 0 → (S.st x = 1 → S.fi t ≤ S.fi x)
  fix : ∀ i, S.st i ≠ 0 → (rim m n i → S.fi i = gl l i) ∧ (¬ rim m n i → S.fi i = up1 (gl l i) (S.fi (S.tw i)) ∧ S.st (S.tw i) = 2)
  nb : ∀ y x, S.st y = 2 → x < l.length → tch m y x → S.st x ≠ 0 ∧ S.fi x ≤ up1 (gl l x) (S.fi y)
theorem up1_le {x y : Int} : x ≤ up1 x y ∧ y ≤ up1 x y := by unfold up1; split <;> omega
theorem up1_mono {x y z : Int} (h : y ≤ z) : up1 x y ≤ up1 x z := by unfold up1; split <;> split <;> omega
theorem FH0 : FH m n l (fs0 m n l) := by
  have hst : ∀ i, (fs0 m n l).st i = if i < l.length ∧ rim m n i then 1 else 0 := fun _ => rfl
  refine ⟨fun t x ht => ?_, fun i hi => ?_, fun y x hy => ?_⟩
  · rw [hst] at ht; split at ht <;> omega
  · rw [hst] at hi
    have hr : i < l.length ∧ rim m n i := by
      by_cases c : i < l.length ∧ rim m n i
      · exact c
      · rw [if_neg c] at hi; exact absurd rfl hi
    refine ⟨fun _ => ?_, fun h => absurd hr.2 h⟩
    show (if i < l.length ∧ rim m n i then gl l i else 0) = gl l i
    rw [if_pos hr]
  · rw [hst] at hy; split at hy <;> omega
theorem FH.step {S : FS} (h : FH m n l S) (hI : FI m n l S) {b : Nat} (hb : isB S l.length b) : FH m n l (stepF m l S b) := by
  have hst : ∀ i, (stepF m l S b).st i = if i = b then 2 else if New m l S b i then 1 else S.st i := fun _ => rfl
  have hfi : ∀ i, (stepF m l S b).fi i = if New m l S b i then up1 (gl l i) (S.fi b) else S.fi i := fun _ => rfl
  have htw : ∀ i, (stepF m l S b).tw i = if New m l S b i then b else S.tw i := fun _ => rfl
  have hb1 : S.st b = 1 := hb.2.1
  have hbn : ¬ New m l S b b := fun c => by have := c.2.1; omega
  have hmin : ∀ x, S.st x = 1 → S.fi b ≤ S.fi x := fun x hx => by
    have h1 := hb.2.2 x (hI.lt m n l (by omega)) hx
    unfold wlt at h1
    simp only at h1
    omega
  -- of a cell that is taken now: it was taken, or it is b
  have htk : ∀ t, (stepF m l S b).st t = 2 → ¬ New m l S b t ∧ (S.st t = 2 ∨ t = b) := fun t ht => by
    rw [hst] at ht
    by_cases e : t = b
    · rw [e]; exact ⟨hbn, .inr rfl⟩
    · rw [if_neg e] at ht
      by_cases c : New m l S b t
      · rw [if_pos c] at ht; omega
      · rw [if_neg c] at ht; exact ⟨c, .inl ht⟩
  have hle : ∀ t, (stepF m l S b).st t = 2 → S.fi t ≤ S.fi b := fun t ht => by
    rcases (htk t ht).2 with c | c
    · exact h.mono t b c (by omega) hb1
    · rw [c]; exact Int.le_refl _
  have hkeep : ∀ x, S.st x ≠ 0 → (stepF m l S b).st x ≠ 0 ∧ (stepF m l S b).fi x = S.fi x ∧ (stepF m l S b).tw x = S.tw x := fun x hx => by
    have c : ¬ New m l S b x := fun c => hx c.2.1
    rw [hst, hfi, htw, if_neg c, if_neg c, if_neg c]
    exact ⟨by split <;> omega, rfl, rfl⟩
  refine ⟨fun t x ht hx hx1 => ?_, fun i hi => ?_, fun y x hy hx hxy => ?_⟩
  · obtain ⟨hn, _⟩ := htk t ht
    rw [hfi t, if_neg hn]
    have h1 := hle t ht
    by_cases c : New m l S b x
    · rw [hfi x, if_pos c]
      have := (up1_le (x := gl l x) (y := S.fi b)).2
      omega
    · rw [hfi x, if_neg c]
      rw [hst] at hx1
      by_cases e : x = b
      · rw [if_pos e] at hx1; omega
      · rw [if_neg e, if_neg c] at hx1
        have := hmin x hx1
        omega
  · by_cases c : New m l S b i
    · have hnr : ¬ rim m n i := fun hr => hI.rim i c.1 hr c.2.1
      refine ⟨fun hr => absurd hr hnr, fun _ => ?_⟩
      rw [hfi i, if_pos c, htw i, if_pos c, hfi b, if_neg hbn, hst b, if_pos rfl]
      exact ⟨rfl, rfl⟩
    · have hi0 : S.st i ≠ 0 := by
        by_cases e : i = b
        · rw [e]; omega
        · rw [hst, if_neg e, if_neg c] at hi; exact hi
      obtain ⟨f1, f2⟩ := h.fix i hi0
      rw [hfi i, if_neg c, htw i, if_neg c]
      refine ⟨f1, fun hr => ?_⟩
      obtain ⟨g1, g2⟩ := f2 hr
      have k := hkeep (S.tw i) (by omega)
      rw [k.2.1]
      refine ⟨g1, ?_⟩
      rw [hst]
      by_cases e : S.tw i = b
      · rw [if_pos e]
      · rw [if_neg e, if_neg (fun c2 => by have := c2.2.1; omega)]; exact g2
  · obtain ⟨hn, hc⟩ := htk y hy
    rw [hfi y, if_neg hn]
    rcases hc with c | c
    · obtain ⟨k1, k2⟩ := h.nb y x c hx hxy
      have k := hkeep x k1
      exact ⟨k.1, by rw [k.2.1]; exact k2⟩
    · subst c
      by_cases cn : New m l S y x
      · rw [hfi x, if_pos cn]
        refine ⟨?_, Int.le_refl _⟩
        rw [hst]
        split
        · omega
        · first | omega | (rw [if_pos cn]; omega)
      · have hx0 : S.st x ≠ 0 := fun h0 => cn ⟨hx, h0, hxy⟩
        have k := hkeep x hx0
        refine ⟨k.1, ?_⟩
        rw [k.2.1]
        obtain ⟨f1, f2⟩ := h.fix x hx0
        by_cases hr : rim m n x
        · rw [f1 hr]; exact up1_le.1
        · obtain ⟨g1, g2⟩ := f2 hr
          rw [g1]
          exact up1_mono (h.mono _ y g2 (by omega) hb1)
variable (hm : 1 ≤ m) (hl : l.length = m * n)
include hm hl
theorem flo_h : ∀ k, k ≤ l.length → FH m n l (flo m n l k)
  | 0, _ => FH0 m n l
  | k + 1, hk => by
    obtain ⟨b, hb⟩ := flo_some m n l hm hl (k := k) (by omega)
    rw [flo_next m n l hb]
    exact (flo_h k (by omega)).step m n l (flo_inv m n l hm hl k (by omega)).1 hb
omit hm hl
/-- The height of the water on a cell at the end. -/
def fih (c : Nat) : Int := (flo m n l l.length).fi c
include hm hl
theorem fih_ge {c : Nat} (hc : c < l.length) : gl l c ≤ fih m n l c := by
  have h := (flo_h m n l hm hl l.length (Nat.le_refl _)).fix c (by rw [flo_all m n l hm hl c hc]; omega)
  unfold fih
  by_cases hr : rim m n c
  · rw [h.1 hr]; exact Int.le_refl _
  · rw [(h.2 hr).1]; exact up1_le.1
theorem fih_tw {c : Nat} (hc : c < l.length) : fih m n l (tw m n l c) ≤ fih m n l c := by
  have h := (flo_h m n l hm hl l.length (Nat.le_refl _)).fix c (by rw [flo_all m n l hm hl c hc]; omega)
  by_cases hr : rim m n c
  · rw [(tw_fix m n l hm hl hc).2 hr]; exact Int.le_refl _
  · have h2 := (h.2 hr).1
    unfold fih
    rw [h2]
    exact up1_le.2
theorem fih_nb {x y : Nat} (hx : x < l.length) (hy : y < l.length) (h : tch m y x) : fih m n l x ≤ up1 (gl l x) (fih m n l y) :=
  ((flo_h m n l hm hl l.length (Nat.le_refl _)).nb y x (flo_all m n l hm hl y hy) hx h).2
theorem fih_rim {c : Nat} (hc : c < l.length) (hr : rim m n c) : fih m n l c = gl l c :=
  ((flo_h m n l hm hl l.length (Nat.le_refl _)).fix c (by rw [flo_all m n l hm hl c hc]; omega)).1 hr
omit hm hl
/-- Joined by cells that are not above h. -/
inductive Rch (h : Int) (c : Nat) : Nat → Prop
  | here : gl l c ≤ h → c < l.length → Rch h c c
  | on {k i : Nat} : Rch h c k → i < l.length → gl l i ≤ h → tch m i k → Rch h c i
include hm hl
/-- If a cell of the rim is joined to c, the water stands there no higher. -/
theorem Rch.low {h : Int} {c k : Nat} (hR : Rch m l h c k) : k < l.length ∧ gl l k ≤ h ∧ (fih m n l k ≤ h → fih m n l c ≤ h) := by
  induction hR with
  | here h1 h2 => exact ⟨h2, h1, id⟩
  | @on k i _ hi hh ht ih =>
    refine ⟨hi, hh, fun hf => ih.2.2 ?_⟩
    have := fih_nb m n l hm hl ih.1 hi ht
    have h2 := ih.2.1
    have h3 := up1_mono (x := gl l k) hf
    refine Int.le_trans this (Int.le_trans h3 ?_)
    unfold up1
    split
    · exact Int.le_refl _
    · exact h2
theorem Rch.none {h : Int} {c k : Nat} (hR : Rch m l h c k) (hf : h < fih m n l c) : ¬ rim m n k := fun hr => by
  obtain ⟨h1, h2, h3⟩ := Rch.low m n l hm hl hR
  have := h3 (by rw [fih_rim m n l hm hl h1 hr]; exact h2)
  omega
end
end Go.Proofs.YtlhligeicnejbaaDoor
