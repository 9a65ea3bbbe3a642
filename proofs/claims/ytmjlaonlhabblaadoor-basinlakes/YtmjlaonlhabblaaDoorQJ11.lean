/-
  A flood's order: each cell comes after the one into which it flows; to which cell of the rim each goes. No Go text of its own.; Groups of numbers, each with a lesser one of its group: the first of a group; shorter ways; two groups joined. No Go text.
-/
import Derived.Test.YtmjlaonlhabblaaDoorQJ3
import Derived.Test.YtmjlaonlhabblaaDoorQJ10
namespace Go.Proofs.YtmjlaonlhabblaaDoor
open Go.RowKit

section
variable (m n : Nat) (l : List Int)
/-- The flood at its end. -/
def flE : FS := flo m n l l.length
/-- The cell that is taken as the k-th. -/
def oc (k : Nat) : Nat := (flE m n l).ord.getD k 0
/-- Into which a cell flows. -/
def tw (c : Nat) : Nat := (flE m n l).tw c
variable (hm : 1 ≤ m) (hl : l.length = m * n)
include hm hl
theorem flo_ord {k : Nat} (hk : k < l.length) : ∃ b, isB (flo m n l k) l.length b ∧ (flo m n l (k + 1)).ord = (flo m n l k).ord ++ [b] := by
  obtain ⟨b, hb⟩ := flo_some m n l hm hl hk
  exact ⟨b, hb, by rw [flo_next m n l hb]; rfl⟩
theorem ord_pre (k : Nat) : ∀ d, k + d ≤ l.length → ∃ r, (flo m n l (k + d)).ord = (flo m n l k).ord ++ r
  | 0, _ => ⟨[], by simp⟩
  | d + 1, h => by
    obtain ⟨r, hr⟩ := ord_pre k d (by omega)
    obtain ⟨b, _, hb⟩ := flo_ord m n l hm hl (k := k + d) (by omega)
    exact ⟨r ++ [b], by rw [← Nat.add_assoc, hb, hr, List.append_assoc]⟩
theorem tw_ord : ∀ k, k ≤ l.length → ∀ i, (flo m n l k).st i ≠ 0 → (flo m n l k).tw i = i ∨ (flo m n l k).tw i ∈ (flo m n l k).ord
  | 0, _, i, _ => .inl rfl
  | k + 1, hk, i, hi => by
    obtain ⟨b, hb⟩ := flo_some m n l hm hl (k := k) (by omega)
    rw [flo_next m n l hb] at hi ⊢
    have e1 : (stepF m l (flo m n l k) b).tw i = if New m l (flo m n l k) b i then b else (flo m n l k).tw i := rfl
    have e2 : (stepF m l (flo m n l k) b).st i = if i = b then 2 else if New m l (flo m n l k) b i then 1 else (flo m n l k).st i := rfl
    have e3 : (stepF m l (flo m n l k) b).ord = (flo m n l k).ord ++ [b] := rfl
    rw [e1, e3]
    by_cases c : New m l (flo m n l k) b i
    · rw [if_pos c]; exact .inr (by simp)
    · rw [if_neg c]
      have h0 : (flo m n l k).st i ≠ 0 := by
        by_cases e : i = b
        · rw [e]; have := hb.2.1; omega
        · rw [e2, if_neg e, if_neg c] at hi; exact hi
      rcases tw_ord k (by omega) i h0 with h | h
      · exact .inl h
      · exact .inr (List.mem_append_left _ h)
theorem tw_rim : ∀ k, k ≤ l.length → ∀ i, (flo m n l k).st i ≠ 0 → ((flo m n l k).tw i = i ↔ rim m n i)
  | 0, _, i, hi => by
    have : (if i < l.length ∧ rim m n i then 1 else 0) ≠ 0 := hi
    have hr : rim m n i := by
      by_cases c : i < l.length ∧ rim m n i
      · exact c.2
      · rw [if_neg c] at this; exact absurd rfl this
    exact ⟨fun _ => hr, fun _ => rfl⟩
  | k + 1, hk, i, hi => by
    obtain ⟨b, hb⟩ := flo_some m n l hm hl (k := k) (by omega)
    obtain ⟨hI, _⟩ := flo_inv m n l hm hl k (by omega)
    rw [flo_next m n l hb] at hi ⊢
    have e1 : (stepF m l (flo m n l k) b).tw i = if New m l (flo m n l k) b i then b else (flo m n l k).tw i := rfl
    have e2 : (stepF m l (flo m n l k) b).st i = if i = b then 2 else if New m l (flo m n l k) b i then 1 else (flo m n l k).st i := rfl
    rw [e1]
    by_cases c : New m l (flo m n l k) b i
    · rw [if_pos c]
      have h1 : b ≠ i := c.2.2.1
      exact ⟨fun h => absurd h h1, fun h => absurd c.2.1 (hI.rim i c.1 h)⟩
    · rw [if_neg c]
      have h0 : (flo m n l k).st i ≠ 0 := by
        by_cases e : i = b
        · rw [e]; have := hb.2.1; omega
        · rw [e2, if_neg e, if_neg c] at hi; exact hi
      exact tw_rim k (by omega) i h0
theorem ord_len : (flE m n l).ord.length = l.length := (flo_inv m n l hm hl l.length (Nat.le_refl _)).2
theorem oc_get {k : Nat} (hk : k < l.length) : (flE m n l).ord[k]'(by rw [ord_len m n l hm hl]; exact hk) = oc m n l k := by
  unfold oc
  rw [List.getD_eq_getElem?_getD, List.getElem?_eq_getElem (by rw [ord_len m n l hm hl]; exact hk)]
  rfl
theorem oc_mem {k : Nat} (hk : k < l.length) : oc m n l k ∈ (flE m n l).ord := by
  rw [← oc_get m n l hm hl hk]; exact List.getElem_mem _
theorem oc_lt {k : Nat} (hk : k < l.length) : oc m n l k < l.length := by
  have hI := (flo_inv m n l hm hl l.length (Nat.le_refl _)).1
  exact hI.lt m n l (by have := (hI.mem _).1 (oc_mem m n l hm hl hk); omega)
theorem oc_all {c : Nat} (hc : c < l.length) : ∃ k, k < l.length ∧ oc m n l k = c := by
  have hI := (flo_inv m n l hm hl l.length (Nat.le_refl _)).1
  have h := (hI.mem c).2 (flo_all m n l hm hl c hc)
  obtain ⟨k, hk, e⟩ := List.getElem_of_mem h
  have hk' : k < l.length := by rw [← ord_len m n l hm hl]; exact hk
  exact ⟨k, hk', by rw [← oc_get m n l hm hl hk']; exact e⟩
theorem oc_inj {j k : Nat} (hj : j < l.length) (hk : k < l.length) (h : oc m n l j = oc m n l k) : j = k := by
  have hI := (flo_inv m n l hm hl l.length (Nat.le_refl _)).1
  rw [← oc_get m n l hm hl hj, ← oc_get m n l hm hl hk] at h
  exact (List.getElem_inj hI.nd).1 h
/-- Each comes after the one into which it flows. -/
theorem oc_bef {k : Nat} (hk : k < l.length) : tw m n l (oc m n l k) = oc m n l k ∨ ∃ j, j < k ∧ oc m n l j = tw m n l (oc m n l k) := by
  obtain ⟨b, hb, hord⟩ := flo_ord m n l hm hl hk
  obtain ⟨_, hlen⟩ := flo_inv m n l hm hl k (by omega)
  have pre : ∀ j, j ≤ l.length → ∃ r, (flE m n l).ord = (flo m n l j).ord ++ r := fun j hj => by
    obtain ⟨r, hr⟩ := ord_pre m n l hm hl j (l.length - j) (by omega)
    rw [show j + (l.length - j) = l.length by omega] at hr
    exact ⟨r, hr⟩
  have hb1 : (flE m n l).ord[k]? = some b := by
    obtain ⟨r, hr⟩ := pre (k + 1) (by omega)
    rw [hr, hord, List.append_assoc, List.getElem?_append_right (by omega), hlen, Nat.sub_self]
    rfl
  have hob : oc m n l k = b := by unfold oc; rw [List.getD_eq_getElem?_getD, hb1]; rfl
  have hs : (flo m n l k).st b ≠ 0 := by have := hb.2.1; omega
  have hst := (flo_stay hs (l.length - k)).1
  rw [show k + (l.length - k) = l.length by omega] at hst
  have htw : tw m n l b = (flo m n l k).tw b := hst
  rw [hob, htw]
  rcases tw_ord m n l hm hl k (by omega) b hs with h | h
  · exact .inl h
  · obtain ⟨j, hj, e⟩ := List.getElem_of_mem h
    obtain ⟨r, hr⟩ := pre k (by omega)
    refine .inr ⟨j, by omega, ?_⟩
    unfold oc
    rw [List.getD_eq_getElem?_getD, hr, List.getElem?_append_left hj, List.getElem?_eq_getElem hj, e]
    rfl
theorem tw_lt {c : Nat} (hc : c < l.length) : tw m n l c < l.length := by
  obtain ⟨k, hk, rfl⟩ := oc_all m n l hm hl hc
  rcases oc_bef m n l hm hl hk with h | ⟨j, hj, h⟩
  · rw [h]; exact hc
  · rw [← h]; exact oc_lt m n l hm hl (by omega)
theorem tw_fix {c : Nat} (hc : c < l.length) : tw m n l c = c ↔ rim m n c :=
  tw_rim m n l hm hl l.length (Nat.le_refl _) c (by rw [flo_all m n l hm hl c hc]; omega)
omit hm hl
def itw : Nat → Nat → Nat
  | 0, c => c
  | k + 1, c => itw k (tw m n l c)
theorem itw_fix {c : Nat} (h : tw m n l c = c) : ∀ k, itw m n l k c = c
  | 0 => rfl
  | k + 1 => by unfold itw; rw [h]; exact itw_fix h k
theorem itw_succ : ∀ k c, itw m n l (k + 1) c = tw m n l (itw m n l k c)
  | 0, _ => rfl
  | k + 1, c => by
    rw [show itw m n l (k + 1 + 1) c = itw m n l (k + 1) (tw m n l c) from rfl, itw_succ k]
    rfl
/-- The cell of the rim to which a cell goes. -/
def hom (c : Nat) : Nat := itw m n l l.length c
theorem hom_self {c : Nat} (h : tw m n l c = c) : hom m n l c = c := itw_fix m n l h _
include hm hl
theorem itw_end : ∀ k, k < l.length → ∀ d, k ≤ d → tw m n l (itw m n l d (oc m n l k)) = itw m n l d (oc m n l k) ∧ itw m n l d (oc m n l k) < l.length := by
  intro k
  induction k using Nat.strongRecOn with
  | _ k ih =>
    intro hk d hd
    rcases oc_bef m n l hm hl hk with h | ⟨j, hj, h⟩
    · rw [itw_fix m n l h]; exact ⟨h, oc_lt m n l hm hl hk⟩
    · obtain ⟨e, rfl⟩ : ∃ e, d = e + 1 := ⟨d - 1, by omega⟩
      rw [show itw m n l (e + 1) (oc m n l k) = itw m n l e (tw m n l (oc m n l k)) from rfl, ← h]
      exact ih j hj (by omega) e (by omega)
theorem hom_fix {c : Nat} (hc : c < l.length) : tw m n l (hom m n l c) = hom m n l c := by
  obtain ⟨k, hk, rfl⟩ := oc_all m n l hm hl hc
  exact (itw_end m n l hm hl k hk l.length (by omega)).1
theorem hom_lt {c : Nat} (hc : c < l.length) : hom m n l c < l.length := by
  obtain ⟨k, hk, rfl⟩ := oc_all m n l hm hl hc
  exact (itw_end m n l hm hl k hk l.length (by omega)).2
theorem hom_tw {c : Nat} (hc : c < l.length) : hom m n l (tw m n l c) = hom m n l c := by
  have h := hom_fix m n l hm hl hc
  unfold hom at h ⊢
  rw [← itw_succ] at h
  exact h
end
end Go.Proofs.YtmjlaonlhabblaaDoor
namespace Go.Proofs.YtmjlaonlhabblaaDoor
open Go.RowKit

/-- The first of a number's group. -/
def rt (p : Nat → Nat) (i : Nat) : Nat := if _h : p i < i then rt p (p i) else i
termination_by i
section
variable {p : Nat → Nat}
theorem rt_go {i : Nat} (h : p i < i) : rt p i = rt p (p i) := by rw [rt, dif_pos h]
theorem rt_stop {i : Nat} (h : ¬ p i < i) : rt p i = i := by rw [rt, dif_neg h]
theorem rt_le (i : Nat) : rt p i ≤ i := by
  induction i using Nat.strongRecOn with
  | _ i ih =>
    by_cases h : p i < i
    · rw [rt_go h]; have := ih _ h; omega
    · rw [rt_stop h]; exact Nat.le_refl _
theorem rt_end (i : Nat) : ¬ p (rt p i) < rt p i := by
  induction i using Nat.strongRecOn with
  | _ i ih =>
    by_cases h : p i < i
    · rw [rt_go h]; exact ih _ h
    · rw [rt_stop h]; exact h
variable (hp : ∀ i, p i ≤ i)
include hp
theorem rt_fix (i : Nat) : p (rt p i) = rt p i := by have h1 := rt_end (p := p) i; have h2 := hp (rt p i); omega
theorem rt_p (i : Nat) : rt p (p i) = rt p i := by
  by_cases h : p i < i
  · exact (rt_go h).symm
  · have : p i = i := by have := hp i; omega
    rw [this]
omit hp in
theorem rt_rt (i : Nat) : rt p (rt p i) = rt p i := rt_stop (rt_end i)
/-- A way is made shorter: no first one is another. -/
theorem rt_short {n : Nat} (i : Nat) : rt (fun k => if k = n then p (p n) else p k) i = rt p i := by
  induction i using Nat.strongRecOn with
  | _ i ih =>
    by_cases e : i = n
    · subst e
      have h1 := hp i
      have h2 := hp (p i)
      by_cases h : p (p i) < i
      · rw [rt_go (by simpa using h)]
        simp only [if_true]
        rw [ih _ h, rt_p hp, rt_p hp]
      · have h3 : p i = i := by omega
        rw [rt_stop (by simpa using h), rt_stop (by omega)]
    · by_cases h : p i < i
      · rw [rt_go (by simpa [e] using h), if_neg e, ih _ h, rt_go h]
      · rw [rt_stop (by simpa [e] using h), rt_stop h]
omit hp in
/-- Two groups are joined. -/
theorem rt_join {x y : Nat} (hx : p x = x) (hy : p y = y) (hxy : x ≤ y) (i : Nat) : rt (fun k => if k = y then x else p k) i = if rt p i = y then x else rt p i := by
  induction i using Nat.strongRecOn with
  | _ i ih =>
    by_cases e : i = y
    · subst e
      rw [rt_stop (i := i) (p := p) (by omega), if_pos rfl]
      by_cases h : x < i
      · rw [rt_go (by simpa using h)]
        simp only [if_true]
        rw [ih _ h, rt_stop (i := x) (p := p) (by omega), if_neg (by omega)]
      · rw [rt_stop (by simpa using h)]; omega
    · by_cases h : p i < i
      · rw [rt_go (by simpa [e] using h), if_neg e, ih _ h, rt_go h]
      · rw [rt_stop (by simpa [e] using h), rt_stop h, if_neg e]
end
end Go.Proofs.YtmjlaonlhabblaaDoor
