/-
  What gathers: from the last cell taken back, each hands on to the next one; that is what comes if the rain of each goes all its way. No Go text of its own.; basin.Basins.
-/
import Derived.Test.YtbkggcfogmgmmaaDoorQHmA
import Derived.Test.YtbkggcfogmgmmaaDoorQDgA
import Derived.Test.YtbkggcfogmgmmaaDoorQDrQ
namespace Go.Proofs.YtbkggcfogmgmmaaDoor
open Go.RowKit

/-- The sum of the first so many. -/
def smF (f : Nat → Int) : Nat → Int
  | 0 => 0
  | k + 1 => smF f k + f k
theorem smF_congr {f g : Nat → Int} : ∀ {k : Nat}, (∀ i, i < k → f i = g i) → smF f k = smF g k
  | 0, _ => rfl
  | k + 1, h => by unfold smF; rw [smF_congr (fun i hi => h i (by omega)), h k (by omega)]
theorem smF_add (f g : Nat → Int) : ∀ k, smF (fun i => f i + g i) k = smF f k + smF g k
  | 0 => rfl
  | k + 1 => by unfold smF; rw [smF_add f g k]; omega
theorem smF_zero : ∀ k, smF (fun _ => 0) k = 0
  | 0 => rfl
  | k + 1 => by unfold smF; rw [smF_zero k]; rfl
theorem smF_le {f : Nat → Int} {B : Int} : ∀ {k : Nat}, (∀ i, i < k → f i ≤ B) → smF f k ≤ (k : Int) * B
  | 0, _ => by simp [smF]
  | k + 1, h => by
    have h1 := smF_le (f := f) (B := B) (k := k) (fun i hi => h i (by omega))
    have h2 := h k (by omega)
    unfold smF
    rw [show ((k + 1 : Nat) : Int) * B = (k : Int) * B + B by rw [Int.natCast_add, Int.add_mul]; simp]
    omega
theorem smF_nonneg {f : Nat → Int} : ∀ {k : Nat}, (∀ i, i < k → 0 ≤ f i) → 0 ≤ smF f k
  | 0, _ => by simp [smF]
  | k + 1, h => by
    have h1 := smF_nonneg (f := f) (k := k) (fun i hi => h i (by omega))
    have h2 := h k (by omega)
    unfold smF
    omega
def dlt (i c : Nat) : Int := if i = c then 1 else 0
theorem smF_dlt (r : Nat → Int) (c : Nat) : ∀ k, smF (fun i => r i * dlt i c) k = if c < k then r c else 0
  | 0 => by simp [smF]
  | k + 1 => by
    unfold smF
    rw [smF_dlt r c k]
    unfold dlt
    by_cases e : k = c
    · subst e
      rw [if_neg (by omega), if_pos rfl, if_pos (by omega)]; omega
    · rw [if_neg e]
      by_cases h : c < k
      · rw [if_pos h, if_pos (by omega)]; omega
      · rw [if_neg h, if_neg (by omega)]; omega
section
variable (m n : Nat) (l : List Int)
/-- Does the cell hand on to c? -/
def hands (x c : Nat) : Prop := tw m n l x ≠ x ∧ c = tw m n l x
instance (x c : Nat) : Decidable (hands m n l x c) := by unfold hands; exact inferInstance
/-- How much of one drop at i has come to c, after the last j have handed on. -/
def cnt : Nat → Nat → Nat → Int
  | 0, i, c => dlt i c
  | j + 1, i, c => cnt j i c + if hands m n l (oc m n l (l.length - 1 - j)) c then cnt j i (oc m n l (l.length - 1 - j)) else 0
/-- What is in each cell, after the last j have handed on. -/
def gvN (r : Nat → Int) : Nat → Nat → Int
  | 0, c => r c
  | j + 1, c => gvN r j c + if hands m n l (oc m n l (l.length - 1 - j)) c then gvN r j (oc m n l (l.length - 1 - j)) else 0
theorem cnt_succ (j i c : Nat) : cnt m n l (j + 1) i c = cnt m n l j i c + if hands m n l (oc m n l (l.length - 1 - j)) c then cnt m n l j i (oc m n l (l.length - 1 - j)) else 0 := rfl
theorem gv_succ (r : Nat → Int) (j c : Nat) : gvN m n l r (j + 1) c = gvN m n l r j c + if hands m n l (oc m n l (l.length - 1 - j)) c then gvN m n l r j (oc m n l (l.length - 1 - j)) else 0 := rfl
variable (hm : 1 ≤ m) (hl : l.length = m * n)
include hm hl
theorem gv_cnt (r : Nat → Int) : ∀ j c, j ≤ l.length → c < l.length → gvN m n l r j c = smF (fun i => r i * cnt m n l j i c) l.length
  | 0, c, _, hc => by
    show r c = smF (fun i => r i * dlt i c) l.length
    rw [smF_dlt, if_pos hc]
  | j + 1, c, hj, hc => by
    have hx := oc_lt m n l hm hl (k := l.length - 1 - j) (by omega)
    simp only [cnt_succ]
    rw [gv_succ]
    rw [gv_cnt r j c (by omega) hc]
    by_cases h : hands m n l (oc m n l (l.length - 1 - j)) c
    · rw [if_pos h, gv_cnt r j _ (by omega) hx, ← smF_add]
      exact smF_congr (fun i _ => by simp only [if_pos h]; rw [Int.mul_add])
    · rw [if_neg h, Int.add_zero]
      exact smF_congr (fun i _ => by simp only [if_neg h]; rw [Int.add_zero])
theorem cnt_A {p : Nat} (hp : p < l.length) (c : Nat) : ∀ j, j + p + 1 ≤ l.length → cnt m n l j (oc m n l p) c = dlt (oc m n l p) c := by
  intro j
  induction j generalizing c with
  | zero => intro _; rfl
  | succ j ih =>
    intro hj
    rw [cnt_succ]
    rw [ih c (by omega), ih _ (by omega)]
    have : dlt (oc m n l p) (oc m n l (l.length - 1 - j)) = 0 := by
      unfold dlt
      rw [if_neg]
      intro h
      have := oc_inj m n l hm hl hp (by omega) h
      omega
    rw [this, ite_self, Int.add_zero]
theorem cnt_B {p : Nat} (hp : p < l.length) (hn : tw m n l (oc m n l p) ≠ oc m n l p) (c : Nat) : ∀ d, d ≤ p → cnt m n l (l.length - p + d) (oc m n l p) c = dlt (oc m n l p) c + cnt m n l (l.length - p + d) (tw m n l (oc m n l p)) c := by
  obtain ⟨q, hq, hqt⟩ := (oc_bef m n l hm hl hp).resolve_left hn
  intro d
  induction d generalizing c with
  | zero =>
    intro _
    rw [Nat.add_zero, ← hqt, cnt_A m n l hm hl (p := q) (by omega) c (l.length - p) (by omega)]
    rw [show l.length - p = (l.length - 1 - p) + 1 by omega]
    show cnt m n l (l.length - 1 - p) _ c + (if hands m n l (oc m n l (l.length - 1 - (l.length - 1 - p))) c then _ else _) = _
    rw [show l.length - 1 - (l.length - 1 - p) = p by omega, cnt_A m n l hm hl hp c _ (by omega), cnt_A m n l hm hl hp _ _ (by omega), hqt]
    by_cases h : c = tw m n l (oc m n l p)
    · rw [if_pos (show hands m n l (oc m n l p) c from ⟨hn, h⟩), ← h]
      unfold dlt
      rw [if_pos rfl, if_pos (rfl : c = c)]
    · rw [if_neg (fun x : hands m n l (oc m n l p) c => h x.2)]
      unfold dlt
      rw [if_neg (Ne.symm h)]
  | succ d ih =>
    intro hd
    rw [← Nat.add_assoc, cnt_succ, cnt_succ]
    rw [ih c (by omega), ih _ (by omega)]
    have : dlt (oc m n l p) (oc m n l (l.length - 1 - (l.length - p + d))) = 0 := by
      unfold dlt
      rw [if_neg]
      intro h
      have := oc_inj m n l hm hl hp (by omega) h
      omega
    rw [this, Int.zero_add, Int.add_assoc]
theorem cnt_C {p : Nat} (hp : p < l.length) (hn : tw m n l (oc m n l p) = oc m n l p) (c : Nat) : ∀ d, d ≤ p → cnt m n l (l.length - p + d) (oc m n l p) c = dlt (oc m n l p) c := by
  intro d
  induction d generalizing c with
  | zero =>
    intro _
    rw [Nat.add_zero]
    rw [show l.length - p = (l.length - 1 - p) + 1 by omega]
    show cnt m n l (l.length - 1 - p) _ c + (if hands m n l (oc m n l (l.length - 1 - (l.length - 1 - p))) c then _ else _) = _
    rw [show l.length - 1 - (l.length - 1 - p) = p by omega, cnt_A m n l hm hl hp c _ (by omega)]
    rw [if_neg (fun x => x.1 hn), Int.add_zero]
  | succ d ih =>
    intro hd
    rw [← Nat.add_assoc, cnt_succ]
    rw [ih c (by omega), ih _ (by omega)]
    have : dlt (oc m n l p) (oc m n l (l.length - 1 - (l.length - p + d))) = 0 := by
      unfold dlt
      rw [if_neg]
      intro h
      have := oc_inj m n l hm hl hp (by omega) h
      omega
    rw [this, ite_self, Int.add_zero]
omit hm hl
/-- How often c is met on the way from i. -/
def cW (i c : Nat) : Int := cnt m n l l.length i c
include hm hl
theorem cW_next {i : Nat} (hi : i < l.length) (h : tw m n l i ≠ i) (c : Nat) : cW m n l i c = dlt i c + cW m n l (tw m n l i) c := by
  obtain ⟨p, hp, rfl⟩ := oc_all m n l hm hl hi
  have := cnt_B m n l hm hl hp h c p (Nat.le_refl _)
  rw [show l.length - p + p = l.length by omega] at this
  exact this
theorem cW_end {i : Nat} (hi : i < l.length) (h : tw m n l i = i) (c : Nat) : cW m n l i c = dlt i c := by
  obtain ⟨p, hp, rfl⟩ := oc_all m n l hm hl hi
  have := cnt_C m n l hm hl hp h c p (Nat.le_refl _)
  rw [show l.length - p + p = l.length by omega] at this
  exact this
omit hm hl
theorem dlt_le (i c : Nat) : 0 ≤ dlt i c ∧ dlt i c ≤ 1 := by unfold dlt; split <;> omega
theorem cnt_pos : ∀ j i c, 0 ≤ cnt m n l j i c
  | 0, i, c => (dlt_le i c).1
  | j + 1, i, c => by
    rw [cnt_succ]
    have h1 := cnt_pos j i c
    have h2 := cnt_pos j i (oc m n l (l.length - 1 - j))
    split <;> omega
theorem cnt_up (i c j : Nat) : ∀ d, cnt m n l j i c ≤ cnt m n l (j + d) i c
  | 0 => Int.le_refl _
  | d + 1 => by
    have h1 := cnt_up i c j d
    have h2 := cnt_pos m n l (j + d) i (oc m n l (l.length - 1 - (j + d)))
    rw [← Nat.add_assoc, cnt_succ]
    split <;> omega
include hm hl
theorem cW_le : ∀ p, p < l.length → ∀ c, cW m n l (oc m n l p) c ≤ (p : Int) + 1 := by
  intro p
  induction p using Nat.strongRecOn with
  | _ p ih =>
    intro hp c
    have hd := dlt_le (oc m n l p) c
    by_cases h : tw m n l (oc m n l p) = oc m n l p
    · rw [cW_end m n l hm hl (oc_lt m n l hm hl hp) h]; omega
    · obtain ⟨q, hq, hqt⟩ := (oc_bef m n l hm hl hp).resolve_left h
      rw [cW_next m n l hm hl (oc_lt m n l hm hl hp) h, ← hqt]
      have := ih q hq (by omega) c
      omega
/-- All of a drop comes to the rim. -/
theorem cW_rim : ∀ p, p < l.length → smF (fun c => if rim m n c then cW m n l (oc m n l p) c else 0) l.length = 1 := by
  intro p
  induction p using Nat.strongRecOn with
  | _ p ih =>
    intro hp
    have hlt := oc_lt m n l hm hl hp
    by_cases h : tw m n l (oc m n l p) = oc m n l p
    · have hr := (tw_fix m n l hm hl hlt).1 h
      have := smF_dlt (fun _ => 1) (oc m n l p) l.length
      rw [if_pos hlt] at this
      rw [← this]
      refine smF_congr (fun c _ => ?_)
      simp only [cW_end m n l hm hl hlt h]
      unfold dlt
      by_cases e : oc m n l p = c
      · rw [if_pos e, ← e, if_pos hr, if_pos rfl]; rfl
      · rw [if_neg e, if_neg (Ne.symm e)]; simp
    · have hr : ¬ rim m n (oc m n l p) := fun c => h ((tw_fix m n l hm hl hlt).2 c)
      obtain ⟨q, hq, hqt⟩ := (oc_bef m n l hm hl hp).resolve_left h
      rw [← ih q hq (by omega)]
      refine smF_congr (fun c _ => ?_)
      simp only [cW_next m n l hm hl hlt h, ← hqt]
      unfold dlt
      by_cases e : oc m n l p = c
      · rw [← e, if_neg hr, if_neg hr]
      · rw [if_neg e, Int.zero_add]
omit hm hl
/-- What gathers in each cell. -/
def gaV (r : Nat → Int) (c : Nat) : Int := smF (fun i => r i * cW m n l i c) l.length
def gaL (r : Nat → Int) : List Int := (List.range l.length).map (gaV m n l r)
include hm hl
theorem gv_bd {r : Nat → Int} {B : Int} (hB : 0 ≤ B) (hr : ∀ i, i < l.length → 0 ≤ r i ∧ r i ≤ B) {j c : Nat} (hj : j ≤ l.length) (hc : c < l.length) : 0 ≤ gvN m n l r j c ∧ gvN m n l r j c ≤ (l.length : Int) * (B * l.length) := by
  rw [gv_cnt m n l hm hl r j c hj hc]
  constructor
  · exact smF_nonneg (fun i hi => Int.mul_nonneg (hr i hi).1 (cnt_pos m n l j i c))
  · refine smF_le (fun i hi => ?_)
    obtain ⟨p, hp, rfl⟩ := oc_all m n l hm hl hi
    have h1 := cnt_up m n l (oc m n l p) c j (l.length - j)
    rw [show j + (l.length - j) = l.length by omega] at h1
    have h2 := cW_le m n l hm hl p hp c
    unfold cW at h2
    exact Int.le_trans (Int.mul_le_mul_of_nonneg_right (hr _ hi).2 (cnt_pos m n l j _ c)) (Int.mul_le_mul_of_nonneg_left (by omega) hB)
theorem gv_all (r : Nat → Int) {c : Nat} (hc : c < l.length) : gvN m n l r l.length c = gaV m n l r c := gv_cnt m n l hm hl r _ c (Nat.le_refl _) hc
end
end Go.Proofs.YtbkggcfogmgmmaaDoor
namespace Go.Proofs.YtbkggcfogmgmmaaDoor
open Go.RowKit
attribute [local go_sem ↓] Go.wp_at_zero Go.wp_at_succ

/-- The basin of each cell. -/
def hmL (m n : Nat) (l : List Int) : List Int := (List.range l.length).map (fun c => (hom m n l c : Int))
theorem hmL_len (m n : Nat) (l : List Int) : (hmL m n l).length = l.length := by simp [hmL]
theorem oc_on {m n : Nat} {l : List Int} (ok : Ok l m n) {k : Nat} (hk : k < l.length) : gl (on (flo m n l l.length).ord) k = (oc m n l k : Int) := by
  have h := oc_get m n l ok.m1 ok.len hk
  have hl := ord_len m n l ok.m1 ok.len
  unfold flE at h hl
  rw [← gl_get (by rw [List.length_map, hl]; exact hk), ← h, List.getElem_map]
  rfl
theorem nxO_tw (m n : Nat) (l : List Int) (c : Nat) : nxO m n l c = if tw m n l c = c then none else some (tw m n l c) := rfl
theorem bas_none {m n : Nat} {l : List Int} (ok : Ok l m n) {k : Nat} (hk : k < l.length) {L : List Int} (hL : L.length = l.length) (h : ∀ i, i < k → gl L (oc m n l i) = (hom m n l (oc m n l i) : Int)) (hn : nxO m n l (oc m n l k) = none) : ∀ i, i < k + 1 → gl (L.set (oc m n l k) (oc m n l k : Int)) (oc m n l i) = (hom m n l (oc m n l i) : Int) := by
  have hf : tw m n l (oc m n l k) = oc m n l k := by
    rw [nxO_tw] at hn
    by_cases c : tw m n l (oc m n l k) = oc m n l k
    · exact c
    · rw [if_neg c] at hn; cases hn
  intro i hi
  rw [gl_set (by rw [hL]; exact oc_lt m n l ok.m1 ok.len hk)]
  by_cases e : i = k
  · subst e
    rw [if_pos rfl, hom_self m n l hf]
  · rw [if_neg (fun x => e (oc_inj m n l ok.m1 ok.len (by omega) hk x))]
    exact h i (by omega)
theorem bas_some {m n : Nat} {l : List Int} (ok : Ok l m n) {k t : Nat} (hk : k < l.length) {L : List Int} (hL : L.length = l.length) (h : ∀ i, i < k → gl L (oc m n l i) = (hom m n l (oc m n l i) : Int)) (hn : nxO m n l (oc m n l k) = some t) : t < l.length ∧ gl (L.set (oc m n l k) (oc m n l k : Int)) t = (hom m n l t : Int) ∧ ∀ i, i < k + 1 → gl ((L.set (oc m n l k) (oc m n l k : Int)).set (oc m n l k) (hom m n l t : Int)) (oc m n l i) = (hom m n l (oc m n l i) : Int) := by
  have hf : tw m n l (oc m n l k) ≠ oc m n l k ∧ tw m n l (oc m n l k) = t := by
    rw [nxO_tw] at hn
    by_cases c : tw m n l (oc m n l k) = oc m n l k
    · rw [if_pos c] at hn; cases hn
    · rw [if_neg c] at hn; exact ⟨c, Option.some.inj hn⟩
  have hlt := oc_lt m n l ok.m1 ok.len hk
  obtain ⟨j, hj, hjt⟩ := (oc_bef m n l ok.m1 ok.len hk).resolve_left hf.1
  have hjt' : oc m n l j = t := by rw [hjt]; exact hf.2
  have ht : t < l.length := by rw [← hjt']; exact oc_lt m n l ok.m1 ok.len (by omega)
  have hne : t ≠ oc m n l k := by rw [← hf.2]; exact hf.1
  refine ⟨ht, ?_, fun i hi => ?_⟩
  · rw [gl_set (by rw [hL]; exact hlt), if_neg hne, ← hjt']
    exact h j hj
  · rw [gl_set (by rw [List.length_set, hL]; exact hlt)]
    by_cases e : i = k
    · subst e
      rw [if_pos rfl, ← hf.2, hom_tw m n l ok.m1 ok.len hlt]
    · have hne2 : ¬ oc m n l i = oc m n l k := fun x => e (oc_inj m n l ok.m1 ok.len (by omega) hk x)
      rw [if_neg hne2, gl_set (by rw [hL]; exact hlt), if_neg hne2]
      exact h i (by omega)
theorem bas_end {m n : Nat} {l : List Int} (ok : Ok l m n) {L : List Int} (hL : L.length = l.length) (h : ∀ i, i < l.length → gl L (oc m n l i) = (hom m n l (oc m n l i) : Int)) : L = hmL m n l :=
  list_gl hL (fun i hi => by
    obtain ⟨k, hk, rfl⟩ := oc_all m n l ok.m1 ok.len hi
    exact h k hk)
/-- What lies in memory while the basins are told. -/
structure BA (w W : World) (T b1 FL B N : Nat) (t : List Value) (O Fl L : List Int) : Prop where
  t : At W T t
  o : ∀ k, k < N → W.cell? ⟨b1, k, none⟩ = some (.int .i64 (gl O k))
  ol : b1 < W.heap.size
  f : At W FL (ir Fl)
  l : At W B (ir L)
  gr : Gr w W
  ne : (T ≠ B ∧ b1 ≠ B ∧ FL ≠ B) ∧ w.heap.size ≤ B
section
variable {w W : World} {T b1 FL B N : Nat} {t : List Value} {O Fl L : List Int}
theorem BA.below {w' : World} (h : BA w W T b1 FL B N t O Fl L) (hB : Below W.heap.size W w') : BA w w' T b1 FL B N t O Fl L :=
  ⟨At.below hB h.t, fun k hk => ((mcell hB).1 b1 k h.ol).trans (h.o k hk), Nat.lt_of_lt_of_le h.ol hB.size, At.below hB h.f, At.below hB h.l, Gr.step h.gr hB, h.ne⟩
theorem BA.drew (h : BA w W T b1 FL B N t O Fl L) : BA w W.drew T b1 FL B N t O Fl L := ⟨h.t, h.o, h.ol, h.f, h.l, h.gr.drew, h.ne⟩
theorem BA.put (h : BA w W T b1 FL B N t O Fl L) (i : Nat) (x : Int) : BA w (W.setCell ⟨B, i, none⟩ (.int .i64 x)) T b1 FL B N t O Fl (L.set i x) := by
  obtain ⟨⟨n1, n2, n3⟩, n4⟩ := h.ne
  refine ⟨h.t.skip (Ne.symm n1) _ _, fun k hk => ?_, by simpa using h.ol, h.f.skip (Ne.symm n3) _ _, ?_, h.gr.set n4 _ _, h.ne⟩
  · have hk' := h.o k hk
    have n2' : ¬ b1 = B := n2
    simp [go_sem, hk']
  · rw [← ir_set]; exact h.l.put i _
end
end Go.Proofs.YtbkggcfogmgmmaaDoor
