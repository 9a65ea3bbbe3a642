/-
  What gathers: from the last cell taken back, each hands on to the next one; that is what comes if the rain of each goes all its way. No Go text of its own.; A flood's heights: they never fall from one that is taken to the next; none is higher than it must be. No Go text of its own.; basin: apart, touching, depths.; Lakes: wet cells that are joined; names that are made less until nothing changes. No Go text of its own.; Wet cells that touch are joined, pair by pair: in the end the first of each group is the least number of its lake. No Go text of its own.
-/
import Derived.Test.YtmjlaonlhabblaaDoorQJ11
import Derived.Test.YtmjlaonlhabblaaDoorQJ12
import Derived.Test.YtmjlaonlhabblaaDoorQJ13
namespace Go.Proofs.YtmjlaonlhabblaaDoor
open Go.RowKit

/-- The sum of the first so many. -/
def smF (f : Nat → Int) : Nat → Int
  | 0 => 0
  | k + 1 => smF f k + f k
theorem smF_congr {f g : Nat → Int} : ∀ {k : Nat}, (∀ i, i < k → f i = g i) → smF f k = smF g k
  | 0, _ => rfl
  | k + 1, h => by unfold smF; rw [smF_congr (fun i hi => h i (by omega)), h k (by omega)]
theorem smF_add (f g : Nat → Int) : ∀ k, smF (fun i => f i + g i) k = smF f k + smF g k
  | 0 => rfl
  | k + 1 => by unfold smF; rw [smF_add f g k]; omega
theorem smF_zero : ∀ k, smF (fun _ => 0) k = 0
  | 0 => rfl
  | k + 1 => by unfold smF; rw [smF_zero k]; rfl
theorem smF_le {f : Nat → Int} {B : Int} : ∀ {k : Nat}, (∀ i, i < k → f i ≤ B) → smF f k ≤ (k : Int) * B
  | 0, _ => by simp [smF]
  | k + 1, h => by
    have h1 := smF_le (f := f) (B := B) (k := k) (fun i hi => h i (by omega))
    have h2 := h k (by omega)
    unfold smF
    rw [show ((k + 1 : Nat) : Int) * B = (k : Int) * B + B by rw [Int.natCast_add, Int.add_mul]; simp]
    omega
theorem smF_nonneg {f : Nat → Int} : ∀ {k : Nat}, (∀ i, i < k → 0 ≤ f i) → 0 ≤ smF f k
  | 0, _ => by simp [smF]
  | k + 1, h => by
    have h1 := smF_nonneg (f := f) (k := k) (fun i hi => h i (by omega))
    have h2 := h k (by omega)
    unfold smF
    omega
def dlt (i c : Nat) : Int := if i = c then 1 else 0
theorem smF_dlt (r : Nat → Int) (c : Nat) : ∀ k, smF (fun i => r i * dlt i c) k = if c < k then r c else 0
  | 0 => by simp [smF]
  | k + 1 => by
    unfold smF
    rw [smF_dlt r c k]
    unfold dlt
    by_cases e : k = c
    · subst e
      rw [if_neg (by omega), if_pos rfl, if_pos (by omega)]; omega
    · rw [if_neg e]
      by_cases h : c < k
      · rw [if_pos h, if_pos (by omega)]; omega
      · rw [if_neg h, if_neg (by omega)]; omega
section
variable (m n : Nat) (l : List Int)
/-- Does the cell hand on to c? -/
def hands (x c : Nat) : Prop := tw m n l x ≠ x ∧ c = tw m n l x
instance (x c : Nat) : Decidable (hands m n l x c) := by unfold hands; exact inferInstance
/-- How much of one drop at i has come to c, after the last j have handed on. -/
def cnt : Nat → Nat → Nat → Int
  | 0, i, c => dlt i c
  | j + 1, i, c => cnt j i c + if hands m n l (oc m n l (l.length - 1 - j)) c then cnt j i (oc m n l (l.length - 1 - j)) else 0
/-- What is in each cell, after the last j have handed on. -/
def gvN (r : Nat → Int) : Nat → Nat → Int
  | 0, c => r c
  | j + 1, c => gvN r j c + if hands m n l (oc m n l (l.length - 1 - j)) c then gvN r j (oc m n l (l.length - 1 - j)) else 0
theorem cnt_succ (j i c : Nat) : cnt m n l (j + 1) i c = cnt m n l j i c + if hands m n l (oc m n l (l.length - 1 - j)) c then cnt m n l j i (oc m n l (l.length - 1 - j)) else 0 := rfl
theorem gv_succ (r : Nat → Int) (j c : Nat) : gvN m n l r (j + 1) c = gvN m n l r j c + if hands m n l (oc m n l (l.length - 1 - j)) c then gvN m n l r j (oc m n l (l.length - 1 - j)) else 0 := rfl
variable (hm : 1 ≤ m) (hl : l.length = m * n)
include hm hl
theorem gv_cnt (r : Nat → Int) : ∀ j c, j ≤ l.length → c < l.length → gvN m n l r j c = smF (fun i => r i * cnt m n l j i c) l.length
  | 0, c, _, hc => by
    show r c = smF (fun i => r i * dlt i c) l.length
    rw [smF_dlt, if_pos hc]
  | j + 1, c, hj, hc => by
    have hx := oc_lt m n l hm hl (k := l.length - 1 - j) (by omega)
    simp only [cnt_succ]
    rw [gv_succ]
    rw [gv_cnt r j c (by omega) hc]
    by_cases h : hands m n l (oc m n l (l.length - 1 - j)) c
    · rw [if_pos h, gv_cnt r j _ (by omega) hx, ← smF_add]
      exact smF_congr (fun i _ => by simp only [if_pos h]; rw [Int.mul_add])
    · rw [if_neg h, Int.add_zero]
      exact smF_congr (fun i _ => by simp only [if_neg h]; rw [Int.add_zero])
theorem cnt_A {p : Nat} (hp : p < l.length) (c : Nat) : ∀ j, j + p + 1 ≤ l.length → cnt m n l j (oc m n l p) c = dlt (oc m n l p) c := by
  intro j
  induction j generalizing c with
  | zero => intro _; rfl
  | succ j ih =>
    intro hj
    rw [cnt_succ]
    rw [ih c (by omega), ih _ (by omega)]
    have : dlt (oc m n l p) (oc m n l (l.length - 1 - j)) = 0 := by
      unfold dlt
      rw [if_neg]
      intro h
      have := oc_inj m n l hm hl hp (by omega) h
      omega
    rw [this, ite_self, Int.add_zero]
theorem cnt_B {p : Nat} (hp : p < l.length) (hn : tw m n l (oc m n l p) ≠ oc m n l p) (c : Nat) : ∀ d, d ≤ p → cnt m n l (l.length - p + d) (oc m n l p) c = dlt (oc m n l p) c + cnt m n l (l.length - p + d) (tw m n l (oc m n l p)) c := by
  obtain ⟨q, hq, hqt⟩ := (oc_bef m n l hm hl hp).resolve_left hn
  intro d
  induction d generalizing c with
  | zero =>
    intro _
    rw [Nat.add_zero, ← hqt, cnt_A m n l hm hl (p := q) (by omega) c (l.length - p) (by omega)]
    rw [show l.length - p = (l.length - 1 - p) + 1 by omega]
    show cnt m n l (l.length - 1 - p) _ c + (if hands m n l (oc m n l (l.length - 1 - (l.length - 1 - p))) c then _ else _) = _
    rw [show l.length - 1 - (l.length - 1 - p) = p by omega, cnt_A m n l hm hl hp c _ (by omega), cnt_A m n l hm hl hp _ _ (by omega), hqt]
    by_cases h : c = tw m n l (oc m n l p)
    · rw [if_pos (show hands m n l (oc m n l p) c from ⟨hn, h⟩), ← h]
      unfold dlt
      rw [if_pos rfl, if_pos (rfl : c = c)]
    · rw [if_neg (fun x : hands m n l (oc m n l p) c => h x.2)]
      unfold dlt
      rw [if_neg (Ne.symm h)]
  | succ d ih =>
    intro hd
    rw [← Nat.add_assoc, cnt_succ, cnt_succ]
    rw [ih c (by omega), ih _ (by omega)]
    have : dlt (oc m n l p) (oc m n l (l.length - 1 - (l.length - p + d))) = 0 := by
      unfold dlt
      rw [if_neg]
      intro h
      have := oc_inj m n l hm hl hp (by omega) h
      omega
    rw [this, Int.zero_add, Int.add_assoc]
theorem cnt_C {p : Nat} (hp : p < l.length) (hn : tw m n l (oc m n l p) = oc m n l p) (c : Nat) : ∀ d, d ≤ p → cnt m n l (l.length - p + d) (oc m n l p) c = dlt (oc m n l p) c := by
  intro d
  induction d generalizing c with
  | zero =>
    intro _
    rw [Nat.add_zero]
    rw [show l.length - p = (l.length - 1 - p) + 1 by omega]
    show cnt m n l (l.length - 1 - p) _ c + (if hands m n l (oc m n l (l.length - 1 - (l.length - 1 - p))) c then _ else _) = _
    rw [show l.length - 1 - (l.length - 1 - p) = p by omega, cnt_A m n l hm hl hp c _ (by omega)]
    rw [if_neg (fun x => x.1 hn), Int.add_zero]
  | succ d ih =>
    intro hd
    rw [← Nat.add_assoc, cnt_succ]
    rw [ih c (by omega), ih _ (by omega)]
    have : dlt (oc m n l p) (oc m n l (l.length - 1 - (l.length - p + d))) = 0 := by
      unfold dlt
      rw [if_neg]
      intro h
      have := oc_inj m n l hm hl hp (by omega) h
      omega
    rw [this, ite_self, Int.add_zero]
omit hm hl
/-- How often c is met on the way from i. -/
def cW (i c : Nat) : Int := cnt m n l l.length i c
include hm hl
theorem cW_next {i : Nat} (hi : i < l.length) (h : tw m n l i ≠ i) (c : Nat) : cW m n l i c = dlt i c + cW m n l (tw m n l i) c := by
  obtain ⟨p, hp, rfl⟩ := oc_all m n l hm hl hi
  have := cnt_B m n l hm hl hp h c p (Nat.le_refl _)
  rw [show l.length - p + p = l.length by omega] at this
  exact this
theorem cW_end {i : Nat} (hi : i < l.length) (h : tw m n l i = i) (c : Nat) : cW m n l i c = dlt i c := by
  obtain ⟨p, hp, rfl⟩ := oc_all m n l hm hl hi
  have := cnt_C m n l hm hl hp h c p (Nat.le_refl _)
  rw [show l.length - p + p = l.length by omega] at this
  exact this
omit hm hl
theorem dlt_le (i c : Nat) : 0 ≤ dlt i c ∧ dlt i c ≤ 1 := by unfold dlt; split <;> omega
theorem cnt_pos : ∀ j i c, 0 ≤ cnt m n l j i c
  | 0, i, c => (dlt_le i c).1
  | j + 1, i, c => by
    rw [cnt_succ]
    have h1 := cnt_pos j i c
    have h2 := cnt_pos j i (oc m n l (l.length - 1 - j))
    split <;> omega
theorem cnt_up (i c j : Nat) : ∀ d, cnt m n l j i c ≤ cnt m n l (j + d) i c
  | 0 => Int.le_refl _
  | d + 1 => by
    have h1 := cnt_up i c j d
    have h2 := cnt_pos m n l (j + d) i (oc m n l (l.length - 1 - (j + d)))
    rw [← Nat.add_assoc, cnt_succ]
    split <;> omega
include hm hl
theorem cW_le : ∀ p, p < l.length → ∀ c, cW m n l (oc m n l p) c ≤ (p : Int) + 1 := by
  intro p
  induction p using Nat.strongRecOn with
  | _ p ih =>
    intro hp c
    have hd := dlt_le (oc m n l p) c
    by_cases h : tw m n l (oc m n l p) = oc m n l p
    · rw [cW_end m n l hm hl (oc_lt m n l hm hl hp) h]; omega
    · obtain ⟨q, hq, hqt⟩ := (oc_bef m n l hm hl hp).resolve_left h
      rw [cW_next m n l hm hl (oc_lt m n l hm hl hp) h, ← hqt]
      have := ih q hq (by omega) c
      omega
/-- All of a drop comes to the rim. -/
theorem cW_rim : ∀ p, p < l.length → smF (fun c => if rim m n c then cW m n l (oc m n l p) c else 0) l.length = 1 := by
  intro p
  induction p using Nat.strongRecOn with
  | _ p ih =>
    intro hp
    have hlt := oc_lt m n l hm hl hp
    by_cases h : tw m n l (oc m n l p) = oc m n l p
    · have hr := (tw_fix m n l hm hl hlt).1 h
      have := smF_dlt (fun _ => 1) (oc m n l p) l.length
      rw [if_pos hlt] at this
      rw [← this]
      refine smF_congr (fun c _ => ?_)
      simp only [cW_end m n l hm hl hlt h]
      unfold dlt
      by_cases e : oc m n l p = c
      · rw [if_pos e, ← e, if_pos hr, if_pos rfl]; rfl
      · rw [if_neg e, if_neg (Ne.symm e)]; simp
    · have hr : ¬ rim m n (oc m n l p) := fun c => h ((tw_fix m n l hm hl hlt).2 c)
      obtain ⟨q, hq, hqt⟩ := (oc_bef m n l hm hl hp).resolve_left h
      rw [← ih q hq (by omega)]
      refine smF_congr (fun c _ => ?_)
      simp only [cW_next m n l hm hl hlt h, ← hqt]
      unfold dlt
      by_cases e : oc m n l p = c
      · rw [← e, if_neg hr, if_neg hr]
      · rw [if_neg e, Int.zero_add]
omit hm hl
/-- What gathers in each cell. -/
def gaV (r : Nat → Int) (c : Nat) : Int := smF (fun i => r i * cW m n l i c) l.length
def gaL (r : Nat → Int) : List Int := (List.range l.length).map (gaV m n l r)
include hm hl
theorem gv_bd {r : Nat → Int} {B : Int} (hB : 0 ≤ B) (hr : ∀ i, i < l.length → 0 ≤ r i ∧ r i ≤ B) {j c : Nat} (hj : j ≤ l.length) (hc : c < l.length) : 0 ≤ gvN m n l r j c ∧ gvN m n l r j c ≤ (l.length : Int) * (B * l.length) := by
  rw [gv_cnt m n l hm hl r j c hj hc]
  constructor
  · exact smF_nonneg (fun i hi => Int.mul_nonneg (hr i hi).1 (cnt_pos m n l j i c))
  · refine smF_le (fun i hi => ?_)
    obtain ⟨p, hp, rfl⟩ := oc_all m n l hm hl hi
    have h1 := cnt_up m n l (oc m n l p) c j (l.length - j)
    rw [show j + (l.length - j) = l.length by omega] at h1
    have h2 := cW_le m n l hm hl p hp c
    unfold cW at h2
    exact Int.le_trans (Int.mul_le_mul_of_nonneg_right (hr _ hi).2 (cnt_pos m n l j _ c)) (Int.mul_le_mul_of_nonneg_left (by omega) hB)
theorem gv_all (r : Nat → Int) {c : Nat} (hc : c < l.length) : gvN m n l r l.length c = gaV m n l r c := gv_cnt m n l hm hl r _ c (Nat.le_refl _) hc
end
end Go.Proofs.YtmjlaonlhabblaaDoor
namespace Go.Proofs.YtmjlaonlhabblaaDoor
open Go.RowKit

section
variable (m n : Nat) (l : List Int)
/-- What holds of the heights, as far as the flood has come. -/
structure FH (S : FS) : Prop where
  mono : ∀ t x, S.st t = 2 → S.st x ≠ 0 → (S.st x = 1 → S.fi t ≤ S.fi x)
  fix : ∀ i, S.st i ≠ 0 → (rim m n i → S.fi i = gl l i) ∧ (¬ rim m n i → S.fi i = up1 (gl l i) (S.fi (S.tw i)) ∧ S.st (S.tw i) = 2)
  nb : ∀ y x, S.st y = 2 → x < l.length → tch m y x → S.st x ≠ 0 ∧ S.fi x ≤ up1 (gl l x) (S.fi y)
theorem up1_le {x y : Int} : x ≤ up1 x y ∧ y ≤ up1 x y := by unfold up1; split <;> omega
theorem up1_mono {x y z : Int} (h : y ≤ z) : up1 x y ≤ up1 x z := by unfold up1; split <;> split <;> omega
theorem FH0 : FH m n l (fs0 m n l) := by
  have hst : ∀ i, (fs0 m n l).st i = if i < l.length ∧ rim m n i then 1 else 0 := fun _ => rfl
  refine ⟨fun t x ht => ?_, fun i hi => ?_, fun y x hy => ?_⟩
  · rw [hst] at ht; split at ht <;> omega
  · rw [hst] at hi
    have hr : i < l.length ∧ rim m n i := by
      by_cases c : i < l.length ∧ rim m n i
      · exact c
      · rw [if_neg c] at hi; exact absurd rfl hi
    refine ⟨fun _ => ?_, fun h => absurd hr.2 h⟩
    show (if i < l.length ∧ rim m n i then gl l i else 0) = gl l i
    rw [if_pos hr]
  · rw [hst] at hy; split at hy <;> omega
theorem FH.step {S : FS} (h : FH m n l S) (hI : FI m n l S) {b : Nat} (hb : isB S l.length b) : FH m n l (stepF m l S b) := by
  have hst : ∀ i, (stepF m l S b).st i = if i = b then 2 else if New m l S b i then 1 else S.st i := fun _ => rfl
  have hfi : ∀ i, (stepF m l S b).fi i = if New m l S b i then up1 (gl l i) (S.fi b) else S.fi i := fun _ => rfl
  have htw : ∀ i, (stepF m l S b).tw i = if New m l S b i then b else S.tw i := fun _ => rfl
  have hb1 : S.st b = 1 := hb.2.1
  have hbn : ¬ New m l S b b := fun c => by have := c.2.1; omega
  have hmin : ∀ x, S.st x = 1 → S.fi b ≤ S.fi x := fun x hx => by
    have h1 := hb.2.2 x (hI.lt m n l (by omega)) hx
    unfold wlt at h1
    simp only at h1
    omega
  -- of a cell that is taken now: it was taken, or it is b
  have htk : ∀ t, (stepF m l S b).st t = 2 → ¬ New m l S b t ∧ (S.st t = 2 ∨ t = b) := fun t ht => by
    rw [hst] at ht
    by_cases e : t = b
    · rw [e]; exact ⟨hbn, .inr rfl⟩
    · rw [if_neg e] at ht
      by_cases c : New m l S b t
      · rw [if_pos c] at ht; omega
      · rw [if_neg c] at ht; exact ⟨c, .inl ht⟩
  have hle : ∀ t, (stepF m l S b).st t = 2 → S.fi t ≤ S.fi b := fun t ht => by
    rcases (htk t ht).2 with c | c
    · exact h.mono t b c (by omega) hb1
    · rw [c]; exact Int.le_refl _
  have hkeep : ∀ x, S.st x ≠ 0 → (stepF m l S b).st x ≠ 0 ∧ (stepF m l S b).fi x = S.fi x ∧ (stepF m l S b).tw x = S.tw x := fun x hx => by
    have c : ¬ New m l S b x := fun c => hx c.2.1
    rw [hst, hfi, htw, if_neg c, if_neg c, if_neg c]
    exact ⟨by split <;> omega, rfl, rfl⟩
  refine ⟨fun t x ht hx hx1 => ?_, fun i hi => ?_, fun y x hy hx hxy => ?_⟩
  · obtain ⟨hn, _⟩ := htk t ht
    rw [hfi t, if_neg hn]
    have h1 := hle t ht
    by_cases c : New m l S b x
    · rw [hfi x, if_pos c]
      have := (up1_le (x := gl l x) (y := S.fi b)).2
      omega
    · rw [hfi x, if_neg c]
      rw [hst] at hx1
      by_cases e : x = b
      · rw [if_pos e] at hx1; omega
      · rw [if_neg e, if_neg c] at hx1
        have := hmin x hx1
        omega
  · by_cases c : New m l S b i
    · have hnr : ¬ rim m n i := fun hr => hI.rim i c.1 hr c.2.1
      refine ⟨fun hr => absurd hr hnr, fun _ => ?_⟩
      rw [hfi i, if_pos c, htw i, if_pos c, hfi b, if_neg hbn, hst b, if_pos rfl]
      exact ⟨rfl, rfl⟩
    · have hi0 : S.st i ≠ 0 := by
        by_cases e : i = b
        · rw [e]; omega
        · rw [hst, if_neg e, if_neg c] at hi; exact hi
      obtain ⟨f1, f2⟩ := h.fix i hi0
      rw [hfi i, if_neg c, htw i, if_neg c]
      refine ⟨f1, fun hr => ?_⟩
      obtain ⟨g1, g2⟩ := f2 hr
      have k := hkeep (S.tw i) (by omega)
      rw [k.2.1]
      refine ⟨g1, ?_⟩
      rw [hst]
      by_cases e : S.tw i = b
      · rw [if_pos e]
      · rw [if_neg e, if_neg (fun c2 => by have := c2.2.1; omega)]; exact g2
  · obtain ⟨hn, hc⟩ := htk y hy
    rw [hfi y, if_neg hn]
    rcases hc with c | c
    · obtain ⟨k1, k2⟩ := h.nb y x c hx hxy
      have k := hkeep x k1
      exact ⟨k.1, by rw [k.2.1]; exact k2⟩
    · subst c
      by_cases cn : New m l S y x
      · rw [hfi x, if_pos cn]
        refine ⟨?_, Int.le_refl _⟩
        rw [hst]
        split
        · omega
        · first | omega | (rw [if_pos cn]; omega)
      · have hx0 : S.st x ≠ 0 := fun h0 => cn ⟨hx, h0, hxy⟩
        have k := hkeep x hx0
        refine ⟨k.1, ?_⟩
        rw [k.2.1]
        obtain ⟨f1, f2⟩ := h.fix x hx0
        by_cases hr : rim m n x
        · rw [f1 hr]; exact up1_le.1
        · obtain ⟨g1, g2⟩ := f2 hr
          rw [g1]
          exact up1_mono (h.mono _ y g2 (by omega) hb1)
variable (hm : 1 ≤ m) (hl : l.length = m * n)
include hm hl
theorem flo_h : ∀ k, k ≤ l.length → FH m n l (flo m n l k)
  | 0, _ => FH0 m n l
  | k + 1, hk => by
    obtain ⟨b, hb⟩ := flo_some m n l hm hl (k := k) (by omega)
    rw [flo_next m n l hb]
    exact (flo_h k (by omega)).step m n l (flo_inv m n l hm hl k (by omega)).1 hb
omit hm hl
/-- The height of the water on a cell at the end. -/
def fih (c : Nat) : Int := (flo m n l l.length).fi c
include hm hl
theorem fih_ge {c : Nat} (hc : c < l.length) : gl l c ≤ fih m n l c := by
  have h := (flo_h m n l hm hl l.length (Nat.le_refl _)).fix c (by rw [flo_all m n l hm hl c hc]; omega)
  unfold fih
  by_cases hr : rim m n c
  · rw [h.1 hr]; exact Int.le_refl _
  · rw [(h.2 hr).1]; exact up1_le.1
theorem fih_tw {c : Nat} (hc : c < l.length) : fih m n l (tw m n l c) ≤ fih m n l c := by
  have h := (flo_h m n l hm hl l.length (Nat.le_refl _)).fix c (by rw [flo_all m n l hm hl c hc]; omega)
  by_cases hr : rim m n c
  · rw [(tw_fix m n l hm hl hc).2 hr]; exact Int.le_refl _
  · have h2 := (h.2 hr).1
    unfold fih
    rw [h2]
    exact up1_le.2
theorem fih_nb {x y : Nat} (hx : x < l.length) (hy : y < l.length) (h : tch m y x) : fih m n l x ≤ up1 (gl l x) (fih m n l y) :=
  ((flo_h m n l hm hl l.length (Nat.le_refl _)).nb y x (flo_all m n l hm hl y hy) hx h).2
theorem fih_rim {c : Nat} (hc : c < l.length) (hr : rim m n c) : fih m n l c = gl l c :=
  ((flo_h m n l hm hl l.length (Nat.le_refl _)).fix c (by rw [flo_all m n l hm hl c hc]; omega)).1 hr
omit hm hl
/-- Joined by cells that are not above h. -/
inductive Rch (h : Int) (c : Nat) : Nat → Prop
  | here : gl l c ≤ h → c < l.length → Rch h c c
  | on {k i : Nat} : Rch h c k → i < l.length → gl l i ≤ h → tch m i k → Rch h c i
include hm hl
/-- If a cell of the rim is joined to c, the water stands there no higher. -/
theorem Rch.low {h : Int} {c k : Nat} (hR : Rch m l h c k) : k < l.length ∧ gl l k ≤ h ∧ (fih m n l k ≤ h → fih m n l c ≤ h) := by
  induction hR with
  | here h1 h2 => exact ⟨h2, h1, id⟩
  | @on k i _ hi hh ht ih =>
    refine ⟨hi, hh, fun hf => ih.2.2 ?_⟩
    have := fih_nb m n l hm hl ih.1 hi ht
    have h2 := ih.2.1
    have h3 := up1_mono (x := gl l k) hf
    refine Int.le_trans this (Int.le_trans h3 ?_)
    unfold up1
    split
    · exact Int.le_refl _
    · exact h2
theorem Rch.none {h : Int} {c k : Nat} (hR : Rch m l h c k) (hf : h < fih m n l c) : ¬ rim m n k := fun hr => by
  obtain ⟨h1, h2, h3⟩ := Rch.low m n l hm hl hR
  have := h3 (by rw [fih_rim m n l hm hl h1 hr]; exact h2)
  omega
end
end Go.Proofs.YtmjlaonlhabblaaDoor
namespace Go.Proofs.YtmjlaonlhabblaaDoor
open Go.RowKit
attribute [local go_sem ↓] Go.wp_at_zero Go.wp_at_succ

theorem undG : Tryd.prog.underlying 95 = some (.slice 3) := by kernel_rfl
theorem made_runG (K : Nat) (hK : K ≤ 20000) : ∃ CS : Array Value, CS.toList = ir (List.replicate K 0) ∧ ∀ w, (Instr.makeSlice 95 (.int .i64 (K : Int)) (.int .i64 (K : Int))).run Tryd.prog w = .ok (.slice (some ⟨w.heap.size, 0, none⟩) K K) (w.alloc (.cells CS 3)) := by
  obtain ⟨i0, hi, hz0, hz1, hz2⟩ := info_parts infoJ
  refine ⟨madeCells #[Value.int .i64 0] K, made_ir K, fun w => ?_⟩
  have := run_makeSlice (P := Tryd.prog) w 95 3 i0 (.int .i64 0) undG hi hz0 .i64 .i64 (K : Int) (K : Int) (by omega) (Int.le_refl _) (by rw [hz1]; omega) (by rw [hz2]; omega) (by omega)
  rw [hz1, Int.toNat_natCast, Nat.mul_one] at this
  exact this
/-- Each number its own group, as far as k. -/
def idK (N k : Nat) : List Int := (List.range N).map (fun i => if i < k then (i : Int) else 0)
theorem idK_len (N k : Nat) : (idK N k).length = N := by simp [idK]
theorem idK_0 (N : Nat) : idK N 0 = List.replicate N 0 := by
  apply List.ext_getElem
  · simp [idK]
  · intro i h1 h2; simp [idK]
theorem idK_set {N k : Nat} : (idK N k).set k (k : Int) = idK N (k + 1) := by
  apply List.ext_getElem
  · simp [idK]
  · intro i h1 h2
    rw [List.getElem_set]
    by_cases e : k = i
    · subst e; simp [idK]
    · rw [if_neg e]
      simp only [idK, List.getElem_map, List.getElem_range]
      by_cases c : i < k
      · rw [if_pos c, if_pos (by omega)]
      · rw [if_neg c, if_neg (by omega)]
theorem idK_gs (N : Nat) : Gs (idK N N) N id := ⟨idK_len N N, fun i hi => by unfold idK; rw [gl_map hi, if_pos hi]; rfl, fun i => Nat.le_refl _⟩
set_option maxRecDepth 4000 in
set_option maxHeartbeats 4000000 in
theorem apart_any (N : Nat) (hN : N ≤ 16384) (w : World) : Calls Tryd.prog 48 #[.int .i64 (N : Int)] w fun e w' => ∃ B, e = .returned (.slice (some ⟨B, 0, none⟩) N N) ∧ At w' B (ir (idK N N)) ∧ w.heap.size ≤ B ∧ Gr w w' := by
  obtain ⟨CS, hCS, mk⟩ := made_runG N (by omega)
  have A0 : Hid (At (w.alloc (.cells CS 3)) w.heap.size (ir (idK N 0)) ∧ Gr w (w.alloc (.cells CS 3))) := ⟨by rw [idK_0, ← hCS]; exact At.newArr _ _ _, (Gr.refl w).alloc _⟩
  have HN := hidb hN
  clear hCS hN
  go_enter Tryd.func48, Tryd.ntmps48
  go_wp2
  obtain ⟨B, hBd⟩ : ∃ B, B = w.heap.size := ⟨_, rfl⟩
  rw [← hBd] at A0 ⊢
  have HB := hidb (show w.heap.size ≤ B by omega)
  clear hBd mk
  generalize w.alloc (.cells CS 3) = w1 at *
  go_loopw [9] (fun t wr => ∃ k : Nat, k ≤ N ∧ t = .int .i64 (k : Int) ∧ Hid (At wr B (ir (idK N k)) ∧ Gr w wr)) (fun t _ => N - (intOf t).toNat)
  case atStart => exact ⟨0, Nat.zero_le _, rfl, A0⟩
  case round =>
    clear A0
    obtain ⟨k, hk, rfl, E⟩ := hrel
    by_cases h1 : ¬ k < N
    · have h1' : ¬ (k : Int) < (N : Int) := by omega
      obtain rfl : k = N := by omega
      clear h1
      go_wp2
      go_ret
      exact ⟨B, rfl, E.out.1, HB.out, E.out.2⟩
    · have h1' : (k : Int) < (N : Int) := by omega
      have hkN : k < N := by omega
      have e1 : IntKind.i64.wrap ((k : Int) + 1) = ((k + 1 : Nat) : Int) := by rw [show (k : Int) + 1 = ((k + 1 : Nat) : Int) by omega]; exact wrap_in (by have := HN.out; omega) (by have := HN.out; omega)
      have ix := gindex B N N k hkN
      obtain ⟨c1, f1⟩ := E.out.1.get (j := k) (by rw [idK_len]; exact hkN)
      rw [gl_get (by rw [idK_len]; exact hkN)] at c1
      have HE : Hid (At (wr.setCell ⟨B, k, none⟩ (.int .i64 (k : Int))) B (ir (idK N (k + 1))) ∧ Gr w (wr.setCell ⟨B, k, none⟩ (.int .i64 (k : Int)))) := ⟨by rw [← idK_set, ← ir_set]; exact E.out.1.put k _, E.out.2.set HB.out _ _⟩
      clear h1 E
      go_wp2
      go_roundw
      case rel => exact ⟨k + 1, hkN, by go_num, HE⟩
      case measure => simp [intOf]; omega
/-- All pairs that touch, each once. -/
abbrev D4 : List Nat := [0, 5, 6, 7]
set_option maxRecDepth 4000 in
set_option maxHeartbeats 4000000 in
theorem touching_any {m n Lb Lo Lcap : Nat} {l : List Int} (w : World) (ok : Ok l m n) : Calls Tryd.prog 49 #[raV m n (.slice (some ⟨Lb, Lo, none⟩) l.length Lcap)] w fun e w' => ∃ v, e = .returned v ∧ ∃ base, w'.ownsRow base 99 2 v (prK m n D4 l.length).length (qr (prK m n D4 l.length)) ∧ w.heap.size ≤ base ∧ Gr w w' := by
  have HPr := hidb (fun W DB (hA : At W DB [.int .i64 0, .int .i64 5, .int .i64 6, .int .i64 7]) => pairs_any (Lb := Lb) (Lo := Lo) (Lcap := Lcap) (D := D4) W ok (by decide) (by decide) hA)
  have PX : Hid (PF w (w.alloc (.cells #[.int .i64 (m : Int), .int .i64 (n : Int), .slice (some ⟨Lb, Lo, none⟩) l.length Lcap] 32)) w.heap.size [.int .i64 (m : Int), .int .i64 (n : Int), .slice (some ⟨Lb, Lo, none⟩) l.length Lcap]) := ⟨At.new3 _ _ _ _ _, (Gr.refl w).alloc _⟩
  obtain ⟨N, hN⟩ : ∃ N, N = l.length := ⟨_, rfl⟩
  rw [← hN] at HPr PX ⊢
  clear ok hN
  show Calls Tryd.prog 49 #[.agg #[.int .i64 (m : Int), .int .i64 (n : Int), .slice (some ⟨Lb, Lo, none⟩) N Lcap]] w _
  go_enter Tryd.func49, Tryd.ntmps49
  obtain ⟨q0, q1, q2⟩ := PX.out.a.c3
  go_wp2_with fail
  refine (HPr.out _ _ (At.nxArr _ _ #[.int .i64 0, .int .i64 5, .int .i64 6, .int .i64 7] _)).mono ?_
  rintro e w2 ⟨v, rfl, base, hown, hb, hB⟩
  have HZ := hidb (show w2.ownsRow base 99 2 v (prK m n D4 N).length (qr (prK m n D4 N)) ∧ w.heap.size ≤ base ∧ Gr w w2 from ⟨hown, by simp at hb; omega, Gr.step (PX.out.gr.alloc _) hB.out⟩)
  clear hown hb hB q0 q1 q2
  go_wp2
  go_ret
  exact ⟨v, rfl, base, HZ.out⟩
/-- How deep the water is, as far as k; the heights beyond. -/
def dpK (m n : Nat) (l : List Int) (k : Nat) : List Int := (List.range l.length).map (fun i => if i < k then fih m n l i - gl l i else fih m n l i)
theorem dpK_len (m n : Nat) (l : List Int) (k : Nat) : (dpK m n l k).length = l.length := by simp [dpK]
theorem dpK_0 (m n : Nat) (l : List Int) : dpK m n l 0 = fiL m n l := by
  unfold dpK fiL fih
  exact List.map_congr_left (fun i _ => by simp)
theorem dpK_set {m n : Nat} {l : List Int} {k : Nat} : (dpK m n l k).set k (fih m n l k - gl l k) = dpK m n l (k + 1) := by
  apply List.ext_getElem
  · simp [dpK]
  · intro i h1 h2
    rw [List.getElem_set]
    by_cases e : k = i
    · subst e; simp [dpK]
    · rw [if_neg e]
      simp only [dpK, List.getElem_map, List.getElem_range]
      by_cases c : i < k
      · rw [if_pos c, if_pos (by omega)]
      · rw [if_neg c, if_neg (by omega)]
theorem dpK_at {m n : Nat} {l : List Int} {k : Nat} (hk : k < l.length) : gl (dpK m n l k) k = fih m n l k := by unfold dpK; rw [gl_map hk, if_neg (by omega)]
end Go.Proofs.YtmjlaonlhabblaaDoor
namespace Go.Proofs.YtmjlaonlhabblaaDoor
open Go.RowKit

section
variable (m n : Nat) (l : List Int)
/-- Is there water on a cell when all pits are full? -/
def wetP (i : Nat) : Prop := i < l.length ∧ gl l i < fih m n l i
instance (i : Nat) : Decidable (wetP m n l i) := by unfold wetP; exact inferInstance
/-- Joined by wet cells. -/
inductive Cn : Nat → Nat → Prop
  | here {x : Nat} : wetP m n l x → Cn x x
  | on {x y z : Nat} : Cn x y → wetP m n l z → tch m y z → Cn x z
variable {m n l}
theorem Cn.wet {x y : Nat} (h : Cn m n l x y) : wetP m n l x ∧ wetP m n l y := by
  induction h with
  | here h => exact ⟨h, h⟩
  | on _ hz _ ih => exact ⟨ih.1, hz⟩
theorem Cn.trans {x y z : Nat} (h : Cn m n l x y) (k : Cn m n l y z) : Cn m n l x z := by
  induction k with
  | here _ => exact h
  | on _ hz ht ih => exact .on ih hz ht
theorem Cn.symm {x y : Nat} (h : Cn m n l x y) : Cn m n l y x := by
  induction h with
  | here h => exact .here h
  | on h hz ht ih => exact Cn.trans (.on (.here hz) h.wet.2 (tch_symm ht)) ih
variable (m n l)
/-- Names of lakes, as far as they have been made less. -/
structure LI (L : List Int) : Prop where
  len : L.length = l.length
  dry : ∀ k, k < l.length → ¬ wetP m n l k → gl L k = -1
  wet : ∀ k, wetP m n l k → ∃ v : Nat, gl L k = (v : Int) ∧ Cn m n l v k ∧ v ≤ k
/-- Nothing is to be made less. -/
def Stb (L : List Int) (i k : Nat) : Prop := tch m i k → 0 ≤ gl L i → ¬ gl L i < gl L k
variable {m n l}
theorem LI.put {L : List Int} (h : LI m n l L) {i k : Nat} (hi : i < l.length) (hk : k < l.length) (ht : tch m i k) (h0 : 0 ≤ gl L i) (hlt : gl L i < gl L k) : LI m n l (L.set k (gl L i)) ∧ -1 ≤ gl L i := by
  have hwk : wetP m n l k := by
    by_cases c : wetP m n l k
    · exact c
    · have := h.dry k hk c; omega
  have hwi : wetP m n l i := by
    by_cases c : wetP m n l i
    · exact c
    · have := h.dry i hi c; omega
  obtain ⟨v, hv, hc, hle⟩ := h.wet i hwi
  obtain ⟨u, hu, hc2, hle2⟩ := h.wet k hwk
  refine ⟨⟨by rw [List.length_set]; exact h.len, fun j hj hd => ?_, fun j hj => ?_⟩, by omega⟩
  · rw [gl_set (by rw [h.len]; exact hk)]
    by_cases e : j = k
    · rw [e] at hd; exact absurd hwk hd
    · rw [if_neg e]; exact h.dry j hj hd
  · rw [gl_set (by rw [h.len]; exact hk)]
    by_cases e : j = k
    · rw [if_pos e, e]
      exact ⟨v, hv, .on hc hwk ht, by omega⟩
    · rw [if_neg e]; exact h.wet j hj
/-- In the end each has the least number of its lake. -/
theorem LI.least {L : List Int} (h : LI m n l L) (hs : ∀ i k, i < l.length → k < l.length → Stb m L i k) {k : Nat} (hk : wetP m n l k) : ∃ v : Nat, gl L k = (v : Int) ∧ Cn m n l v k ∧ ∀ x, Cn m n l x k → v ≤ x := by
  obtain ⟨v, hv, hc, hle⟩ := h.wet k hk
  have same : ∀ x y, Cn m n l x y → gl L x = gl L y := by
    intro x y hxy
    induction hxy with
    | here _ => rfl
    | @on y z hxy hz ht ih =>
      have hy := hxy.wet.2
      obtain ⟨a, ha, _⟩ := h.wet y hy
      obtain ⟨b, hb, _⟩ := h.wet z hz
      have h1 := hs y z hy.1 hz.1 ht (by omega)
      have h2 := hs z y hz.1 hy.1 (tch_symm ht) (by omega)
      omega
  refine ⟨v, hv, hc, fun x hx => ?_⟩
  have h1 := same x k hx
  obtain ⟨u, hu, _, hle2⟩ := h.wet x hx.wet.1
  omega
/-- How much is left to be made less. -/
def mS : List Int → Nat
  | [] => 0
  | x :: l => mS l + (x + 1).toNat
theorem mS_set : ∀ {L : List Int} {i : Nat} {y : Int}, i < L.length → y < gl L i → -1 ≤ y → mS (L.set i y) < mS L
  | x :: L, 0, y, _, h, h1 => by
    have : y < x := h
    show mS L + (y + 1).toNat < mS L + (x + 1).toNat
    omega
  | x :: L, i + 1, y, hi, h, h1 => by
    have ih := mS_set (L := L) (i := i) (by simp at hi; omega) h h1
    show mS (L.set i y) + (x + 1).toNat < mS L + (x + 1).toNat
    omega
variable (m n l)
/-- The first names. -/
def lk0 (i : Nat) : List Int := (List.range l.length).map (fun j => if j < i then (if wetP m n l j then (j : Int) else -1) else 0)
theorem lk0_len (i : Nat) : (lk0 m n l i).length = l.length := by simp [lk0]
theorem lk0_0 : lk0 m n l 0 = List.replicate l.length 0 := by
  apply List.ext_getElem
  · simp [lk0]
  · intro i h1 h2; simp [lk0]
theorem lk0_set (i : Nat) : (lk0 m n l i).set i (if wetP m n l i then (i : Int) else -1) = lk0 m n l (i + 1) := by
  apply List.ext_getElem
  · simp [lk0]
  · intro j h1 h2
    rw [List.getElem_set]
    by_cases e : i = j
    · subst e; simp [lk0]
    · rw [if_neg e]
      simp only [lk0, List.getElem_map, List.getElem_range]
      by_cases c : j < i
      · rw [if_pos c, if_pos (show j < i + 1 by omega)]
      · rw [if_neg c, if_neg (show ¬ j < i + 1 by omega)]
theorem lk0_all : LI m n l (lk0 m n l l.length) := by
  refine ⟨lk0_len m n l _, fun k hk hd => ?_, fun k hk => ⟨k, ?_, .here hk, Nat.le_refl _⟩⟩
  · unfold lk0; rw [gl_map hk, if_pos hk, if_neg hd]
  · unfold lk0; rw [gl_map hk.1, if_pos hk.1, if_pos hk]
end
end Go.Proofs.YtmjlaonlhabblaaDoor
namespace Go.Proofs.YtmjlaonlhabblaaDoor
open Go.RowKit

section
variable (m n : Nat) (l : List Int)
/-- The firsts, when one more pair has been looked at. -/
def rhoS (ρ : Nat → Nat) (p : Wt) (i : Nat) : Nat := if wetP m n l p.1.toNat ∧ wetP m n l p.2 then (if ρ i = max (ρ p.1.toNat) (ρ p.2) then min (ρ p.1.toNat) (ρ p.2) else ρ i) else ρ i
/-- The firsts, when so many pairs have been looked at. -/
def rho (P : List Wt) : Nat → Nat := P.foldl (rhoS m n l) id
theorem rho_snoc (P : List Wt) (p : Wt) : rho m n l (P ++ [p]) = rhoS m n l (rho m n l P) p := by simp [rho]
structure RhoI (P : List Wt) (ρ : Nat → Nat) : Prop where
  le : ∀ i, ρ i ≤ i
  wet : ∀ i, wetP m n l i → Cn m n l (ρ i) i
  dry : ∀ i, ¬ wetP m n l i → ρ i = i
  same : ∀ p ∈ P, wetP m n l p.1.toNat → wetP m n l p.2 → ρ p.1.toNat = ρ p.2
theorem RhoI.zero : RhoI m n l [] id := ⟨fun _ => Nat.le_refl _, fun _ h => .here h, fun _ _ => rfl, fun p hp => by cases hp⟩
variable {m n l}
theorem RhoI.step {P : List Wt} {ρ : Nat → Nat} (h : RhoI m n l P ρ) {p : Wt} (ht : tch m p.1.toNat p.2) : RhoI m n l (P ++ [p]) (rhoS m n l ρ p) := by
  by_cases hw : wetP m n l p.1.toNat ∧ wetP m n l p.2
  · have key : ∀ i, rhoS m n l ρ p i = if ρ i = max (ρ p.1.toNat) (ρ p.2) then min (ρ p.1.toNat) (ρ p.2) else ρ i := fun i => by unfold rhoS; rw [if_pos hw]
    have c1 := h.wet _ hw.1
    have c2 := h.wet _ hw.2
    have c12 : Cn m n l (ρ p.1.toNat) (ρ p.2) := Cn.trans (Cn.on c1 hw.2 ht) c2.symm
    have cmm : Cn m n l (min (ρ p.1.toNat) (ρ p.2)) (max (ρ p.1.toNat) (ρ p.2)) := by
      rcases Nat.le_total (ρ p.1.toNat) (ρ p.2) with e | e
      · rw [Nat.min_eq_left e, Nat.max_eq_right e]; exact c12
      · rw [Nat.min_eq_right e, Nat.max_eq_left e]; exact c12.symm
    refine ⟨fun i => ?_, fun i hi => ?_, fun i hi => ?_, fun q hq hq1 hq2 => ?_⟩
    · rw [key]
      have := h.le i
      split <;> omega
    · rw [key]
      have hc := h.wet i hi
      by_cases e : ρ i = max (ρ p.1.toNat) (ρ p.2)
      · rw [if_pos e]; rw [e] at hc; exact cmm.trans hc
      · rw [if_neg e]; exact hc
    · rw [key]
      have hd := h.dry i hi
      rw [if_neg (fun e => hi ?_)]
      · exact hd
      · rw [hd] at e
        rw [e]
        exact cmm.wet.2
    · rw [key, key]
      rcases List.mem_append.1 hq with hq' | hq'
      · rw [h.same q hq' hq1 hq2]
      · obtain rfl := List.mem_singleton.1 hq'
        by_cases e1 : ρ q.1.toNat = max (ρ q.1.toNat) (ρ q.2)
        · rw [if_pos e1]
          by_cases e2 : ρ q.2 = max (ρ q.1.toNat) (ρ q.2)
          · rw [if_pos e2]
          · rw [if_neg e2]; omega
        · rw [if_neg e1, if_pos (by omega)]; omega
  · have key : rhoS m n l ρ p = ρ := by funext i; unfold rhoS; rw [if_neg hw]
    rw [key]
    refine ⟨h.le, h.wet, h.dry, fun q hq hq1 hq2 => ?_⟩
    rcases List.mem_append.1 hq with hq' | hq'
    · exact h.same q hq' hq1 hq2
    · obtain rfl := List.mem_singleton.1 hq'
      exact absurd ⟨hq1, hq2⟩ hw
theorem RhoI.take {P : List Wt} (hP : ∀ p ∈ P, tch m p.1.toNat p.2) : ∀ j, j ≤ P.length → RhoI m n l (P.take j) (rho m n l (P.take j))
  | 0, _ => by simpa [rho] using RhoI.zero m n l
  | j + 1, hj => by
    rw [List.take_succ_eq_append_getElem (by omega), rho_snoc]
    exact (RhoI.take hP j (by omega)).step (hP _ (List.getElem_mem _))
/-- Each pair that touches is looked at. -/
theorem prK_all (ok : Ok l m n) {i k : Nat} (hi : i < l.length) (hk : k < l.length) (ht : tch m i k) (hlt : i < k) : ((i : Int), k) ∈ prK m n D4 l.length := by
  obtain ⟨hw, hn⟩ := tch_nb (n := n) ok.m1 ht (by rw [← ok.len]; exact hk)
  have hd : wyD m i k ∈ D4 := by
    have hm := ok.m1
    have h1 := Nat.div_add_mod i m
    have h2 := Nat.div_add_mod k m
    have h3 := Nat.mod_lt i (show 0 < m by omega)
    have h4 := Nat.mod_lt k (show 0 < m by omega)
    obtain ⟨hne, ⟨a1, a2⟩, b1, b2⟩ := ht
    unfold wyD
    generalize i / m = qi at *
    generalize k / m = qk at *
    generalize i % m = ri at *
    generalize k % m = rk at *
    have hq : qk = qi ∨ qk = qi + 1 := by
      rcases Nat.lt_or_ge qk qi with c | c
      · exfalso
        have : m * (qk + 1) ≤ m * qi := Nat.mul_le_mul_left m c
        rw [Nat.mul_add] at this
        omega
      · omega
    rcases hq with rfl | rfl
    · have : rk = ri + 1 := by omega
      subst this
      rw [show ((ri + 1 : Nat) : Int) - (ri : Int) = 1 by omega, show (qk : Int) - (qk : Int) = 0 by omega]
      decide
    · rw [show (qi : Int) - ((qi + 1 : Nat) : Int) = -1 by omega]
      rcases (show rk = ri ∨ rk = ri + 1 ∨ ri = rk + 1 by omega) with rfl | rfl | rfl
      · rw [show (rk : Int) - (rk : Int) = 0 by omega]; decide
      · rw [show ((ri + 1 : Nat) : Int) - (ri : Int) = 1 by omega]; decide
      · rw [show (rk : Int) - ((rk + 1 : Nat) : Int) = -1 by omega]; decide
  unfold prK
  refine List.mem_flatMap.2 ⟨i, List.mem_range.2 hi, List.mem_flatMap.2 ⟨_, hd, ?_⟩⟩
  unfold pr1
  rw [hn]
  exact List.mem_singleton.2 rfl
theorem prK_tch {p : Wt} (h : p ∈ prK m n D4 l.length) : tch m p.1.toNat p.2 := by
  obtain ⟨c, d, _, hd, h1, h2⟩ := prK_mem h
  rw [h1]
  have hd8 : d < 8 := by
    have : d ∈ ([0, 5, 6, 7] : List Nat) := hd
    simp at this
    omega
  exact (nb_tch hd8 h2).1
variable (m n l) in
/-- The first of each cell's lake. -/
def lak (i : Nat) : Nat := rho m n l (prK m n D4 l.length) i
theorem lak_least (ok : Ok l m n) {i : Nat} (hi : wetP m n l i) : Cn m n l (lak m n l i) i ∧ ∀ x, Cn m n l x i → lak m n l i ≤ x := by
  have hI := RhoI.take (l := l) (P := prK m n D4 l.length) (n := n) (fun p hp => prK_tch hp) _ (Nat.le_refl _)
  rw [List.take_length] at hI
  have same : ∀ x y, Cn m n l x y → lak m n l x = lak m n l y := by
    intro x y hxy
    induction hxy with
    | here _ => rfl
    | @on y z hxy hz ht ih =>
      have hy := hxy.wet.2
      rw [ih]
      rcases Nat.lt_trichotomy y z with c | c | c
      · exact hI.same _ (prK_all ok hy.1 hz.1 ht c) (by simpa using hy) hz
      · rw [c]
      · exact (hI.same _ (prK_all ok hz.1 hy.1 (tch_symm ht) c) (by simpa using hz) hy).symm
  refine ⟨hI.wet i hi, fun x hx => ?_⟩
  have := same x i hx
  have h2 := hI.le x
  unfold lak at *
  omega
/-- The reference's names are the same. -/
theorem lak_eq (ok : Ok l m n) {L : List Int} (h : LI m n l L) (hs : ∀ i k, i < l.length → k < l.length → Stb m L i k) {k : Nat} (hk : wetP m n l k) : gl L k = (lak m n l k : Int) := by
  obtain ⟨v, hv, hc, hl⟩ := h.least hs hk
  obtain ⟨h1, h2⟩ := lak_least ok hk
  have a := hl _ h1
  have b := h2 _ hc
  rw [hv]
  omega
end
end Go.Proofs.YtmjlaonlhabblaaDoor
