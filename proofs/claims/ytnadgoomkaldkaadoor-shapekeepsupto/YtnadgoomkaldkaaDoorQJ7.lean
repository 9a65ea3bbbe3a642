/-
  Triangles and pieces: a piece that meets the third side of a triangle in which neither of its ends lies meets another side too.; A new piece in the place of two: what it meets; the program's triangle is the reference's.; A map without a point: when it is right as it was.; Thinner maps step by step: what both sides do, and what the program keeps of it.
-/
import Derived.Test.YtnadgoomkaldkaaDoorQJ6
import Derived.Test.YtnadgoomkaldkaaDoorQSfG
namespace Go.Proofs.YtnadgoomkaldkaaDoor
open Go.RowKit

theorem nr_comm {p q : Pc} (h : nrP p q) : nrP q p := by unfold nrP at *; omega
theorem mt_comm {p q : Pc} (h : mtP p q) : mtP q p := by
  obtain ⟨h1, h2⟩ := h
  refine ⟨nr_comm h1, ?_⟩
  rcases h2 with ⟨k1, k2⟩ | k | k | k | k | k
  · exact .inl ⟨k2, k1⟩
  · exact .inr (.inr (.inr (.inl k)))
  · exact .inr (.inr (.inr (.inr (.inl k))))
  · exact .inr (.inl k)
  · exact .inr (.inr (.inl k))
  · refine .inr (.inr (.inr (.inr (.inr ?_))))
    unfold twP at *
    rcases k with k | k
    · exact .inl k.symm
    · exact .inr (by rw [k])
theorem tn_flip (a b s : Sp) : tn b a s = - tn a b s := by unfold tn; grind
theorem nr_flip {a b : Sp} {q : Pc} (h : nrP (a, b) q) : nrP (b, a) q := by unfold nrP at *; dsimp only at *; omega
theorem hl_flip {a b s : Sp} (h : hlP (a, b) s) : hlP (b, a) s := ⟨⟨h.1.2, h.1.1⟩, hs_flip h.2⟩
theorem mt_flip {a b : Sp} {q : Pc} (h : mtP (a, b) q) : mtP (b, a) q := by
  obtain ⟨h1, h2⟩ := h
  refine ⟨nr_flip h1, ?_⟩
  rcases h2 with ⟨k1, k2⟩ | k | k | k | k | k
  · refine .inl ⟨?_, ?_⟩
    · unfold ptP at *
      dsimp only at *
      rw [tn_flip a b q.1, tn_flip a b q.2]
      omega
    · unfold ptP at *
      dsimp only at *
      omega
  · exact .inr (.inl (hl_flip k))
  · exact .inr (.inr (.inl (hl_flip k)))
  · exact .inr (.inr (.inr (.inr (.inl k))))
  · exact .inr (.inr (.inr (.inl k)))
  · refine .inr (.inr (.inr (.inr (.inr ?_))))
    unfold twP at *
    rcases k with k | k
    · exact .inr (by rw [← k])
    · exact .inl (by obtain ⟨q1, q2⟩ := q; simp only [Prod.mk.injEq] at k ⊢; exact ⟨k.2, k.1⟩)
theorem mt_flip2 {p : Pc} {a b : Sp} (h : mtP p (a, b)) : mtP p (b, a) := mt_comm (mt_flip (mt_comm h))
/-- In a triangle: the turns about its sides are not of both signs, and it lies in the box. -/
def bxP (a b c s : Sp) : Prop := (min (min a.1 b.1) c.1 ≤ s.1 ∧ s.1 ≤ max (max a.1 b.1) c.1) ∧ min (min a.2 b.2) c.2 ≤ s.2 ∧ s.2 ≤ max (max a.2 b.2) c.2
def inP (a b c s : Sp) : Prop := ¬ (min (min (tn a b s) (tn b c s)) (tn c a s) < 0 ∧ 0 < max (max (tn a b s) (tn b c s)) (tn c a s)) ∧ bxP a b c s
instance (a b c s : Sp) : Decidable (bxP a b c s) := by unfold bxP; exact inferInstance
instance (a b c s : Sp) : Decidable (inP a b c s) := by unfold inP; exact inferInstance
theorem mix_rev (x y z : Int) : (min (min (-y) (-x)) (-z) < 0 ∧ 0 < max (max (-y) (-x)) (-z)) ↔ (min (min x y) z < 0 ∧ 0 < max (max x y) z) := by
  constructor <;> rintro ⟨h1, h2⟩ <;> constructor <;> omega
theorem bx_rev {a b c s : Sp} : bxP c b a s ↔ bxP a b c s := by
  unfold bxP
  rw [show min (min c.1 b.1) a.1 = min (min a.1 b.1) c.1 by omega, show max (max c.1 b.1) a.1 = max (max a.1 b.1) c.1 by omega, show min (min c.2 b.2) a.2 = min (min a.2 b.2) c.2 by omega, show max (max c.2 b.2) a.2 = max (max a.2 b.2) c.2 by omega]
theorem in_rev {a b c s : Sp} : inP c b a s ↔ inP a b c s := by
  unfold inP
  rw [tn_flip b c s, tn_flip a b s, show tn a c s = - tn c a s from tn_flip c a s, mix_rev, bx_rev]
theorem tn_three (a b c s : Sp) : tn a b s + tn b c s + tn c a s = tn a b c := by unfold tn; grind
theorem tn_rot (a b c : Sp) : tn b c a = tn a b c := by unfold tn; grind
theorem tn_rot2 (a b c : Sp) : tn c a b = tn a b c := by unfold tn; grind
/-- A mean lies between. -/
theorem mean_two {D v w x a b : Int} (hD : 0 < D) (hv : 0 ≤ v) (hw : 0 ≤ w) (hs : v + w = D) (h : D * x = v * a + w * b) : min a b ≤ x ∧ x ≤ max a b := by
  have key : ∀ m : Int, m ≤ a → m ≤ b → m ≤ x := fun m h1 h2 => by
    rcases Int.lt_or_le x m with k | k
    · exfalso
      have p1 := Int.mul_le_mul_of_nonneg_left h1 hv
      have p2 := Int.mul_le_mul_of_nonneg_left h2 hw
      have p3 := Int.mul_lt_mul_of_pos_left k hD
      have e : v * m + w * m = D * m := by rw [← hs]; grind
      omega
    · exact k
  have key2 : ∀ m : Int, a ≤ m → b ≤ m → x ≤ m := fun m h1 h2 => by
    rcases Int.lt_or_le m x with k | k
    · exfalso
      have p1 := Int.mul_le_mul_of_nonneg_left h1 hv
      have p2 := Int.mul_le_mul_of_nonneg_left h2 hw
      have p3 := Int.mul_lt_mul_of_pos_left k hD
      have e : v * m + w * m = D * m := by rw [← hs]; grind
      omega
    · exact k
  exact ⟨key _ (by omega) (by omega), key2 _ (by omega) (by omega)⟩
theorem mean_three {D u v w x a b c : Int} (hD : 0 < D) (hu : 0 ≤ u) (hv : 0 ≤ v) (hw : 0 ≤ w) (hs : u + v + w = D) (h : D * x = u * a + v * b + w * c) : min (min a b) c ≤ x ∧ x ≤ max (max a b) c := by
  have key : ∀ m : Int, m ≤ a → m ≤ b → m ≤ c → m ≤ x := fun m h1 h2 h3 => by
    rcases Int.lt_or_le x m with k | k
    · exfalso
      have p1 := Int.mul_le_mul_of_nonneg_left h1 hu
      have p2 := Int.mul_le_mul_of_nonneg_left h2 hv
      have p4 := Int.mul_le_mul_of_nonneg_left h3 hw
      have p3 := Int.mul_lt_mul_of_pos_left k hD
      have e : u * m + v * m + w * m = D * m := by rw [← hs]; grind
      omega
    · exact k
  have key2 : ∀ m : Int, a ≤ m → b ≤ m → c ≤ m → x ≤ m := fun m h1 h2 h3 => by
    rcases Int.lt_or_le m x with k | k
    · exfalso
      have p1 := Int.mul_le_mul_of_nonneg_left h1 hu
      have p2 := Int.mul_le_mul_of_nonneg_left h2 hv
      have p4 := Int.mul_le_mul_of_nonneg_left h3 hw
      have p3 := Int.mul_lt_mul_of_pos_left k hD
      have e : u * m + v * m + w * m = D * m := by rw [← hs]; grind
      omega
    · exact k
  exact ⟨key _ (by omega) (by omega) (by omega), key2 _ (by omega) (by omega) (by omega)⟩
/-- With a triangle that turns leftward: in it are the points from which all sides do. -/
theorem in_pos {a b c s : Sp} (hD : 0 < tn a b c) : inP a b c s ↔ 0 ≤ tn a b s ∧ 0 ≤ tn b c s ∧ 0 ≤ tn c a s := by
  have h3 := tn_three a b c s
  constructor
  · rintro ⟨h1, -⟩
    omega
  · rintro ⟨h1, h2, h4⟩
    refine ⟨by omega, mean_three (D := tn a b c) (u := tn b c s) (v := tn c a s) (w := tn a b s) hD h2 h4 h1 (by omega) ?_, mean_three (D := tn a b c) (u := tn b c s) (v := tn c a s) (w := tn a b s) hD h2 h4 h1 (by omega) ?_⟩
    · unfold tn; grind
    · unfold tn; grind
theorem pos_of {x y : Int} (hx : 0 < x) (h : 0 < x * y) : 0 < y := by
  rcases Int.lt_or_le 0 y with k | k
  · exact k
  · exfalso
    have := Int.mul_le_mul_of_nonneg_left k (Int.le_of_lt hx)
    omega
theorem mul_pn {x y : Int} (hx : 0 < x) (hy : y < 0) : x * y < 0 := by
  have := Int.mul_lt_mul_of_pos_left hy hx
  omega
theorem mul_np {x y : Int} (hx : x < 0) (hy : 0 < y) : x * y < 0 := by rw [Int.mul_comm]; exact mul_pn hy hx
theorem mul_nn {x y : Int} (hx : x < 0) (hy : y < 0) : 0 < x * y := Int.mul_pos_of_neg_of_neg hx hy
/-- The heart: a crossing of the third side, from without to without. -/
theorem cross_pos {a b c p q : Sp} (hD : 0 < tn a b c) (hp : tn c a p < 0) (hq : 0 < tn c a q) (hx : ptP (p, q) (a, c)) (hn : ¬ inP a b c q) : mtP (a, b) (p, q) ∨ mtP (b, c) (p, q) := by
  rw [in_pos hD] at hn
  obtain ⟨D, hDn⟩ : ∃ z, z = tn a b c := ⟨_, rfl⟩
  obtain ⟨al, hal⟩ : ∃ z, z = tn b c p := ⟨_, rfl⟩
  obtain ⟨be, hbe⟩ : ∃ z, z = tn c a p := ⟨_, rfl⟩
  obtain ⟨ga, hga⟩ : ∃ z, z = tn a b p := ⟨_, rfl⟩
  obtain ⟨al', hal'⟩ : ∃ z, z = tn b c q := ⟨_, rfl⟩
  obtain ⟨be', hbe'⟩ : ∃ z, z = tn c a q := ⟨_, rfl⟩
  obtain ⟨ga', hga'⟩ : ∃ z, z = tn a b q := ⟨_, rfl⟩
  obtain ⟨ta, hta⟩ : ∃ z, z = tn p q a := ⟨_, rfl⟩
  obtain ⟨tb, htb⟩ : ∃ z, z = tn p q b := ⟨_, rfl⟩
  obtain ⟨tc, htc⟩ : ∃ z, z = tn p q c := ⟨_, rfl⟩
  have s1 : al + be + ga = D := by rw [hal, hbe, hga, hDn]; unfold tn; grind
  have i1 : D * ta = be * ga' - ga * be' := by rw [hDn, hta, hbe, hga', hga, hbe']; unfold tn; grind
  have i3 : D * tc = al * be' - be * al' := by rw [hDn, htc, hal, hbe', hbe, hal']; unfold tn; grind
  have z : al' * ta + be' * tb + ga' * tc = 0 := by rw [hal', hta, hbe', htb, hga', htc]; unfold tn; grind
  have w1 : (al - al') * b.1 = al * q.1 - al' * p.1 + tb * (c.1 - b.1) := by rw [hal, hal', htb]; unfold tn; grind
  have w2 : (al - al') * b.2 = al * q.2 - al' * p.2 + tb * (c.2 - b.2) := by rw [hal, hal', htb]; unfold tn; grind
  have s2 : al' + be' + ga' = D := by rw [hal', hbe', hga', hDn]; unfold tn; grind
  unfold ptP at hx
  dsimp only at hx
  rw [← hDn] at hD
  rw [← hbe] at hp
  rw [← hbe'] at hq
  rw [← hta, ← htc] at hx
  rw [← hga', ← hal', ← hbe'] at hn
  -- where the line crosses the third side
  have n1 : 0 < -(D * ta) + D * tc := by
    rw [i1, i3]
    have e : -(be * ga' - ga * be') + (al * be' - be * al') = (al + be + ga) * be' - be * (al' + be' + ga') := by grind
    rw [e, s1, s2]
    have := Int.mul_pos hD hq
    have := mul_np hp hD
    omega
  have hts : ta < 0 ∧ 0 < tc := by
    rcases hx with h | h
    · exact h
    · exfalso
      have := Int.mul_pos hD h.1
      have := mul_pn hD h.2
      omega
  obtain ⟨ha, hc⟩ := hts
  have j1 : be * ga' - ga * be' < 0 := by rw [← i1]; exact mul_pn hD ha
  have j3 : 0 < al * be' - be * al' := by rw [← i3]; exact Int.mul_pos hD hc
  have up : ∀ x : Int, 0 < x * be' → 0 < x := fun x h => pos_of hq (by rw [Int.mul_comm]; exact h)
  have gaP : ga' < 0 → 0 < ga := fun h => up ga (by have := mul_nn hp h; omega)
  have alP : al' < 0 → 0 < al := fun h => up al (by have := mul_nn hp h; omega)
  rcases Int.lt_trichotomy tb 0 with h | h | h
  · -- the line leaves by the side b c
    have hneg : al' < 0 := by
      rcases Int.lt_or_le al' 0 with k | k
      · exact k
      · exfalso
        have k1 := mul_pn hq h
        have k2 := Int.mul_le_mul_of_nonneg_left (Int.le_of_lt ha) k
        have k3 : 0 < ga' := pos_of hc (by rw [Int.mul_comm]; omega)
        exact hn ⟨by omega, k, by omega⟩
    have hpos := alP hneg
    have c1 : ptP (b, c) (p, q) := .inr ⟨by rw [← hal]; exact hpos, by rw [← hal']; exact hneg⟩
    have c2 : ptP (p, q) (b, c) := .inl ⟨by rw [← htb]; exact h, by rw [← htc]; exact hc⟩
    exact .inr ⟨cross_near c2 c1, .inl ⟨c1, c2⟩⟩
  · -- through b
    have e : al' * ta = -(ga' * tc) := by rw [h] at z; omega
    have hneg : al' < 0 := by
      rcases Int.lt_or_le al' 0 with k | k
      · exact k
      · exfalso
        have k2 := Int.mul_le_mul_of_nonneg_left (Int.le_of_lt ha) k
        have k3 : 0 ≤ ga' := by
          rcases Int.lt_or_le ga' 0 with m | m
          · exfalso; have := mul_np m hc; omega
          · exact m
        exact hn ⟨k3, k, by omega⟩
    have hpos := alP hneg
    rw [h] at w1 w2
    have hb : hsP (p, q) b := by
      refine ⟨by rw [← htb]; exact h, ?_⟩
      have m1 := mean_two (D := al - al') (v := al) (w := -al') (x := b.1) (a := q.1) (b := p.1) (by omega) (by omega) (by omega) (by omega) (by rw [w1]; grind)
      have m2 := mean_two (D := al - al') (v := al) (w := -al') (x := b.2) (a := q.2) (b := p.2) (by omega) (by omega) (by omega) (by omega) (by rw [w2]; grind)
      unfold nrP
      dsimp only
      omega
    have hbp : ¬ b = p := fun k => by
      rw [← k] at hal
      have : tn b c b = 0 := by unfold tn; grind
      omega
    have hbq : ¬ b = q := fun k => by
      rw [← k] at hal'
      have : tn b c b = 0 := by unfold tn; grind
      omega
    have hl : hlP (p, q) b := ⟨⟨hbp, hbq⟩, hb⟩
    exact .inl ⟨(hs_near hb (.inr rfl)).2, .inr (.inr (.inr (.inr (.inl hl))))⟩
  · have hneg : ga' < 0 := by
      rcases Int.lt_or_le ga' 0 with k | k
      · exact k
      · exfalso
        have k1 := Int.mul_pos hq h
        have k2 := Int.mul_le_mul_of_nonneg_right k (Int.le_of_lt hc)
        have k3 : 0 < al' := by
          rcases Int.lt_or_le 0 al' with m | m
          · exact m
          · exfalso
            have := Int.mul_nonneg_of_nonpos_of_nonpos m (Int.le_of_lt ha)
            omega
        exact hn ⟨k, by omega, by omega⟩
    have hpos := gaP hneg
    have c1 : ptP (a, b) (p, q) := .inr ⟨by rw [← hga]; exact hpos, by rw [← hga']; exact hneg⟩
    have c2 : ptP (p, q) (a, b) := .inl ⟨by rw [← hta]; exact ha, by rw [← htb]; exact h⟩
    exact .inl ⟨cross_near c2 c1, .inl ⟨c1, c2⟩⟩
theorem pt_flip {p q a c : Sp} (h : ptP (p, q) (a, c)) : ptP (q, p) (a, c) := by
  unfold ptP at *
  dsimp only at *
  rw [tn_flip p q a, tn_flip p q c]
  omega
theorem pt_flip2 {p : Pc} {a c : Sp} (h : ptP p (a, c)) : ptP p (c, a) := by
  unfold ptP at *
  dsimp only at *
  omega
theorem cross_tri {a b c p q : Sp} (hD : ¬ tn a b c = 0) (h1 : ptP (a, c) (p, q)) (h2 : ptP (p, q) (a, c)) (hp : ¬ inP a b c p) (hq : ¬ inP a b c q) : mtP (a, b) (p, q) ∨ mtP (b, c) (p, q) := by
  have key : ∀ a b c : Sp, 0 < tn a b c → ptP (a, c) (p, q) → ptP (p, q) (a, c) → ¬ inP a b c p → ¬ inP a b c q → mtP (a, b) (p, q) ∨ mtP (b, c) (p, q) := by
    intro a b c hD h1 h2 hp hq
    unfold ptP at h1
    dsimp only at h1
    rw [tn_flip c a p, tn_flip c a q] at h1
    rcases h1 with ⟨k1, k2⟩ | ⟨k1, k2⟩
    · rcases cross_pos (p := q) (q := p) hD (by omega) (by omega) (pt_flip h2) hp with k | k
      · exact .inl (mt_flip2 k)
      · exact .inr (mt_flip2 k)
    · exact cross_pos hD (by omega) (by omega) h2 hq
  rcases Int.lt_or_lt_of_ne hD with k | k
  · have hD2 : 0 < tn c b a := by
      have : tn c b a = - tn a b c := by unfold tn; grind
      omega
    rcases key c b a hD2 (pt_flip h1) (pt_flip2 h2) (fun h => hp (in_rev.1 h)) (fun h => hq (in_rev.1 h)) with m | m
    · exact .inr (mt_flip m)
    · exact .inl (mt_flip m)
  · exact key a b c k h1 h2 hp hq
end Go.Proofs.YtnadgoomkaldkaaDoor
namespace Go.Proofs.YtnadgoomkaldkaaDoor
open Go.RowKit

theorem line_one {p q s : Sp} (h : tn p q s = 0) (hn : ¬ p.1 = q.1) (hb : min p.1 q.1 ≤ s.1 ∧ s.1 ≤ max p.1 q.1) : hsP (p, q) s := by
  refine ⟨h, ?_⟩
  have e : (q.1 - p.1) * s.2 = (q.1 - s.1) * p.2 + (s.1 - p.1) * q.2 := by
    have : (q.1 - p.1) * s.2 = (q.1 - s.1) * p.2 + (s.1 - p.1) * q.2 + tn p q s := by unfold tn; grind
    rw [h] at this
    omega
  have m : min p.2 q.2 ≤ s.2 ∧ s.2 ≤ max p.2 q.2 := by
    rcases Int.lt_or_lt_of_ne hn with k | k
    · exact mean_two (D := q.1 - p.1) (v := q.1 - s.1) (w := s.1 - p.1) (by omega) (by omega) (by omega) (by omega) e
    · exact mean_two (D := p.1 - q.1) (v := s.1 - q.1) (w := p.1 - s.1) (by omega) (by omega) (by omega) (by omega) (by grind)
  unfold nrP
  dsimp only
  omega
theorem line_two {p q s : Sp} (h : tn p q s = 0) (hn : ¬ p.2 = q.2) (hb : min p.2 q.2 ≤ s.2 ∧ s.2 ≤ max p.2 q.2) : hsP (p, q) s := by
  refine ⟨h, ?_⟩
  have e : (q.2 - p.2) * s.1 = (q.2 - s.2) * p.1 + (s.2 - p.2) * q.1 := by
    have : (q.2 - p.2) * s.1 = (q.2 - s.2) * p.1 + (s.2 - p.2) * q.1 - tn p q s := by unfold tn; grind
    rw [h] at this
    omega
  have m : min p.1 q.1 ≤ s.1 ∧ s.1 ≤ max p.1 q.1 := by
    rcases Int.lt_or_lt_of_ne hn with k | k
    · exact mean_two (D := q.2 - p.2) (v := q.2 - s.2) (w := s.2 - p.2) (by omega) (by omega) (by omega) (by omega) e
    · exact mean_two (D := p.2 - q.2) (v := s.2 - q.2) (w := p.2 - s.2) (by omega) (by omega) (by omega) (by omega) (by grind)
  unfold nrP
  dsimp only
  omega
theorem hs_box {p q s : Sp} (h : hsP (p, q) s) : (min p.1 q.1 ≤ s.1 ∧ s.1 ≤ max p.1 q.1) ∧ min p.2 q.2 ≤ s.2 ∧ s.2 ≤ max p.2 q.2 := by
  have := h.2
  unfold nrP at this
  dsimp only at this
  omega
theorem sp_ne2 {a b : Sp} (h : ¬ a = b) : ¬ a.1 = b.1 ∨ ¬ a.2 = b.2 := by
  by_cases c : a.1 = b.1
  · exact .inr (fun d => h (by obtain ⟨x, y⟩ := a; obtain ⟨z, t⟩ := b; simp only at c d; rw [c, d]))
  · exact .inl c
theorem nn_of {x y : Int} (hx : 0 < x) (h : 0 ≤ x * y) : 0 ≤ y := by
  rcases Int.lt_or_le y 0 with k | k
  · exfalso; have := mul_pn hx k; omega
  · exact k
theorem zr_of {x y : Int} (hx : ¬ x = 0) (h : x * y = 0) : y = 0 := (Int.mul_eq_zero.1 h).resolve_left hx
/-- On a side, with a triangle that turns leftward. -/
theorem seg_nn {a b c s : Sp} (hD : 0 < tn a b c) (h : hsP (a, b) s) : 0 ≤ tn b c s ∧ 0 ≤ tn c a s := by
  have hb := hs_box h
  have hu : tn a b s = 0 := h.1
  have hne : ¬ a = b := fun e => by
    rw [e] at hD
    have : tn b b c = 0 := by unfold tn; grind
    omega
  have e1 : (b.1 - a.1) * tn b c s = (b.1 - s.1) * tn a b c + (c.1 - b.1) * tn a b s := by unfold tn; grind
  have e2 : (b.1 - a.1) * tn c a s = (s.1 - a.1) * tn a b c + (a.1 - c.1) * tn a b s := by unfold tn; grind
  have e3 : (b.2 - a.2) * tn b c s = (b.2 - s.2) * tn a b c + (c.2 - b.2) * tn a b s := by unfold tn; grind
  have e4 : (b.2 - a.2) * tn c a s = (s.2 - a.2) * tn a b c + (a.2 - c.2) * tn a b s := by unfold tn; grind
  rw [hu, Int.mul_zero, Int.add_zero] at e1 e2 e3 e4
  have hD0 := Int.le_of_lt hD
  rcases sp_ne2 hne with k | k
  · rcases Int.lt_or_lt_of_ne k with m | m
    · exact ⟨nn_of (x := b.1 - a.1) (by omega) (by rw [e1]; exact Int.mul_nonneg (by omega) hD0), nn_of (x := b.1 - a.1) (by omega) (by rw [e2]; exact Int.mul_nonneg (by omega) hD0)⟩
    · refine ⟨nn_of (x := a.1 - b.1) (by omega) ?_, nn_of (x := a.1 - b.1) (by omega) ?_⟩
      · have : (a.1 - b.1) * tn b c s = (s.1 - b.1) * tn a b c := by grind
        rw [this]; exact Int.mul_nonneg (by omega) hD0
      · have : (a.1 - b.1) * tn c a s = (a.1 - s.1) * tn a b c := by grind
        rw [this]; exact Int.mul_nonneg (by omega) hD0
  · rcases Int.lt_or_lt_of_ne k with m | m
    · exact ⟨nn_of (x := b.2 - a.2) (by omega) (by rw [e3]; exact Int.mul_nonneg (by omega) hD0), nn_of (x := b.2 - a.2) (by omega) (by rw [e4]; exact Int.mul_nonneg (by omega) hD0)⟩
    · refine ⟨nn_of (x := a.2 - b.2) (by omega) ?_, nn_of (x := a.2 - b.2) (by omega) ?_⟩
      · have : (a.2 - b.2) * tn b c s = (s.2 - b.2) * tn a b c := by grind
        rw [this]; exact Int.mul_nonneg (by omega) hD0
      · have : (a.2 - b.2) * tn c a s = (a.2 - s.2) * tn a b c := by grind
        rw [this]; exact Int.mul_nonneg (by omega) hD0
theorem hs_of {D v w : Int} {a b s : Sp} (hD : 0 < D) (hv : 0 ≤ v) (hw : 0 ≤ w) (hs : v + w = D) (hu : tn a b s = 0) (h1 : D * s.1 = v * a.1 + w * b.1) (h2 : D * s.2 = v * a.2 + w * b.2) : hsP (a, b) s := by
  have m1 := mean_two hD hv hw hs h1
  have m2 := mean_two hD hv hw hs h2
  refine ⟨hu, ?_⟩
  unfold nrP
  dsimp only
  omega
/-- The reference's triangle. -/
def rfP (a b c s : Sp) : Prop := hsP (a, b) s ∨ hsP (b, c) s ∨ hsP (c, a) s ∨ (sg (tn a b s) = sg (tn b c s) ∧ sg (tn b c s) = sg (tn c a s) ∧ ¬ sg (tn a b s) = 0)
theorem sg_eq (x : Int) : (sg x = 1 ∧ 0 < x) ∨ (sg x = -1 ∧ x < 0) ∨ (sg x = 0 ∧ x = 0) := by unfold sg; split; exact .inl ⟨rfl, by omega⟩; split; exact .inr (.inl ⟨rfl, by omega⟩); exact .inr (.inr ⟨rfl, by omega⟩)
theorem rf_pos {a b c s : Sp} (hD : 0 < tn a b c) : inP a b c s ↔ rfP a b c s := by
  have h3 := tn_three a b c s
  have hb : 0 < tn b c a := by rw [tn_rot]; exact hD
  have hc : 0 < tn c a b := by rw [tn_rot2]; exact hD
  rw [in_pos hD]
  constructor
  · rintro ⟨h1, h2, h4⟩
    by_cases k1 : tn a b s = 0
    · refine .inl (hs_of (D := tn a b c) (v := tn b c s) (w := tn c a s) hD h2 h4 (by omega) k1 ?_ ?_)
      · have : tn a b c * s.1 = tn b c s * a.1 + tn c a s * b.1 + tn a b s * c.1 := by unfold tn; grind
        rw [this, k1]; omega
      · have : tn a b c * s.2 = tn b c s * a.2 + tn c a s * b.2 + tn a b s * c.2 := by unfold tn; grind
        rw [this, k1]; omega
    · by_cases k2 : tn b c s = 0
      · refine .inr (.inl (hs_of (D := tn a b c) (v := tn c a s) (w := tn a b s) hD h4 h1 (by omega) k2 ?_ ?_))
        · have : tn a b c * s.1 = tn b c s * a.1 + tn c a s * b.1 + tn a b s * c.1 := by unfold tn; grind
          rw [this, k2]; omega
        · have : tn a b c * s.2 = tn b c s * a.2 + tn c a s * b.2 + tn a b s * c.2 := by unfold tn; grind
          rw [this, k2]; omega
      · by_cases k3 : tn c a s = 0
        · refine .inr (.inr (.inl (hs_of (D := tn a b c) (v := tn a b s) (w := tn b c s) hD h1 h2 (by omega) k3 ?_ ?_)))
          · have : tn a b c * s.1 = tn b c s * a.1 + tn c a s * b.1 + tn a b s * c.1 := by unfold tn; grind
            rw [this, k3]; omega
          · have : tn a b c * s.2 = tn b c s * a.2 + tn c a s * b.2 + tn a b s * c.2 := by unfold tn; grind
            rw [this, k3]; omega
        · have g1 := sg_eq (tn a b s)
          have g2 := sg_eq (tn b c s)
          have g3 := sg_eq (tn c a s)
          exact .inr (.inr (.inr ⟨by omega, by omega, by omega⟩))
  · rintro (h | h | h | h)
    · have := seg_nn hD h
      have hu : tn a b s = 0 := h.1
      exact ⟨by omega, this.1, this.2⟩
    · have := seg_nn hb h
      have hu : tn b c s = 0 := h.1
      exact ⟨this.2, by omega, this.1⟩
    · have := seg_nn hc h
      have hu : tn c a s = 0 := h.1
      exact ⟨this.1, this.2, by omega⟩
    · have g1 := sg_eq (tn a b s)
      have g2 := sg_eq (tn b c s)
      have g3 := sg_eq (tn c a s)
      omega
theorem sg_ng (x : Int) : sg (-x) = - sg x := by unfold sg; split <;> split <;> omega
theorem rf_rev {a b c s : Sp} (h : rfP c b a s) : rfP a b c s := by
  unfold rfP at *
  rw [tn_flip b c s, tn_flip a b s, show tn a c s = - tn c a s from tn_flip c a s, sg_ng, sg_ng, sg_ng] at h
  rcases h with h | h | h | h
  · exact .inr (.inl (hs_flip h))
  · exact .inl (hs_flip h)
  · exact .inr (.inr (.inl (hs_flip h)))
  · exact .inr (.inr (.inr ⟨by omega, by omega, by omega⟩))
/-- Three points on one line: what is on one side's line is on all. -/
theorem flat_all {a b c s : Sp} (hD : tn a b c = 0) (hab : ¬ a = b) (h : tn a b s = 0) : tn b c s = 0 ∧ tn c a s = 0 := by
  have e1 : (b.1 - a.1) * tn b c s = (b.1 - s.1) * tn a b c + (c.1 - b.1) * tn a b s := by unfold tn; grind
  have e2 : (b.1 - a.1) * tn c a s = (s.1 - a.1) * tn a b c + (a.1 - c.1) * tn a b s := by unfold tn; grind
  have e3 : (b.2 - a.2) * tn b c s = (b.2 - s.2) * tn a b c + (c.2 - b.2) * tn a b s := by unfold tn; grind
  have e4 : (b.2 - a.2) * tn c a s = (s.2 - a.2) * tn a b c + (a.2 - c.2) * tn a b s := by unfold tn; grind
  rw [h, hD, Int.mul_zero, Int.mul_zero, Int.add_zero] at e1 e2 e3 e4
  rcases sp_ne2 hab with k | k
  · exact ⟨zr_of (by omega) e1, zr_of (by omega) e2⟩
  · exact ⟨zr_of (by omega) e3, zr_of (by omega) e4⟩
theorem rf_flat {a b c s : Sp} (hD : tn a b c = 0) (hab : ¬ a = b) (hbc : ¬ b = c) : inP a b c s ↔ rfP a b c s := by
  have h3 := tn_three a b c s
  have zero : tn a b s = 0 ∧ tn b c s = 0 ∧ tn c a s = 0 → bxP a b c s → inP a b c s := fun h hb => ⟨by omega, hb⟩
  constructor
  · rintro ⟨h1, h2⟩
    have z : tn a b s = 0 ∧ tn b c s = 0 := by omega
    unfold bxP at h2
    rcases sp_ne2 hab with k | k
    · by_cases m : min a.1 b.1 ≤ s.1 ∧ s.1 ≤ max a.1 b.1
      · exact .inl (line_one z.1 k m)
      · exact .inr (.inl (line_one z.2 (by omega) (by omega)))
    · by_cases m : min a.2 b.2 ≤ s.2 ∧ s.2 ≤ max a.2 b.2
      · exact .inl (line_two z.1 k m)
      · exact .inr (.inl (line_two z.2 (by omega) (by omega)))
  · rintro (h | h | h | h)
    · have hb := hs_box h
      have := flat_all hD hab h.1
      exact zero ⟨h.1, this.1, this.2⟩ (by unfold bxP; omega)
    · have hb := hs_box h
      have := flat_all (a := b) (b := c) (c := a) (by rw [tn_rot]; exact hD) hbc h.1
      exact zero ⟨this.2, h.1, this.1⟩ (by unfold bxP; omega)
    · have hb := hs_box h
      by_cases e : c = a
      · subst e
        have hs : s = c := by
          obtain ⟨x, y⟩ := s
          obtain ⟨z, t⟩ := c
          simp only [Prod.mk.injEq] at hb ⊢
          omega
        subst hs
        exact zero ⟨by unfold tn; grind, by unfold tn; grind, by unfold tn; grind⟩ (by unfold bxP; omega)
      · have := flat_all (a := c) (b := a) (c := b) (by rw [tn_rot2]; exact hD) e h.1
        exact zero ⟨this.1, this.2, h.1⟩ (by unfold bxP; omega)
    · have g1 := sg_eq (tn a b s)
      have g2 := sg_eq (tn b c s)
      have g3 := sg_eq (tn c a s)
      omega
theorem in_rf {a b c s : Sp} (hab : ¬ a = b) (hbc : ¬ b = c) : inP a b c s ↔ rfP a b c s := by
  rcases Int.lt_trichotomy (tn a b c) 0 with h | h | h
  · have hD2 : 0 < tn c b a := by
      have : tn c b a = - tn a b c := by unfold tn; grind
      omega
    rw [← in_rev, rf_pos hD2]
    exact ⟨rf_rev, rf_rev⟩
  · exact rf_flat h hab hbc
  · exact rf_pos h
theorem same_sg {u x y : Int} (hu : 0 < u) {d : Int} (hd : 0 < d) (h : d * y = u * x) : (x < 0 → y < 0) ∧ (0 < x → 0 < y) := by
  refine ⟨fun k => ?_, fun k => pos_of hd (by rw [h]; exact Int.mul_pos hu k)⟩
  have := mul_pn hu k
  rcases Int.lt_or_le y 0 with m | m
  · exact m
  · exfalso; have := Int.mul_nonneg (Int.le_of_lt hd) m; omega
/-- A flat triangle's long side. -/
theorem flat_core {a b c p q : Sp} {u v d : Int} (hu : 0 < u) (hv : 0 < v) (hd : 0 < d) (_ht : d * tn p q b = u * tn p q a + v * tn p q c) (h1 : ∀ s, d * tn b c s = u * tn a c s) (h2 : ∀ s, d * tn a b s = v * tn a c s) (c1 : ptP (a, c) (p, q)) (c2 : ptP (p, q) (a, c)) : mtP (a, b) (p, q) ∨ mtP (b, c) (p, q) := by
  have x1 := same_sg hu hd (h1 p)
  have x2 := same_sg hu hd (h1 q)
  have y1 := same_sg hv hd (h2 p)
  have y2 := same_sg hv hd (h2 q)
  unfold ptP at c1 c2
  dsimp only at c1 c2
  have k1 : ptP (b, c) (p, q) := by unfold ptP; dsimp only; omega
  have k2 : ptP (a, b) (p, q) := by unfold ptP; dsimp only; omega
  by_cases hb : tn p q b = 0
  · obtain ⟨al, hal⟩ : ∃ z, z = tn b c p := ⟨_, rfl⟩
    obtain ⟨al', hal'⟩ : ∃ z, z = tn b c q := ⟨_, rfl⟩
    have w1 : (al - al') * b.1 = al * q.1 - al' * p.1 + tn p q b * (c.1 - b.1) := by rw [hal, hal']; unfold tn; grind
    have w2 : (al - al') * b.2 = al * q.2 - al' * p.2 + tn p q b * (c.2 - b.2) := by rw [hal, hal']; unfold tn; grind
    rw [hb, Int.zero_mul, Int.add_zero] at w1 w2
    unfold ptP at k1
    dsimp only at k1
    rw [← hal, ← hal'] at k1
    have hs : hsP (p, q) b := by
      rcases k1 with ⟨m1, m2⟩ | ⟨m1, m2⟩
      · exact hs_of (D := al' - al) (v := al') (w := -al) (by omega) (by omega) (by omega) (by omega) hb (by grind) (by grind)
      · exact hs_of (D := al - al') (v := -al') (w := al) (by omega) (by omega) (by omega) (by omega) hb (by grind) (by grind)
    have hbp : ¬ b = p := fun k => by
      rw [← k] at hal
      have : tn b c b = 0 := by unfold tn; grind
      omega
    have hbq : ¬ b = q := fun k => by
      rw [← k] at hal'
      have : tn b c b = 0 := by unfold tn; grind
      omega
    exact .inl ⟨(hs_near hs (.inr rfl)).2, .inr (.inr (.inr (.inr (.inl ⟨⟨hbp, hbq⟩, hs⟩))))⟩
  · have near : ∀ {A B : Sp}, ptP (A, B) (p, q) → ptP (p, q) (A, B) → mtP (A, B) (p, q) := fun h k => ⟨cross_near k h, .inl ⟨h, k⟩⟩
    obtain ⟨ta, hta⟩ : ∃ z, z = tn p q a := ⟨_, rfl⟩
    obtain ⟨tb, htb⟩ : ∃ z, z = tn p q b := ⟨_, rfl⟩
    obtain ⟨tc, htc⟩ : ∃ z, z = tn p q c := ⟨_, rfl⟩
    rcases c2 with ⟨m1, m2⟩ | ⟨m1, m2⟩
    · rcases Int.lt_or_lt_of_ne hb with k | k
      · exact .inr (near k1 (.inl ⟨k, m2⟩))
      · exact .inl (near k2 (.inl ⟨m1, k⟩))
    · rcases Int.lt_or_lt_of_ne hb with k | k
      · exact .inl (near k2 (.inr ⟨m1, k⟩))
      · exact .inr (near k1 (.inr ⟨k, m2⟩))
theorem cross_flat {a b c p q : Sp} (hD : tn a b c = 0) (hab : ¬ a = b) (hbc : ¬ b = c) (hn : ¬ mtP (a, b) (b, c)) (c1 : ptP (a, c) (p, q)) (c2 : ptP (p, q) (a, c)) : mtP (a, b) (p, q) ∨ mtP (b, c) (p, q) := by
  have hac : ¬ a = c := fun e => by
    subst e
    unfold ptP at c2
    dsimp only at c2
    omega
  have o1 : ¬ hsP (b, c) a := fun h => hn ⟨(hs_near h (.inl rfl)).2, .inr (.inr (.inr (.inl ⟨⟨hab, hac⟩, h⟩)))⟩
  have o2 : ¬ hsP (a, b) c := fun h => hn ⟨(hs_near h (.inr rfl)).1, .inr (.inr (.inl ⟨⟨fun e => hac e.symm, fun e => hbc e.symm⟩, h⟩))⟩
  have z1 : tn b c a = 0 := by rw [tn_rot]; exact hD
  have f1 : ∀ s, (c.1 - a.1) * tn b c s = (c.1 - b.1) * tn a c s := fun s => by
    have : (c.1 - a.1) * tn b c s = (c.1 - b.1) * tn a c s + (c.1 - s.1) * tn a b c := by unfold tn; grind
    rw [hD] at this; omega
  have f2 : ∀ s, (c.1 - a.1) * tn a b s = (b.1 - a.1) * tn a c s := fun s => by
    have : (c.1 - a.1) * tn a b s = (b.1 - a.1) * tn a c s + (s.1 - a.1) * tn a b c := by unfold tn; grind
    rw [hD] at this; omega
  have f3 : (c.1 - a.1) * tn p q b = (c.1 - b.1) * tn p q a + (b.1 - a.1) * tn p q c := by
    have : (c.1 - a.1) * tn p q b = (c.1 - b.1) * tn p q a + (b.1 - a.1) * tn p q c - (q.1 - p.1) * tn a b c := by unfold tn; grind
    rw [hD] at this; omega
  have g1 : ∀ s, (c.2 - a.2) * tn b c s = (c.2 - b.2) * tn a c s := fun s => by
    have : (c.2 - a.2) * tn b c s = (c.2 - b.2) * tn a c s + (c.2 - s.2) * tn a b c := by unfold tn; grind
    rw [hD] at this; omega
  have g2 : ∀ s, (c.2 - a.2) * tn a b s = (b.2 - a.2) * tn a c s := fun s => by
    have : (c.2 - a.2) * tn a b s = (b.2 - a.2) * tn a c s + (s.2 - a.2) * tn a b c := by unfold tn; grind
    rw [hD] at this; omega
  have g3 : (c.2 - a.2) * tn p q b = (c.2 - b.2) * tn p q a + (b.2 - a.2) * tn p q c := by
    have : (c.2 - a.2) * tn p q b = (c.2 - b.2) * tn p q a + (b.2 - a.2) * tn p q c - (q.2 - p.2) * tn a b c := by unfold tn; grind
    rw [hD] at this; omega
  rcases sp_ne2 hac with k | k
  · have n1 : ¬ (min b.1 c.1 ≤ a.1 ∧ a.1 ≤ max b.1 c.1) := fun h => o1 (line_one z1 (by omega) h)
    have n2 : ¬ (min a.1 b.1 ≤ c.1 ∧ c.1 ≤ max a.1 b.1) := fun h => o2 (line_one hD (by omega) h)
    rcases Int.lt_or_lt_of_ne k with m | m
    · exact flat_core (u := c.1 - b.1) (v := b.1 - a.1) (d := c.1 - a.1) (by omega) (by omega) (by omega) f3 f1 f2 c1 c2
    · exact flat_core (u := b.1 - c.1) (v := a.1 - b.1) (d := a.1 - c.1) (by omega) (by omega) (by omega) (by grind) (fun s => by have := f1 s; grind) (fun s => by have := f2 s; grind) c1 c2
  · have n1 : ¬ (min b.2 c.2 ≤ a.2 ∧ a.2 ≤ max b.2 c.2) := fun h => o1 (line_two z1 (by omega) h)
    have n2 : ¬ (min a.2 b.2 ≤ c.2 ∧ c.2 ≤ max a.2 b.2) := fun h => o2 (line_two hD (by omega) h)
    rcases Int.lt_or_lt_of_ne k with m | m
    · exact flat_core (u := c.2 - b.2) (v := b.2 - a.2) (d := c.2 - a.2) (by omega) (by omega) (by omega) g3 g1 g2 c1 c2
    · exact flat_core (u := b.2 - c.2) (v := a.2 - b.2) (d := a.2 - c.2) (by omega) (by omega) (by omega) (by grind) (fun s => by have := g1 s; grind) (fun s => by have := g2 s; grind) c1 c2
/-- The new piece meets nothing. -/
theorem tri_new {a b c p q : Sp} (hab : ¬ a = b) (hbc : ¬ b = c) (hn : ¬ mtP (a, b) (b, c)) (h1 : ¬ mtP (a, b) (p, q)) (h2 : ¬ mtP (b, c) (p, q)) (hp : p = a ∨ p = c ∨ ¬ inP a b c p) (hq : q = a ∨ q = c ∨ ¬ inP a b c q) (ht : ¬ twP (a, c) (p, q)) : ¬ mtP (a, c) (p, q) := by
  have hin : ∀ s, hlP (a, c) s → inP a b c s := fun s h => (in_rf hab hbc).2 (.inr (.inr (.inl (hs_flip h.2))))
  rintro ⟨-, ⟨c1, c2⟩ | k | k | k | k | k⟩
  · have np : ¬ inP a b c p := by
      unfold ptP at c1
      dsimp only at c1
      rcases hp with e | e | e
      · exfalso; rw [e] at c1; have : tn a c a = 0 := by unfold tn; grind
        omega
      · exfalso; rw [e] at c1; have : tn a c c = 0 := by unfold tn; grind
        omega
      · exact e
    have nq : ¬ inP a b c q := by
      unfold ptP at c1
      dsimp only at c1
      rcases hq with e | e | e
      · exfalso; rw [e] at c1; have : tn a c a = 0 := by unfold tn; grind
        omega
      · exfalso; rw [e] at c1; have : tn a c c = 0 := by unfold tn; grind
        omega
      · exact e
    by_cases hD : tn a b c = 0
    · exact (cross_flat hD hab hbc hn c1 c2).elim h1 h2
    · exact (cross_tri hD c1 c2 np nq).elim h1 h2
  · rcases hp with e | e | e
    · exact k.1.1 e
    · exact k.1.2 e
    · exact e (hin p k)
  · rcases hq with e | e | e
    · exact k.1.1 e
    · exact k.1.2 e
    · exact e (hin q k)
  · exact h1 ⟨(hs_near (A := (p, q)) (B := (a, b)) (x := a) k.2 (.inl rfl)).2, .inr (.inr (.inr (.inl k)))⟩
  · exact h2 ⟨(hs_near (A := (p, q)) (B := (b, c)) (x := c) k.2 (.inr rfl)).2, .inr (.inr (.inr (.inr (.inl k))))⟩
  · exact ht k
end Go.Proofs.YtnadgoomkaldkaaDoor
namespace Go.Proofs.YtnadgoomkaldkaaDoor
open Go.RowKit

/-- A map without a point. -/
def woM (Ls : List (List Sp)) (i k : Nat) : List (List Sp) := Ls.set i ((lx Ls i).eraseIdx k)
theorem wo_len (Ls : List (List Sp)) (i k : Nat) : (woM Ls i k).length = Ls.length := by simp [woM]
theorem lx_wo {Ls : List (List Sp)} {i : Nat} (hi : i < Ls.length) (k j : Nat) : lx (woM Ls i k) j = if j = i then (lx Ls i).eraseIdx k else lx Ls j := by
  unfold woM
  by_cases e : j = i
  · subst e
    rw [if_pos rfl]
    simp [lx, hi]
  · rw [if_neg e]
    simp [lx, List.getElem?_set_ne (Ne.symm e)]
theorem sx_er {a : List Sp} {k m : Nat} (hm : m + 1 < a.length) (hk : k < a.length) : sx (a.eraseIdx k) m = if m < k then sx a m else sx a (m + 1) := by
  have hl : (a.eraseIdx k).length = a.length - 1 := by rw [List.length_eraseIdx, if_pos hk]
  rw [← sx_get (by omega), List.getElem_eraseIdx]
  split
  · rw [sx_get]
  · rw [sx_get]
theorem er_len {a : List Sp} {k : Nat} (hk : k < a.length) : (a.eraseIdx k).length = a.length - 1 := by rw [List.length_eraseIdx, if_pos hk]
theorem set_sub : ∀ (Ls : List (List Sp)) (i : Nat) (a' : List Sp), a'.Sublist (lx Ls i) → (Ls.set i a').flatten.Sublist Ls.flatten
  | [], _, _, _ => by simp
  | a :: Ls, 0, a', h => by
    simp only [List.set_cons_zero, List.flatten_cons]
    exact List.Sublist.append h (List.Sublist.refl _)
  | a :: Ls, i + 1, a', h => by
    simp only [List.set_cons_succ, List.flatten_cons]
    exact List.Sublist.append (List.Sublist.refl _) (set_sub Ls i a' h)
theorem wo_sub (Ls : List (List Sp)) (i k : Nat) : (woM Ls i k).flatten.Sublist Ls.flatten := set_sub Ls i _ (List.eraseIdx_sublist _ _)
theorem ntg (Ls : List (List Sp)) : ¬ tgP (ppL Ls) ↔ ∀ i, i < Ls.length → ∀ k, k + 1 < (lx Ls i).length → ∀ j, j < Ls.length → ∀ n, n + 1 < (lx Ls j).length → (i = j → ¬ k = n) → ¬ mtP (pcA (lx Ls i) k) (pcA (lx Ls j) n) := by
  rw [tg_iff]
  constructor
  · intro h i hi k hk j hj n hn hne hm
    rcases Nat.lt_trichotomy i j with c | c | c
    · exact h ⟨j, hj, n, hn, i, hi, k, hk, .inl c, mt_comm hm⟩
    · rcases Nat.lt_trichotomy k n with d | d | d
      · exact h ⟨j, hj, n, hn, i, hi, k, hk, .inr ⟨c, d⟩, mt_comm hm⟩
      · exact hne c d
      · exact h ⟨i, hi, k, hk, j, hj, n, hn, .inr ⟨c.symm, d⟩, hm⟩
    · exact h ⟨i, hi, k, hk, j, hj, n, hn, .inl c, hm⟩
  · rintro h ⟨i, hi, k, hk, j, hj, n, hn, ha, hm⟩
    refine h i hi k hk j hj n hn (fun e d => ?_) hm
    rcases ha with c | ⟨c, d2⟩ <;> omega
theorem unc {Ls : List (List Sp)} (h : ¬ cwP Ls) {i k j m : Nat} (hi : i < Ls.length) (h0 : 0 < k) (hk : k + 1 < (lx Ls i).length) (hj : j < Ls.length) (hm : m < (lx Ls j).length) (e : sx (lx Ls j) m = sx (lx Ls i) k) : j = i ∧ m = k := by
  rcases Nat.lt_trichotomy j i with c | c | c
  · exact absurd ⟨i, hi, k, ⟨h0, hk⟩, (cnt_iff Ls _).2 ⟨j, hj, m, hm, i, hi, k, by omega, .inl c, e, rfl⟩⟩ h
  · rcases Nat.lt_trichotomy m k with d | d | d
    · exact absurd ⟨i, hi, k, ⟨h0, hk⟩, (cnt_iff Ls _).2 ⟨j, hj, m, hm, i, hi, k, by omega, .inr ⟨c, d⟩, e, rfl⟩⟩ h
    · exact ⟨c, d⟩
    · exact absurd ⟨i, hi, k, ⟨h0, hk⟩, (cnt_iff Ls _).2 ⟨i, hi, k, by omega, j, hj, m, hm, .inr ⟨c.symm, d⟩, rfl, e⟩⟩ h
  · exact absurd ⟨i, hi, k, ⟨h0, hk⟩, (cnt_iff Ls _).2 ⟨i, hi, k, by omega, j, hj, m, hm, .inl c, rfl, e⟩⟩ h
/-- No other point lies in the triangle. -/
def emP (Ls : List (List Sp)) (a b c : Sp) : Prop := ∀ j, j < Ls.length → ∀ m, m < (lx Ls j).length → sx (lx Ls j) m = a ∨ sx (lx Ls j) m = b ∨ sx (lx Ls j) m = c ∨ ¬ inP a b c (sx (lx Ls j) m)
/-- An arc of one piece, the same as a given one. -/
def jnP (Ls : List (List Sp)) (p : Pc) : Prop := ∃ j, j < Ls.length ∧ (lx Ls j).length = 2 ∧ twP p (sx (lx Ls j) 0, sx (lx Ls j) 1)
def cl4 (a : List Sp) : Prop := sx a 0 = sx a (a.length - 1) ∧ a.length = 4
theorem pc_er {a : List Sp} {k m : Nat} (hk : k < a.length) (hm : m + 2 < a.length) : pcA (a.eraseIdx k) m = if m + 1 < k then pcA a m else if m + 1 = k then (sx a m, sx a (m + 2)) else pcA a (m + 1) := by
  unfold pcA
  rw [sx_er (by omega) hk, sx_er (by omega) hk]
  by_cases c : m + 1 < k
  · rw [if_pos c, if_pos c, if_pos (by omega)]
  · rw [if_neg c, if_neg c]
    by_cases d : m + 1 = k
    · rw [if_pos d, if_pos (by omega)]
    · rw [if_neg d, if_neg (by omega)]
section
variable {Ls : List (List Sp)} (hc : mcd Ls = 0) {i k : Nat} (hi : i < Ls.length) (h0 : 0 < k) (hk : k + 1 < (lx Ls i).length)
include hc hi h0 hk
theorem wo_abc : ¬ sx (lx Ls i) (k - 1) = sx (lx Ls i) k ∧ ¬ sx (lx Ls i) k = sx (lx Ls i) (k + 1) ∧ ¬ mtP (sx (lx Ls i) (k - 1), sx (lx Ls i) k) (sx (lx Ls i) k, sx (lx Ls i) (k + 1)) ∧ ¬ sx (lx Ls i) (k - 1) = sx (lx Ls i) (k + 1) := by
  obtain ⟨-, -, h3, -, h5⟩ := mcd_ok hc
  have n1 := ar_ne (h3 i hi) (k := k - 1) (by omega)
  have n2 := ar_ne (h3 i hi) (k := k) (by omega)
  rw [show k - 1 + 1 = k by omega] at n1
  have n3 := (ntg Ls).1 h5 i hi (k - 1) (by omega) i hi k hk (fun _ => by omega)
  unfold pcA at n3
  rw [show k - 1 + 1 = k by omega] at n3
  refine ⟨n1, n2, n3, fun e => n3 ?_⟩
  rw [e]
  refine ⟨?_, .inr (.inr (.inr (.inr (.inr (.inr rfl)))))⟩
  unfold nrP
  dsimp only
  omega
theorem new_meets (h4 : ¬ cl4 (lx Ls i)) (he : emP Ls (sx (lx Ls i) (k - 1)) (sx (lx Ls i) k) (sx (lx Ls i) (k + 1))) (hj : ¬ jnP Ls (sx (lx Ls i) (k - 1), sx (lx Ls i) (k + 1))) {j n : Nat} (hjN : j < Ls.length) (hn : n + 1 < (lx Ls j).length) (hne : j = i → ¬ n = k ∧ ¬ n + 1 = k) : ¬ mtP (sx (lx Ls i) (k - 1), sx (lx Ls i) (k + 1)) (pcA (lx Ls j) n) := by
  obtain ⟨-, -, h3, hw, h5⟩ := mcd_ok hc
  obtain ⟨n1, n2, n3, n4⟩ := wo_abc hc hi h0 hk
  have u : ∀ m, m < (lx Ls j).length → sx (lx Ls j) m = sx (lx Ls i) k → j = i ∧ m = k := fun m hm e => unc hw hi h0 hk hjN hm e
  have m1 := (ntg Ls).1 h5 i hi (k - 1) (by omega) j hjN n hn (fun e => by have := hne e.symm; omega)
  have m2 := (ntg Ls).1 h5 i hi k hk j hjN n hn (fun e => by have := hne e.symm; omega)
  unfold pcA at m1 m2 ⊢
  rw [show k - 1 + 1 = k by omega] at m1
  refine tri_new n1 n2 n3 m1 m2 ?_ ?_ ?_
  · rcases he j hjN n (by omega) with e | e | e | e
    · exact .inl e
    · have := u n (by omega) e
      exact absurd this.2 (hne this.1).1
    · exact .inr (.inl e)
    · exact .inr (.inr e)
  · rcases he j hjN (n + 1) (by omega) with e | e | e | e
    · exact .inl e
    · have := u (n + 1) (by omega) e
      exact absurd this.2 (hne this.1).2
    · exact .inr (.inl e)
    · exact .inr (.inr e)
  · intro ht
    -- ends that come once more are no inner points
    have inn : ∀ {j' m' j2 q2 : Nat}, j' < Ls.length → 0 < m' → m' + 1 < (lx Ls j').length → j2 < Ls.length → q2 < (lx Ls j2).length → sx (lx Ls j2) q2 = sx (lx Ls j') m' → j2 = j' ∧ q2 = m' := fun a1 a2 a3 a4 a5 a6 => unc hw a1 a2 a3 a4 a5 a6
    by_cases l2 : (lx Ls j).length = 2
    · obtain rfl : n = 0 := by omega
      exact hj ⟨j, hjN, l2, ht⟩
    · unfold twP at ht
      simp only [Prod.mk.injEq] at ht
      rcases ht with ⟨ea, ec⟩ | ⟨ea, ec⟩
      · -- p = a, q = c
        by_cases hn0 : n = 0
        · have := inn hjN (m' := n + 1) (by omega) (by omega) hi (q2 := k + 1) (by omega) ec
          have := hne this.1.symm
          omega
        · have := inn hjN (m' := n) (by omega) (by omega) hi (q2 := k - 1) (by omega) ea
          have := hne this.1.symm
          omega
      · -- p = c, q = a
        by_cases hn0 : n = 0
        · have w := inn hjN (m' := n + 1) (by omega) (by omega) hi (q2 := k - 1) (by omega) ea
          obtain ⟨rfl, w2⟩ := w
          by_cases last : k + 2 = (lx Ls i).length
          · refine h4 ⟨?_, by omega⟩
            rw [show (lx Ls i).length - 1 = k + 1 by omega, ec, hn0]
          · have := inn hi (m' := k + 1) (by omega) (by omega) hi (q2 := n) (by omega) ec.symm
            omega
        · have w := inn hjN (m' := n) (by omega) (by omega) hi (q2 := k + 1) (by omega) ec
          obtain ⟨rfl, w2⟩ := w
          by_cases first : k = 1
          · by_cases last : n + 2 = (lx Ls i).length
            · refine h4 ⟨?_, by omega⟩
              rw [show (lx Ls i).length - 1 = n + 1 by omega, ← ea, show k - 1 = 0 by omega]
            · have := inn hi (m' := n + 1) (by omega) (by omega) hi (q2 := k - 1) (by omega) ea
              omega
          · have := inn hi (m' := k - 1) (by omega) (by omega) hi (q2 := n + 1) (by omega) ea.symm
            omega
theorem wo_right (h4 : ¬ cl4 (lx Ls i)) (he : emP Ls (sx (lx Ls i) (k - 1)) (sx (lx Ls i) k) (sx (lx Ls i) (k + 1))) (hj : ¬ jnP Ls (sx (lx Ls i) (k - 1), sx (lx Ls i) (k + 1))) : mcd (woM Ls i k) = 0 := by
  obtain ⟨l1, l2, h3, hw, h5⟩ := mcd_ok hc
  obtain ⟨n1, n2, n3, n4⟩ := wo_abc hc hi h0 hk
  have hkl : k < (lx Ls i).length := by omega
  have hel := er_len hkl
  refine mcd_0 (by rw [wo_len]; omega) (by have := (wo_sub Ls i k).length_le; omega) ?_ ?_ ?_
  · intro j hjN
    rw [wo_len] at hjN
    rw [lx_wo hi]
    by_cases e : j = i
    · rw [if_pos e]
      obtain ⟨a2, ast, ac⟩ := h3 i hi
      have s0 : sx ((lx Ls i).eraseIdx k) 0 = sx (lx Ls i) 0 := by rw [sx_er (by omega) hkl, if_pos h0]
      refine ⟨by omega, ?_, ?_⟩
      · rw [hel]
        intro m hm
        rw [sx_er (by omega) hkl]
        refine ⟨?_, fun hm0 => ?_⟩
        · split
          · exact (ast m (by omega)).1
          · exact (ast (m + 1) (by omega)).1
        · rw [sx_er (by omega) hkl]
          rcases Nat.lt_trichotomy m k with c | c | c
          · rw [if_pos c, if_pos (by omega)]
            exact (ast m (by omega)).2 hm0
          · rw [if_neg (by omega), if_pos (by omega), c]
            exact fun e => n4 e.symm
          · rw [if_neg (by omega), if_neg (by omega)]
            have := (ast (m + 1) (by omega)).2 (by omega)
            rw [show m - 1 + 1 = m by omega]
            rw [show m + 1 - 1 = m by omega] at this
            exact this
      · intro hcl
        rw [s0, hel, sx_er (by omega) hkl, if_neg (by omega), show (lx Ls i).length - 1 - 1 + 1 = (lx Ls i).length - 1 by omega] at hcl
        have := ac hcl
        have : ¬ (lx Ls i).length = 4 := fun e => h4 ⟨hcl, e⟩
        omega
    · rw [if_neg e]
      exact h3 j hjN
  · rintro ⟨j, hjN, m, ⟨hm0, hm1⟩, hcnt⟩
    rw [wo_len] at hjN
    have hcnt2 := Nat.lt_of_lt_of_le hcnt ((wo_sub Ls i k).count_le _)
    rw [lx_wo hi] at hcnt2 hm1
    by_cases e : j = i
    · rw [if_pos e] at hcnt2 hm1
      rw [hel] at hm1
      rw [sx_er (by omega) hkl] at hcnt2
      by_cases c : m < k
      · rw [if_pos c] at hcnt2
        exact hw ⟨i, hi, m, ⟨hm0, by omega⟩, hcnt2⟩
      · rw [if_neg c] at hcnt2
        exact hw ⟨i, hi, m + 1, ⟨by omega, by omega⟩, hcnt2⟩
    · rw [if_neg e] at hcnt2 hm1
      exact hw ⟨j, hjN, m, ⟨hm0, hm1⟩, hcnt2⟩
  · -- a piece of the new map, where it is not the new one, is an old one
    have old : ∀ j, j < Ls.length → ∀ n, n + 1 < (lx (woM Ls i k) j).length → ¬ (j = i ∧ n + 1 = k) → (if j = i ∧ k ≤ n then n + 1 else n) + 1 < (lx Ls j).length ∧ pcA (lx (woM Ls i k) j) n = pcA (lx Ls j) (if j = i ∧ k ≤ n then n + 1 else n) := by
      intro j hjN n hn hnew
      rw [lx_wo hi] at hn ⊢
      by_cases e : j = i
      · subst e
        rw [if_pos rfl] at hn ⊢
        rw [hel] at hn
        rw [pc_er hkl (by omega)]
        by_cases c : k ≤ n
        · rw [if_pos ⟨rfl, c⟩, if_neg (by omega), if_neg (by omega)]
          exact ⟨by omega, rfl⟩
        · rw [if_neg (fun d => c d.2), if_pos (by omega)]
          exact ⟨by omega, rfl⟩
      · rw [if_neg e] at hn ⊢
        rw [if_neg (fun d => e d.1)]
        exact ⟨hn, rfl⟩
    have new : k - 1 + 1 < (lx (woM Ls i k) i).length → pcA (lx (woM Ls i k) i) (k - 1) = (sx (lx Ls i) (k - 1), sx (lx Ls i) (k + 1)) := by
      intro hn
      rw [lx_wo hi, if_pos rfl, pc_er hkl (by omega), if_neg (by omega), if_pos (by omega), show k - 1 + 2 = k + 1 by omega]
    have nm : ∀ j, j < Ls.length → ∀ n, n + 1 < (lx (woM Ls i k) j).length → ¬ (j = i ∧ n + 1 = k) → ¬ mtP (sx (lx Ls i) (k - 1), sx (lx Ls i) (k + 1)) (pcA (lx (woM Ls i k) j) n) := by
      intro j hjN n hn hnew
      obtain ⟨o1, o2⟩ := old j hjN n hn hnew
      rw [o2]
      refine new_meets hc hi h0 hk h4 he hj hjN o1 (fun e => ?_)
      by_cases c : k ≤ n
      · rw [if_pos ⟨e, c⟩]; omega
      · rw [if_neg (fun d => c d.2)]
        have : ¬ n + 1 = k := fun d => hnew ⟨e, d⟩
        omega
    rw [ntg]
    intro x hx m hm y hy n hn hne
    rw [wo_len] at hx hy
    by_cases cx : x = i ∧ m + 1 = k
    · obtain ⟨rfl, cx⟩ := cx
      obtain rfl : m = k - 1 := by omega
      rw [new hm]
      exact nm y hy n hn (fun d => hne d.1.symm (by omega))
    · by_cases cy : y = i ∧ n + 1 = k
      · obtain ⟨rfl, cy⟩ := cy
        obtain rfl : n = k - 1 := by omega
        rw [new hn]
        exact fun h => nm x hx m hm cx (mt_comm h)
      · obtain ⟨o1, o2⟩ := old x hx m hm cx
        obtain ⟨q1, q2⟩ := old y hy n hn cy
        rw [o2, q2]
        refine (ntg Ls).1 h5 x hx _ o1 y hy _ q1 (fun e => ?_)
        subst e
        have hmn : ¬ m = n := hne rfl
        by_cases cc : x = i
        · by_cases c1 : k ≤ m <;> by_cases c2 : k ≤ n <;> simp [cc, c1, c2] <;> omega
        · rw [if_neg (fun d => cc d.1), if_neg (fun d => cc d.1)]
          exact hmn
omit hc in
end
end Go.Proofs.YtnadgoomkaldkaaDoor
namespace Go.Proofs.YtnadgoomkaldkaaDoor
open Go.RowKit

/-- May a point go? -/
def frP (most : Int) (Ls : List (List Sp)) (i k : Nat) : Prop :=
  (tn (sx (lx Ls i) (k - 1)) (sx (lx Ls i) k) (sx (lx Ls i) (k + 1)) ≤ most ∧ -tn (sx (lx Ls i) (k - 1)) (sx (lx Ls i) k) (sx (lx Ls i) (k + 1)) ≤ most) ∧ ¬ cl4 (lx Ls i) ∧
  emP Ls (sx (lx Ls i) (k - 1)) (sx (lx Ls i) k) (sx (lx Ls i) (k + 1)) ∧ ¬ jnP Ls (sx (lx Ls i) (k - 1), sx (lx Ls i) (k + 1))
/-- The reference's words of it. -/
def rmP (Ls : List (List Sp)) (a b c : Sp) : Prop := ∀ j, j < Ls.length → ∀ m, m < (lx Ls j).length → ¬ sx (lx Ls j) m = a → ¬ sx (lx Ls j) m = b → ¬ sx (lx Ls j) m = c → ¬ rfP a b c (sx (lx Ls j) m)
def spP (most : Int) (Ls : List (List Sp)) (i k : Nat) : Prop :=
  (tn (sx (lx Ls i) (k - 1)) (sx (lx Ls i) k) (sx (lx Ls i) (k + 1)) ≤ most ∧ -most ≤ tn (sx (lx Ls i) (k - 1)) (sx (lx Ls i) k) (sx (lx Ls i) (k + 1))) ∧ ¬ cl4 (lx Ls i) ∧
  rmP Ls (sx (lx Ls i) (k - 1)) (sx (lx Ls i) k) (sx (lx Ls i) (k + 1)) ∧ mcd (woM Ls i k) = 0
theorem fr_right {most : Int} {Ls : List (List Sp)} (hc : mcd Ls = 0) {i k : Nat} (hi : i < Ls.length) (h0 : 0 < k) (hk : k + 1 < (lx Ls i).length) (h : frP most Ls i k) : mcd (woM Ls i k) = 0 := wo_right hc hi h0 hk h.2.1 h.2.2.1 h.2.2.2
/-- Where one is: the map, the arc, the point, and whether a point went in this round. -/
structure ThS where
  L : List (List Sp)
  i : Nat
  k : Nat
  f : Bool
inductive Stp (most : Int) : ThS → ThS → Prop
  | next {Ls : List (List Sp)} {i k : Nat} {f : Bool} : i < Ls.length → ¬ k + 1 < (lx Ls i).length → Stp most ⟨Ls, i, k, f⟩ ⟨Ls, i + 1, 1, f⟩
  | drop {Ls : List (List Sp)} {i k : Nat} {f : Bool} : i < Ls.length → k + 1 < (lx Ls i).length → frP most Ls i k → Stp most ⟨Ls, i, k, f⟩ ⟨woM Ls i k, i, k, true⟩
  | keep {Ls : List (List Sp)} {i k : Nat} {f : Bool} : i < Ls.length → k + 1 < (lx Ls i).length → ¬ frP most Ls i k → Stp most ⟨Ls, i, k, f⟩ ⟨Ls, i, k + 1, f⟩
  | again {Ls : List (List Sp)} {i k : Nat} : ¬ i < Ls.length → Stp most ⟨Ls, i, k, true⟩ ⟨Ls, 0, 1, false⟩
theorem Stp.det {most : Int} {s t u : ThS} (h : Stp most s t) (k : Stp most s u) : t = u := by
  cases h with
  | next a b => cases k with
    | next => rfl
    | drop c d => exact absurd d b
    | keep c d => exact absurd d b
    | again c => exact absurd a c
  | drop a b c => cases k with
    | next _ e => exact absurd b e
    | drop => rfl
    | keep _ _ g => exact absurd c g
    | again e => exact absurd a e
  | keep a b c => cases k with
    | next _ e => exact absurd b e
    | drop _ _ g => exact absurd g c
    | keep => rfl
    | again e => exact absurd a e
  | again a => cases k with
    | next c => exact absurd c a
    | drop c => exact absurd c a
    | keep c => exact absurd c a
    | again => rfl
inductive Pth (most : Int) : ThS → ThS → Prop
  | refl (s : ThS) : Pth most s s
  | tail {s t u : ThS} : Pth most s t → Stp most t u → Pth most s u
theorem Pth.trans {most : Int} {s t u : ThS} (h : Pth most s t) (k : Pth most t u) : Pth most s u := by
  induction k with
  | refl => exact h
  | tail _ h2 ih => exact .tail ih h2
theorem Pth.or {most : Int} {s t u : ThS} (h : Pth most s t) (k : Pth most s u) : Pth most t u ∨ Pth most u t := by
  induction h with
  | refl => exact .inl k
  | @tail a b h1 h2 ih =>
    rcases ih with m | m
    · -- from a to u: either none, or by b
      have key : ∀ {x y : ThS}, Pth most x y → ∀ b, Stp most x b → Pth most b y ∨ x = y := by
        intro x y hp
        induction hp with
        | refl => intro b _; exact .inr rfl
        | tail q1 q2 ih2 =>
          intro b hb
          rcases ih2 b hb with r | r
          · exact .inl (.tail r q2)
          · subst r
            exact .inl (by rw [hb.det q2]; exact .refl _)
      rcases key m b h2 with r | r
      · exact .inl r
      · subst r
        exact .inr (.tail (.refl _) h2)
    · exact .inr (.tail m h2)
theorem Pth.stuck {most : Int} {s t : ThS} (h : Pth most s t) (hs : ¬ s.i < s.L.length ∧ s.f = false) : s = t := by
  induction h with
  | refl => rfl
  | tail h1 h2 ih =>
    subst ih
    obtain ⟨a, b⟩ := hs
    cases h2 with
    | next c => exact absurd c a
    | drop c => exact absurd c a
    | keep c => exact absurd c a
    | again c => cases b
/-- There is one end. -/
theorem Pth.one {most : Int} {s t u : ThS} (h : Pth most s t) (k : Pth most s u) (ht : ¬ t.i < t.L.length ∧ t.f = false) (hu : ¬ u.i < u.L.length ∧ u.f = false) : t = u := by
  rcases h.or k with m | m
  · exact m.stuck ht
  · exact (m.stuck hu).symm
/-- What is left of the points, by their numbers. -/
def ax (A : List (List Nat)) (j : Nat) : List Nat := A.getD j []
def nn (A : List (List Nat)) (j m : Nat) : Nat := (ax A j).getD m 0
def lsA (S : List Sp) (A : List (List Nat)) : List (List Sp) := A.map fun l => l.map (sx S)
theorem ls_len (S : List Sp) (A : List (List Nat)) : (lsA S A).length = A.length := by simp [lsA]
theorem lx_ls {S : List Sp} {A : List (List Nat)} {j : Nat} (hj : j < A.length) : lx (lsA S A) j = (ax A j).map (sx S) := by simp [lx, lsA, ax, hj]
theorem lx_lsl {S : List Sp} {A : List (List Nat)} {j : Nat} (hj : j < A.length) : (lx (lsA S A) j).length = (ax A j).length := by rw [lx_ls hj]; simp
theorem sx_ls {S : List Sp} {A : List (List Nat)} {j m : Nat} (hj : j < A.length) (hm : m < (ax A j).length) : sx (lx (lsA S A) j) m = sx S (nn A j m) := by
  rw [lx_ls hj, ← sx_get (by simpa using hm)]
  simp [nn, hm]
theorem map_er {α β : Type} (f : α → β) : ∀ (l : List α) (k : Nat), (l.eraseIdx k).map f = (l.map f).eraseIdx k
  | [], _ => rfl
  | _ :: _, 0 => rfl
  | a :: l, k + 1 => by simp [map_er f l k]
/-- The numbers without one. -/
def woA (A : List (List Nat)) (i k : Nat) : List (List Nat) := A.set i ((ax A i).eraseIdx k)
theorem woA_len (A : List (List Nat)) (i k : Nat) : (woA A i k).length = A.length := by simp [woA]
theorem ax_wo {A : List (List Nat)} {i : Nat} (hi : i < A.length) (k j : Nat) : ax (woA A i k) j = if j = i then (ax A i).eraseIdx k else ax A j := by
  unfold woA
  by_cases e : j = i
  · subst e; rw [if_pos rfl]; simp [ax, hi]
  · rw [if_neg e]; simp [ax, List.getElem?_set_ne (Ne.symm e)]
theorem ls_wo (S : List Sp) {A : List (List Nat)} {i : Nat} (hi : i < A.length) (k : Nat) : lsA S (woA A i k) = woM (lsA S A) i k := by
  unfold woA woM
  rw [lx_ls hi]
  unfold lsA
  rw [List.map_set, map_er]
theorem nn_er {A : List (List Nat)} {i k : Nat} (hi : i < A.length) (hk : k < (ax A i).length) (j m : Nat) : nn (woA A i k) j m = nn A j (if j = i ∧ k ≤ m then m + 1 else m) := by
  unfold nn
  rw [ax_wo hi]
  by_cases e : j = i
  · subst e
    rw [if_pos rfl]
    simp only [List.getD_eq_getElem?_getD, List.getElem?_eraseIdx]
    by_cases c : m < k
    · have e2 : (if True ∧ k ≤ m then m + 1 else m) = m := if_neg (fun d => by omega)
      rw [e2, if_pos c]
    · have e2 : (if True ∧ k ≤ m then m + 1 else m) = m + 1 := if_pos ⟨trivial, by omega⟩
      rw [e2, if_neg c]
  · rw [if_neg e, if_neg (fun d => e d.1)]
theorem axl_wo {A : List (List Nat)} {i k : Nat} (hi : i < A.length) (hk : k < (ax A i).length) (j : Nat) : (ax (woA A i k) j).length = if j = i then (ax A i).length - 1 else (ax A j).length := by
  rw [ax_wo hi]
  split
  · rw [List.length_eraseIdx, if_pos hk]
  · rfl
def gn (G : List Bool) (y : Nat) : Bool := G.getD y true
def cl (C : List Nat) (x : Nat) : Nat := C.getD x 0
/-- What the program knows of its numbers. -/
structure NI (S : List Sp) (A : List (List Nat)) (G : List Bool) (C : List Nat) : Prop where
  gl : G.length = S.length
  cll : C.length = S.length
  lt : ∀ j, j < A.length → ∀ m, m < (ax A j).length → nn A j m < S.length
  inj : ∀ j, j < A.length → ∀ m, m < (ax A j).length → ∀ j', j' < A.length → ∀ m', m' < (ax A j').length → nn A j m = nn A j' m' → j = j' ∧ m = m'
  gone : ∀ y, y < S.length → (gn G y = false ↔ ∃ j m, j < A.length ∧ m < (ax A j).length ∧ nn A j m = y)
  clr : ∀ j, j < A.length → ∀ m, 0 < m → m + 1 < (ax A j).length → ∀ y, y < cl C (nn A j m) → gn G y = false → sx S y = sx S (nn A j (m - 1)) ∨ sx S y = sx S (nn A j m) ∨ sx S y = sx S (nn A j (m + 1)) ∨ ¬ inP (sx S (nn A j (m - 1))) (sx S (nn A j m)) (sx S (nn A j (m + 1))) (sx S y)
  cb : ∀ x, x < S.length → cl C x ≤ S.length
section
variable {S : List Sp} {A : List (List Nat)} {G : List Bool} {C : List Nat} (h : NI S A G C)
include h
theorem NI.em (a b c : Sp) : emP (lsA S A) a b c ↔ ∀ y, y < S.length → gn G y = false → sx S y = a ∨ sx S y = b ∨ sx S y = c ∨ ¬ inP a b c (sx S y) := by
  unfold emP
  rw [ls_len]
  constructor
  · intro hh y hy hg
    obtain ⟨j, m, hj, hm, e⟩ := (h.gone y hy).1 hg
    have := hh j hj m (by rw [lx_lsl hj]; exact hm)
    rw [sx_ls hj hm, e] at this
    exact this
  · intro hh j hj m hm
    rw [lx_lsl hj] at hm
    rw [sx_ls hj hm]
    exact hh _ (h.lt j hj m hm) ((h.gone _ (h.lt j hj m hm)).2 ⟨j, m, hj, hm, rfl⟩)
theorem NI.set {j m v : Nat} (hj : j < A.length) (h0 : 0 < m) (hm : m + 1 < (ax A j).length) (hv : v ≤ S.length) (hh : ∀ y, y < v → gn G y = false → sx S y = sx S (nn A j (m - 1)) ∨ sx S y = sx S (nn A j m) ∨ sx S y = sx S (nn A j (m + 1)) ∨ ¬ inP (sx S (nn A j (m - 1))) (sx S (nn A j m)) (sx S (nn A j (m + 1))) (sx S y)) : NI S A G (C.set (nn A j m) v) := by
  have hc : ∀ x, cl (C.set (nn A j m) v) x = if x = nn A j m ∧ x < C.length then v else cl C x := by
    intro x
    unfold cl
    simp only [List.getD_eq_getElem?_getD, List.getElem?_set]
    by_cases e : nn A j m = x
    · subst e
      by_cases e2 : nn A j m < C.length
      · simp [e2]
      · simp [e2]
    · rw [if_neg e, if_neg (fun d => e d.1.symm)]
  refine ⟨h.gl, by rw [List.length_set]; exact h.cll, h.lt, h.inj, h.gone, ?_, ?_⟩
  · intro j' hj' m' h0' hm' y hy hg
    rw [hc] at hy
    split at hy
    · rename_i e
      obtain ⟨rfl, rfl⟩ := h.inj j' hj' m' (by omega) j hj m (by omega) e.1
      exact hh y hy hg
    · exact h.clr j' hj' m' h0' hm' y hy hg
  · intro x hx
    rw [hc]
    split
    · exact hv
    · exact h.cb x hx
theorem NI.drop {i k : Nat} (hi : i < A.length) (h0 : 0 < k) (hk : k + 1 < (ax A i).length) : NI S (woA A i k) (G.set (nn A i k) true) ((C.set (nn A i (k - 1)) 0).set (nn A i (k + 1)) 0) := by
  have hkl : k < (ax A i).length := by omega
  have hx := h.lt i hi k hkl
  have hgn : ∀ y, y < S.length → (gn (G.set (nn A i k) true) y = false ↔ gn G y = false ∧ ¬ y = nn A i k) := by
    intro y hy
    unfold gn
    simp only [List.getD_eq_getElem?_getD, List.getElem?_set]
    by_cases e : nn A i k = y
    · subst e
      have : nn A i k < G.length := by rw [h.gl]; exact hx
      simp [this]
    · rw [if_neg e]
      exact ⟨fun z => ⟨z, fun d => e d.symm⟩, fun z => z.1⟩
  have hcl : ∀ x, cl ((C.set (nn A i (k - 1)) 0).set (nn A i (k + 1)) 0) x = if x = nn A i (k - 1) ∨ x = nn A i (k + 1) then 0 else cl C x := by
    intro x
    unfold cl
    simp only [List.getD_eq_getElem?_getD, List.getElem?_set]
    by_cases e : nn A i (k + 1) = x
    · have hr : (if x = nn A i (k - 1) ∨ x = nn A i (k + 1) then 0 else C[x]?.getD 0) = 0 := if_pos (.inr e.symm)
      rw [hr, if_pos e]
      split <;> rfl
    · rw [if_neg e]
      by_cases e2 : nn A i (k - 1) = x
      · have hr : (if x = nn A i (k - 1) ∨ x = nn A i (k + 1) then 0 else C[x]?.getD 0) = 0 := if_pos (.inl e2.symm)
        rw [hr, if_pos e2]
        split <;> rfl
      · rw [if_neg e2, if_neg (fun d => d.elim (fun z => e2 z.symm) (fun z => e z.symm))]
  -- an old place for each new one
  have old : ∀ j, j < A.length → ∀ m, m < (ax (woA A i k) j).length → (if j = i ∧ k ≤ m then m + 1 else m) < (ax A j).length ∧ ¬ (j = i ∧ (if j = i ∧ k ≤ m then m + 1 else m) = k) := by
    intro j hj m hm
    rw [axl_wo hi hkl] at hm
    by_cases e : j = i
    · rw [if_pos e] at hm
      by_cases c : k ≤ m
      · rw [if_pos ⟨e, c⟩, e]; omega
      · rw [if_neg (fun d => c d.2), e]; omega
    · rw [if_neg e] at hm
      rw [if_neg (fun d => e d.1)]
      exact ⟨hm, fun d => e d.1⟩
  refine ⟨by rw [List.length_set]; exact h.gl, by rw [List.length_set, List.length_set]; exact h.cll, ?_, ?_, ?_, ?_, ?_⟩
  · intro j hj m hm
    rw [woA_len] at hj
    rw [nn_er hi hkl]
    exact h.lt j hj _ (old j hj m hm).1
  · intro j hj m hm j' hj' m' hm' e
    rw [woA_len] at hj hj'
    rw [nn_er hi hkl, nn_er hi hkl] at e
    obtain ⟨e1, e2⟩ := h.inj j hj _ (old j hj m hm).1 j' hj' _ (old j' hj' m' hm').1 e
    subst e1
    refine ⟨rfl, ?_⟩
    by_cases c : j = i
    · by_cases c1 : k ≤ m <;> by_cases c2 : k ≤ m' <;> simp [c, c1, c2] at e2 <;> omega
    · rw [if_neg (fun d => c d.1), if_neg (fun d => c d.1)] at e2
      exact e2
  · intro y hy
    rw [hgn y hy, h.gone y hy]
    constructor
    · rintro ⟨⟨j, m, hj, hm, e⟩, hne⟩
      by_cases c : j = i
      · subst c
        have hmk : ¬ m = k := fun d => hne (by rw [← e, d])
        by_cases c1 : m < k
        · refine ⟨j, m, by rw [woA_len]; exact hj, by rw [axl_wo hi hkl, if_pos rfl]; omega, ?_⟩
          rw [nn_er hi hkl, if_neg (fun d => by omega)]
          exact e
        · refine ⟨j, m - 1, by rw [woA_len]; exact hj, by rw [axl_wo hi hkl, if_pos rfl]; omega, ?_⟩
          rw [nn_er hi hkl, if_pos ⟨rfl, by omega⟩, show m - 1 + 1 = m by omega]
          exact e
      · refine ⟨j, m, by rw [woA_len]; exact hj, by rw [axl_wo hi hkl, if_neg c]; exact hm, ?_⟩
        rw [nn_er hi hkl, if_neg (fun d => c d.1)]
        exact e
    · rintro ⟨j, m, hj, hm, e⟩
      rw [woA_len] at hj
      rw [nn_er hi hkl] at e
      obtain ⟨o1, o2⟩ := old j hj m hm
      refine ⟨⟨j, _, hj, o1, e⟩, fun d => o2 ?_⟩
      exact h.inj j hj _ o1 i hi k hkl (e.trans d)
  · intro j hj m hm0 hm y hy hg
    rw [woA_len] at hj
    have hy2 : y < S.length ∨ ¬ y < S.length := Classical.em _
    have hgy : gn G y = false := by
      rcases hy2 with c | c
      · exact ((hgn y c).1 hg).1
      · exfalso
        have : gn (G.set (nn A i k) true) y = true := by unfold gn; simp [List.getElem?_eq_none (show (G.set (nn A i k) true).length ≤ y by rw [List.length_set, h.gl]; omega)]
        rw [this] at hg; cases hg
    rw [hcl] at hy
    split at hy
    · omega
    · rename_i hne
      rw [axl_wo hi hkl] at hm
      rw [nn_er hi hkl] at hne hy
      rw [nn_er hi hkl, nn_er hi hkl, nn_er hi hkl]
      by_cases e : j = i
      · subst e
        rw [if_pos rfl] at hm
        rcases Nat.lt_or_ge m k with c | c
        · rw [if_neg (fun d => by omega)] at hne hy
          have : ¬ m = k - 1 := fun d => hne (.inl (by rw [d]))
          rw [if_neg (fun d => by omega), if_neg (fun d => by omega), if_neg (fun d => by omega)]
          exact h.clr j hj m hm0 (by omega) y hy hgy
        · rw [if_pos ⟨rfl, c⟩] at hne hy
          have : ¬ m = k := fun d => hne (.inr (by rw [d]))
          rw [if_pos ⟨rfl, by omega⟩, if_pos ⟨rfl, by omega⟩, if_pos ⟨rfl, by omega⟩, show m - 1 + 1 = m + 1 - 1 by omega]
          exact h.clr j hj (m + 1) (by omega) (by omega) y hy hgy
      · rw [if_neg e] at hm
        rw [if_neg (fun d => e d.1)] at hne hy
        rw [if_neg (fun d => e d.1), if_neg (fun d => e d.1), if_neg (fun d => e d.1)]
        exact h.clr j hj m hm0 hm y hy hgy
  · intro x hx
    rw [hcl]
    split
    · omega
    · exact h.cb x hx
end
end Go.Proofs.YtnadgoomkaldkaaDoor
