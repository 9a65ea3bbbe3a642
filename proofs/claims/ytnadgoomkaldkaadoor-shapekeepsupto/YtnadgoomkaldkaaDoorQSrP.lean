/-
  Which rings are simple: the reference's words and the program's. No Go text is named here.
-/
import Derived.Test.YtnadgoomkaldkaaDoorQJ4
import Derived.Test.YtnadgoomkaldkaaDoorQJ5
namespace Go.Proofs.YtnadgoomkaldkaaDoor
open Go.RowKit

theorem hs_fst (p q : Sp) : hsP (p, q) p := by
  refine ⟨by unfold tn; dsimp only; grind, ?_⟩
  unfold nrP; dsimp only; omega
theorem hs_snd (p q : Sp) : hsP (p, q) q := by
  refine ⟨by unfold tn; dsimp only; grind, ?_⟩
  unfold nrP; dsimp only; omega
theorem wth_mem (l : List Sp) (p x : Sp) : x ∈ wthL l p ↔ x ∈ l ∨ x = p := by
  unfold wthL
  split
  · constructor
    · exact fun h => .inl h
    · rintro (h | rfl)
      · exact h
      · assumption
  · rw [List.mem_append, List.mem_singleton]
theorem wth_nodup {l : List Sp} (h : l.Nodup) (p : Sp) : (wthL l p).Nodup := by
  unfold wthL
  split
  · exact h
  · rename_i hn
    rw [List.nodup_append]
    refine ⟨h, by simp, fun a ha b hb => ?_⟩
    rw [List.mem_singleton] at hb
    rintro rfl
    exact hn (hb ▸ ha)
theorem cm_mem (p q r s x : Sp) : x ∈ cm4 p q r s ↔ (x = r ∧ hsP (p, q) r) ∨ (x = s ∧ hsP (p, q) s) ∨ (x = p ∧ hsP (r, s) p) ∨ (x = q ∧ hsP (r, s) q) := by
  have e1 : x ∈ cm1 p q r s ↔ (x = r ∧ hsP (p, q) r) := by
    unfold cm1; split
    · rename_i h; rw [wth_mem]; simp [h]
    · rename_i h; simp [h]
  have e2 : x ∈ cm2 p q r s ↔ (x = r ∧ hsP (p, q) r) ∨ (x = s ∧ hsP (p, q) s) := by
    unfold cm2; split
    · rename_i h; rw [wth_mem, e1]; simp [h]
    · rename_i h; rw [e1]; simp [h]
  have e3 : x ∈ cm3 p q r s ↔ ((x = r ∧ hsP (p, q) r) ∨ (x = s ∧ hsP (p, q) s)) ∨ (x = p ∧ hsP (r, s) p) := by
    unfold cm3; split
    · rename_i h; rw [wth_mem, e2]; simp [h]
    · rename_i h; rw [e2]; simp [h]
  have e4 : x ∈ cm4 p q r s ↔ (((x = r ∧ hsP (p, q) r) ∨ (x = s ∧ hsP (p, q) s)) ∨ (x = p ∧ hsP (r, s) p)) ∨ (x = q ∧ hsP (r, s) q) := by
    unfold cm4; split
    · rename_i h; rw [wth_mem, e3]; simp [h]
    · rename_i h; rw [e3]; simp [h]
  rw [e4, or_assoc, or_assoc]
theorem cm_nodup (p q r s : Sp) : (cm4 p q r s).Nodup := by
  have e1 : (cm1 p q r s).Nodup := by unfold cm1; split; exact wth_nodup (by simp) _; simp
  have e2 : (cm2 p q r s).Nodup := by unfold cm2; split; exact wth_nodup e1 _; exact e1
  have e3 : (cm3 p q r s).Nodup := by unfold cm3; split; exact wth_nodup e2 _; exact e2
  unfold cm4; split; exact wth_nodup e3 _; exact e3
theorem two_mem {l : List Sp} {x y : Sp} (hx : x ∈ l) (hy : y ∈ l) (h : ¬ x = y) : 1 < l.length := by
  match l, hx, hy with
  | [a], hx, hy => rw [List.mem_singleton] at hx hy; exact absurd (hx.trans hy.symm) h
  | a :: b :: l, _, _ => simp
theorem one_mem {l : List Sp} (hn : l.Nodup) {x : Sp} (hx : x ∈ l) (h : ∀ y ∈ l, y = x) : l = [x] := by
  match l, hn, hx, h with
  | [a], _, hx, _ => rw [List.mem_singleton] at hx; rw [hx]
  | a :: b :: l, hn, _, h =>
    have h1 := h a (by simp)
    have h2 := h b (by simp)
    rw [h1, h2] at hn
    simp at hn
theorem cmN_2 {p q r s x y : Sp} (hx : x ∈ cm4 p q r s) (hy : y ∈ cm4 p q r s) (h : ¬ x = y) : cmN p q r s = 2 := by
  unfold cmN; rw [if_pos (two_mem hx hy h)]
theorem cmN_1 {p q r s x : Sp} (hx : x ∈ cm4 p q r s) (h : ∀ y ∈ cm4 p q r s, y = x) : cmN p q r s = 1 ∧ cmA p q r s = x := by
  have e := one_mem (cm_nodup p q r s) hx h
  unfold cmN cmA
  rw [e]
  exact ⟨rfl, rfl⟩
theorem cmN_0 {p q r s : Sp} (h : ∀ x, ¬ x ∈ cm4 p q r s) : cmN p q r s = if crX p q r s then 2 else 0 := by
  have e : cm4 p q r s = [] := List.eq_nil_iff_forall_not_mem.2 h
  unfold cmN
  rw [e]
  rfl
theorem sg_neg (x y : Int) : sg x * sg y < 0 ↔ (x < 0 ∧ 0 < y) ∨ (0 < x ∧ y < 0) := by
  unfold sg
  by_cases a : 0 < x
  · rw [if_pos a]
    by_cases b : 0 < y
    · rw [if_pos b]; omega
    · rw [if_neg b]
      by_cases c : y < 0
      · rw [if_pos c]; omega
      · rw [if_neg c]; omega
  · rw [if_neg a]
    by_cases d : x < 0
    · rw [if_pos d]
      by_cases b : 0 < y
      · rw [if_pos b]; omega
      · rw [if_neg b]
        by_cases c : y < 0
        · rw [if_pos c]; omega
        · rw [if_neg c]; omega
    · rw [if_neg d]; omega
theorem cr_pt (p q r s : Sp) : crX p q r s ↔ ptP (p, q) (r, s) ∧ ptP (r, s) (p, q) := by
  unfold crX ptP
  rw [sg_neg, sg_neg]
/-- Weighted means of two pairs of numbers, with the same weight in all, lie in both pairs' ranges. -/
theorem mean_in {a b c d x y u v : Int} (ha : 0 < a) (hb : 0 < b) (hc : 0 < c) (hd : 0 < d) (he : a + b = c + d) (h : a * x + b * y = c * u + d * v) : min u v ≤ max x y := by
  rcases Int.lt_or_le (max x y) (min u v) with k | k
  · exfalso
    obtain ⟨m, hm⟩ : ∃ m, m = max x y := ⟨_, rfl⟩
    have x1 : x ≤ m := by omega
    have y1 : y ≤ m := by omega
    have u1 : m + 1 ≤ u := by omega
    have v1 : m + 1 ≤ v := by omega
    have p1 := Int.mul_le_mul_of_nonneg_left x1 (Int.le_of_lt ha)
    have p2 := Int.mul_le_mul_of_nonneg_left y1 (Int.le_of_lt hb)
    have p3 := Int.mul_le_mul_of_nonneg_left u1 (Int.le_of_lt hc)
    have p4 := Int.mul_le_mul_of_nonneg_left v1 (Int.le_of_lt hd)
    have e1 : a * m + b * m = (a + b) * m := by grind
    have e2 : c * (m + 1) + d * (m + 1) = (c + d) * m + (c + d) := by grind
    rw [← he] at e2
    omega
  · exact k
/-- Pieces that cross lie near each other. -/
theorem cross_near {p q r s : Sp} (h1 : ptP (p, q) (r, s)) (h2 : ptP (r, s) (p, q)) : nrP (r, s) (p, q) := by
  obtain ⟨a, ha⟩ : ∃ a, a = tn r s p := ⟨_, rfl⟩
  obtain ⟨b, hb⟩ : ∃ b, b = tn r s q := ⟨_, rfl⟩
  obtain ⟨c, hc⟩ : ∃ c, c = tn p q r := ⟨_, rfl⟩
  obtain ⟨d, hd⟩ : ∃ d, d = tn p q s := ⟨_, rfl⟩
  have e1 : b - a = c - d := by rw [ha, hb, hc, hd]; unfold tn; grind
  have e2 : b * p.1 - a * q.1 = c * s.1 - d * r.1 := by rw [ha, hb, hc, hd]; unfold tn; grind
  have e3 : b * p.2 - a * q.2 = c * s.2 - d * r.2 := by rw [ha, hb, hc, hd]; unfold tn; grind
  unfold ptP at h1 h2
  dsimp only at h1 h2
  rw [← hc, ← hd] at h1
  rw [← ha, ← hb] at h2
  clear ha hb hc hd
  unfold nrP
  dsimp only
  rcases h2 with ⟨k1, k2⟩ | ⟨k1, k2⟩
  · have c1 : 0 < c := by omega
    have d1 : d < 0 := by omega
    have x1 := mean_in (a := b) (b := -a) (c := -d) (d := c) (x := p.1) (y := q.1) (u := r.1) (v := s.1) k2 (by omega) (by omega) c1 (by omega) (by grind)
    have x2 := mean_in (a := -d) (b := c) (c := b) (d := -a) (x := r.1) (y := s.1) (u := p.1) (v := q.1) (by omega) c1 k2 (by omega) (by omega) (by grind)
    have x3 := mean_in (a := b) (b := -a) (c := -d) (d := c) (x := p.2) (y := q.2) (u := r.2) (v := s.2) k2 (by omega) (by omega) c1 (by omega) (by grind)
    have x4 := mean_in (a := -d) (b := c) (c := b) (d := -a) (x := r.2) (y := s.2) (u := p.2) (v := q.2) (by omega) c1 k2 (by omega) (by omega) (by grind)
    exact ⟨⟨x2, x1⟩, x4, x3⟩
  · have c1 : c < 0 := by omega
    have d1 : 0 < d := by omega
    have x1 := mean_in (a := -b) (b := a) (c := d) (d := -c) (x := p.1) (y := q.1) (u := r.1) (v := s.1) (by omega) k1 d1 (by omega) (by omega) (by grind)
    have x2 := mean_in (a := d) (b := -c) (c := -b) (d := a) (x := r.1) (y := s.1) (u := p.1) (v := q.1) d1 (by omega) (by omega) k1 (by omega) (by grind)
    have x3 := mean_in (a := -b) (b := a) (c := d) (d := -c) (x := p.2) (y := q.2) (u := r.2) (v := s.2) (by omega) k1 d1 (by omega) (by omega) (by grind)
    have x4 := mean_in (a := d) (b := -c) (c := -b) (d := a) (x := r.2) (y := s.2) (u := p.2) (v := q.2) d1 (by omega) (by omega) k1 (by omega) (by grind)
    exact ⟨⟨x2, x1⟩, x4, x3⟩
theorem hs_near {A B : Pc} {x : Sp} (h1 : hsP A x) (h2 : x = B.1 ∨ x = B.2) : nrP A B ∧ nrP B A := by
  have := h1.2
  unfold nrP at this ⊢
  dsimp only at this
  rcases h2 with rfl | rfl <;> omega
end Go.Proofs.YtnadgoomkaldkaaDoor
