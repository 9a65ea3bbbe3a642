/-
  Which rings are simple: the reference's words and the program's. No Go text is named here.
-/
import Derived.Test.YtnadgoomkaldkaaDoorQJ4
import Derived.Test.YtnadgoomkaldkaaDoorQJ5
namespace Go.Proofs.YtnadgoomkaldkaaDoor
open Go.RowKit

theorem hs_fst (p q : Sp) : hsP (p, q) p := by
  refine ⟨by unfold tn; dsimp only; grind, ?_⟩
  unfold nrP; dsimp only; omega
theorem hs_snd (p q : Sp) : hsP (p, q) q := by
  refine ⟨by unfold tn; dsimp only; grind, ?_⟩
  unfold nrP; dsimp only; omega
theorem wth_mem (l : List Sp) (p x : Sp) : x ∈ wthL l p ↔ x ∈ l ∨ x = p := by
  unfold wthL
  split
  · constructor
    · exact fun h => .inl h
    · rintro (h | rfl)
      · exact h
      · assumption
  · rw [List.mem_append, List.mem_singleton]
theorem wth_nodup {l : List Sp} (h : l.Nodup) (p : Sp) : (wthL l p).Nodup := by
  unfold wthL
  split
  · exact h
  · rename_i hn
    rw [List.nodup_append]
    refine ⟨h, by simp, fun a ha b hb => ?_⟩
    rw [List.mem_singleton] at hb
    rintro rfl
    exact hn (hb ▸ ha)
theorem cm_mem (p q r s x : Sp) : x ∈ cm4 p q r s ↔ (x = r ∧ hsP (p, q) r) ∨ (x = s ∧ hsP (p, q) s) ∨ (x = p ∧ hsP (r, s) p) ∨ (x = q ∧ hsP (r, s) q) := by
  have e1 : x ∈ cm1 p q r s ↔ (x = r ∧ hsP (p, q) r) := by
    unfold cm1; split
    · rename_i h; rw [wth_mem]; simp [h]
    · rename_i h; simp [h]
  have e2 : x ∈ cm2 p q r s ↔ (x = r ∧ hsP (p, q) r) ∨ (x = s ∧ hsP (p, q) s) := by
    unfold cm2; split
    · rename_i h; rw [wth_mem, e1]; simp [h]
    · rename_i h; rw [e1]; simp [h]
  have e3 : x ∈ cm3 p q r s ↔ ((x = r ∧ hsP (p, q) r) ∨ (x = s ∧ hsP (p, q) s)) ∨ (x = p ∧ hsP (r, s) p) := by
    unfold cm3; split
    · rename_i h; rw [wth_mem, e2]; simp [h]
    · rename_i h; rw [e2]; simp [h]
  have e4 : x ∈ cm4 p q r s ↔ (((x = r ∧ hsP (p, q) r) ∨ (x = s ∧ hsP (p, q) s)) ∨ (x = p ∧ hsP (r, s) p)) ∨ (x = q ∧ hsP (r, s) q) := by
    unfold cm4; split
    · rename_i h; rw [wth_mem, e3]; simp [h]
    · rename_i h; rw [e3]; simp [h]
  rw [e4, or_assoc, or_assoc]
theorem cm_nodup (p q r s : Sp) : (cm4 p q r s).Nodup := by
  have e1 : (cm1 p q r s).Nodup := by unfold cm1; split; exact wth_nodup (by simp) _; simp
  have e2 : (cm2 p q r s).Nodup := by unfold cm2; split; exact wth_nodup e1 _; exact e1
  have e3 : (cm3 p q r s).Nodup := by unfold cm3; split; exact wth_nodup e2 _; exact e2
  unfold cm4; split; exact wth_nodup e3 _; exact e3
theorem two_mem {l : List Sp} {x y : Sp} (hx : x ∈ l) (hy : y ∈ l) (h : ¬ x = y) : 1 < l.length := by
  match l, hx, hy with
  | [a], hx, hy => rw [List.mem_singleton] at hx hy; exact absurd (hx.trans hy.symm) h
  | a :: b :: l, _, _ => simp
theorem one_mem {l : List Sp} (hn : l.Nodup) {x : Sp} (hx : x ∈ l) (h : ∀ y ∈ l, y = x) : l = [x] := by
  match l, hn, hx, h with
  | [a], _, hx, _ => rw [List.mem_singleton] at hx; rw [hx]
  | a :: b :: l, hn, _, h =>
    have h1 := h a (by simp)
    have h2 := h b (by simp)
    rw [h1, h2] at hn
    simp at hn
theorem cmN_2 {p q r s x y : Sp} (hx : x ∈ cm4 p q r s) (hy : y ∈ cm4 p q r s) (h : ¬ x = y) : cmN p q r s = 2 := by
  unfold cmN; rw [if_pos (two_mem hx hy h)]
theorem cmN_1 {p q r s x : Sp} (hx : x ∈ cm4 p q r s) (h : ∀ y ∈ cm4 p q r s, y = x) : cmN p q r s = 1 ∧ cmA p q r s = x := by
  have e := one_mem (cm_nodup p q r s) hx h
  unfold cmN cmA
  rw [e]
  exact ⟨rfl, rfl⟩
theorem cmN_0 {p q r s : Sp} (h : ∀ x, ¬ x ∈ cm4 p q r s) : cmN p q r s = if crX p q r s then 2 else 0 := by
  have e : cm4 p q r s = [] := List.eq_nil_iff_forall_not_mem.2 h
  unfold cmN
  rw [e]
  rfl
theorem sg_neg (x y : Int) : sg x * sg y < 0 ↔ (x < 0 ∧ 0 < y) ∨ (0 < x ∧ y < 0) := by
  unfold sg
  by_cases a : 0 < x
  · rw [if_pos a]
    by_cases b : 0 < y
    · rw [if_pos b]; omega
    · rw [if_neg b]
      by_cases c : y < 0
      · rw [if_pos c]; omega
      · rw [if_neg c]; omega
  · rw [if_neg a]
    by_cases d : x < 0
    · rw [if_pos d]
      by_cases b : 0 < y
      · rw [if_pos b]; omega
      · rw [if_neg b]
        by_cases c : y < 0
        · rw [if_pos c]; omega
        · rw [if_neg c]; omega
    · rw [if_neg d]; omega
theorem cr_pt (p q r s : Sp) : crX p q r s ↔ ptP (p, q) (r, s) ∧ ptP (r, s) (p, q) := by
  unfold crX ptP
  rw [sg_neg, sg_neg]
/-- Weighted means of two pairs of numbers, with the same weight in all, lie in both pairs' ranges. -/
theorem mean_in {a b c d x y u v : Int} (ha : 0 < a) (hb : 0 < b) (hc : 0 < c) (hd : 0 < d) (he : a + b = c + d) (h : a * x + b * y = c * u + d * v) : min u v ≤ max x y := by
  rcases Int.lt_or_le (max x y) (min u v) with k | k
  · exfalso
    obtain ⟨m, hm⟩ : ∃ m, m = max x y := ⟨_, rfl⟩
    have x1 : x ≤ m := by omega
    have y1 : y ≤ m := by omega
    have u1 : m + 1 ≤ u := by omega
    have v1 : m + 1 ≤ v := by omega
    have p1 := Int.mul_le_mul_of_nonneg_left x1 (Int.le_of_lt ha)
    have p2 := Int.mul_le_mul_of_nonneg_left y1 (Int.le_of_lt hb)
    have p3 := Int.mul_le_mul_of_nonneg_left u1 (Int.le_of_lt hc)
    have p4 := Int.mul_le_mul_of_nonneg_left v1 (Int.le_of_lt hd)
    have e1 : a * m + b * m = (a + b) * m := by grind
    have e2 : c * (m + 1) + d * (m + 1) = (c + d) * m + (c + d) := by grind
    rw [← he] at e2
    omega
  · exact k
/-- Pieces that cross lie near each other. -/
theorem cross_near {p q r s : Sp} (h1 : ptP (p, q) (r, s)) (h2 : ptP (r, s) (p, q)) : nrP (r, s) (p, q) := by
  obtain ⟨a, ha⟩ : ∃ a, a = tn r s p := ⟨_, rfl⟩
  obtain ⟨b, hb⟩ : ∃ b, b = tn r s q := ⟨_, rfl⟩
  obtain ⟨c, hc⟩ : ∃ c, c = tn p q r := ⟨_, rfl⟩
  obtain ⟨d, hd⟩ : ∃ d, d = tn p q s := ⟨_, rfl⟩
  have e1 : b - a = c - d := by rw [ha, hb, hc, hd]; unfold tn; grind
  have e2 : b * p.1 - a * q.1 = c * s.1 - d * r.1 := by rw [ha, hb, hc, hd]; unfold tn; grind
  have e3 : b * p.2 - a * q.2 = c * s.2 - d * r.2 := by rw [ha, hb, hc, hd]; unfold tn; grind
  unfold ptP at h1 h2
  dsimp only at h1 h2
  rw [← hc, ← hd] at h1
  rw [← ha, ← hb] at h2
  clear ha hb hc hd
  unfold nrP
  dsimp only
  rcases h2 with ⟨k1, k2⟩ | ⟨k1, k2⟩
  · have c1 : 0 < c := by omega
    have d1 : d < 0 := by omega
    have x1 := mean_in (a := b) (b := -a) (c := -d) (d := c) (x := p.1) (y := q.1) (u := r.1) (v := s.1) k2 (by omega) (by omega) c1 (by omega) (by grind)
    have x2 := mean_in (a := -d) (b := c) (c := b) (d := -a) (x := r.1) (y := s.1) (u := p.1) (v := q.1) (by omega) c1 k2 (by omega) (by omega) (by grind)
    have x3 := mean_in (a := b) (b := -a) (c := -d) (d := c) (x := p.2) (y := q.2) (u := r.2) (v := s.2) k2 (by omega) (by omega) c1 (by omega) (by grind)
    have x4 := mean_in (a := -d) (b := c) (c := b) (d := -a) (x := r.2) (y := s.2) (u := p.2) (v := q.2) (by omega) c1 k2 (by omega) (by omega) (by grind)
    exact ⟨⟨x2, x1⟩, x4, x3⟩
  · have c1 : c < 0 := by omega
    have d1 : 0 < d := by omega
    have x1 := mean_in (a := -b) (b := a) (c := d) (d := -c) (x := p.1) (y := q.1) (u := r.1) (v := s.1) (by omega) k1 d1 (by omega) (by omega) (by grind)
    have x2 := mean_in (a := d) (b := -c) (c := -b) (d := a) (x := r.1) (y := s.1) (u := p.1) (v := q.1) d1 (by omega) (by omega) k1 (by omega) (by grind)
    have x3 := mean_in (a := -b) (b := a) (c := d) (d := -c) (x := p.2) (y := q.2) (u := r.2) (v := s.2) (by omega) k1 d1 (by omega) (by omega) (by grind)
    have x4 := mean_in (a := d) (b := -c) (c := -b) (d := a) (x := r.2) (y := s.2) (u := p.2) (v := q.2) d1 (by omega) (by omega) k1 (by omega) (by grind)
    exact ⟨⟨x2, x1⟩, x4, x3⟩
theorem hs_near {A B : Pc} {x : Sp} (h1 : hsP A x) (h2 : x = B.1 ∨ x = B.2) : nrP A B ∧ nrP B A := by
  have := h1.2
  unfold nrP at this ⊢
  dsimp only at this
  rcases h2 with rfl | rfl <;> omega
/-- Two pieces that have no end in common. -/
theorem meet_apart {p q r s : Sp} (h1 : ¬ p = r) (h2 : ¬ p = s) (h3 : ¬ q = r) (h4 : ¬ q = s) : mtP (r, s) (p, q) ↔ ¬ cmN p q r s = 0 := by
  have hm := cm_mem p q r s
  by_cases c : ∃ x, x ∈ cm4 p q r s
  · obtain ⟨x, hx⟩ := c
    have hn : ¬ cmN p q r s = 0 := by
      intro e
      by_cases k : ∀ y ∈ cm4 p q r s, y = x
      · rw [(cmN_1 hx k).1] at e; cases e
      · simp only [Classical.not_forall] at k
        obtain ⟨y, hy, hne⟩ := k
        rw [cmN_2 hy hx hne] at e; cases e
    refine ⟨fun _ => hn, fun _ => ?_⟩
    rcases (hm x).1 hx with ⟨rfl, k⟩ | ⟨rfl, k⟩ | ⟨rfl, k⟩ | ⟨rfl, k⟩
    · exact ⟨(hs_near k (.inl rfl)).2, .inr (.inr (.inr (.inl ⟨⟨fun e => h1 e.symm, fun e => h3 e.symm⟩, k⟩)))⟩
    · exact ⟨(hs_near k (.inr rfl)).2, .inr (.inr (.inr (.inr (.inl ⟨⟨fun e => h2 e.symm, fun e => h4 e.symm⟩, k⟩))))⟩
    · exact ⟨(hs_near k (.inl rfl)).1, .inr (.inl ⟨⟨h1, h2⟩, k⟩)⟩
    · exact ⟨(hs_near k (.inr rfl)).1, .inr (.inr (.inl ⟨⟨h3, h4⟩, k⟩))⟩
  · have c' : ∀ x, ¬ x ∈ cm4 p q r s := fun x hx => c ⟨x, hx⟩
    have k1 : ¬ hsP (p, q) r := fun k => c' r ((hm r).2 (.inl ⟨rfl, k⟩))
    have k2 : ¬ hsP (p, q) s := fun k => c' s ((hm s).2 (.inr (.inl ⟨rfl, k⟩)))
    have k3 : ¬ hsP (r, s) p := fun k => c' p ((hm p).2 (.inr (.inr (.inl ⟨rfl, k⟩))))
    have k4 : ¬ hsP (r, s) q := fun k => c' q ((hm q).2 (.inr (.inr (.inr ⟨rfl, k⟩))))
    rw [cmN_0 c']
    by_cases x : crX p q r s
    · rw [if_pos x]
      have := (cr_pt p q r s).1 x
      exact ⟨fun _ => by decide, fun _ => ⟨cross_near this.1 this.2, .inl ⟨this.2, this.1⟩⟩⟩
    · rw [if_neg x]
      refine ⟨fun h => ?_, fun h => absurd rfl h⟩
      rcases h.2 with k | k | k | k | k | k
      · exact absurd ((cr_pt p q r s).2 ⟨k.2, k.1⟩) x
      · exact absurd k.2 k3
      · exact absurd k.2 k4
      · exact absurd k.2 k1
      · exact absurd k.2 k2
      · rcases k with k | k
        · have := congrArg Prod.fst k; exact absurd this.symm h1
        · have := congrArg Prod.fst k; exact absurd this.symm h3
/-- Two pieces, the second one's beginning the first one's end. -/
theorem meet_next {p q s : Sp} (h1 : ¬ p = q) (h2 : ¬ q = s) (h3 : ¬ p = s) : (mtP (q, s) (p, q) ↔ cmN p q q s = 2) ∧ (¬ cmN p q q s = 2 → cmN p q q s = 1 ∧ cmA p q q s = q) := by
  have hm := cm_mem p q q s
  have hq : q ∈ cm4 p q q s := (hm q).2 (.inl ⟨rfl, hs_snd p q⟩)
  by_cases c : hsP (p, q) s ∨ hsP (q, s) p
  · have h2' : cmN p q q s = 2 := by
      rcases c with k | k
      · exact cmN_2 hq ((hm s).2 (.inr (.inl ⟨rfl, k⟩))) h2
      · exact cmN_2 hq ((hm p).2 (.inr (.inr (.inl ⟨rfl, k⟩)))) (fun e => h1 e.symm)
    refine ⟨⟨fun _ => h2', fun _ => ?_⟩, fun h => absurd h2' h⟩
    rcases c with k | k
    · exact ⟨(hs_near k (.inr rfl)).2, .inr (.inr (.inr (.inr (.inl ⟨⟨fun e => h3 e.symm, fun e => h2 e.symm⟩, k⟩))))⟩
    · exact ⟨(hs_near k (.inl rfl)).1, .inr (.inl ⟨⟨h1, h3⟩, k⟩)⟩
  · have hone := cmN_1 hq (fun y hy => by
      rcases (hm y).1 hy with ⟨rfl, k⟩ | ⟨rfl, k⟩ | ⟨rfl, k⟩ | ⟨rfl, k⟩
      · rfl
      · exact absurd (.inl k) c
      · exact absurd (.inr k) c
      · rfl)
    refine ⟨⟨fun h => ?_, fun h => by rw [hone.1] at h; cases h⟩, fun _ => hone⟩
    exfalso
    rcases h.2 with k | k | k | k | k | k
    · have := k.1
      unfold ptP at this
      dsimp only at this
      have e : tn q s q = 0 := by unfold tn; grind
      omega
    · exact c (.inr k.2)
    · exact k.1.1 rfl
    · exact k.1.2 rfl
    · exact c (.inl k.2)
    · rcases k with k | k
      · have := congrArg Prod.fst k; exact h1 this.symm
      · have := congrArg Prod.snd k; exact h3 this.symm
/-- Two pieces, the second one's end the first one's beginning. -/
theorem meet_round {p q r : Sp} (h1 : ¬ p = q) (h2 : ¬ r = p) (h3 : ¬ q = r) : (mtP (r, p) (p, q) ↔ cmN p q r p = 2) ∧ (¬ cmN p q r p = 2 → cmN p q r p = 1 ∧ cmA p q r p = p) := by
  have hm := cm_mem p q r p
  have hq : p ∈ cm4 p q r p := (hm p).2 (.inr (.inl ⟨rfl, hs_fst p q⟩))
  by_cases c : hsP (p, q) r ∨ hsP (r, p) q
  · have h2' : cmN p q r p = 2 := by
      rcases c with k | k
      · exact cmN_2 ((hm r).2 (.inl ⟨rfl, k⟩)) hq h2
      · exact cmN_2 hq ((hm q).2 (.inr (.inr (.inr ⟨rfl, k⟩)))) h1
    refine ⟨⟨fun _ => h2', fun _ => ?_⟩, fun h => absurd h2' h⟩
    rcases c with k | k
    · exact ⟨(hs_near k (.inl rfl)).2, .inr (.inr (.inr (.inl ⟨⟨h2, fun e => h3 e.symm⟩, k⟩)))⟩
    · exact ⟨(hs_near k (.inr rfl)).1, .inr (.inr (.inl ⟨⟨h3, fun e => h1 e.symm⟩, k⟩))⟩
  · have hone := cmN_1 hq (fun y hy => by
      rcases (hm y).1 hy with ⟨rfl, k⟩ | ⟨rfl, k⟩ | ⟨rfl, k⟩ | ⟨rfl, k⟩
      · exact absurd (.inl k) c
      · rfl
      · rfl
      · exact absurd (.inr k) c)
    refine ⟨⟨fun h => ?_, fun h => by rw [hone.1] at h; cases h⟩, fun _ => hone⟩
    exfalso
    rcases h.2 with k | k | k | k | k | k
    · have := k.1
      unfold ptP at this
      dsimp only at this
      have e : tn r p p = 0 := by unfold tn; grind
      omega
    · exact k.1.2 rfl
    · exact c (.inr k.2)
    · exact c (.inl k.2)
    · exact k.1.1 rfl
    · rcases k with k | k
      · have := congrArg Prod.fst k; exact h2 this
      · have := congrArg Prod.fst k; exact h3 this.symm
theorem eg_px {l : List Sp} (h : 1 ≤ l.length) {i : Nat} (hi : i < l.length) : px (eg l) i = ed l i := by
  have hl : i < (eg l).length := by rw [eg_len h]; exact hi
  rw [← px_get hl]
  simp only [eg_ed h, List.getElem_map, List.getElem_range]
theorem sx_inj {l : List Sp} (h : l.Nodup) {i j : Nat} (hi : i < l.length) (hj : j < l.length) (e : sx l i = sx l j) : i = j := by
  rcases Nat.lt_trichotomy i j with c | c | c
  · have := (List.pairwise_iff_getElem.1 h) i j hi hj c
    rw [sx_get hi, sx_get hj] at this
    exact absurd e this
  · exact c
  · have := (List.pairwise_iff_getElem.1 h) j i hj hi c
    rw [sx_get hi, sx_get hj] at this
    exact absurd e.symm this
theorem nxt_ne {l : List Sp} (h : rgP l) {i : Nat} (hi : i < l.length) : ¬ sx l i = sx l ((i + 1) % l.length) := by
  have h3 := h.1
  have hk := (rek_rg h3).2 h i hi
  unfold nx at hk
  by_cases c : i + 1 = l.length
  · rw [if_pos c] at hk
    rw [c, Nat.mod_self]
    exact hk.2
  · rw [if_neg c] at hk
    rw [Nat.mod_eq_of_lt (by omega)]
    exact hk.2
/-- The reference's simple rings are the program's. -/
theorem simple_iff {l : List Sp} (h : rgP l) : smP l ↔ l.Nodup ∧ ¬ tgP (eg l) := by
  have h3 := h.1
  have h1 : 1 ≤ l.length := by omega
  by_cases hn : l.Nodup
  · have key : ∀ i, i < l.length → ∀ k, k < i → (bdP l k i ↔ mtP (px (eg l) i) (px (eg l) k)) := by
      intro i hi k hk
      have hkl : k < l.length := by omega
      rw [eg_px h1 hi, eg_px h1 hkl]
      unfold ed bdP
      have n1 := nxt_ne h hi
      have n2 := nxt_ne h hkl
      have m1 : (k + 1) % l.length < l.length := nxm_lt hkl
      have m2 : (i + 1) % l.length < l.length := nxm_lt hi
      by_cases c1 : k + 1 = i
      · have e1 : (k + 1) % l.length = i := by rw [c1]; exact Nat.mod_eq_of_lt hi
        rw [e1] at n2 ⊢
        have c2 : ¬ (i + 1) % l.length = k := by
          intro e
          rcases Nat.lt_or_ge (i + 1) l.length with c | c
          · rw [Nat.mod_eq_of_lt c] at e; omega
          · have : i + 1 = l.length := by omega
            rw [this, Nat.mod_self] at e; omega
        have n3 : ¬ sx l k = sx l ((i + 1) % l.length) := fun e => c2 (sx_inj hn hkl m2 e).symm
        have hx := meet_next n2 n1 n3
        rw [hx.1]
        constructor
        · rintro (e | ⟨e, k1, _⟩)
          · exact e
          · exact absurd ⟨c1, (hx.2 (by omega)).2⟩ k1
        · exact fun e => .inl e
      · by_cases c2 : (i + 1) % l.length = k
        · rw [c2] at n1 ⊢
          have n3 : ¬ sx l ((k + 1) % l.length) = sx l i := by
            intro e
            have := sx_inj hn m1 hi e
            rcases Nat.lt_or_ge (k + 1) l.length with c | c
            · rw [Nat.mod_eq_of_lt c] at this; exact c1 this
            · omega
          have hx := meet_round n2 n1 n3
          rw [hx.1]
          constructor
          · rintro (e | ⟨e, _, k1⟩)
            · exact e
            · exact absurd ⟨rfl, (hx.2 (by omega)).2⟩ k1
          · exact fun e => .inl e
        · have n3 : ¬ sx l k = sx l i := fun e => by have := sx_inj hn hkl hi e; omega
          have n4 : ¬ sx l k = sx l ((i + 1) % l.length) := fun e => c2 (sx_inj hn hkl m2 e).symm
          have n5 : ¬ sx l ((k + 1) % l.length) = sx l i := by
            intro e
            have := sx_inj hn m1 hi e
            rcases Nat.lt_or_ge (k + 1) l.length with c | c
            · rw [Nat.mod_eq_of_lt c] at this; exact c1 this
            · omega
          have n6 : ¬ sx l ((k + 1) % l.length) = sx l ((i + 1) % l.length) := by
            intro e
            have e2 := sx_inj hn m1 m2 e
            rw [Nat.mod_eq_of_lt (show k + 1 < l.length by omega)] at e2
            rcases Nat.lt_or_ge (i + 1) l.length with c | c
            · rw [Nat.mod_eq_of_lt c] at e2; omega
            · have : i + 1 = l.length := by omega
              rw [this, Nat.mod_self] at e2; omega
          rw [meet_apart n3 n4 n5 n6]
          have h2 := cmN_two (sx l k) (sx l ((k + 1) % l.length)) (sx l i) (sx l ((i + 1) % l.length))
          constructor
          · rintro (e | ⟨e, _⟩) <;> omega
          · intro e
            rcases h2 with h2 | h2 | h2
            · exact absurd h2 e
            · exact .inr ⟨h2, fun k1 => c1 k1.1, fun k1 => c2 k1.1⟩
            · exact .inl h2
    constructor
    · refine fun hs => ⟨hn, ?_⟩
      rintro ⟨i, hi, k, hk, hm⟩
      rw [eg_len h1] at hi
      exact hs i hi k hk ((key i hi k hk).2 hm)
    · rintro ⟨_, ht⟩ i hi k hk hb
      exact ht ⟨i, by rw [eg_len h1]; exact hi, k, hk, (key i hi k hk).1 hb⟩
  · constructor
    · intro hs
      exfalso
      apply hn
      refine List.pairwise_iff_getElem.2 fun a b ha hb hab e => ?_
      rw [sx_get ha, sx_get hb] at e
      refine hs b hb a hab ?_
      have n1 := nxt_ne h ha
      have n2 := nxt_ne h hb
      have c1 : ¬ a + 1 = b := by
        intro c
        rw [c, Nat.mod_eq_of_lt hb] at n1
        exact n1 e
      have c2 : ¬ (b + 1) % l.length = a := fun c => by rw [c] at n2; exact n2 e.symm
      have hm := cm_mem (sx l a) (sx l ((a + 1) % l.length)) (sx l b) (sx l ((b + 1) % l.length))
      have hx : sx l b ∈ cm4 (sx l a) (sx l ((a + 1) % l.length)) (sx l b) (sx l ((b + 1) % l.length)) := (hm _).2 (.inl ⟨rfl, by rw [← e]; exact hs_fst _ _⟩)
      by_cases k : ∀ y ∈ cm4 (sx l a) (sx l ((a + 1) % l.length)) (sx l b) (sx l ((b + 1) % l.length)), y = sx l b
      · exact .inr ⟨(cmN_1 hx k).1, fun k1 => c1 k1.1, fun k1 => c2 k1.1⟩
      · simp only [Classical.not_forall] at k
        obtain ⟨y, hy, hne⟩ := k
        exact .inl (cmN_2 hy hx hne)
    · exact fun hx => absurd hx.1 hn
/-- The triangles' area is the edges'. -/
theorem area_eq {l : List Sp} (h : 2 ≤ l.length) : arK l (l.length - 2) = sw (eg l) := by
  have key : ∀ k, arK l k = sw (pk l (k + 1)) + cr (sx l (k + 1), sx l 0) := by
    intro k
    induction k with
    | zero => rw [pk_succ, sw_snoc]; simp [arK, pk, sw, cr]; grind
    | succ k ih =>
      rw [arK_succ, ih, pk_succ l (k + 1), sw_snoc]
      unfold cr tn
      dsimp only
      grind
  rw [key]
  unfold eg
  rw [show l.length - 2 + 1 = l.length - 1 by omega, sw_snoc]
end Go.Proofs.YtnadgoomkaldkaaDoor
