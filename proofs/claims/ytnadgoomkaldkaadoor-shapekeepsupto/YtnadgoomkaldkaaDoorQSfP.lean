/-
  Which maps are right: the reference's words and the program's. No Go text is named here.
-/
import Derived.Test.YtnadgoomkaldkaaDoorQSrP
import Derived.Test.YtnadgoomkaldkaaDoorQJ5
namespace Go.Proofs.YtnadgoomkaldkaaDoor
open Go.RowKit

/-- The pieces of an arc; the k-th of them. -/
def pcl (a : List Sp) : List Pc := pk a (a.length - 1)
def pcA (a : List Sp) (k : Nat) : Pc := (sx a k, sx a (k + 1))
def ppL (Ls : List (List Sp)) : List Pc := (Ls.map pcl).flatten
theorem lx_get {Ls : List (List Sp)} {i : Nat} (h : i < Ls.length) : Ls[i] = lx Ls i := by unfold lx; simp [h]
theorem pcl_len (a : List Sp) : (pcl a).length = a.length - 1 := pk_len _ _
theorem pcl_get {a : List Sp} {k : Nat} (h : k < (pcl a).length) : (pcl a)[k] = pcA a k := by simp [pcl, pk, pcA]
theorem tg_pair (L : List Pc) : tgP L ↔ ¬ L.Pairwise (fun A B => ¬ mtP B A) := by
  constructor
  · rintro ⟨i, hi, k, hk, hm⟩ hp
    have := (List.pairwise_iff_getElem.1 hp) k i (by omega) hi hk
    rw [px_get hi, px_get (show k < L.length by omega)] at this
    exact this hm
  · intro h
    refine Classical.byContradiction fun hn => h (List.pairwise_iff_getElem.2 fun k i hk hi hki hm => hn ⟨i, hi, k, hki, ?_⟩)
    rw [px_get hi, px_get hk] at hm
    exact hm
theorem flat_pair {α : Type} (R : α → α → Prop) (Ls : List (List α)) : Ls.flatten.Pairwise R ↔ (∀ i, (hi : i < Ls.length) → ∀ m k, (hm : m < Ls[i].length) → (hk : k < Ls[i].length) → m < k → R Ls[i][m] Ls[i][k]) ∧ (∀ j i, (hj : j < Ls.length) → (hi : i < Ls.length) → j < i → ∀ m k, (hm : m < Ls[j].length) → (hk : k < Ls[i].length) → R Ls[j][m] Ls[i][k]) := by
  rw [List.pairwise_flatten]
  constructor
  · rintro ⟨h1, h2⟩
    refine ⟨fun i hi m k hm hk hmk => (List.pairwise_iff_getElem.1 (h1 _ (List.getElem_mem hi))) m k hm hk hmk, fun j i hj hi hji m k hm hk => ?_⟩
    exact (List.pairwise_iff_getElem.1 h2) j i hj hi hji _ (List.getElem_mem hm) _ (List.getElem_mem hk)
  · rintro ⟨h1, h2⟩
    refine ⟨fun l hl => ?_, List.pairwise_iff_getElem.2 fun j i hj hi hji x hx y hy => ?_⟩
    · obtain ⟨i, hi, rfl⟩ := List.getElem_of_mem hl
      exact List.pairwise_iff_getElem.2 fun m k hm hk hmk => h1 i hi m k hm hk hmk
    · obtain ⟨m, hm, rfl⟩ := List.getElem_of_mem hx
      obtain ⟨k, hk, rfl⟩ := List.getElem_of_mem hy
      exact h2 j i hj hi hji m k hm hk
/-- Is one place ahead of another one? -/
def ahd (j m i k : Nat) : Prop := j < i ∨ (j = i ∧ m < k)
theorem tg_iff (Ls : List (List Sp)) : tgP (ppL Ls) ↔ ∃ i, i < Ls.length ∧ ∃ k, k + 1 < (lx Ls i).length ∧ ∃ j, j < Ls.length ∧ ∃ n, n + 1 < (lx Ls j).length ∧ ahd j n i k ∧ mtP (pcA (lx Ls i) k) (pcA (lx Ls j) n) := by
  rw [tg_pair]
  unfold ppL
  rw [flat_pair]
  have e : ∀ i, (hi : i < (Ls.map pcl).length) → (Ls.map pcl)[i] = pcl (lx Ls i) := fun i hi => by
    rw [List.getElem_map, lx_get]
  constructor
  · intro h
    refine Classical.byContradiction fun hn => h ⟨fun i hi m k hm hk hmk => ?_, fun j i hj hi hji m k hm hk => ?_⟩
    · have hi' : i < Ls.length := by simpa using hi
      simp only [e i hi] at hm hk ⊢
      rw [pcl_get hm, pcl_get hk]
      rw [pcl_len] at hm hk
      exact fun hx => hn ⟨i, hi', k, by omega, i, hi', m, by omega, .inr ⟨rfl, hmk⟩, hx⟩
    · have hi' : i < Ls.length := by simpa using hi
      have hj' : j < Ls.length := by simpa using hj
      simp only [e i hi, e j hj] at hm hk ⊢
      rw [pcl_get hm, pcl_get hk]
      rw [pcl_len] at hm hk
      exact fun hx => hn ⟨i, hi', k, by omega, j, hj', m, by omega, .inl hji, hx⟩
  · rintro ⟨i, hi, k, hk, j, hj, n, hn, ha, hx⟩ ⟨h1, h2⟩
    have hi' : i < (Ls.map pcl).length := by simpa using hi
    have hj' : j < (Ls.map pcl).length := by simpa using hj
    rcases ha with ha | ⟨rfl, ha⟩
    · have := h2 j i hj' hi' ha n k (by rw [e j hj', pcl_len]; omega) (by rw [e i hi', pcl_len]; omega)
      simp only [e i hi', e j hj'] at this
      rw [pcl_get, pcl_get] at this
      exact this hx
    · have := h1 j hi' n k (by rw [e j hi', pcl_len]; omega) (by rw [e j hi', pcl_len]; omega) ha
      simp only [e j hi'] at this
      rw [pcl_get, pcl_get] at this
      exact this hx
theorem cnt_pair (x : Sp) : ∀ F : List Sp, F.Pairwise (fun a b => ¬ (a = x ∧ b = x)) ↔ F.count x ≤ 1
  | [] => by simp
  | a :: F => by
    rw [List.pairwise_cons, cnt_pair x F, List.count_cons]
    by_cases c : a = x
    · subst c
      simp only [beq_self_eq_true, if_true, true_and]
      constructor
      · rintro ⟨h1, _⟩
        have : F.count a = 0 := List.count_eq_zero.2 (fun hm => h1 a hm rfl)
        omega
      · intro h
        have : F.count a = 0 := by omega
        exact ⟨fun b hb e => by subst e; exact List.count_eq_zero.1 this hb, by omega⟩
    · have : (a == x) = false := by simpa using c
      simp only [this, c, false_and, not_false_eq_true, implies_true, true_and]
      simp
theorem cnt_iff (Ls : List (List Sp)) (x : Sp) : 1 < Ls.flatten.count x ↔ ∃ j, j < Ls.length ∧ ∃ m, m < (lx Ls j).length ∧ ∃ i, i < Ls.length ∧ ∃ k, k < (lx Ls i).length ∧ ahd j m i k ∧ sx (lx Ls j) m = x ∧ sx (lx Ls i) k = x := by
  have e1 : 1 < Ls.flatten.count x ↔ ¬ Ls.flatten.count x ≤ 1 := by omega
  rw [e1, ← cnt_pair, flat_pair]
  constructor
  · intro h
    refine Classical.byContradiction fun hn => h ⟨fun i hi m k hm hk hmk => ?_, fun j i hj hi hji m k hm hk => ?_⟩
    · simp only [lx_get hi] at hm hk ⊢
      rw [sx_get hm, sx_get hk]
      exact fun hx => hn ⟨i, hi, m, hm, i, hi, k, hk, .inr ⟨rfl, hmk⟩, hx.1, hx.2⟩
    · simp only [lx_get hi, lx_get hj] at hm hk ⊢
      rw [sx_get hm, sx_get hk]
      exact fun hx => hn ⟨j, hj, m, hm, i, hi, k, hk, .inl hji, hx.1, hx.2⟩
  · rintro ⟨j, hj, m, hm, i, hi, k, hk, ha, h3, h4⟩ ⟨h1, h2⟩
    rcases ha with ha | ⟨rfl, ha⟩
    · have := h2 j i hj hi ha m k (by rw [lx_get hj]; exact hm) (by rw [lx_get hi]; exact hk)
      simp only [lx_get hi, lx_get hj] at this
      rw [sx_get, sx_get] at this
      exact this ⟨h3, h4⟩
    · have := h1 j hj m k (by rw [lx_get hj]; exact hm) (by rw [lx_get hj]; exact hk) ha
      simp only [lx_get hj] at this
      rw [sx_get, sx_get] at this
      exact this ⟨h3, h4⟩
/-- An end of a piece that is an end of its arc. -/
def ndP (a : List Sp) (k : Nat) (x : Sp) : Prop := (k = 0 ∧ x = sx a 0) ∨ (k + 2 = a.length ∧ x = sx a (a.length - 1))
instance (a : List Sp) (k : Nat) (x : Sp) : Decidable (ndP a k x) := by unfold ndP; exact inferInstance
/-- Two pieces as the reference wants them. -/
def prOK (i j : Nat) (a b : List Sp) (k n : Nat) : Prop :=
  cmN (sx a k) (sx a (k + 1)) (sx b n) (sx b (n + 1)) = 0 ∨
    (cmN (sx a k) (sx a (k + 1)) (sx b n) (sx b (n + 1)) = 1 ∧
      ((cmA (sx a k) (sx a (k + 1)) (sx b n) (sx b (n + 1)) = sx a k ∨ cmA (sx a k) (sx a (k + 1)) (sx b n) (sx b (n + 1)) = sx a (k + 1)) ∧ (cmA (sx a k) (sx a (k + 1)) (sx b n) (sx b (n + 1)) = sx b n ∨ cmA (sx a k) (sx a (k + 1)) (sx b n) (sx b (n + 1)) = sx b (n + 1))) ∧
      (((j = i ∧ n + 1 = k) ∧ cmA (sx a k) (sx a (k + 1)) (sx b n) (sx b (n + 1)) = sx a k) ∨ (ndP a k (cmA (sx a k) (sx a (k + 1)) (sx b n) (sx b (n + 1))) ∧ ndP b n (cmA (sx a k) (sx a (k + 1)) (sx b n) (sx b (n + 1))))))
instance (i j : Nat) (a b : List Sp) (k n : Nat) : Decidable (prOK i j a b k n) := by unfold prOK; exact inferInstance
def apP (Ls : List (List Sp)) : Prop := ∀ i, i < Ls.length → ∀ k, k + 1 < (lx Ls i).length → ∀ j, j < Ls.length → ∀ n, n + 1 < (lx Ls j).length → ahd j n i k → prOK i j (lx Ls i) (lx Ls j) k n
/-- An inner point that comes once more. -/
def cwP (Ls : List (List Sp)) : Prop := ∃ i, i < Ls.length ∧ ∃ k, (0 < k ∧ k + 1 < (lx Ls i).length) ∧ 1 < Ls.flatten.count (sx (lx Ls i) k)
theorem cm_ends {p q r s x : Sp} (h : x ∈ cm4 p q r s) : ((x = p ∨ x = q) ∨ (x = r ∨ x = s)) ∧ hsP (p, q) x ∧ hsP (r, s) x := by
  rcases (cm_mem p q r s x).1 h with ⟨rfl, k⟩ | ⟨rfl, k⟩ | ⟨rfl, k⟩ | ⟨rfl, k⟩
  · exact ⟨.inr (.inl rfl), k, hs_fst _ _⟩
  · exact ⟨.inr (.inr rfl), k, hs_snd _ _⟩
  · exact ⟨.inl (.inl rfl), hs_fst _ _, k⟩
  · exact ⟨.inl (.inr rfl), hs_snd _ _, k⟩
/-- What two pieces have in common, where they do not meet: nothing, or one end of both. -/
theorem meet_none {p q r s : Sp} (hpq : ¬ p = q) (h : ¬ mtP (p, q) (r, s)) : cmN p q r s = 0 ∨ (cmN p q r s = 1 ∧ (cmA p q r s = p ∨ cmA p q r s = q) ∧ (cmA p q r s = r ∨ cmA p q r s = s)) := by
  have hm := cm_mem p q r s
  by_cases c : ∃ x, x ∈ cm4 p q r s
  · obtain ⟨x, hx⟩ := c
    have both : ∀ y, y ∈ cm4 p q r s → (y = p ∨ y = q) ∧ (y = r ∨ y = s) := by
      intro y hy
      obtain ⟨h1, h2, h3⟩ := cm_ends hy
      refine Classical.byContradiction fun hn => h ?_
      rcases h1 with h1 | h1
      · have n1 : ¬ y = r := fun e => hn ⟨h1, .inl e⟩
        have n2 : ¬ y = s := fun e => hn ⟨h1, .inr e⟩
        refine ⟨(hs_near h3 h1).2, ?_⟩
        rcases h1 with rfl | rfl
        · exact .inr (.inr (.inr (.inl ⟨⟨n1, n2⟩, h3⟩)))
        · exact .inr (.inr (.inr (.inr (.inl ⟨⟨n1, n2⟩, h3⟩))))
      · have n1 : ¬ y = p := fun e => hn ⟨.inl e, h1⟩
        have n2 : ¬ y = q := fun e => hn ⟨.inr e, h1⟩
        refine ⟨(hs_near h2 h1).1, ?_⟩
        rcases h1 with rfl | rfl
        · exact .inr (.inl ⟨⟨n1, n2⟩, h2⟩)
        · exact .inr (.inr (.inl ⟨⟨n1, n2⟩, h2⟩))
    have one : ∀ y, y ∈ cm4 p q r s → y = x := by
      intro y hy
      refine Classical.byContradiction fun hne => h ?_
      obtain ⟨a1, a2⟩ := both x hx
      obtain ⟨b1, b2⟩ := both y hy
      refine ⟨(hs_near (cm_ends hx).2.1 a2).1, .inr (.inr (.inr (.inr (.inr ?_))))⟩
      unfold twP
      dsimp only
      rcases a1 with rfl | rfl
      · rcases b1 with rfl | rfl
        · exact absurd rfl hne
        · rcases a2 with rfl | rfl
          · rcases b2 with rfl | rfl
            · exact absurd rfl hne
            · exact .inl rfl
          · rcases b2 with rfl | rfl
            · exact .inr rfl
            · exact absurd rfl hne
      · rcases b1 with rfl | rfl
        · rcases a2 with rfl | rfl
          · rcases b2 with rfl | rfl
            · exact absurd rfl hne
            · exact .inr rfl
          · rcases b2 with rfl | rfl
            · exact .inl rfl
            · exact absurd rfl hne
        · exact absurd rfl hne
    obtain ⟨e1, e2⟩ := cmN_1 hx one
    rw [e2]
    exact .inr ⟨e1, both x hx⟩
  · have c' : ∀ x, ¬ x ∈ cm4 p q r s := fun x hx => c ⟨x, hx⟩
    left
    rw [cmN_0 c', if_neg]
    intro hx
    have := (cr_pt p q r s).1 hx
    exact h ⟨cross_near this.2 this.1, .inl ⟨this.1, this.2⟩⟩
/-- Pieces that are as the reference wants them do not meet. -/
theorem none_meet {p q r s : Sp} (hpq : ¬ p = q) (hrs : ¬ r = s) (h : cmN p q r s = 0 ∨ (cmN p q r s = 1 ∧ (cmA p q r s = p ∨ cmA p q r s = q) ∧ (cmA p q r s = r ∨ cmA p q r s = s))) : ¬ mtP (p, q) (r, s) := by
  have hm := cm_mem p q r s
  have all : ∀ x, x ∈ cm4 p q r s → cmN p q r s = 1 ∧ cmA p q r s = x := by
    intro x hx
    by_cases k : ∀ y ∈ cm4 p q r s, y = x
    · exact cmN_1 hx k
    · simp only [Classical.not_forall] at k
      obtain ⟨y, hy, hne⟩ := k
      have := cmN_2 hy hx hne
      omega
  intro hmt
  rcases hmt.2 with k | k | k | k | k | k
  · by_cases c : ∃ x, x ∈ cm4 p q r s
    · obtain ⟨x, hx⟩ := c
      have h3 := (cm_ends hx).2
      obtain ⟨e1, e2⟩ := all x hx
      rw [e2] at h
      have h4 : x = r ∨ x = s := by rcases h with h | h; omega; exact h.2.2
      have k1 := k.1
      unfold ptP at k1
      dsimp only at k1
      have z := h3.1.1
      dsimp only at z
      rcases h4 with rfl | rfl <;> omega
    · have c' : ∀ x, ¬ x ∈ cm4 p q r s := fun x hx => c ⟨x, hx⟩
      have e := cmN_0 c'
      rw [if_pos ((cr_pt p q r s).2 k)] at e
      omega
  · have hx := (hm r).2 (.inl ⟨rfl, k.2⟩)
    obtain ⟨e1, e2⟩ := all r hx
    rw [e2] at h
    rcases h with h | h
    · omega
    · rcases h.2.1 with e | e
      · exact k.1.1 e
      · exact k.1.2 e
  · have hx := (hm s).2 (.inr (.inl ⟨rfl, k.2⟩))
    obtain ⟨e1, e2⟩ := all s hx
    rw [e2] at h
    rcases h with h | h
    · omega
    · rcases h.2.1 with e | e
      · exact k.1.1 e
      · exact k.1.2 e
  · have hx := (hm p).2 (.inr (.inr (.inl ⟨rfl, k.2⟩)))
    obtain ⟨e1, e2⟩ := all p hx
    rw [e2] at h
    rcases h with h | h
    · omega
    · rcases h.2.2 with e | e
      · exact k.1.1 e
      · exact k.1.2 e
  · have hx := (hm q).2 (.inr (.inr (.inr ⟨rfl, k.2⟩)))
    obtain ⟨e1, e2⟩ := all q hx
    rw [e2] at h
    rcases h with h | h
    · omega
    · rcases h.2.2 with e | e
      · exact k.1.1 e
      · exact k.1.2 e
  · have hp : p ∈ cm4 p q r s := by
      refine (hm p).2 (.inr (.inr (.inl ⟨rfl, ?_⟩)))
      rcases k with k | k
      · have e := congrArg Prod.fst k; dsimp only at e; rw [e]; exact hs_fst _ _
      · have e := congrArg Prod.fst k; dsimp only at e; rw [e]; exact hs_snd _ _
    have hq : q ∈ cm4 p q r s := by
      refine (hm q).2 (.inr (.inr (.inr ⟨rfl, ?_⟩)))
      rcases k with k | k
      · have e := congrArg Prod.snd k; dsimp only at e; rw [e]; exact hs_snd _ _
      · have e := congrArg Prod.snd k; dsimp only at e; rw [e]; exact hs_fst _ _
    have := cmN_2 hp hq hpq
    omega
/-- Arcs: no two neighbours are the same. -/
def stA (a : List Sp) : Prop := ∀ k, k + 1 < a.length → ¬ sx a k = sx a (k + 1)
/-- Of a point that is an end of two pieces as the reference wants them. -/
theorem pr_share {i j : Nat} {a b : List Sp} {k n : Nat} {x : Sp} (h : prOK i j a b k n) (h1 : x = sx a k ∨ x = sx a (k + 1)) (h2 : x = sx b n ∨ x = sx b (n + 1)) : ((j = i ∧ n + 1 = k) ∧ x = sx a k) ∨ (ndP a k x ∧ ndP b n x) := by
  have hx : x ∈ cm4 (sx a k) (sx a (k + 1)) (sx b n) (sx b (n + 1)) := by
    have hh : hsP (sx b n, sx b (n + 1)) x := by rcases h2 with e | e <;> rw [e]; exact hs_fst _ _; exact hs_snd _ _
    refine (cm_mem _ _ _ _ x).2 ?_
    rcases h1 with e | e
    · exact .inr (.inr (.inl ⟨e, e ▸ hh⟩))
    · exact .inr (.inr (.inr ⟨e, e ▸ hh⟩))
  by_cases c : ∀ y ∈ cm4 (sx a k) (sx a (k + 1)) (sx b n) (sx b (n + 1)), y = x
  · obtain ⟨e1, e2⟩ := cmN_1 hx c
    unfold prOK at h
    rw [e1, e2] at h
    rcases h with h | h
    · cases h
    · exact h.2.2
  · simp only [Classical.not_forall] at c
    obtain ⟨y, hy, hne⟩ := c
    have e := cmN_2 hy hx hne
    unfold prOK at h
    rw [e] at h
    rcases h with h | h
    · cases h
    · cases h.1
theorem apart_iff {Ls : List (List Sp)} (h2 : ∀ i, i < Ls.length → 2 ≤ (lx Ls i).length) (hs : ∀ i, i < Ls.length → stA (lx Ls i)) : apP Ls ↔ ¬ cwP Ls ∧ ¬ tgP (ppL Ls) := by
  constructor
  · intro h
    refine ⟨?_, ?_⟩
    · rintro ⟨i, hi, k, ⟨k0, k1⟩, hc⟩
      -- a piece of the arc that ends or begins at the inner point is at no node there
      have nn1 : ¬ ndP (lx Ls i) k (sx (lx Ls i) k) := by
        rintro (⟨e, _⟩ | ⟨e, e2⟩)
        · omega
        · have := hs i hi k k1
          rw [show (lx Ls i).length - 1 = k + 1 by omega] at e2
          exact this e2
      have nn2 : ¬ ndP (lx Ls i) (k - 1) (sx (lx Ls i) k) := by
        rintro (⟨e, e2⟩ | ⟨e, e2⟩)
        · have := hs i hi (k - 1) (by omega)
          rw [show k - 1 + 1 = k by omega] at this
          rw [show k - 1 = 0 by omega] at this
          exact this e2.symm
        · omega
      obtain ⟨j1, hj1, m1, hm1, j2, hj2, m2, hm2, ha, e1, e2⟩ := (cnt_iff Ls _).1 hc
      -- another place with the same point
      obtain ⟨j, hj, m, hm, hne, em⟩ : ∃ j, j < Ls.length ∧ ∃ m, m < (lx Ls j).length ∧ (ahd j m i k ∨ ahd i k j m) ∧ sx (lx Ls j) m = sx (lx Ls i) k := by
        by_cases c : ahd j1 m1 i k
        · exact ⟨j1, hj1, m1, hm1, .inl c, e1⟩
        · by_cases c2 : ahd i k j2 m2
          · exact ⟨j2, hj2, m2, hm2, .inr c2, e2⟩
          · exfalso
            unfold ahd at c c2 ha
            omega
      have l2 := h2 j hj
      obtain ⟨n, hn, hmn⟩ : ∃ n, n + 1 < (lx Ls j).length ∧ (m = n ∨ m = n + 1) := by
        by_cases c : m + 1 < (lx Ls j).length
        · exact ⟨m, c, .inl rfl⟩
        · exact ⟨m - 1, by omega, .inr (by omega)⟩
      have em2 : sx (lx Ls i) k = sx (lx Ls j) n ∨ sx (lx Ls i) k = sx (lx Ls j) (n + 1) := by
        rcases hmn with e | e
        · left; rw [← e]; exact em.symm
        · right; rw [← e]; exact em.symm
      by_cases cij : j = i
      · subst cij
        have hne2 : m < k ∨ k < m := by unfold ahd at hne; omega
        rcases hne2 with hne2 | hne2
        · have hm1 : m + 1 < (lx Ls j).length := by omega
          rcases pr_share (h j hi k k1 j hi m hm1 (.inr ⟨rfl, hne2⟩)) (x := sx (lx Ls j) k) (.inl rfl) (.inl em.symm) with ⟨⟨_, e⟩, _⟩ | ⟨e, _⟩
          · have := hs j hi m hm1
            rw [e] at this
            exact this em
          · exact nn1 e
        · rcases pr_share (h j hi (m - 1) (by omega) j hi (k - 1) (by omega) (.inr ⟨rfl, by omega⟩)) (x := sx (lx Ls j) k) (.inr (by rw [show m - 1 + 1 = m by omega]; exact em.symm)) (.inr (by rw [show k - 1 + 1 = k by omega])) with ⟨⟨_, e⟩, _⟩ | ⟨_, e⟩
          · have := hs j hi k k1
            rw [show k + 1 = m by omega] at this
            exact this em.symm
          · exact nn2 e
      · have hji : j < i ∨ i < j := by omega
        rcases hji with c | c
        · rcases pr_share (h i hi k k1 j hj n hn (.inl c)) (x := sx (lx Ls i) k) (.inl rfl) em2 with ⟨⟨e, _⟩, _⟩ | ⟨e, _⟩
          · exact cij e
          · exact nn1 e
        · rcases pr_share (h j hj n hn i hi k k1 (.inl c)) (x := sx (lx Ls i) k) em2 (.inl rfl) with ⟨⟨e, _⟩, _⟩ | ⟨_, e⟩
          · exact cij e.symm
          · exact nn1 e
    · rw [tg_iff]
      rintro ⟨i, hi, k, hk, j, hj, n, hn, ha, hx⟩
      have := h i hi k hk j hj n hn ha
      refine none_meet (hs i hi k hk) (hs j hj n hn) ?_ hx
      rcases this with e | e
      · exact .inl e
      · exact .inr ⟨e.1, e.2.1⟩
  · rintro ⟨hc, ht⟩ i hi k hk j hj n hn ha
    have hm : ¬ mtP (pcA (lx Ls i) k) (pcA (lx Ls j) n) := fun hx => ht ((tg_iff Ls).2 ⟨i, hi, k, hk, j, hj, n, hn, ha, hx⟩)
    rcases meet_none (hs i hi k hk) hm with e | ⟨e1, e2⟩
    · exact .inl e
    · refine .inr ⟨e1, e2, ?_⟩
      generalize cmA (sx (lx Ls i) k) (sx (lx Ls i) (k + 1)) (sx (lx Ls j) n) (sx (lx Ls j) (n + 1)) = x at e2 ⊢
      obtain ⟨u, hu, eu⟩ : ∃ u, (u = k ∨ u = k + 1) ∧ x = sx (lx Ls i) u := by
        rcases e2.1 with e | e
        · exact ⟨k, .inl rfl, e⟩
        · exact ⟨k + 1, .inr rfl, e⟩
      obtain ⟨v, hv, evx⟩ : ∃ v, (v = n ∨ v = n + 1) ∧ x = sx (lx Ls j) v := by
        rcases e2.2 with e | e
        · exact ⟨n, .inl rfl, e⟩
        · exact ⟨n + 1, .inr rfl, e⟩
      by_cases c : j = i ∧ u = v
      · obtain ⟨rfl, rfl⟩ := c
        have hnk : n < k := by unfold ahd at ha; omega
        have e3 : n + 1 = k := by omega
        exact .inl ⟨⟨rfl, e3⟩, by rw [eu]; congr 1; omega⟩
      · right
        have hcnt : 1 < Ls.flatten.count x := by
          refine (cnt_iff Ls x).2 ?_
          by_cases d : ahd j v i u
          · exact ⟨j, hj, v, by omega, i, hi, u, by omega, d, evx.symm, eu.symm⟩
          · refine ⟨i, hi, u, by omega, j, hj, v, by omega, ?_, eu.symm, evx.symm⟩
            unfold ahd at d ha ⊢
            omega
        refine ⟨?_, ?_⟩
        · have hnot : ¬ (0 < u ∧ u + 1 < (lx Ls i).length) := fun hx => hc ⟨i, hi, u, hx, by rw [← eu]; exact hcnt⟩
          by_cases u0 : u = 0
          · exact .inl ⟨by omega, by rw [eu, u0]⟩
          · refine .inr ⟨by omega, ?_⟩
            rw [eu]; congr 1; omega
        · have hnot : ¬ (0 < v ∧ v + 1 < (lx Ls j).length) := fun hx => hc ⟨j, hj, v, hx, by rw [← evx]; exact hcnt⟩
          by_cases v0 : v = 0
          · exact .inl ⟨by omega, by rw [evx, v0]⟩
          · refine .inr ⟨by omega, ?_⟩
            rw [evx]; congr 1; omega
end Go.Proofs.YtnadgoomkaldkaaDoor
