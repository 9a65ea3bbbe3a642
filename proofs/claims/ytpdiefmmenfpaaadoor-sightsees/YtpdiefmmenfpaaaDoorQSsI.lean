/-
  The fractions of the stops, sorted and each once, are the reference's stops in lowest terms. No Go text is walked.
-/
import Derived.Test.YtpdiefmmenfpaaaDoorQSsG
import Derived.Test.YtpdiefmmenfpaaaDoorQSnB
namespace Go.Proofs.YtpdiefmmenfpaaaDoor
open Go.RowKit

theorem strict_one {α : Type} (lt : α → α → Prop) (irr : ∀ x, ¬ lt x x) (tr : ∀ x y z, lt x y → lt y z → lt x z) : ∀ l l' : List α, l.Pairwise lt → l'.Pairwise lt → (∀ x, x ∈ l ↔ x ∈ l') → l = l'
  | [], [], _, _, _ => rfl
  | [], b :: t', _, _, h => absurd ((h b).2 (by simp)) (by simp)
  | a :: t, [], _, _, h => absurd ((h a).1 (by simp)) (by simp)
  | a :: t, b :: t', h1, h2, h => by
    rw [List.pairwise_cons] at h1 h2
    have e : a = b := by
      rcases List.mem_cons.1 ((h a).1 (by simp)) with k | k
      · exact k
      · rcases List.mem_cons.1 ((h b).2 (by simp)) with k2 | k2
        · exact k2.symm
        · exact absurd (tr _ _ _ (h1.1 b k2) (h2.1 a k)) (irr _)
    subst e
    rw [strict_one lt irr tr t t' h1.2 h2.2 fun x => ⟨fun hx => ?_, fun hx => ?_⟩]
    · rcases List.mem_cons.1 ((h x).1 (by simp [hx])) with k | k
      · subst k; exact absurd (h1.1 x hx) (irr _)
      · exact k
    · rcases List.mem_cons.1 ((h x).2 (by simp [hx])) with k | k
      · subst k; exact absurd (h2.1 x hx) (irr _)
      · exact k
def Ok2 (p : Nat × Nat) : Prop := 1 ≤ p.1 ∧ p.1 < p.2 ∧ p.2 ≤ 254
theorem low_mul {p : Nat × Nat} (h : Ok2 p) : ∃ (g : Nat), 0 < g ∧ (p.1 : Int) = g * (lowP p).1 ∧ (p.2 : Int) = g * (lowP p).2 := by
  obtain ⟨k, n⟩ := p
  unfold Ok2 at h
  simp only at h
  refine ⟨Nat.gcd k n, Nat.gcd_pos_of_pos_left _ (by omega), ?_, ?_⟩
  · unfold lowP ndN rn
    simp only [Int.natAbs_natCast]
    rw [← Int.natCast_mul, Nat.mul_div_cancel' (Nat.gcd_dvd_left k n)]
  · unfold lowP ndD rd
    simp only [Int.natAbs_natCast]
    rw [← Int.natCast_mul, Nat.mul_div_cancel' (Nat.gcd_dvd_right k n)]
theorem cross {g h a b c d : Int} : g * a * (h * d) = g * h * (a * d) ∧ h * c * (g * b) = g * h * (c * b) :=
  ⟨by rw [Int.mul_assoc g a, Int.mul_left_comm a h d, ← Int.mul_assoc], by rw [Int.mul_assoc h c, Int.mul_left_comm c g b, ← Int.mul_assoc, Int.mul_comm h g]⟩
theorem rf_lt {p q : Nat × Nat} (hp : Ok2 p) (hq : Ok2 q) : Go.Proofs.ltOf cfF (rfP p) (rfP q) = true ↔ ltS p q := by
  rw [ltF, decide_eq_true_eq, rfP_val hp, rfP_val hq]
  obtain ⟨g, hg, e1, e2⟩ := low_mul hp
  obtain ⟨h, hh, e3, e4⟩ := low_mul hq
  have k : ltS p q ↔ (p.1 : Int) * q.2 < q.1 * p.2 := by unfold ltS; rw [← Int.ofNat_lt, Int.natCast_mul, Int.natCast_mul]
  have x := cross (g := (g : Int)) (h := h) (a := (lowP p).1) (b := (lowP p).2) (c := (lowP q).1) (d := (lowP q).2)
  rw [k, e1, e2, e3, e4, x.1, x.2]
  have hpos : (0 : Int) < (g : Int) * h := Int.mul_pos (by omega) (by omega)
  exact ⟨fun k => Int.mul_lt_mul_of_pos_left k hpos, fun k => Int.lt_of_mul_lt_mul_left k (Int.le_of_lt hpos)⟩
theorem rf_eq {p q : Nat × Nat} (hp : Ok2 p) (hq : Ok2 q) (h : eqS p q) : rfP p = rfP q := by
  have n1 : ¬ ltS p q := by unfold ltS eqS at *; omega
  have n2 : ¬ ltS q p := by unfold ltS eqS at *; omega
  exact totF _ _ (Bool.eq_false_iff.2 fun k => n1 ((rf_lt hp hq).1 k)) (Bool.eq_false_iff.2 fun k => n2 ((rf_lt hq hp).1 k))
theorem ltS_trans {p q r : Nat × Nat} (hp : Ok2 p) (hq : Ok2 q) (hr : Ok2 r) (h1 : ltS p q) (h2 : ltS q r) : ltS p r :=
  (rf_lt hp hr).1 (swoF.trans _ _ _ ((rf_lt hp hq).2 h1) ((rf_lt hq hr).2 h2))
theorem wsP_sorted : ∀ (L : List (Nat × Nat)) (s : Nat × Nat), (∀ q ∈ L, Ok2 q) → Ok2 s → L.Pairwise ltS → (wsP L s).Pairwise ltS
  | [], s, _, _, _ => by simp [wsP]
  | q :: L, s, h1, h2, h3 => by
    unfold wsP
    rw [List.pairwise_cons] at h3
    split
    · rename_i c
      rw [List.pairwise_cons]
      refine ⟨fun x hx => ?_, wsP_sorted L s (fun y hy => h1 y (by simp [hy])) h2 h3.2⟩
      rcases wsP_mem hx with e | e
      · exact h3.1 x e
      · rw [e]; exact c
    · split
      · exact List.pairwise_cons.2 h3
      · rename_i c1 c2
        have c : ltS s q := by unfold ltS eqS at *; omega
        rw [List.pairwise_cons]
        refine ⟨fun x hx => ?_, List.pairwise_cons.2 h3⟩
        rcases List.mem_cons.1 hx with e | e
        · rw [e]; exact c
        · exact ltS_trans h2 (h1 q (by simp)) (h1 x (by simp [e])) c (h3.1 x e)
theorem stL_sorted : ∀ (k : Nat) (ps : List (Nat × Nat)), ps.length = k → (∀ p ∈ ps, Ok2 p) → (stL ps).Pairwise ltS := by
  intro k
  induction k with
  | zero =>
    intro ps h _
    obtain rfl := List.length_eq_zero_iff.1 h
    simp [stL]
  | succ k ih =>
    intro ps h ho
    obtain ⟨qs, p, rfl⟩ : ∃ qs p, ps = qs ++ [p] := by
      have hne : ps ≠ [] := by intro e; rw [e] at h; simp at h
      exact ⟨ps.dropLast, ps.getLast hne, (List.dropLast_concat_getLast hne).symm⟩
    rw [stL_snoc]
    have hq : qs.length = k := by simp at h; exact h
    exact wsP_sorted _ _ (fun q hq' => ho q (by simp [(stL_in k qs hq).1 q hq'])) (ho p (by simp)) (ih qs hq (fun q hq' => ho q (by simp [hq'])))
/-- Those of the first m that are not as the one ahead of them, as they are sorted. -/
def dR (d : Nat → RF) (m : Nat) : List RF := ((List.range m).filter fun i => decide (i = 0 ∨ (d i).1 ≠ (d (i - 1)).1)).map d
theorem dR_val (d : Nat → RF) (m : Nat) : dfK (fun i => (d i).1) m = (dR d m).map Subtype.val := by
  unfold dfK dR
  rw [List.map_map]
  rfl
theorem dR_succ (d : Nat → RF) (m : Nat) : dR d (m + 1) = dR d m ++ if m = 0 ∨ (d m).1 ≠ (d (m - 1)).1 then [d m] else [] := by
  unfold dR
  rw [List.range_succ, List.filter_append, List.map_append]
  by_cases h : m = 0 ∨ (d m).1 ≠ (d (m - 1)).1
  · rw [if_pos h]; simp [h]
  · rw [if_neg h]; simp [h]
abbrev LtR (x y : RF) : Prop := Go.Proofs.ltOf cfF x y = true
theorem dR_all (d : Nat → RF) (N : Nat) (hs : ∀ i j, i < j → j < N → Go.Proofs.ltOf cfF (d j) (d i) = false) : ∀ m, m ≤ N → (dR d m).Pairwise LtR ∧ (∀ x ∈ dR d m, ∃ i, i < m ∧ x = d i) ∧ (∀ i, i < m → d i ∈ dR d m)
  | 0, _ => ⟨by simp [dR], fun x hx => by simp [dR] at hx, fun i hi => by omega⟩
  | m + 1, hm => by
    obtain ⟨h1, h2, h3⟩ := dR_all d N hs m (by omega)
    rw [dR_succ]
    by_cases c : m = 0 ∨ (d m).1 ≠ (d (m - 1)).1
    · rw [if_pos c]
      refine ⟨List.pairwise_append.2 ⟨h1, by simp, fun x hx y hy => ?_⟩, fun x hx => ?_, fun i hi => ?_⟩
      · rw [List.mem_singleton] at hy
        subst hy
        obtain ⟨i, hi, rfl⟩ := h2 x hx
        have c2 : (d m).1 ≠ (d (m - 1)).1 := by
          rcases c with c | c
          · omega
          · exact c
        have k1 : Go.Proofs.ltOf cfF (d (m - 1)) (d m) = true := by
          cases k : Go.Proofs.ltOf cfF (d (m - 1)) (d m) with
          | true => rfl
          | false => exact absurd (congrArg Subtype.val (totF _ _ (hs (m - 1) m (by omega) (by omega)) k)) c2
        by_cases e : i = m - 1
        · rw [e]; exact k1
        · cases k : Go.Proofs.ltOf cfF (d i) (d m) with
          | true => exact k
          | false =>
            have k2 := swoF.ntrans _ _ _ (hs i (m - 1) (by omega) (by omega)) k
            rw [k1] at k2
            cases k2
      · rcases List.mem_append.1 hx with e | e
        · obtain ⟨i, hi, rfl⟩ := h2 x e
          exact ⟨i, by omega, rfl⟩
        · rw [List.mem_singleton] at e
          exact ⟨m, by omega, e⟩
      · by_cases e : i = m
        · subst e; simp
        · exact List.mem_append.2 (.inl (h3 i (by omega)))
    · rw [if_neg c, List.append_nil]
      refine ⟨h1, fun x hx => ?_, fun i hi => ?_⟩
      · obtain ⟨i, hi, rfl⟩ := h2 x hx
        exact ⟨i, by omega, rfl⟩
      · by_cases e : i = m
        · subst e
          have h0 : ¬ i = 0 := fun k => c (.inl k)
          have e2 : d i = d (i - 1) := Subtype.ext (Classical.byContradiction fun k => c (.inr k))
          rw [e2]
          exact h3 (i - 1) (by omega)
        · exact h3 i (by omega)
theorem gd_at {l : List RF} {i : Nat} (h : i < l.length) : l.getD i default = l[i] := by simp [h]
theorem srt_sorted (l : List RF) : (srt l).Pairwise fun x y => Go.Proofs.ltOf cfF y x = false := by
  have k := List.pairwise_mergeSort (le := fun x y => !(Go.Proofs.ltOf cfF) y x) (fun x y z h1 h2 => by
    simp only [Bool.not_eq_true'] at *
    exact swoF.ntrans _ _ _ h2 h1) (fun x y => by
    cases k1 : Go.Proofs.ltOf cfF y x with
    | false => simp
    | true =>
      cases k2 : Go.Proofs.ltOf cfF x y with
      | false => simp
      | true =>
        have := swoF.trans _ _ _ k1 k2
        rw [swoF.irrefl] at this
        cases this) l
  exact k.imp (fun h => by simpa using h)
/-- The fractions of the stops, sorted and each once, are the reference's stops in lowest terms. -/
theorem stF_eq (ps : List (Nat × Nat)) (ho : ∀ p ∈ ps, Ok2 p) : stF ps = (stL ps).map lowP := by
  have hln : (srt (ps.map rfP)).length = ps.length := by rw [srt_len, List.length_map]
  have hs : ∀ i j, i < j → j < ps.length → Go.Proofs.ltOf cfF ((srt (ps.map rfP)).getD j default) ((srt (ps.map rfP)).getD i default) = false := by
    intro i j hij hj
    have k := List.pairwise_iff_getElem.1 (srt_sorted (ps.map rfP)) i j (by omega) (by omega) hij
    rw [gd_at (by omega), gd_at (by omega)]
    exact k
  obtain ⟨h1, h2, h3⟩ := dR_all (fun i => (srt (ps.map rfP)).getD i default) ps.length hs ps.length (Nat.le_refl _)
  have e1 : stF ps = (dR (fun i => (srt (ps.map rfP)).getD i default) ps.length).map Subtype.val := dR_val _ _
  obtain ⟨m1, m2, -⟩ := stL_in ps.length ps rfl
  have e2 : dR (fun i => (srt (ps.map rfP)).getD i default) ps.length = (stL ps).map rfP := by
    refine strict_one LtR (fun x k => by rw [LtR, swoF.irrefl] at k; cases k) (fun x y z => swoF.trans x y z) _ _ h1 ?_ fun x => ⟨fun hx => ?_, fun hx => ?_⟩
    · rw [List.pairwise_map]
      exact (stL_sorted ps.length ps rfl ho).imp_of_mem (fun ha hb h => (rf_lt (ho _ (m1 _ ha)) (ho _ (m1 _ hb))).2 h)
    · obtain ⟨i, hi, rfl⟩ := h2 x hx
      have k : (srt (ps.map rfP)).getD i default ∈ ps.map rfP := by
        rw [gd_at (by omega)]
        exact List.mem_mergeSort.1 (List.getElem_mem _)
      obtain ⟨p, hp, e⟩ := List.mem_map.1 k
      obtain ⟨q, hq, e2⟩ := m2 p hp
      exact List.mem_map.2 ⟨q, hq, by rw [← e]; exact rf_eq (ho _ (m1 _ hq)) (ho _ hp) e2⟩
    · obtain ⟨q, hq, rfl⟩ := List.mem_map.1 hx
      have k : rfP q ∈ srt (ps.map rfP) := List.mem_mergeSort.2 (List.mem_map.2 ⟨q, m1 q hq, rfl⟩)
      obtain ⟨i, hi, e⟩ := List.mem_iff_getElem.1 k
      have := h3 i (by omega)
      rw [gd_at hi, e] at this
      exact this
  rw [e1, e2, List.map_map]
  exact List.map_congr_left fun q hq => rfP_val (ho q (m1 q hq))
end Go.Proofs.YtpdiefmmenfpaaaDoor
