/-
  mercatorref1.JoinOf where there is no span; JoinOf of any.
-/
import Derived.Test.YtcbiigmnldcggaaSpanI2
import Derived.Test.YtcbiigmnldcggaaSpanI3
namespace Go.Proofs.Ytcbiigmnldcggaa
open Go.RowKit FB
attribute [local go_sem] run_store_float

set_option maxHeartbeats 2000000 in
theorem joinOf_bad1 (h : Int) (a b c d : Nat) (ha : W64 a) (hb : W64 b) (hc : W64 c) (hd : W64 d) (h1 : spB a b = false) (w : World) : Calls Try.prog 7 #[.agg #[.float .f64 a, .float .f64 b], .agg #[.float .f64 c, .float .f64 d], .int .u8 h] w fun e w' => e = .returned (.tuple #[.agg #[.float .f64 0, .float .f64 0], .bool false]) ∧ Below w.heap.size w w' := by
  go_enter Try.func7, Try.ntmps7
  go_wp2_with fail
  refine (isSpan_any _ _ (by assumption) (by assumption) _).mono ?_
  rintro e w1 ⟨rfl, hB⟩
  obtain ⟨hc1, hf1⟩ := bcell hB
  obtain ⟨hz, ha1, hb1⟩ : w.heap.size + 1 + 1 < w1.heap.size ∧ w.heap.size + 1 < w1.heap.size ∧ w.heap.size < w1.heap.size := by have := hB.size; simp at this; omega
  go_wp2_with fail
  refine (isSpan_any _ _ (by assumption) (by assumption) _).mono ?_
  rintro e w2 ⟨rfl, hB2⟩
  obtain ⟨hc2, hf2⟩ := bcell hB2
  obtain ⟨hzz, ha2, hb2⟩ : w.heap.size + 1 + 1 < w2.heap.size ∧ w.heap.size + 1 < w2.heap.size ∧ w.heap.size < w2.heap.size := by have := hB2.size; omega
  go_wp2
  exact bodyPost_ret (v := .tuple #[.agg #[.float .f64 0, .float .f64 0], .bool false]) (by simp [results, Try.results7, go_sem, hc2, hc1, hz]) rfl ⟨rfl, ((bt (bt ((((Below.refl _ _).alloc (Nat.le_refl _) _).alloc (by simp) _).alloc (by simp; omega) _) hB) hB2).setCell (by simp; omega) _).setCell (by simp; omega) _⟩
set_option maxHeartbeats 2000000 in
theorem joinOf_bad2 (h : Int) (a b c d : Nat) (ha : W64 a) (hb : W64 b) (hc : W64 c) (hd : W64 d) (h1 : spB a b = true) (h2 : spB c d = false) (w : World) : Calls Try.prog 7 #[.agg #[.float .f64 a, .float .f64 b], .agg #[.float .f64 c, .float .f64 d], .int .u8 h] w fun e w' => e = .returned (.tuple #[.agg #[.float .f64 0, .float .f64 0], .bool false]) ∧ Below w.heap.size w w' := by
  go_enter Try.func7, Try.ntmps7
  go_wp2_with fail
  refine (isSpan_any _ _ (by assumption) (by assumption) _).mono ?_
  rintro e w1 ⟨rfl, hB⟩
  obtain ⟨hc1, hf1⟩ := bcell hB
  obtain ⟨hz, ha1, hb1⟩ : w.heap.size + 1 + 1 < w1.heap.size ∧ w.heap.size + 1 < w1.heap.size ∧ w.heap.size < w1.heap.size := by have := hB.size; simp at this; omega
  go_wp2_with fail
  refine (isSpan_any _ _ (by assumption) (by assumption) _).mono ?_
  rintro e w2 ⟨rfl, hB2⟩
  obtain ⟨hc2, hf2⟩ := bcell hB2
  obtain ⟨hzz, ha2, hb2⟩ : w.heap.size + 1 + 1 < w2.heap.size ∧ w.heap.size + 1 < w2.heap.size ∧ w.heap.size < w2.heap.size := by have := hB2.size; omega
  go_wp2
  exact bodyPost_ret (v := .tuple #[.agg #[.float .f64 0, .float .f64 0], .bool false]) (by simp [results, Try.results7, go_sem, hc2, hc1, hz]) rfl ⟨rfl, ((bt (bt ((((Below.refl _ _).alloc (Nat.le_refl _) _).alloc (by simp) _).alloc (by simp; omega) _) hB) hB2).setCell (by simp; omega) _).setCell (by simp; omega) _⟩
set_option maxHeartbeats 2000000 in
theorem joinOf_other (h : Int) (a b c d : Nat) (ha : W64 a) (hb : W64 b) (hc : W64 c) (hd : W64 d) (h1 : spB a b = true) (h2 : spB c d = true) (g1 : ¬ h = 43) (g2 : ¬ h = 45) (g3 : ¬ h = 42) (g4 : ¬ h = 47) (w : World) : Calls Try.prog 7 #[.agg #[.float .f64 a, .float .f64 b], .agg #[.float .f64 c, .float .f64 d], .int .u8 h] w fun e w' => e = .returned (.tuple #[.agg #[.float .f64 0, .float .f64 0], .bool false]) ∧ Below w.heap.size w w' := by
  go_enter Try.func7, Try.ntmps7
  go_wp2_with fail
  refine (isSpan_any _ _ (by assumption) (by assumption) _).mono ?_
  rintro e w1 ⟨rfl, hB⟩
  obtain ⟨hc1, hf1⟩ := bcell hB
  obtain ⟨hz, ha1, hb1⟩ : w.heap.size + 1 + 1 < w1.heap.size ∧ w.heap.size + 1 < w1.heap.size ∧ w.heap.size < w1.heap.size := by have := hB.size; simp at this; omega
  go_wp2_with fail
  refine (isSpan_any _ _ (by assumption) (by assumption) _).mono ?_
  rintro e w2 ⟨rfl, hB2⟩
  obtain ⟨hc2, hf2⟩ := bcell hB2
  obtain ⟨hzz, ha2, hb2⟩ : w.heap.size + 1 + 1 < w2.heap.size ∧ w.heap.size + 1 < w2.heap.size ∧ w.heap.size < w2.heap.size := by have := hB2.size; omega
  go_wp2
  exact bodyPost_ret (v := .tuple #[.agg #[.float .f64 0, .float .f64 0], .bool false]) (by simp [results, Try.results7, go_sem, hc2, hc1, hz]) rfl ⟨rfl, ((bt (bt ((((Below.refl _ _).alloc (Nat.le_refl _) _).alloc (by simp) _).alloc (by simp; omega) _) hB) hB2).setCell (by simp; omega) _).setCell (by simp; omega) _⟩
set_option maxHeartbeats 2000000 in
theorem joinOf_quo_no (a b c d : Nat) (ha : W64 a) (hb : W64 b) (hc : W64 c) (hd : W64 d) (h1 : spB a b = true) (h2 : spB c d = true) (q1 : (FloatKind.f64.format.order c 0 == some Ordering.lt || FloatKind.f64.format.order c 0 == some Ordering.eq) = true) (q2 : (FloatKind.f64.format.order d 0 == some Ordering.gt || FloatKind.f64.format.order d 0 == some Ordering.eq) = true) (w : World) : Calls Try.prog 7 #[.agg #[.float .f64 a, .float .f64 b], .agg #[.float .f64 c, .float .f64 d], .int .u8 47] w fun e w' => e = .returned (.tuple #[.agg #[.float .f64 0, .float .f64 0], .bool false]) ∧ Below w.heap.size w w' := by
  go_enter Try.func7, Try.ntmps7
  go_wp2_with fail
  refine (isSpan_any _ _ (by assumption) (by assumption) _).mono ?_
  rintro e w1 ⟨rfl, hB⟩
  obtain ⟨hc1, hf1⟩ := bcell hB
  obtain ⟨hz, ha1, hb1⟩ : w.heap.size + 1 + 1 < w1.heap.size ∧ w.heap.size + 1 < w1.heap.size ∧ w.heap.size < w1.heap.size := by have := hB.size; simp at this; omega
  go_wp2_with fail
  refine (isSpan_any _ _ (by assumption) (by assumption) _).mono ?_
  rintro e w2 ⟨rfl, hB2⟩
  obtain ⟨hc2, hf2⟩ := bcell hB2
  obtain ⟨hzz, ha2, hb2⟩ : w.heap.size + 1 + 1 < w2.heap.size ∧ w.heap.size + 1 < w2.heap.size ∧ w.heap.size < w2.heap.size := by have := hB2.size; omega
  go_wp2
  exact bodyPost_ret (v := .tuple #[.agg #[.float .f64 0, .float .f64 0], .bool false]) (by simp [results, Try.results7, go_sem, hc2, hc1, hz]) rfl ⟨rfl, ((bt (bt ((((Below.refl _ _).alloc (Nat.le_refl _) _).alloc (by simp) _).alloc (by simp; omega) _) hB) hB2).setCell (by simp; omega) _).setCell (by simp; omega) _⟩

theorem joinOf_some (h : Int) (a b c d : Nat) (l : List Nat) (ha : W64 a) (hb : W64 b) (hc : W64 c) (hd : W64 d) (h1 : spB a b = true) (h2 : spB c d = true) (he : ends h a b c d = some l) (w : World) : Calls Try.prog 7 #[.agg #[.float .f64 a, .float .f64 b], .agg #[.float .f64 c, .float .f64 d], .int .u8 h] w fun e w' => ∃ u v ok, e = .returned (.tuple #[.agg #[.float .f64 u, .float .f64 v], .bool ok]) ∧ Out (wid (mnL l) (mxL l)) u v ok ∧ Below w.heap.size w w' := by
  obtain ⟨na, nb, _⟩ := sp_num h1
  obtain ⟨nc, nd, hcd⟩ := sp_num h2
  have q1 := k_leq (num_nn hc nc).1 nn_zero.1
  have q2 := k_geq (num_nn hd nd).1 nn_zero.1
  rw [nn_zero.2] at q1 q2
  unfold ends at he
  split at he
  · rename_i hh; subst hh; injection he with he; subst he
    exact joinOf_add _ _ _ _ _ _ ha hb hc hd h1 h2 (fa_ok na nc).1 (fa_ok nb nd).1 (fa_ok na nc).2 (fa_ok nb nd).2 w
  · split at he
    · rename_i hh; subst hh; injection he with he; subst he
      exact joinOf_sub _ _ _ _ _ _ ha hb hc hd h1 h2 (fs_ok na nd).1 (fs_ok nb nc).1 (fs_ok na nd).2 (fs_ok nb nc).2 w
    · split at he
      · rename_i hh; subst hh; injection he with he; subst he
        exact joinOf_mul _ _ _ _ _ _ _ _ ha hb hc hd h1 h2 (fm_ok na nc).1 (fm_ok na nd).1 (fm_ok nb nc).1 (fm_ok nb nd).1 (fm_ok na nc).2 (fm_ok na nd).2 (fm_ok nb nc).2 (fm_ok nb nd).2 w
      · split at he
        · rename_i hh; subst hh
          split at he
          · cases he
          · rename_i hk
            injection he with he; subst he
            have c0 : key c ≠ 0 := by omega
            have d0 : key d ≠ 0 := by omega
            by_cases k1 : key c ≤ 0
            · rw [decide_eq_true k1] at q1
              rw [decide_eq_false (by omega)] at q2
              exact joinOf_quo2 _ _ _ _ _ _ _ _ ha hb hc hd h1 h2 q1 q2 (fd_ok na nc c0).1 (fd_ok na nd d0).1 (fd_ok nb nc c0).1 (fd_ok nb nd d0).1 (fd_ok na nc c0).2 (fd_ok na nd d0).2 (fd_ok nb nc c0).2 (fd_ok nb nd d0).2 w
            · rw [decide_eq_false k1] at q1
              exact joinOf_quo1 _ _ _ _ _ _ _ _ ha hb hc hd h1 h2 q1 (fd_ok na nc c0).1 (fd_ok na nd d0).1 (fd_ok nb nc c0).1 (fd_ok nb nd d0).1 (fd_ok na nc c0).2 (fd_ok na nd d0).2 (fd_ok nb nc c0).2 (fd_ok nb nd d0).2 w
        · cases he
theorem joinOf_none (h : Int) (a b c d : Nat) (ha : W64 a) (hb : W64 b) (hc : W64 c) (hd : W64 d) (h1 : spB a b = true) (h2 : spB c d = true) (he : ends h a b c d = none) (w : World) : Calls Try.prog 7 #[.agg #[.float .f64 a, .float .f64 b], .agg #[.float .f64 c, .float .f64 d], .int .u8 h] w fun e w' => e = .returned (.tuple #[.agg #[.float .f64 0, .float .f64 0], .bool false]) ∧ Below w.heap.size w w' := by
  obtain ⟨nc, nd, hcd⟩ := sp_num h2
  have q1 := k_leq (num_nn hc nc).1 nn_zero.1
  have q2 := k_geq (num_nn hd nd).1 nn_zero.1
  rw [nn_zero.2] at q1 q2
  unfold ends at he
  split at he
  · cases he
  · split at he
    · cases he
    · split at he
      · cases he
      · split at he
        · rename_i hh; subst hh
          split at he
          · rename_i hk
            rw [decide_eq_true hk.1] at q1
            rw [decide_eq_true hk.2] at q2
            exact joinOf_quo_no _ _ _ _ ha hb hc hd h1 h2 q1 q2 w
          · cases he
        · exact joinOf_other h a b c d ha hb hc hd h1 h2 (by assumption) (by assumption) (by assumption) (by assumption) w
theorem joinOf_any (h : Int) (a b c d : Nat) (ha : W64 a) (hb : W64 b) (hc : W64 c) (hd : W64 d) (w : World) : Calls Try.prog 7 #[.agg #[.float .f64 a, .float .f64 b], .agg #[.float .f64 c, .float .f64 d], .int .u8 h] w fun e w' => ∃ u v ok, e = .returned (.tuple #[.agg #[.float .f64 u, .float .f64 v], .bool ok]) ∧ Out (joinO h a b c d) u v ok ∧ Below w.heap.size w w' := by
  unfold joinO
  cases h1 : spB a b with
  | false =>
    refine (joinOf_bad1 h a b c d ha hb hc hd h1 w).mono ?_
    rintro e w' ⟨rfl, hB⟩
    exact ⟨0, 0, false, rfl, by rw [if_neg (by simp)]; exact ⟨rfl, rfl, rfl⟩, hB⟩
  | true =>
    cases h2 : spB c d with
    | false =>
      refine (joinOf_bad2 h a b c d ha hb hc hd h1 h2 w).mono ?_
      rintro e w' ⟨rfl, hB⟩
      exact ⟨0, 0, false, rfl, by rw [if_neg (by simp)]; exact ⟨rfl, rfl, rfl⟩, hB⟩
    | true =>
      rw [if_pos ⟨rfl, rfl⟩]
      cases he : ends h a b c d with
      | none =>
        refine (joinOf_none h a b c d ha hb hc hd h1 h2 he w).mono ?_
        rintro e w' ⟨rfl, hB⟩
        exact ⟨0, 0, false, rfl, ⟨rfl, rfl, rfl⟩, hB⟩
      | some l => exact joinOf_some h a b c d l ha hb hc hd h1 h2 he w
end Go.Proofs.Ytcbiigmnldcggaa
