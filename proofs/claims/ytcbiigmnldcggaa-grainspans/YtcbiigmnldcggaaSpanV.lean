/-
  mercatorref1.wider, told by the places of its ends.
-/
import Derived.Test.YtcbiigmnldcggaaSpanH
namespace Go.Proofs.Ytcbiigmnldcggaa
open Go.RowKit FB
attribute [local go_sem] run_store_float

set_option maxHeartbeats 1000000 in
theorem wider_bad1 (r s : Nat) (h1 : finV r = false) (w : World) : Calls Try.prog 24 #[.float .f64 r, .float .f64 s] w fun e w' => e = .returned (.tuple #[.agg #[.float .f64 0, .float .f64 0], .bool false]) ∧ Below w.heap.size w w' := by
  go_enter Try.func24, Try.ntmps24
  go_wp2_with (go_at_call 27; refine (finiteR_any _ _).mono ?_; rintro e w' ⟨rfl, n, rfl⟩)
  exact bodyPost_ret (v := .tuple #[.agg #[.float .f64 0, .float .f64 0], .bool false]) (by simp [results, Try.results24, go_sem]) rfl ⟨rfl, ((bdn ((Below.refl _ _).alloc (Nat.le_refl _) _)).setCell (by simp) _).setCell (by simp) _⟩
set_option maxHeartbeats 1000000 in
theorem wider_bad2 (r s : Nat) (h1 : finV r = true) (h2 : finV s = false) (w : World) : Calls Try.prog 24 #[.float .f64 r, .float .f64 s] w fun e w' => e = .returned (.tuple #[.agg #[.float .f64 0, .float .f64 0], .bool false]) ∧ Below w.heap.size w w' := by
  go_enter Try.func24, Try.ntmps24
  go_wp2_with (go_at_call 27; refine (finiteR_any _ _).mono ?_; rintro e w' ⟨rfl, n, rfl⟩)
  exact bodyPost_ret (v := .tuple #[.agg #[.float .f64 0, .float .f64 0], .bool false]) (by simp [results, Try.results24, go_sem]) rfl ⟨rfl, ((bdn ((Below.refl _ _).alloc (Nat.le_refl _) _)).setCell (by simp) _).setCell (by simp) _⟩
set_option maxHeartbeats 2000000 in
theorem wider_no (r s u v : Nat) (h1 : finV r = true) (h2 : finV s = true) (hu : W64 u) (hv : W64 v) (hb : spB u v = false)
    (H1 : ∀ w, Calls Try.prog 38 #[.float .f64 (Op.negFloat .f64 r)] w fun e w' => e = .returned (.float .f64 (Op.negFloat .f64 u)) ∧ w' = w) (hn : Op.negFloat .f64 (Op.negFloat .f64 u) = u)
    (H2 : ∀ w, Calls Try.prog 38 #[.float .f64 s] w fun e w' => e = .returned (.float .f64 v) ∧ w' = w)
    (w : World) : Calls Try.prog 24 #[.float .f64 r, .float .f64 s] w fun e w' => e = .returned (.tuple #[.agg #[.float .f64 0, .float .f64 0], .bool false]) ∧ Below w.heap.size w w' := by
  have HH1 := hid H1
  have HH2 := hid H2
  have hng := hneg
  clear H1 H2
  go_enter Try.func24, Try.ntmps24
  go_wp2_with fail
  refine (finiteR_any _ _).mono ?_
  rintro e w1 ⟨rfl, n1, rfl⟩
  go_wp2_with fail
  refine (finiteR_any _ _).mono ?_
  rintro e w1 ⟨rfl, n2, rfl⟩
  go_wp2_with fail
  refine (HH1.out _).mono ?_
  rintro e w1 ⟨rfl, rfl⟩
  go_wp2_with fail
  refine (HH2.out _).mono ?_
  rintro e w1 ⟨rfl, rfl⟩
  go_wp2_with fail
  refine (isSpan_any _ _ (by assumption) (by assumption) _).mono ?_
  rintro e w2 ⟨rfl, hB⟩
  obtain ⟨hc1, hf1⟩ := bcell hB
  obtain ⟨d0, d1⟩ : w2.cell? ⟨w.heap.size, 0, none⟩ = some (.float .f64 0) ∧ w2.cell? ⟨w.heap.size, 1, none⟩ = some (.float .f64 0) := by rw [hc1 _ _ (by simp; omega), hc1 _ _ (by simp; omega)]; simp [go_sem]
  go_wp2
  exact bodyPost_ret (v := .tuple #[.agg #[.float .f64 0, .float .f64 0], .bool false]) (by simp [results, Try.results24, go_sem, d0, d1]) rfl ⟨rfl, ((bt ((bdn ((Below.refl _ _).alloc (Nat.le_refl _) _)).alloc (by simp) _) hB).setCell (by simp) _).setCell (by simp) _⟩
set_option maxHeartbeats 2000000 in
theorem wider_yes (r s u v : Nat) (h1 : finV r = true) (h2 : finV s = true) (hu : W64 u) (hv : W64 v) (hb : spB u v = true)
    (H1 : ∀ w, Calls Try.prog 38 #[.float .f64 (Op.negFloat .f64 r)] w fun e w' => e = .returned (.float .f64 (Op.negFloat .f64 u)) ∧ w' = w) (hn : Op.negFloat .f64 (Op.negFloat .f64 u) = u)
    (H2 : ∀ w, Calls Try.prog 38 #[.float .f64 s] w fun e w' => e = .returned (.float .f64 v) ∧ w' = w)
    (w : World) : Calls Try.prog 24 #[.float .f64 r, .float .f64 s] w fun e w' => e = .returned (.tuple #[.agg #[.float .f64 u, .float .f64 v], .bool true]) ∧ Below w.heap.size w w' := by
  have HH1 := hid H1
  have HH2 := hid H2
  have hng := hneg
  clear H1 H2
  go_enter Try.func24, Try.ntmps24
  go_wp2_with fail
  refine (finiteR_any _ _).mono ?_
  rintro e w1 ⟨rfl, n1, rfl⟩
  go_wp2_with fail
  refine (finiteR_any _ _).mono ?_
  rintro e w1 ⟨rfl, n2, rfl⟩
  go_wp2_with fail
  refine (HH1.out _).mono ?_
  rintro e w1 ⟨rfl, rfl⟩
  go_wp2_with fail
  refine (HH2.out _).mono ?_
  rintro e w1 ⟨rfl, rfl⟩
  go_wp2_with fail
  refine (isSpan_any _ _ (by assumption) (by assumption) _).mono ?_
  rintro e w2 ⟨rfl, hB⟩
  obtain ⟨hc1, hf1⟩ := bcell hB
  obtain ⟨d0, d1⟩ : w2.cell? ⟨w.heap.size, 0, none⟩ = some (.float .f64 0) ∧ w2.cell? ⟨w.heap.size, 1, none⟩ = some (.float .f64 0) := by rw [hc1 _ _ (by simp; omega), hc1 _ _ (by simp; omega)]; simp [go_sem]
  go_wp2
  exact bodyPost_ret (v := .tuple #[.agg #[.float .f64 u, .float .f64 v], .bool true]) (by simp [results, Try.results24, go_sem, d0, d1]) rfl ⟨rfl, ((bt ((bdn ((Below.refl _ _).alloc (Nat.le_refl _) _)).alloc (by simp) _) hB).setCell (by simp) _).setCell (by simp) _⟩

theorem neg_neg (x : Nat) (hx : x < 18446744073709551616) : Op.negFloat .f64 (Op.negFloat .f64 x) = x := by
  by_cases c : x < 9223372036854775808
  · rw [neg_low c, neg_high c]
  · obtain ⟨y, rfl⟩ : ∃ y, x = 9223372036854775808 + y := ⟨x - 9223372036854775808, by omega⟩
    rw [neg_high (by omega), neg_low (by omega)]
theorem wider_any (r s : Nat) (hr : NN r) (hs : NN s) (hle : key r ≤ key s ∨ (0 ≤ key r ∧ key r < posInf ∧ 0 ≤ key s)) (w : World) : Calls Try.prog 24 #[.float .f64 r, .float .f64 s] w fun e w' => ∃ u v ok, e = .returned (.tuple #[.agg #[.float .f64 u, .float .f64 v], .bool ok]) ∧ Out (wid (key r) (key s)) u v ok ∧ Below w.heap.size w w' := by
  have b1 := nn_key_bd hr
  have b2 := nn_key_bd hs
  have e1 := finV_key hr
  have e2 := finV_key hs
  have hp : (0 : Int) < posInf := by decide
  cases h1 : finV r with
  | false =>
    have hw : wid (key r) (key s) = none := by
      rw [h1] at e1
      unfold wid; rw [if_neg]
      intro ⟨c1, c2, c3⟩
      have : (decide (-posInf < key r) && decide (key r < posInf)) = true := by simp; omega
      rw [this] at e1; cases e1
    refine (wider_bad1 r s h1 w).mono ?_
    rintro e w' ⟨rfl, hB⟩
    exact ⟨0, 0, false, rfl, by rw [hw]; exact ⟨rfl, rfl, rfl⟩, hB⟩
  | true =>
    cases h2 : finV s with
    | false =>
      have hw : wid (key r) (key s) = none := by
        rw [h2] at e2
        rw [h1] at e1
        simp at e1
        unfold wid; rw [if_neg]
        intro ⟨c1, c2, c3⟩
        have : (decide (-posInf < key s) && decide (key s < posInf)) = true := by simp; omega
        rw [this] at e2; cases e2
      refine (wider_bad2 r s h1 h2 w).mono ?_
      rintro e w' ⟨rfl, hB⟩
      exact ⟨0, 0, false, rfl, by rw [hw]; exact ⟨rfl, rfl, rfl⟩, hB⟩
    | true =>
      rw [h1] at e1
      rw [h2] at e2
      simp at e1 e2
      obtain ⟨n1, k1⟩ := key_neg hr
      obtain ⟨n2, k2⟩ := upW_key n1 (by omega)
      obtain ⟨n3, k3⟩ := key_neg n2
      obtain ⟨n4, k4⟩ := upW_key hs (by omega)
      have hk : key (Op.negFloat .f64 (upW (Op.negFloat .f64 r))) = key r - 1 := by omega
      have hnn := neg_neg _ n2.1
      have H1 : ∀ w, Calls Try.prog 38 #[.float .f64 (Op.negFloat .f64 r)] w fun e w' => e = .returned (.float .f64 (Op.negFloat .f64 (Op.negFloat .f64 (upW (Op.negFloat .f64 r))))) ∧ w' = w := by
        intro w; rw [hnn]; exact nextR _ n1 (by omega) w
      have H2 := fun w => nextR s hs (by omega) w
      have hsp := spB_key n3 n4
      rw [hk, k4] at hsp
      by_cases c : -posInf + 1 < key r ∧ key s + 1 < posInf ∧ key r - 1 ≤ key s + 1
      · have hb : spB (Op.negFloat .f64 (upW (Op.negFloat .f64 r))) (upW s) = true := by
          rw [hsp]; simp only [Bool.and_eq_true, decide_eq_true_eq]; omega
        refine (wider_yes r s _ _ h1 h2 n3.1 n4.1 hb H1 (by rw [hnn]) H2 w).mono ?_
        rintro e w' ⟨rfl, hB⟩
        exact ⟨_, _, true, rfl, by unfold wid; rw [if_pos c]; exact ⟨n3, hk, n4, k4, rfl⟩, hB⟩
      · have hb : spB (Op.negFloat .f64 (upW (Op.negFloat .f64 r))) (upW s) = false := by
          rw [hsp, Bool.eq_false_iff]
          intro hc
          simp only [Bool.and_eq_true, decide_eq_true_eq] at hc
          omega
        refine (wider_no r s _ _ h1 h2 n3.1 n4.1 hb H1 (by rw [hnn]) H2 w).mono ?_
        rintro e w' ⟨rfl, hB⟩
        exact ⟨0, 0, false, rfl, by unfold wid; rw [if_neg c]; exact ⟨rfl, rfl, rfl⟩, hB⟩
end Go.Proofs.Ytcbiigmnldcggaa
