/-
  mercatorref1.RootedOf.
-/
import Derived.Test.YtcbiigmnldcggaaSpanO
namespace Go.Proofs.Ytcbiigmnldcggaa
open Go.RowKit FB
attribute [local go_sem] run_store_float

set_option maxHeartbeats 1000000 in
theorem rootedOf_bad1 (a b : Nat) (ha : W64 a) (hb : W64 b) (h1 : spB a b = false) (w : World) : Calls Try.prog 10 #[.agg #[.float .f64 a, .float .f64 b]] w fun e w' => e = .returned (.tuple #[.agg #[.float .f64 0, .float .f64 0], .bool false]) ∧ Below w.heap.size w w' := by
  go_enter Try.func10, Try.ntmps10
  go_wp2_with fail
  refine (isSpan_any _ _ (by assumption) (by assumption) _).mono ?_
  rintro e w1 ⟨rfl, hB⟩
  obtain ⟨hc, hf⟩ := bcell hB
  go_wp2
  exact bodyPost_ret (v := .tuple #[.agg #[.float .f64 0, .float .f64 0], .bool false]) (by simp [results, Try.results10, go_sem, hc]) rfl ⟨rfl, ((bt (((Below.refl _ _).alloc (Nat.le_refl _) _).alloc (by simp) _) hB).setCell (by simp) _).setCell (by simp) _⟩
set_option maxHeartbeats 1000000 in
theorem rootedOf_bad2 (a b : Nat) (ha : W64 a) (hb : W64 b) (h1 : spB a b = true) (t : (FloatKind.f64.format.order a 0 == some Ordering.lt) = true) (w : World) : Calls Try.prog 10 #[.agg #[.float .f64 a, .float .f64 b]] w fun e w' => e = .returned (.tuple #[.agg #[.float .f64 0, .float .f64 0], .bool false]) ∧ Below w.heap.size w w' := by
  go_enter Try.func10, Try.ntmps10
  go_wp2_with fail
  refine (isSpan_any _ _ (by assumption) (by assumption) _).mono ?_
  rintro e w1 ⟨rfl, hB⟩
  obtain ⟨hc, hf⟩ := bcell hB
  go_wp2
  exact bodyPost_ret (v := .tuple #[.agg #[.float .f64 0, .float .f64 0], .bool false]) (by simp [results, Try.results10, go_sem, hc]) rfl ⟨rfl, ((bt (((Below.refl _ _).alloc (Nat.le_refl _) _).alloc (by simp) _) hB).setCell (by simp) _).setCell (by simp) _⟩
set_option maxHeartbeats 4000000 in
theorem rootedOf_ok (a b p q : Nat) (ha : W64 a) (hb : W64 b) (h1 : spB a b = true) (t : (FloatKind.f64.format.order a 0 == some Ordering.lt) = false) (hp : Ieee.double.sqrt a = some p) (hq : Ieee.double.sqrt b = some q) (np : NN p) (nq : NN q) (k0 : 0 ≤ key p) (k1 : key p < posInf) (k2 : 0 ≤ key q) (w : World) : Calls Try.prog 10 #[.agg #[.float .f64 a, .float .f64 b]] w fun e w' => ∃ u v ok, e = .returned (.tuple #[.agg #[.float .f64 u, .float .f64 v], .bool ok]) ∧ Out (rt (key p) (key q)) u v ok ∧ Below w.heap.size w w' := by
  have HT := hid (fun w => wider_any p q np nq (.inr ⟨k0, k1, k2⟩) w)
  have HR := hid (fun u v ok h => root_out (p := key p) (q := key q) (u := u) (v := v) (ok := ok) k0 h)
  clear k0 k1 k2
  go_enter Try.func10, Try.ntmps10
  go_wp2_with fail
  refine (isSpan_any _ _ (by assumption) (by assumption) _).mono ?_
  rintro e w1 ⟨rfl, hB⟩
  obtain ⟨hc, hf⟩ := bcell hB
  obtain ⟨hz, ha1⟩ : w.heap.size + 1 < w1.heap.size ∧ w.heap.size < w1.heap.size := by have := hB.size; simp at this; omega
  go_wp2
  go_region_held (fun w' => w'.cell? ⟨w.heap.size, 0, none⟩ = some (.float .f64 a) ∧ w'.cell? ⟨w.heap.size, 1, none⟩ = some (.float .f64 b))
    (first | assumption | (simp [go_sem, hc, ha1]; done) | (simp [go_sem, hS8.1, hS8.2]; done) | (simp [go_sem, hS8.1, hS8.2, hz8]; done))
    ((first
      | (go_at_call 26; refine (sqrt_num (by assumption) _).mono ?_; rintro e wa ⟨rfl, rfl⟩)
      | (go_at_call 24; refine (HT.out _).mono ?_; rintro e w8 ⟨u, v, ok, rfl, ho, hB8⟩; obtain ⟨hc8, hf8⟩ := bcell hB8; have hz8 : w.heap.size < w8.heap.size := (by have := hB8.size; simp at this; omega); have hS8 : w8.cell? ⟨w.heap.size, 0, none⟩ = some (.float .f64 a) ∧ w8.cell? ⟨w.heap.size, 1, none⟩ = some (.float .f64 b) := ⟨by rw [hc8 _ _ (by simp; omega)]; simp [go_sem, hc, ha1], by rw [hc8 _ _ (by simp; omega)]; simp [go_sem, hc, ha1]⟩; obtain ⟨d0, d1, f0, f1⟩ : w8.cell? ⟨w.heap.size + 1, 0, none⟩ = some (.float .f64 0) ∧ w8.cell? ⟨w.heap.size + 1, 1, none⟩ = some (.float .f64 0) ∧ w8.frozen? ⟨w.heap.size + 1, 0, none⟩ = false ∧ w8.frozen? ⟨w.heap.size + 1, 1, none⟩ = false := ⟨by rw [hc8 _ _ (by simp; omega)]; simp [go_sem, hc, hz], by rw [hc8 _ _ (by simp; omega)]; simp [go_sem, hc, hz], by rw [hf8 _ _ (by simp; omega)]; simp [go_sem, hf, hz], by rw [hf8 _ _ (by simp; omega)]; simp [go_sem, hf, hz]⟩)))
  · have nu := (out_nn ho).1
    have t2 := k_lss nu nn_zero.1
    rw [nn_zero.2] at t2
    have HO := hid (HR.out u v ok ho)
    have hB9 : Below w.heap.size w w8 := by
      exact bt (bt (((Below.refl _ _).alloc (Nat.le_refl _) _).alloc (by simp) _) hB).drew hB8
    have hz9 : w.heap.size + 1 < w8.heap.size := by have := hB8.size; simp at this; omega
    obtain ⟨ne1, ne2⟩ : ¬ w.heap.size + 1 = w1.heap.size ∧ ¬ w.heap.size + 1 = w8.heap.size := ⟨by omega, by omega⟩
    by_cases cu : key u < 0
    · rw [decide_eq_true cu] at t2
      have HP := hid (HO.out.1 cu)
      clear cu HO ho HR HT
      go_wp2
      exact bodyPost_ret (v := .tuple #[.agg #[.float .f64 0, .float .f64 v], .bool ok]) (by simp [results, Try.results10, go_sem, d0, d1, hz9]) rfl ⟨0, v, ok, rfl, HP.out, by repeat (first | exact hB9 | refine Below.setCell ?_ (by first | (simp; done) | (simp; omega)) _ | refine Below.alloc ?_ (by first | (simp; done) | (simp; omega)) _)⟩
    · rw [decide_eq_false cu] at t2
      have HP := hid (HO.out.2 (by omega))
      clear cu HO ho HR HT
      go_wp2
      exact bodyPost_ret (v := .tuple #[.agg #[.float .f64 u, .float .f64 v], .bool ok]) (by simp [results, Try.results10, go_sem, d0, d1, hz9]) rfl ⟨u, v, ok, rfl, HP.out, by repeat (first | exact hB9 | refine Below.setCell ?_ (by first | (simp; done) | (simp; omega)) _ | refine Below.alloc ?_ (by first | (simp; done) | (simp; omega)) _)⟩
  all_goals
    have nu := (out_nn ho).1
    have t2 := k_lss nu nn_zero.1
    rw [nn_zero.2] at t2
    have HO := hid (HR.out u v ok ho)
    have hB9 : Below w.heap.size w w8 := by
      exact bt ((bt (((Below.refl _ _).alloc (Nat.le_refl _) _).alloc (by simp) _) hB).alloc (by omega) _).drew hB8
    have hz9 : w.heap.size + 1 < w8.heap.size := by have := hB8.size; simp at this; omega
    obtain ⟨ne1, ne2⟩ : ¬ w.heap.size + 1 = w1.heap.size ∧ ¬ w.heap.size + 1 = w8.heap.size := ⟨by omega, by omega⟩
    obtain ⟨g0, g1, g2, g3⟩ : w8.cell? ⟨w1.heap.size, 0, none⟩ = some (.float .f64 0) ∧ w8.cell? ⟨w1.heap.size, 1, none⟩ = some (.float .f64 0) ∧ w8.frozen? ⟨w1.heap.size, 0, none⟩ = false ∧ w8.frozen? ⟨w1.heap.size, 1, none⟩ = false := ⟨by rw [hc8 _ _ (by simp)]; simp [go_sem], by rw [hc8 _ _ (by simp)]; simp [go_sem], by rw [hf8 _ _ (by simp)]; simp [go_sem], by rw [hf8 _ _ (by simp)]; simp [go_sem]⟩
    by_cases cu : key u < 0
    · rw [decide_eq_true cu] at t2
      have HP := hid (HO.out.1 cu)
      clear cu HO ho HR HT
      go_wp2
      exact bodyPost_ret (v := .tuple #[.agg #[.float .f64 0, .float .f64 v], .bool ok]) (by simp [results, Try.results10, go_sem, d0, d1]) rfl ⟨0, v, ok, rfl, HP.out, by repeat (first | exact hB9 | refine Below.setCell ?_ (by first | (simp; done) | (simp; omega)) _ | refine Below.alloc ?_ (by first | (simp; done) | (simp; omega)) _)⟩
    · rw [decide_eq_false cu] at t2
      have HP := hid (HO.out.2 (by omega))
      clear cu HO ho HR HT
      go_wp2
      exact bodyPost_ret (v := .tuple #[.agg #[.float .f64 u, .float .f64 v], .bool ok]) (by simp [results, Try.results10, go_sem, d0, d1]) rfl ⟨u, v, ok, rfl, HP.out, by repeat (first | exact hB9 | refine Below.setCell ?_ (by first | (simp; done) | (simp; omega)) _ | refine Below.alloc ?_ (by first | (simp; done) | (simp; omega)) _)⟩
theorem rootedOf_any (a b : Nat) (ha : W64 a) (hb : W64 b) (w : World) : Calls Try.prog 10 #[.agg #[.float .f64 a, .float .f64 b]] w fun e w' => ∃ u v ok, e = .returned (.tuple #[.agg #[.float .f64 u, .float .f64 v], .bool ok]) ∧ Out (rootO a b) u v ok ∧ Below w.heap.size w w' := by
  unfold rootO
  cases h1 : spB a b with
  | false =>
    refine (rootedOf_bad1 a b ha hb h1 w).mono ?_
    rintro e w' ⟨rfl, hB⟩
    exact ⟨0, 0, false, rfl, by rw [if_neg (by simp)]; exact ⟨rfl, rfl, rfl⟩, hB⟩
  | true =>
    obtain ⟨na, nb, hab⟩ := sp_num h1
    have t := k_lss (num_nn ha na).1 nn_zero.1
    rw [nn_zero.2] at t
    by_cases c : key a < 0
    · rw [decide_eq_true c] at t
      refine (rootedOf_bad2 a b ha hb h1 t w).mono ?_
      rintro e w' ⟨rfl, hB⟩
      exact ⟨0, 0, false, rfl, by rw [if_neg (by omega)]; exact ⟨rfl, rfl, rfl⟩, hB⟩
    · rw [decide_eq_false c] at t
      obtain ⟨p, hp, np, p0, p1⟩ := sqrt_nn na (by omega) ha
      obtain ⟨q, hq, nq, q0, q1⟩ := sqrt_nn nb (by omega) hb
      rw [if_pos ⟨rfl, by omega⟩, hp, hq]
      exact rootedOf_ok a b p q ha hb h1 t hp hq np nq p0 p1 q0 w
end Go.Proofs.Ytcbiigmnldcggaa
