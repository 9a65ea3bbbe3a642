/-
  Roots of spans: grain.Rooted, mercatorref1.RootedOf.
-/
import Derived.Test.YtcbiigmnldcggaaSpanV
import Derived.Deep.RegionHeld
namespace Go.Proofs.Ytcbiigmnldcggaa
open Go.RowKit FB
attribute [local go_sem] run_store_float

theorem sqrt_is (x : Nat) : Extern.MathSqrt.sqrt #[.float .f64 x] = (match FloatKind.f64.format.sqrt x with | some r => pure (.float .f64 r) | none => do pure (.float .f64 (← choose (.nanBits .f64 x x)))) := rfl
theorem run_sqrt1 {x r : Nat} (h : Ieee.double.sqrt x = some r) (w : World) : (callFunc 39 #[.float .f64 x]).run Try.prog w = .ok (.value (.float .f64 r)) w := by
  rw [@run_callFunc_extern Try.prog 39 _ Extern.MathSqrt.sqrt Try.func39 (by kernel_rfl) (by kernel_rfl) (by kernel_rfl) (by kernel_rfl) _ w, sqrt_is]
  have h' : FloatKind.f64.format.sqrt x = some r := h
  simp [h']
theorem sqrt_num {x r : Nat} (h : Ieee.double.sqrt x = some r) (w : World) : Calls Try.prog 26 #[.float .f64 x] w fun e w' => e = .returned (.float .f64 r) ∧ w' = w := by
  have h := fun w => run_sqrt1 h w
  go_enter Try.func26, Try.ntmps26
  go_wp2
  go_ret
  exact ⟨rfl, rfl⟩

/-- The places of the ends of a span of roots; none where one is no longer finite. -/
def rt (p q : Int) : Option (Int × Int) := if q + 1 < posInf ∧ p - 1 ≤ q + 1 then some (max 0 (p - 1), q + 1) else none
def rootO (a b : Nat) : Option (Int × Int) := if spB a b = true ∧ 0 ≤ key a then rt (key ((Ieee.double.sqrt a).getD 0)) (key ((Ieee.double.sqrt b).getD 0)) else none
theorem posInf_two : (2 : Int) < posInf := by decide
theorem out_nn {o : Option (Int × Int)} {u v : Nat} {ok : Bool} (h : Out o u v ok) : NN u ∧ NN v := by
  cases o with
  | none => obtain ⟨rfl, rfl, _⟩ := h; exact ⟨nn_zero.1, nn_zero.1⟩
  | some o => exact ⟨h.1, h.2.2.1⟩
theorem root_out {p q : Int} {u v : Nat} {ok : Bool} (hp : 0 ≤ p) (h : Out (wid p q) u v ok) : (key u < 0 → Out (rt p q) 0 v ok) ∧ (¬ key u < 0 → Out (rt p q) u v ok) := by
  have h2 := posInf_two
  unfold wid at h
  unfold rt
  by_cases c : q + 1 < posInf ∧ p - 1 ≤ q + 1
  · rw [if_pos ⟨by omega, c.1, c.2⟩] at h
    rw [if_pos c]
    obtain ⟨n1, k1, n2, k2, rfl⟩ := h
    refine ⟨fun hk => ⟨nn_zero.1, ?_, n2, k2, rfl⟩, fun hk => ⟨n1, ?_, n2, k2, rfl⟩⟩
    · rw [nn_zero.2]; omega
    · omega
  · rw [if_neg (fun h => c ⟨h.2.1, h.2.2⟩)] at h
    rw [if_neg c]
    obtain ⟨rfl, rfl, rfl⟩ := h
    refine ⟨fun hk => ⟨rfl, rfl, rfl⟩, fun hk => ⟨rfl, rfl, rfl⟩⟩
theorem told_rt {m n : Nat} (hm : NN m) (hn : NN n) (h0 : 0 ≤ key m) (h1 : key m < posInf) (h2 : 0 ≤ key n) (h3 : key n < posInf) : (if spB (fmx 0 (dn1 m)) (up1 n) = true then some (key (fmx 0 (dn1 m)), key (up1 n)) else none) = rt (key m) (key n) := by
  obtain ⟨a1, a2⟩ := dn1_key hm
  obtain ⟨b1, b2⟩ := up1_key hn
  obtain ⟨c1, c2⟩ := fmx_key nn_zero.1 a1
  have hp := posInf_two
  rw [if_neg (by omega)] at a2 b2
  rw [spB_key c1 b1, c2, a2, b2, nn_zero.2]
  unfold rt
  by_cases c3 : key n + 1 < posInf ∧ key m - 1 ≤ key n + 1
  · rw [if_pos c3, if_pos]
    simp only [Bool.and_eq_true, decide_eq_true_eq]
    omega
  · rw [if_neg c3, if_neg]
    simp only [Bool.and_eq_true, decide_eq_true_eq]
    omega
set_option maxHeartbeats 1000000 in
theorem rooted_bad1 (a b : Nat) (ha : W64 a) (hb : W64 b) (h1 : spB a b = false) (w : World) : Calls Try.prog 9 #[.agg #[.float .f64 a, .float .f64 b]] w fun e w' => e = .returned (.tuple #[.agg #[.float .f64 0, .float .f64 0], .bool false]) ∧ Below w.heap.size w w' := by
  go_enter Try.func9, Try.ntmps9
  go_wp2_with fail
  refine (right_any _ _ (by assumption) (by assumption) _).mono ?_
  rintro e w1 ⟨rfl, hB⟩
  obtain ⟨hc, hf⟩ := bcell hB
  go_wp2
  exact bodyPost_ret (v := .tuple #[.agg #[.float .f64 0, .float .f64 0], .bool false]) (by simp [results, Try.results9, go_sem, hc]) rfl ⟨rfl, ((bt (((Below.refl _ _).alloc (Nat.le_refl _) _).alloc (by simp) _) hB).setCell (by simp) _).setCell (by simp) _⟩
set_option maxHeartbeats 1000000 in
theorem rooted_bad2 (a b : Nat) (ha : W64 a) (hb : W64 b) (h1 : spB a b = true) (t : (FloatKind.f64.format.order a 0 == some Ordering.lt) = true) (w : World) : Calls Try.prog 9 #[.agg #[.float .f64 a, .float .f64 b]] w fun e w' => e = .returned (.tuple #[.agg #[.float .f64 0, .float .f64 0], .bool false]) ∧ Below w.heap.size w w' := by
  go_enter Try.func9, Try.ntmps9
  go_wp2_with fail
  refine (right_any _ _ (by assumption) (by assumption) _).mono ?_
  rintro e w1 ⟨rfl, hB⟩
  obtain ⟨hc, hf⟩ := bcell hB
  go_wp2
  exact bodyPost_ret (v := .tuple #[.agg #[.float .f64 0, .float .f64 0], .bool false]) (by simp [results, Try.results9, go_sem, hc]) rfl ⟨rfl, ((bt (((Below.refl _ _).alloc (Nat.le_refl _) _).alloc (by simp) _) hB).setCell (by simp) _).setCell (by simp) _⟩
set_option maxHeartbeats 4000000 in
theorem rooted_ok (a b p q : Nat) (ha : W64 a) (hb : W64 b) (h1 : spB a b = true) (t : (FloatKind.f64.format.order a 0 == some Ordering.lt) = false) (hp : Ieee.double.sqrt a = some p) (hq : Ieee.double.sqrt b = some q) (np : NN p) (nq : NN q) (k0 : 0 ≤ key p) (k1 : key p < posInf) (k2 : 0 ≤ key q) (k3 : key q < posInf) (w : World) : Calls Try.prog 9 #[.agg #[.float .f64 a, .float .f64 b]] w fun e w' => ∃ u v ok, e = .returned (.tuple #[.agg #[.float .f64 u, .float .f64 v], .bool ok]) ∧ Out (rt (key p) (key q)) u v ok ∧ Below w.heap.size w w' := by
  have HT := hid (fun w => told_any (fmx 0 (dn1 p)) (up1 q) (fmx_key nn_zero.1 (dn1_key np).1).1 (up1_key nq).1 w)
  rw [told_rt np nq k0 k1 k2 k3] at HT
  have hmx := fun ts t w => run_fmx nn_zero.1 (dn1_key np).1 ts t w
  clear k0 k1 k2 k3
  go_enter Try.func9, Try.ntmps9
  go_wp2_with fail
  refine (right_any _ _ (by assumption) (by assumption) _).mono ?_
  rintro e w1 ⟨rfl, hB⟩
  obtain ⟨hc, hf⟩ := bcell hB
  obtain ⟨hz, ha1⟩ : w.heap.size + 1 < w1.heap.size ∧ w.heap.size < w1.heap.size := by have := hB.size; simp at this; omega
  go_wp2
  go_region_held (fun w' => w'.cell? ⟨w.heap.size, 0, none⟩ = some (.float .f64 a) ∧ w'.cell? ⟨w.heap.size, 1, none⟩ = some (.float .f64 b))
    (first | assumption | (simp [go_sem, hc]; done) | (simp [go_sem, hS8.1, hS8.2]; done))
    ((first
      | (go_at_call 26; refine (sqrt_num (by assumption) _).mono ?_; rintro e wa ⟨rfl, rfl⟩)
      | (go_at_call 20; refine (below_any _ np _).mono ?_; rintro e wa ⟨rfl, rfl⟩)
      | (go_at_call 22; refine (above_any _ nq _).mono ?_; rintro e wa ⟨rfl, rfl⟩)
      | (go_at_call 19; refine (HT.out _).mono ?_; rintro e w8 ⟨u, v, ok, rfl, ho, hB8⟩; obtain ⟨hc8, hf8⟩ := bcell hB8; have hS8 : w8.cell? ⟨w.heap.size, 0, none⟩ = some (.float .f64 a) ∧ w8.cell? ⟨w.heap.size, 1, none⟩ = some (.float .f64 b) := ⟨by rw [hc8 _ _ (by simp; omega)]; simp [go_sem, hc], by rw [hc8 _ _ (by simp; omega)]; simp [go_sem, hc]⟩; obtain ⟨d0, d1, f0, f1⟩ : w8.cell? ⟨w.heap.size + 1, 0, none⟩ = some (.float .f64 0) ∧ w8.cell? ⟨w.heap.size + 1, 1, none⟩ = some (.float .f64 0) ∧ w8.frozen? ⟨w.heap.size + 1, 0, none⟩ = false ∧ w8.frozen? ⟨w.heap.size + 1, 1, none⟩ = false := ⟨by rw [hc8 _ _ (by simp; omega)]; simp [go_sem, hc], by rw [hc8 _ _ (by simp; omega)]; simp [go_sem, hc], by rw [hf8 _ _ (by simp; omega)]; simp [go_sem, hf], by rw [hf8 _ _ (by simp; omega)]; simp [go_sem, hf]⟩)))
  all_goals
    go_wp2
    exact bodyPost_ret (v := .tuple #[.agg #[.float .f64 u, .float .f64 v], .bool ok]) (by simp [results, Try.results9, go_sem, d0, d1]) rfl ⟨u, v, ok, rfl, ho, ((bt (bt (((Below.refl _ _).alloc (Nat.le_refl _) _).alloc (by simp) _) hB).drew hB8).setCell (by simp) _).setCell (by simp) _⟩
theorem rooted_any (a b : Nat) (ha : W64 a) (hb : W64 b) (w : World) : Calls Try.prog 9 #[.agg #[.float .f64 a, .float .f64 b]] w fun e w' => ∃ u v ok, e = .returned (.tuple #[.agg #[.float .f64 u, .float .f64 v], .bool ok]) ∧ Out (rootO a b) u v ok ∧ Below w.heap.size w w' := by
  unfold rootO
  cases h1 : spB a b with
  | false =>
    refine (rooted_bad1 a b ha hb h1 w).mono ?_
    rintro e w' ⟨rfl, hB⟩
    exact ⟨0, 0, false, rfl, by rw [if_neg (by simp)]; exact ⟨rfl, rfl, rfl⟩, hB⟩
  | true =>
    obtain ⟨na, nb, hab⟩ := sp_num h1
    have t := k_lss (num_nn ha na).1 nn_zero.1
    rw [nn_zero.2] at t
    by_cases c : key a < 0
    · rw [decide_eq_true c] at t
      refine (rooted_bad2 a b ha hb h1 t w).mono ?_
      rintro e w' ⟨rfl, hB⟩
      exact ⟨0, 0, false, rfl, by rw [if_neg (by omega)]; exact ⟨rfl, rfl, rfl⟩, hB⟩
    · rw [decide_eq_false c] at t
      obtain ⟨p, hp, np, p0, p1⟩ := sqrt_nn na (by omega) ha
      obtain ⟨q, hq, nq, q0, q1⟩ := sqrt_nn nb (by omega) hb
      rw [if_pos ⟨rfl, by omega⟩, hp, hq]
      exact rooted_ok a b p q ha hb h1 t hp hq np nq p0 p1 q0 q1 w
end Go.Proofs.Ytcbiigmnldcggaa
