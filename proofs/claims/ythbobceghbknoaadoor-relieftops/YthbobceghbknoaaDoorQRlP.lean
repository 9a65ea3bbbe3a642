/-
  mercatorref3.TouchOf; relief.stands.
-/
import Derived.Test.YthbobceghbknoaaDoorQRlD
namespace Go.Proofs.YthbobceghbknoaaDoor
open Go.RowKit

/-- Do two cells touch? -/
def tch (m i k : Nat) : Prop := i ≠ k ∧ (i % m ≤ k % m + 1 ∧ k % m ≤ i % m + 1) ∧ (i / m ≤ k / m + 1 ∧ k / m ≤ i / m + 1)
instance (m i k : Nat) : Decidable (tch m i k) := by unfold tch; exact inferInstance
theorem sq_le {x : Int} (h1 : -20000 ≤ x) (h2 : x ≤ 20000) : (x * x ≤ 1 ↔ -1 ≤ x ∧ x ≤ 1) ∧ 0 ≤ x * x ∧ x * x ≤ 400000000 := by
  have a1 : 0 ≤ x * x := by rcases Int.le_total 0 x with h | h; exact Int.mul_nonneg h h; exact Int.mul_nonneg_of_nonpos_of_nonpos h h
  refine ⟨⟨fun h => ?_, fun ⟨h3, h4⟩ => ?_⟩, a1, ?_⟩
  · constructor
    · rcases Int.lt_or_le x (-1) with c | c
      · have : 2 * 2 ≤ (-x) * (-x) := Int.mul_le_mul (by omega) (by omega) (by omega) (by omega)
        rw [Int.neg_mul_neg] at this; omega
      · exact c
    · rcases Int.lt_or_le 1 x with c | c
      · have : 2 * 2 ≤ x * x := Int.mul_le_mul (by omega) (by omega) (by omega) (by omega)
        omega
      · exact c
  · rcases Int.lt_or_le x 0 with c | c
    · have e : x = -1 := by omega
      subst e; decide
    · rcases Int.lt_or_le 0 x with c | c
      · have e : x = 1 := by omega
        subst e; decide
      · have e : x = 0 := by omega
        subst e; decide
  · rcases Int.le_total 0 x with h | h
    · have : x * x ≤ 20000 * 20000 := Int.mul_le_mul h2 h2 h (by omega)
      omega
    · have : (-x) * (-x) ≤ 20000 * 20000 := Int.mul_le_mul (by omega) (by omega) (by omega) (by omega)
      rw [Int.neg_mul_neg] at this; omega
set_option maxRecDepth 4000 in
set_option maxHeartbeats 4000000 in
theorem touchOf_any {pb po m : Nat} {H : Int} {v : Value} (i k : Nat) (hm : 1 ≤ m) (hi : i ≤ 16384) (hk : k ≤ 16384) (w : World) (hp : PtR w pb po m H v) : Calls Tryd.prog 15 #[.pointer (some ⟨pb, po, none⟩), .int .i64 (i : Int), .int .i64 (k : Int)] w fun e w' => e = .returned (.bool (decide (tch m i k))) ∧ Gr w w' := by
  have HP := hidb hp
  obtain ⟨iI, hiI'⟩ : ∃ z : Int, z = (i : Int) := ⟨_, rfl⟩
  obtain ⟨kI, hkI'⟩ : ∃ z : Int, z = (k : Int) := ⟨_, rfl⟩
  obtain ⟨mI, hmI⟩ : ∃ z : Int, z = (m : Int) := ⟨_, rfl⟩
  obtain ⟨q1, r1, s1, s2⟩ := nat_q hiI' hmI (by omega)
  obtain ⟨q2, r2, s3, s4⟩ := nat_q hkI' hmI (by omega)
  have b1 : i % m ≤ i := Nat.mod_le _ _
  have b2 : k % m ≤ k := Nat.mod_le _ _
  have b3 : i / m ≤ i := Nat.div_le_self _ _
  have b4 : k / m ≤ k := Nat.div_le_self _ _
  obtain ⟨im, him⟩ : ∃ z : Nat, z = i % m := ⟨_, rfl⟩
  obtain ⟨km, hkm⟩ : ∃ z : Nat, z = k % m := ⟨_, rfl⟩
  obtain ⟨iq, hiq⟩ : ∃ z : Nat, z = i / m := ⟨_, rfl⟩
  obtain ⟨kq, hkq⟩ : ∃ z : Nat, z = k / m := ⟨_, rfl⟩
  have ht : decide (tch m i k) = (decide (¬ iI = kI) && decide ((im : Int) - (km : Int) ≤ 1 ∧ -1 ≤ (im : Int) - (km : Int)) && decide ((iq : Int) - (kq : Int) ≤ 1 ∧ -1 ≤ (iq : Int) - (kq : Int))) := by
    rw [← Bool.decide_and, ← Bool.decide_and]
    apply decide_eq_decide.2
    unfold tch
    rw [← him, ← hkm, ← hiq, ← hkq]
    omega
  rw [ht]
  rw [← him] at r1 s2 b1
  rw [← hkm] at r2 s4 b2
  rw [← hiq] at q1 s1 b3
  rw [← hkq] at q2 s3 b4
  have e0 : ¬ mI = 0 := by omega
  obtain ⟨u, hu, e1⟩ : ∃ z : Int, z = (im : Int) - (km : Int) ∧ IntKind.i64.wrap ((im : Int) - (km : Int)) = z := ⟨_, rfl, wrap_in (by omega) (by omega)⟩
  obtain ⟨t, ht', e2⟩ : ∃ z : Int, z = (iq : Int) - (kq : Int) ∧ IntKind.i64.wrap ((iq : Int) - (kq : Int)) = z := ⟨_, rfl, wrap_in (by omega) (by omega)⟩
  rw [← hu, ← ht']
  obtain ⟨c1, c2, c3⟩ := sq_le (x := u) (by omega) (by omega)
  obtain ⟨d1, d2, d3⟩ := sq_le (x := t) (by omega) (by omega)
  rw [show decide (u ≤ 1 ∧ -1 ≤ u) = decide (u * u ≤ 1) from decide_eq_decide.2 (by rw [c1]; exact And.comm), show decide (t ≤ 1 ∧ -1 ≤ t) = decide (t * t ≤ 1) from decide_eq_decide.2 (by rw [d1]; exact And.comm)]
  obtain ⟨uu, hu2, e3⟩ : ∃ z : Int, z = u * u ∧ IntKind.i64.wrap (u * u) = z := ⟨_, rfl, wrap_in (by omega) (by omega)⟩
  obtain ⟨tt, ht2, e4⟩ : ∃ z : Int, z = t * t ∧ IntKind.i64.wrap (t * t) = z := ⟨_, rfl, wrap_in (by omega) (by omega)⟩
  rw [← hu2, ← ht2]
  rw [← hmI] at HP
  rw [← hiI', ← hkI']
  clear hp hu ht' c1 c2 c3 d1 d2 d3 ht b1 b2 b3 b4 hiI' hkI' hmI hm hi hk hu2 ht2 him hkm hiq hkq
  obtain ⟨p0, p1, p2⟩ := HP.out
  by_cases f1 : iI = kI
  · go_enter Tryd.func15, Tryd.ntmps15
    go_upto_region 1 with fail
    go_quiet (fail)
    go_upto_region 2 with fail
    go_quiet (fail)
    go_wp2
    go_ret
    exact ⟨by simp [f1], (Gr.refl w).drewN _⟩
  · by_cases f2 : uu ≤ 1
    all_goals
      have f1' : (iI != kI) = true := by simpa using f1
      go_enter Tryd.func15, Tryd.ntmps15
      go_upto_region 1 with fail
      go_quiet (fail)
      go_upto_region 2 with fail
      go_quiet (fail)
      go_wp2
      go_ret
      exact ⟨by first | (simp [f1, f2]; done) | (simp; omega), (Gr.refl w).drewN _⟩
end Go.Proofs.YthbobceghbknoaaDoor
