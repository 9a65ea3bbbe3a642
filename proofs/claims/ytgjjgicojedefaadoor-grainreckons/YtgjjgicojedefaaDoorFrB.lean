/-
  mercatorref1.IsRight, grain.right, grain.split.
-/
import Derived.Test.YtgjjgicojedefaaDoorFrA
namespace Go.Proofs.YtgjjgicojedefaaDoor
open Go.RowKit BG
attribute [local go_sem ↓] Go.wp_at_zero Go.wp_at_succ

/-- The fraction is right. -/
def Rgt (n d : Int) : Prop := (1 ≤ d ∧ d ≤ 4611686018427387904 ∧ n ≤ 4611686018427387904 ∧ -4611686018427387904 ≤ n) ∧ Nat.gcd n.natAbs d.natAbs = 1
instance (n d : Int) : Decidable (Rgt n d) := by unfold Rgt; infer_instance
theorem Rgt.sml {n d : Int} (h : Rgt n d) : Sml n := by unfold Sml; have := h.1; omega
theorem Rgt.smd {n d : Int} (h : Rgt n d) : Sml d := by unfold Sml; have := h.1; omega
theorem one_or (y : Int) : (decide (y = 1) || decide (y = -1)) = decide (y.natAbs = 1) := by
  by_cases h : y = 1
  · subst h; rfl
  · by_cases k : y = -1
    · subst k; rfl
    · rw [decide_eq_false h, decide_eq_false k, decide_eq_false (by omega)]; rfl
set_option maxRecDepth 4000 in
set_option maxHeartbeats 2000000 in
theorem isRight_any (n d : Int) (w : World) : Calls Tryd.prog 14 #[.agg #[.int .i64 n, .int .i64 d]] w fun e w' => e = .returned (.bool (decide (Rgt n d))) ∧ Below w.heap.size w w' := by
  have HC := (Gr.refl w).alloc (.cells #[.int .i64 n, .int .i64 d] 29)
  by_cases c : 1 ≤ d ∧ d ≤ 4611686018427387904 ∧ n ≤ 4611686018427387904 ∧ -4611686018427387904 ≤ n
  · obtain ⟨c1, c2, c3, c4⟩ := id c
    have HD := hidb (show Rgt n d ↔ Nat.gcd n.natAbs d.natAbs = 1 from ⟨fun h => h.2, fun h => ⟨c, h⟩⟩)
    clear c
    go_enter Tryd.func14, Tryd.ntmps14
    go_wp2
    go_loopg [3, 4] n.natAbs (fun g s t wr => ∃ (x y : Int), s = .int .i64 x ∧ t = .int .i64 y ∧ Hid (x.natAbs = g) ∧ Sml x ∧ Sml y ∧ Hid (Nat.gcd x.natAbs y.natAbs = Nat.gcd n.natAbs d.natAbs) ∧ Below w.heap.size w wr)
    case atStart => exact ⟨n, d, rfl, rfl, rfl, by unfold Sml; omega, by unfold Sml; omega, rfl, HC⟩
    case round =>
      obtain ⟨x, y, rfl, rfl, HX, lx, ly, HG, hB⟩ := hrel
      clear HC
      by_cases h0 : x = 0
      · subst h0
        have HE : Hid (decide (Rgt n d) = (decide (y = 1) || decide (y = -1))) := by
          show _ = _
          rw [one_or, decide_eq_decide]
          have h := HG.out
          rw [Int.natAbs_zero, Nat.gcd_zero_left] at h
          rw [h]; exact HD.out
        by_cases hy : y = 1
        · subst hy
          go_wp2
          go_ret
          exact ⟨by rw [HE.out]; rfl, hB⟩
        · have hy' : (y == 1) = false := by simp [hy]
          have HF : Hid (decide (Rgt n d) = (y == -1)) := by
            show _ = _
            rw [HE.out, decide_eq_false hy, Bool.false_or]
            by_cases k : y = -1 <;> simp [k]
          go_wp2
          go_ret
          exact ⟨by rw [HF.out]; simp, hB⟩
      · have HM : Hid ((y.tmod x).natAbs = y.natAbs % x.natAbs) := Int.natAbs_tmod _ _
        have HL : Hid ((y.tmod x).natAbs < x.natAbs) := by show _ < _; rw [HM.out]; exact Nat.mod_lt _ (by omega)
        unfold Sml at lx ly
        have b1 : (y.tmod x).natAbs ≤ 4611686018427387904 := Nat.le_trans (Nat.le_of_lt HL.out) lx
        go_wp2
        go_roundg (y.tmod x).natAbs
        case measure => rw [← HX.out]; exact HL.out
        case rel => exact ⟨_, _, rfl, rfl, rfl, b1, lx, by show _ = _; rw [HM.out, Nat.gcd_comm, gcd_step', Nat.gcd_comm]; exact HG.out, hB⟩
  · have HE : Hid (decide (Rgt n d) = false) := decide_eq_false (fun h => c h.1)
    go_enter Tryd.func14, Tryd.ntmps14
    by_cases c1 : d < 1
    · go_wp2
      go_ret
      exact ⟨by rw [HE.out]; rfl, HC⟩
    by_cases c2 : 4611686018427387904 < d
    · go_wp2
      go_ret
      exact ⟨by rw [HE.out]; rfl, HC⟩
    by_cases c3 : 4611686018427387904 < n
    · go_wp2
      go_ret
      exact ⟨by rw [HE.out]; rfl, HC⟩
    have c4 : n < -4611686018427387904 := by omega
    go_wp2
    go_ret
    exact ⟨by rw [HE.out]; rfl, HC⟩
end Go.Proofs.YtgjjgicojedefaaDoor
