/-
  mercatorref1.FloorOf, NearOf; grain.split.
-/
import Derived.Test.YtgjjgicojedefaaDoorSgD
namespace Go.Proofs.YtgjjgicojedefaaDoor
open Go.RowKit BG

theorem td_floor {n d : Int} (hd : 1 ≤ d) : (n.tmod d < 0 → n / d = n.tdiv d - 1 ∧ n % d = n.tmod d + d) ∧ (¬ n.tmod d < 0 → n / d = n.tdiv d ∧ n % d = n.tmod d) := by
  have h1 := Int.mul_tdiv_add_tmod n d
  have h2 := Int.mul_ediv_add_emod n d
  have h3 := Int.emod_nonneg n (show d ≠ 0 by omega)
  have h4 := Int.emod_lt_of_pos n (show 0 < d by omega)
  have h5 : n.tmod d < d := Int.tmod_lt_of_pos n (by omega)
  have h6 : -d < n.tmod d := by
    rcases Int.le_total 0 n with h | h
    · have := Int.tmod_nonneg d h; omega
    · have h7 : n.tmod d = -((-n).tmod d) := by rw [Int.neg_tmod]; omega
      have := Int.tmod_lt_of_pos (-n) (show 0 < d by omega); omega
  have key : ∀ q r : Int, d * q + r = n → 0 ≤ r → r < d → n / d = q ∧ n % d = r := by
    intro q r e r0 r1
    exact (Int.ediv_emod_unique (by omega)).2 ⟨by rw [Int.add_comm]; exact e, r0, r1⟩
  refine ⟨fun h => ?_, fun h => ?_⟩
  · exact key _ _ (by rw [Int.mul_sub]; omega) (by omega) (by omega)
  · exact key _ _ h1 (by omega) (by omega)
theorem td_size {n d : Int} (hn : Sml n) (_hd : 1 ≤ d) : -4611686018427387904 ≤ n.tdiv d ∧ n.tdiv d ≤ 4611686018427387904 := by
  have h : (n.tdiv d).natAbs = n.natAbs / d.natAbs := Int.natAbs_tdiv n d
  have k : n.natAbs / d.natAbs ≤ n.natAbs := Nat.div_le_self _ _
  unfold Sml at hn
  generalize n.natAbs / d.natAbs = q at h k
  omega
theorem floorOf_any (n d : Int) (hn : Sml n) (h1 : 1 ≤ d) (h2 : d ≤ 4611686018427387904) (w : World) : Calls Tryd.prog 18 #[.agg #[.int .i64 n, .int .i64 d]] w fun e w' => e = .returned (.int .i64 (n / d)) ∧ Below w.heap.size w w' := by
  obtain ⟨f1, f2⟩ := td_floor (n := n) h1
  obtain ⟨b1, b2⟩ := td_size hn h1
  have h0 : ¬ d = 0 := by omega
  unfold Sml at hn
  have H1 := hidb f1
  have H2 := hidb f2
  clear f1 f2
  go_enter Tryd.func18, Tryd.ntmps18
  by_cases c : n.tmod d < 0
  · rw [(H1.out c).1]
    go_wp2
    go_ret
    exact ⟨rfl, (Below.refl _ _).alloc (Nat.le_refl _) _⟩
  · rw [(H2.out c).1]
    go_wp2
    go_ret
    exact ⟨rfl, (Below.refl _ _).alloc (Nat.le_refl _) _⟩
/-- To the nearest, from the middle to the even one. -/
def nea (n d : Int) : Int := if n % d < d - n % d then n / d else if d - n % d < n % d then n / d + 1 else if (n / d).tmod 2 = 0 then n / d else n / d + 1
theorem fl_facts {n d : Int} (hn : Sml n) (h1 : 1 ≤ d) : n - n / d * d = n % d ∧ 0 ≤ n % d ∧ n % d < d ∧ -4611686018427387905 ≤ n / d ∧ n / d ≤ 4611686018427387904 ∧ n / d * d = n - n % d := by
  have h2 := Int.mul_ediv_add_emod n d
  have h3 := Int.emod_nonneg n (show d ≠ 0 by omega)
  have h4 := Int.emod_lt_of_pos n (show 0 < d by omega)
  obtain ⟨f1, f2⟩ := td_floor (n := n) h1
  obtain ⟨b1, b2⟩ := td_size hn h1
  rw [Int.mul_comm] at h2
  refine ⟨by omega, h3, h4, ?_, ?_, by omega⟩ <;> by_cases c : n.tmod d < 0
  · have := (f1 c).1; omega
  · have := (f2 c).1; omega
  · have := (f1 c).1; omega
  · have := (f2 c).1; omega
set_option maxHeartbeats 1000000 in
theorem nearOf_any (n d : Int) (hn : Sml n) (h1 : 1 ≤ d) (h2 : d ≤ 4611686018427387904) (w : World) : Calls Tryd.prog 19 #[.agg #[.int .i64 n, .int .i64 d]] w fun e w' => e = .returned (.int .i64 (nea n d)) ∧ Below w.heap.size w w' := by
  have HF := hidb (fun w => floorOf_any n d hn h1 h2 w)
  have HV : Hid (nea n d = if n % d < d - n % d then n / d else if d - n % d < n % d then n / d + 1 else if (n / d).tmod 2 = 0 then n / d else n / d + 1) := show _ = _ from rfl
  obtain ⟨q1, q2, q3, q4, q5, q6⟩ := fl_facts hn h1
  generalize n / d = q at *
  generalize n % d = r at *
  have h0 : ¬ d = 0 := by omega
  unfold Sml at hn
  go_enter Tryd.func19, Tryd.ntmps19
  go_wp2_with fail
  refine (HF.out _).mono ?_
  rintro e w1 ⟨rfl, hB⟩
  obtain ⟨c0, c1⟩ := (At.below hB (At.new2 w (.int .i64 n) (.int .i64 d) 29)).c2
  have HC := Gr.step ((Gr.refl w).alloc (.cells #[.int .i64 n, .int .i64 d] 29)) hB
  clear hB
  by_cases k1 : r < d - r
  · have k1' : n - q * d < d - (n - q * d) := by rw [q1]; exact k1
    have HW : Hid (nea n d = q) := by rw [HV.out, if_pos k1]; rfl
    go_wp2
    go_ret
    exact ⟨by rw [HW.out]; rfl, HC⟩
  · have k1' : ¬ n - q * d < d - (n - q * d) := by rw [q1]; exact k1
    by_cases k2 : d - r < r
    · have k2' : d - (n - q * d) < n - q * d := by rw [q1]; exact k2
      have HW : Hid (nea n d = q + 1) := by rw [HV.out, if_neg k1, if_pos k2]; rfl
      go_wp2
      go_ret
      exact ⟨by rw [HW.out]; rfl, HC⟩
    · have k2' : ¬ d - (n - q * d) < n - q * d := by rw [q1]; exact k2
      by_cases k3 : q.tmod 2 = 0
      · have HW : Hid (nea n d = q) := by rw [HV.out, if_neg k1, if_neg k2, if_pos k3]; rfl
        have k3b : (q.tmod 2 != 0) = false := by simp [k3]
        go_wp2
        all_goals first
          | contradiction
          | (exfalso; simp_all; done)
          | (go_ret; exact ⟨by rw [HW.out]; rfl, HC⟩)
      · have HW : Hid (nea n d = q + 1) := by rw [HV.out, if_neg k1, if_neg k2, if_neg k3]; rfl
        have k3b : (q.tmod 2 != 0) = true := by simp [k3]
        go_wp2
        all_goals first
          | contradiction
          | (exfalso; simp_all; done)
          | (go_ret; exact ⟨by rw [HW.out]; rfl, HC⟩)
end Go.Proofs.YtgjjgicojedefaaDoor
