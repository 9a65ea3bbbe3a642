/-
  mercatorref1.BigPart, mercatorref1.BigGcd.
-/
import Derived.Test.YtgjjgicojedefaaDoorBgE
namespace Go.Proofs.YtgjjgicojedefaaDoor
open Go.RowKit BG

/-- How great the numbers are that are spoken of. -/
def lid : Nat := 1000000 ^ 100
theorem lid_len {n : Nat} (h : n ≤ 8 * lid) : (dn n).length ≤ 400 := by
  refine Nat.le_trans (dn_len_le (k := 101) ?_) (by decide)
  unfold lid at h
  rw [Nat.pow_succ]
  have : 0 < 1000000 ^ 100 := Nat.pow_pos (by decide)
  omega
theorem add_dn {w : World} {u v : Value} {m n : Nat} (lm : m ≤ 8 * lid) (ln : n ≤ 8 * lid) (ha : Bg w u (dn m)) (hb : Bg w v (dn n)) : Calls Tryd.prog 67 #[u, v] w fun e w' => ∃ v, e = .returned v ∧ Bg w' v (dn (m + n)) ∧ Below w.heap.size w w' := by
  have := bigAdd_any (dn_dg m) (dn_dg n) (lid_len lm) (lid_len ln) ha hb
  rw [dv_dn, dv_dn] at this
  exact this
theorem sub_dn {w : World} {u v : Value} {m n : Nat} (lm : m ≤ 8 * lid) (h : n ≤ m) (ha : Bg w u (dn m)) (hb : Bg w v (dn n)) : Calls Tryd.prog 68 #[u, v] w fun e w' => ∃ v, e = .returned v ∧ Bg w' v (dn (m - n)) ∧ Below w.heap.size w w' := by
  have := bigSub_any (dn_dg m) (dn_dg n) (lid_len lm) (dn_len_mono h) (by rw [dv_dn, dv_dn]; exact h) ha hb
  rw [dv_dn, dv_dn] at this
  exact this
theorem cmp_dn {w : World} {u v : Value} {m n : Nat} (lm : m ≤ 8 * lid) (ln : n ≤ 8 * lid) (ha : Bg w u (dn m)) (hb : Bg w v (dn n)) : Calls Tryd.prog 40 #[u, v] w fun e w' => e = .returned (.int .i64 (cm m n)) ∧ Below w.heap.size w w' := bigCmp_any (lid_len lm) (lid_len ln) ha hb
theorem btw {a b c : World} (h : Below a.heap.size a b) (k : Below b.heap.size b c) : Below a.heap.size a c := h.trans (k.mono h.size)
theorem pow_step {a b k : Nat} (h : a < b * 2 ^ (k + 1)) : a < (b + b) * 2 ^ k := by
  have e : b * 2 ^ (k + 1) = (b + b) * 2 ^ k := by rw [Nat.pow_succ, ← Nat.two_mul, Nat.mul_comm (2 ^ k) 2, ← Nat.mul_assoc, Nat.mul_comm b 2]
  omega
theorem part_low {a b : Nat} (hb : 0 < b) (h : a % (b + b) < b) : a / b = a / (b + b) + a / (b + b) ∧ a % b = a % (b + b) := by
  have e := Nat.div_add_mod a (b + b)
  have e2 : a = b * (a / (b + b) + a / (b + b)) + a % (b + b) := by
    rw [Nat.add_mul] at e; rw [Nat.mul_add]; omega
  have h1 := Nat.div_mod_unique hb (a := a) (c := a % (b + b)) (d := a / (b + b) + a / (b + b))
  have := h1.2 ⟨by omega, h⟩
  exact ⟨this.1, this.2⟩
theorem part_high {a b : Nat} (hb : 0 < b) (h : b ≤ a % (b + b)) : a / b = a / (b + b) + a / (b + b) + 1 ∧ a % b = a % (b + b) - b := by
  have e := Nat.div_add_mod a (b + b)
  have hl := Nat.mod_lt a (show 0 < b + b by omega)
  have e2 : a = b * (a / (b + b) + a / (b + b) + 1) + (a % (b + b) - b) := by
    rw [Nat.add_mul] at e; rw [Nat.mul_add, Nat.mul_add]; omega
  have h1 := Nat.div_mod_unique hb (a := a) (c := a % (b + b) - b) (d := a / (b + b) + a / (b + b) + 1)
  have := h1.2 ⟨by omega, by omega⟩
  exact ⟨this.1, this.2⟩
theorem cm_lt {m n : Nat} (h : m < n) : cm m n = -1 := by unfold cm; rw [if_pos h]
theorem cm_ge {m n : Nat} (h : n ≤ m) : ¬ cm m n < 0 := by unfold cm; rw [if_neg (by omega)]; split <;> decide
set_option maxHeartbeats 4000000 in
theorem bigPart_any (a : Nat) (u : Value) (la : a ≤ 2 * lid) : ∀ (k b : Nat) (v : Value) (w : World), a < b * 2 ^ k → 0 < b → b ≤ 4 * lid → Bg w u (dn a) → Bg w v (dn b) →
    Calls Tryd.prog 38 #[u, v] w fun e w' => ∃ q r, e = .returned (.tuple #[q, r]) ∧ Bg w' q (dn (a / b)) ∧ Bg w' r (dn (a % b)) ∧ Below w.heap.size w w' := by
  intro k
  induction k with
  | zero =>
    intro b v w hk hb lb ha hv
    rw [Nat.pow_zero, Nat.mul_one] at hk
    have HC := hidb (cmp_dn (by omega) (by omega) ha hv)
    rw [cm_lt hk] at HC
    have HQ : Hid (a / b = 0 ∧ a % b = a) := ⟨Nat.div_eq_of_lt hk, Nat.mod_eq_of_lt hk⟩
    have HA := hidb ha
    clear ha hv hk la lb hb
    go_enter Tryd.func38, Tryd.ntmps38
    go_wp2_with fail
    refine HC.out.mono ?_
    rintro e w1 ⟨rfl, hB⟩
    go_wp2
    go_ret2
    exact ⟨_, _, rfl, by rw [HQ.out.1]; exact .inl ⟨rfl, dn_zero⟩, by rw [HQ.out.2]; exact HA.out.below hB, hB⟩
  | succ k ih =>
    intro b v w hk hb lb ha hv
    by_cases c : a < b
    · have HC := hidb (cmp_dn (by omega) (by omega) ha hv)
      rw [cm_lt c] at HC
      have HQ : Hid (a / b = 0 ∧ a % b = a) := ⟨Nat.div_eq_of_lt c, Nat.mod_eq_of_lt c⟩
      have HA := hidb ha
      clear ha hv hk la lb hb ih c
      go_enter Tryd.func38, Tryd.ntmps38
      go_wp2_with fail
      refine HC.out.mono ?_
      rintro e w1 ⟨rfl, hB⟩
      go_wp2
      go_ret2
      exact ⟨_, _, rfl, by rw [HQ.out.1]; exact .inl ⟨rfl, dn_zero⟩, by rw [HQ.out.2]; exact HA.out.below hB, hB⟩
    · have HC := hidb (cmp_dn (by omega) (by omega) ha hv)
      have hcm := cm_ge (m := a) (n := b) (by omega)
      have hb2 : b ≤ 2 * lid := by omega
      have H2 := hidb (fun w hw => add_dn (w := w) (u := v) (v := v) (m := b) (n := b) (by omega) (by omega) hw hw)
      have HI := hidb (fun v w ha hv => ih (b + b) v w (pow_step hk) (by omega) (by omega) ha hv)
      have hml := Nat.mod_lt a (show 0 < b + b by omega)
      have hdl : a / (b + b) ≤ 2 * lid := Nat.le_trans (Nat.div_le_self _ _) la
      have HD := hidb (fun w u hw => add_dn (w := w) (u := u) (v := u) (m := a / (b + b)) (n := a / (b + b)) (by omega) (by omega) hw hw)
      have HC2 := hidb (fun w u v hu hv => cmp_dn (w := w) (u := u) (v := v) (m := a % (b + b)) (n := b) (by omega) (by omega) hu hv)
      have H1 := hidb (fun w => bigOf_any 1 (by decide) w)
      have HA := hidb ha
      have HV := hidb hv
      by_cases d : a % (b + b) < b
      · have HP := hidb (part_low hb d)
        rw [cm_lt d] at HC2
        generalize cm a b = x at *
        clear ha hv hk ih
        go_enter Tryd.func38, Tryd.ntmps38
        go_wp2_with fail
        refine HC.out.mono ?_
        rintro e w1 ⟨rfl, hB⟩
        go_wp2_with fail
        refine (H2.out w1 (HV.out.below hB)).mono ?_
        rintro e w2 ⟨v2, rfl, hv2, hB2⟩
        replace hB := btw hB hB2
        go_wp2_with fail
        refine (HI.out v2 w2 (HA.out.below hB) hv2).mono ?_
        rintro e w3 ⟨q, r, rfl, hq, hr, hB3⟩
        replace hB := btw hB hB3
        go_wp2_with fail
        refine (HD.out w3 q hq).mono ?_
        rintro e w4 ⟨q2, rfl, hq2, hB4⟩
        replace hB := btw hB hB4
        replace hr := hr.below hB4
        go_wp2_with fail
        refine (HC2.out w4 r v hr (HV.out.below hB)).mono ?_
        rintro e w5 ⟨rfl, hB5⟩
        go_wp2
        go_ret2
        exact ⟨_, _, rfl, by rw [HP.out.1]; exact hq2.below hB5, by rw [HP.out.2]; exact hr.below hB5, btw hB hB5⟩
      · have HP := hidb (part_high hb (Nat.not_lt.1 d))
        have hcm2 := cm_ge (m := a % (b + b)) (n := b) (by omega)
        have HS := hidb (fun w u v hu hv => sub_dn (w := w) (u := u) (v := v) (m := a % (b + b)) (n := b) (by omega) (by omega) hu hv)
        have HF := hidb (fun w u v hu hv => add_dn (w := w) (u := u) (v := v) (m := a / (b + b) + a / (b + b)) (n := 1) (by omega) (by unfold lid; omega) hu hv)
        generalize cm a b = x at *
        generalize cm (a % (b + b)) b = y at *
        clear ha hv hk ih
        go_enter Tryd.func38, Tryd.ntmps38
        go_wp2_with fail
        refine HC.out.mono ?_
        rintro e w1 ⟨rfl, hB⟩
        go_wp2_with fail
        refine (H2.out w1 (HV.out.below hB)).mono ?_
        rintro e w2 ⟨v2, rfl, hv2, hB2⟩
        replace hB := btw hB hB2
        go_wp2_with fail
        refine (HI.out v2 w2 (HA.out.below hB) hv2).mono ?_
        rintro e w3 ⟨q, r, rfl, hq, hr, hB3⟩
        replace hB := btw hB hB3
        go_wp2_with fail
        refine (HD.out w3 q hq).mono ?_
        rintro e w4 ⟨q2, rfl, hq2, hB4⟩
        replace hB := btw hB hB4
        replace hr := hr.below hB4
        go_wp2_with fail
        refine (HC2.out w4 r v hr (HV.out.below hB)).mono ?_
        rintro e w5 ⟨rfl, hB5⟩
        replace hB := btw hB hB5
        replace hr := hr.below hB5
        replace hq2 := hq2.below hB5
        go_wp2_with fail
        refine (HS.out w5 r v hr (HV.out.below hB)).mono ?_
        rintro e w6 ⟨r2, rfl, hr2, hB6⟩
        replace hB := btw hB hB6
        replace hq2 := hq2.below hB6
        go_wp2_with fail
        refine (H1.out w6).mono ?_
        rintro e w7 ⟨o, rfl, ho, hB7⟩
        replace hB := btw hB hB7
        replace hq2 := hq2.below hB7
        replace hr2 := hr2.below hB7
        go_wp2_with fail
        refine (HF.out w7 q2 o hq2 ho).mono ?_
        rintro e w8 ⟨q3, rfl, hq3, hB8⟩
        go_wp2
        go_ret2
        exact ⟨_, _, rfl, by rw [HP.out.1]; exact hq3, by rw [HP.out.2]; exact hr2.below hB8, btw hB hB8⟩
end Go.Proofs.YtgjjgicojedefaaDoor
