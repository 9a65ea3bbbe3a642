/-
  whole.divided, whole.divisor.
-/
import Derived.Test.YtilgamhdcmkkeaaDoorQWhI
import Derived.Deep.LoopGhost
namespace Go.Proofs.YtilgamhdcmkkeaaDoor
open Go.RowKit WH

theorem div64Q_low (lo y q r : Nat) (hq : lo / y = q) (hr : lo % y = r) (hl : lo < 18446744073709551616) (h0 : 0 < y) (w : World) : Calls Tryd.prog 78 #[.int .u64 0, .int .u64 (lo : Int), .int .u64 (y : Int)] w fun e w' => e = .returned (.tuple #[.int .u64 (q : Int), .int .u64 (r : Int)]) ∧ ∃ m, w' = w.drewN m := by
  have y0 : ¬ (y : Int) = 0 := by omega
  have y1 : ¬ (y : Int) ≤ 0 := by omega
  have t1 : (lo : Int).tdiv (y : Int) = (q : Int) := by rw [← hq]; rfl
  have t2 : (lo : Int).tmod (y : Int) = (r : Int) := by rw [← hr]; rfl
  have d1 : lo / y ≤ lo := Nat.div_le_self _ _
  have d2 : lo % y ≤ lo := Nat.mod_le _ _
  have w1 : IntKind.u64.wrap (q : Int) = q := wr_nat (by omega)
  have w2 : IntKind.u64.wrap (r : Int) = r := wr_nat (by omega)
  clear hl h0 d1 d2 hq hr
  go_enter Tryd.func78, Tryd.ntmps78
  go_wp2
  go_quiet (fail)
  go_wp2
  go_ret2
  exact ⟨rfl, _, rfl⟩
theorem div64Q (hi lo y q r : Nat) (hq : (hi * 18446744073709551616 + lo) / y = q) (hr : (hi * 18446744073709551616 + lo) % y = r) (hl : lo < 18446744073709551616) (h0 : hi < y) (h1 : y < 18446744073709551616) (w : World) : Calls Tryd.prog 78 #[.int .u64 (hi : Int), .int .u64 (lo : Int), .int .u64 (y : Int)] w fun e w' => e = .returned (.tuple #[.int .u64 (q : Int), .int .u64 (r : Int)]) ∧ ∃ m, w' = w.drewN m := by
  rcases Nat.eq_zero_or_pos hi with h | h
  · subst h
    rw [Nat.zero_mul, Nat.zero_add] at hq hr
    exact div64Q_low lo y q r hq hr hl (by omega) w
  · refine (div64_gen hi lo y q r hq.symm hr.symm h hl h0 h1 w).mono ?_
    rintro e w' ⟨rfl, rfl⟩
    exact ⟨rfl, 0, rfl⟩
theorem guessQ_any (hi lo y g : Nat) (h2 : lo < 18446744073709551616) (h3 : y < 18446744073709551616) (hg : g = if y ≤ hi then 18446744073709551615 else (hi * 18446744073709551616 + lo) / y) (w : World) : Calls Tryd.prog 64 #[.int .u64 (hi : Int), .int .u64 (lo : Int), .int .u64 (y : Int)] w fun e w' => e = .returned (.int .u64 (g : Int)) ∧ ∃ m, w' = w.drewN m := by
  by_cases c : y ≤ hi
  · rw [if_pos c] at hg
    subst hg
    go_enter Tryd.func64, Tryd.ntmps64
    go_wp2
    go_ret
    exact ⟨rfl, 0, rfl⟩
  · rw [if_neg c] at hg
    obtain ⟨r, hr⟩ : ∃ r, (hi * 18446744073709551616 + lo) % y = r := ⟨_, rfl⟩
    have HD := hidb (fun w => div64Q hi lo y g r hg.symm hr h2 (by omega) h3 w)
    clear hg hr
    go_enter Tryd.func64, Tryd.ntmps64
    go_wp2_with fail
    refine (HD.out _).mono ?_
    rintro e w1 ⟨rfl, m, rfl⟩
    go_wp2
    go_ret
    exact ⟨rfl, m, rfl⟩
theorem uslice (H N j k : Nat) (h0 : j < N) (h1 : j ≤ k) (h2 : k ≤ N) (w : World) : (Instr.slice 66 (.slice (some ⟨H, 0, none⟩) N N) (some (.int .i64 (j : Int))) (some (.int .i64 (k : Int))) none).run Tryd.prog w = .ok (.slice (some ⟨H, j, none⟩) (k - j) (N - j)) w := by
  have hu : Tryd.prog.underlying 66 = some (.slice (Tryd.prog.elem 66)) := by kernel_rfl
  have hs : (sizeOf (Tryd.prog.elem 66)).run Tryd.prog w = .ok 1 w := by kernel_rfl
  rw [run_slice_lh w 66 _ N N hu .i64 .i64 (j : Int) (k : Int) (by omega) (by omega) (by omega), hs]
  have hne : ¬ N = j := by omega
  have hadd : (⟨H, 0, none⟩ : Addr).add j = ⟨H, j, none⟩ := by unfold Addr.add; split <;> simp_all
  simp [Result.andThen, sliced, hne, hadd]
/-- The highest digit is none. -/
theorem dn_top {n : Nat} (h : n ≠ 0) : ∃ h' : (dn n).length - 1 < (dn n).length, (dn n)[(dn n).length - 1] ≠ 0 := by
  have hl : 0 < (dn n).length := by
    rcases Nat.eq_zero_or_pos (dn n).length with c | c
    · rw [dn_empty] at c; exact absurd c h
    · exact c
  refine ⟨by omega, ?_⟩
  intro hz
  have h1 := dn_len_lt h
  have h2 := take_lt (dn_dg n) ((dn n).length - 1) (by omega)
  have h3 := WH.take_dv (l := dn n) ((dn n).length - 1)
  rw [show (dn n).length - 1 + 1 = (dn n).length by omega, List.take_of_length_le (Nat.le_refl _), dv_dn, getD_lt (by omega), hz, Nat.mul_zero, Nat.add_zero] at h3
  omega
/-- The shift that lays the highest bit at the top. -/
theorem top_facts {n k t s r : Nat} (hs : s ≤ 63) (hn : n = r + 18446744073709551616 ^ k * t) (hr : r < 18446744073709551616 ^ k) (h1 : 9223372036854775808 ≤ t * 2 ^ s) (h2 : t * 2 ^ s < 18446744073709551616) : 9223372036854775808 * 18446744073709551616 ^ k ≤ n * 2 ^ s ∧ n * 2 ^ s < 18446744073709551616 ^ (k + 1) := by
  have e : t * 2 ^ s + 2 ^ s ≤ 18446744073709551616 := by
    have hlt : t < 2 ^ (64 - s) := by
      refine Nat.lt_of_mul_lt_mul_right (a := 2 ^ s) ?_
      rw [p64 hs]; exact h2
    have := Nat.mul_le_mul_right (2 ^ s) (show t + 1 ≤ 2 ^ (64 - s) by omega)
    rw [p64 hs, Nat.add_mul, Nat.one_mul] at this
    exact this
  rw [Nat.pow_succ]
  generalize 18446744073709551616 ^ k = P at *
  have hp : 0 < 2 ^ s := Nat.pow_pos (by decide)
  have en : n * 2 ^ s = r * 2 ^ s + P * (t * 2 ^ s) := by rw [hn, Nat.add_mul, Nat.mul_assoc]
  constructor
  · have : P * 9223372036854775808 ≤ P * (t * 2 ^ s) := Nat.mul_le_mul_left _ h1
    rw [Nat.mul_comm] at this
    omega
  · have h3 : r * 2 ^ s < P * 2 ^ s := Nat.mul_lt_mul_of_pos_right hr hp
    have h4 : P * (t * 2 ^ s + 2 ^ s) ≤ P * 18446744073709551616 := Nat.mul_le_mul_left _ e
    rw [Nat.mul_add] at h4
    omega
theorem len_of {V k : Nat} (h1 : 18446744073709551616 ^ k ≤ V) (h2 : V < 18446744073709551616 ^ (k + 1)) : (dn V).length = k + 1 := by
  have l1 := dn_len_le h2
  have l2 := dv_lt (dn_dg V)
  rw [dv_dn] at l2
  rcases Nat.lt_or_ge k (dn V).length with c | c
  · omega
  · have := pw_mono c
    omega
theorem last_dn {n k : Nat} (hk : (dn n).length = k + 1) : ∃ h : k < (dn n).length, ∃ r, n = r + 18446744073709551616 ^ k * (dn n)[k] ∧ r < 18446744073709551616 ^ k := by
  refine ⟨by omega, dv ((dn n).take k), ?_, take_lt (dn_dg n) k (by omega)⟩
  have := WH.take_dv (l := dn n) k
  rw [List.take_of_length_le (by omega), dv_dn, getD_lt (by omega)] at this
  exact this
theorem div_start {m n s na k : Nat} {L0 : List Nat} (hm : m < 18446744073709551616 ^ na) (hs : s ≤ 63) (hV : 9223372036854775808 * 18446744073709551616 ^ k ≤ n * 2 ^ s) (hk : k + 1 ≤ na) (hd : Dg L0) (hL : dv L0 = m * 2 ^ s) : DivI (m * 2 ^ s) (n * 2 ^ s) L0 (List.replicate (na - k) 0) (na - k) :=
  ⟨hd, dg_replicate _, by rw [WH.dv_replicate, hL]; rfl, by rw [hL]; exact start_less hm hs hV hk, fun j hj _ => by simp⟩
/-- The guess, of the digits that lie there. -/
theorem guess_dig {L0 V j k g hi lo vt : Nat} {L q : List Nat} (h : DivI L0 V L q (j + 1)) (hl : j + (k + 2) ≤ L.length) (hV : (dn V).length = k + 1) (h1 : L[j + (k + 1)]? = some hi) (h2 : L[j + k]? = some lo) (h3 : (dn V)[k]? = some vt) (hg : g = if vt ≤ hi then 18446744073709551615 else (hi * 18446744073709551616 + lo) / vt) : ∀ p, p = dv ((L.drop j).take (k + 2)) → p < V * 18446744073709551616 → p < (g + 1) * V := by
  intro p hp hpv
  obtain ⟨r1, e1, b1⟩ := piece_high (l := L.drop j) (m := k) (h.dl.drop j) (by simp; omega)
  obtain ⟨r2, e2⟩ := one_high (l := dn V) hV
  rw [dv_dn] at e2
  have d1 : (L.drop j)[k]'(by simp; omega) = lo := by
    rw [List.getElem_drop]; exact (List.getElem?_eq_some_iff.1 h2).2
  have d2 : (L.drop j)[k + 1]'(by simp; omega) = hi := by
    rw [List.getElem_drop]; exact (List.getElem?_eq_some_iff.1 h1).2
  have d3 : (dn V)[k]'(by omega) = vt := (List.getElem?_eq_some_iff.1 h3).2
  rw [d1, d2] at e1
  rw [d3] at e2
  exact guess_ok (hp.trans e1) b1 e2 hpv hg
end Go.Proofs.YtilgamhdcmkkeaaDoor
