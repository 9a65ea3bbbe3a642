/-
  Datums: what they can turn; how many times as long; vectors without the signs of their nothings.
-/
import Derived.Test.YtmiamfnnccjmeacDoorDaA
namespace Go.Proofs.YtmiamfnnccjmeacDoor
open Go.RowKit FB
attribute [local go_sem] run_store_float

theorem nan_of {x : Nat} (_hx : x < 18446744073709551616) (h : ¬ x % 9223372036854775808 ≤ 9218868437227405312) : ∃ s f, Ieee.double.read x = .nan s f := by
  rw [read_eq, if_neg (by omega), if_neg (by omega), if_neg (by omega)]
  exact ⟨_, _, rfl⟩
theorem ge_nn {x y : Nat} (hx : x < 18446744073709551616) (h : geB x y = true) : NN x := by
  refine ⟨hx, Classical.byContradiction fun hc => ?_⟩
  obtain ⟨s, f, hr⟩ := nan_of hx hc
  have : FloatKind.f64.format.order x y = none := by
    show Ieee.double.order x y = none
    unfold Ieee.Format.order; rw [hr]; rfl
  unfold geB at h; rw [this] at h; cases h
/-- A word within two that are numbers, by places. -/
theorem in_key {lo hi x : Nat} (hx : x < 18446744073709551616) (hlo : NN lo) (hhi : NN hi) (h : inB lo hi x = true) : NN x ∧ key lo ≤ key x ∧ key x ≤ key hi := by
  unfold inB at h
  rw [Bool.and_eq_true] at h
  have hn := ge_nn hx h.1
  have e1 := k_geq hn hlo
  have e2 := k_leq hn hhi
  have h1 : (FloatKind.f64.format.order x lo == some Ordering.gt || FloatKind.f64.format.order x lo == some Ordering.eq) = true := h.1
  have h2 : (FloatKind.f64.format.order x hi == some Ordering.lt || FloatKind.f64.format.order x hi == some Ordering.eq) = true := h.2
  rw [h1] at e1
  rw [h2] at e2
  exact ⟨hn, of_decide_eq_true e1.symm, of_decide_eq_true e2.symm⟩
theorem le_of_key {x k : Nat} (hn : NN x) (h : (key x).natAbs ≤ k * 4503599627370496) : Le k x := by
  refine ⟨hn.1, ?_⟩
  unfold key at h
  split at h <;> omega
set_option maxHeartbeats 2000000 in
theorem unsigned_any (x y z : Nat) (w : World) : Calls Tryd.prog 28 #[.agg #[.float .f64 x, .float .f64 y, .float .f64 z]] w fun e w' => e = .returned (.agg #[.float .f64 (uz x), .float .f64 (uz y), .float .f64 (uz z)]) ∧ Below w.heap.size w w' := by
  go_enter Tryd.func28, Tryd.ntmps28
  go_wp2
  go_region_held (fun w' => w'.cell? ⟨w.heap.size, 0, none⟩ = some (.float .f64 x) ∧ w'.cell? ⟨w.heap.size, 1, none⟩ = some (.float .f64 y) ∧ w'.cell? ⟨w.heap.size, 2, none⟩ = some (.float .f64 z))
    (first | assumption | (simp [go_sem]; done))
    ((go_at_call 44; refine (uz_any _ _).mono ?_; rintro e wa ⟨rfl, rfl⟩))
  go_wp2
  exact bodyPost_ret (v := .agg #[.float .f64 (uz x), .float .f64 (uz y), .float .f64 (uz z)]) (by simp [results, Tryd.results28, go_sem]) rfl ⟨rfl, (((Below.refl _ _).alloc (Nat.le_refl _) _).alloc (by simp) _).drew⟩
/-- SameBits says yes. -/
def SB (x y : Nat) : Prop := ∀ w : World, Calls Tryd.prog 21 #[.float .f64 x, .float .f64 y] w fun e w' => e = .returned (.bool true) ∧ w' = w
theorem SB.zero : SB 0 0 := fun w => same_num 0 0 zero_num (by decide +kernel) w
set_option maxHeartbeats 1000000 in
theorem sameVec_any (x y z x' y' z' : Nat) (h1 : SB x x') (h2 : SB y y') (h3 : SB z z') (w : World) : Calls Tryd.prog 13 #[.agg #[.float .f64 x, .float .f64 y, .float .f64 z], .agg #[.float .f64 x', .float .f64 y', .float .f64 z']] w fun e w' => e = .returned (.bool true) ∧ Below w.heap.size w w' := by
  have H1 := hid h1
  have H2 := hid h2
  have H3 := hid h3
  clear h1 h2 h3
  go_enter Tryd.func13, Tryd.ntmps13
  go_wp2_with fail
  refine (H1.out _).mono ?_
  rintro e w1 ⟨rfl, rfl⟩
  go_wp2_with fail
  refine (H2.out _).mono ?_
  rintro e w1 ⟨rfl, rfl⟩
  go_wp2_with fail
  refine (H3.out _).mono ?_
  rintro e w1 ⟨rfl, rfl⟩
  go_wp2
  go_ret
  exact ⟨rfl, ((Below.refl _ _).alloc (Nat.le_refl _) _).alloc (by simp) _⟩
theorem coded_at (g : Nat → Addr) (c : Nat) (hc : c = 0 ∨ c = 3 ∨ c = 4) (w : World) (hl : Laid w g) : Calls Tryd.prog 10 #[evOf g c, .int .i64 c] w fun e w' => e = .returned (.bool true) ∧ Below w.heap.size w w' := by
  unfold evOf
  rcases hc with rfl | rfl | rfl
  · refine (coded_nil 0 w).mono ?_
    rintro e w' ⟨rfl, rfl⟩
    exact ⟨rfl, Below.refl _ _⟩
  · refine (coded_sent g 2 (by decide) 3 w hl).mono ?_
    rintro e w' ⟨rfl, hB⟩
    exact ⟨rfl, hB⟩
  · refine (coded_sent g 3 (by decide) 4 w hl).mono ?_
    rintro e w' ⟨rfl, hB⟩
    exact ⟨rfl, hB⟩

theorem q_of {k : Nat} {M : Rat} {lo hi x : Nat} (hx : x < 18446744073709551616) (hlo : NN lo) (hhi : NN hi) (h : inB lo hi x = true) (k1 : -((k * 4503599627370496 : Nat) : Int) ≤ key lo) (k2 : key hi ≤ ((k * 4503599627370496 : Nat) : Int)) (m1 : -M ≤ val lo) (m2 : val hi ≤ M) : Q k M x := by
  obtain ⟨hn, a1, a2⟩ := in_key hx hlo hhi h
  refine ⟨le_of_key hn (by omega), ?_⟩
  have v1 := val_mono a1
  have v2 := val_mono a2
  constructor <;> grind
theorem s_Q {S : Nat} (hS : S < 18446744073709551616) (h : okS S = true) : Q 1033 1000 S := by
  have c := val_le_of (w := 4652007308841189376) 1000 1 (by decide) (by decide) (by decide +kernel)
  have cn := val_neg_word (w := 4652007308841189376) (by decide)
  refine q_of hS ⟨by decide, by decide⟩ ⟨by decide, by decide⟩ h (by decide) (by decide) ?_ (by grind)
  have : val 13875379345695965184 = -val 4652007308841189376 := cn
  rw [this]; grind
theorem x_Q {X : Nat} (hX : X < 18446744073709551616) (h : inB 13904980397738950656 4681608360884174848 X = true) : Q 1040 100000 X := by
  have c := val_le_of (w := 4681608360884174848) 100000 1 (by decide) (by decide) (by decide +kernel)
  have cn := val_neg_word (w := 4681608360884174848) (by decide)
  refine q_of hX ⟨by decide, by decide⟩ ⟨by decide, by decide⟩ h (by decide) (by decide) ?_ (by grind)
  have : val 13904980397738950656 = -val 4681608360884174848 := cn
  rw [this]; grind
theorem a_Q {A : Nat} (hA : A < 18446744073709551616) (h : inB 13785626545772145148 4562254508917369340 A = true) : Q 1014 (1001 / 1000000) A := by
  have c := val_le_of (w := 4562254508917369340) 1001 1000000 (by decide) (by decide) (by decide +kernel)
  have cn := val_neg_word (w := 4562254508917369340) (by decide)
  refine q_of hA ⟨by decide, by decide⟩ ⟨by decide, by decide⟩ h (by decide) (by decide) ?_ (by grind)
  have : val 13785626545772145148 = -val 4562254508917369340 := cn
  rw [this]; grind
/-- A coordinate up to 1e10. -/
theorem v_Q {x : Nat} (hx : x < 18446744073709551616) (h : inB 13979912523730649088 4756540486875873280 x = true) : Q 1057 10000000000 x := by
  have c := val_le_of (w := 4756540486875873280) 10000000000 1 (by decide) (by decide) (by decide +kernel)
  have cn := val_neg_word (w := 4756540486875873280) (by decide)
  refine q_of hx ⟨by decide, by decide⟩ ⟨by decide, by decide⟩ h (by decide) (by decide) ?_ (by grind)
  have : val 13979912523730649088 = -val 4756540486875873280 := cn
  rw [this]; grind
theorem longer_any (X Y Z A B C S : Nat) (hS : Q 1033 1000 S) (w : World) : Calls Tryd.prog 27 #[dV X Y Z A B C S] w fun e w' => e = .returned (.float .f64 (kD S)) ∧ Below w.heap.size w w' := by
  have n1 := hS.le.num (by decide) (by decide)
  have l1 : Le 1016 (FM S 4517329193108106637) := FM_le hS.le c6_Q.le (by decide) (by decide) (by decide) (by decide) _ (by decide) (by decide) (by decide)
  have e1 := fun w => hmul (mul_num n1 (c6_Q.le.num (by decide) (by decide))) w
  have e2 := fun w => hadd (add_num (one_Q.le.num (by decide) (by decide)) (l1.num (by decide) (by decide))) w
  clear n1 l1 hS
  go_enter Tryd.func27, Tryd.ntmps27
  go_wp2
  go_ret
  exact ⟨rfl, (Below.refl _ _).alloc (Nat.le_refl _) _⟩
end Go.Proofs.YtmiamfnnccjmeacDoor
