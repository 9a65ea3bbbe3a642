/-
  mercatorref2.DatumError, mercatorref2.Far, mercatorlaw2.within.
-/
import Derived.Test.YtmiamfnnccjmeacDoorDaJ
namespace Go.Proofs.YtmiamfnnccjmeacDoor
open Go.RowKit FB
attribute [local go_sem] run_store_float

set_option maxHeartbeats 1000000 in
theorem datumError_0 (X Y Z A B C S : Nat) (h0 : inB 13904980397738950656 4681608360884174848 X = false) (w : World) : Calls Tryd.prog 9 #[dV X Y Z A B C S] w fun e w' => e = .returned (.int .i64 3) ∧ Below w.heap.size w w' := by
  have HB := hid between_any
  go_enter Tryd.func9, Tryd.ntmps9
  go_wp2_with (go_at_call 30; refine (HB.out _ _ _ _).mono ?_; rintro e w' ⟨rfl, rfl⟩)
  go_ret
  exact ⟨rfl, (Below.refl _ _).alloc (Nat.le_refl _) _⟩
set_option maxHeartbeats 1000000 in
theorem datumError_1 (X Y Z A B C S : Nat) (h0 : inB 13904980397738950656 4681608360884174848 X = true) (h1 : inB 13904980397738950656 4681608360884174848 Y = false) (w : World) : Calls Tryd.prog 9 #[dV X Y Z A B C S] w fun e w' => e = .returned (.int .i64 3) ∧ Below w.heap.size w w' := by
  have HB := hid between_any
  go_enter Tryd.func9, Tryd.ntmps9
  go_wp2_with (go_at_call 30; refine (HB.out _ _ _ _).mono ?_; rintro e w' ⟨rfl, rfl⟩)
  go_ret
  exact ⟨rfl, (Below.refl _ _).alloc (Nat.le_refl _) _⟩
set_option maxHeartbeats 1000000 in
theorem datumError_2 (X Y Z A B C S : Nat) (h0 : inB 13904980397738950656 4681608360884174848 X = true) (h1 : inB 13904980397738950656 4681608360884174848 Y = true) (h2 : inB 13904980397738950656 4681608360884174848 Z = false) (w : World) : Calls Tryd.prog 9 #[dV X Y Z A B C S] w fun e w' => e = .returned (.int .i64 3) ∧ Below w.heap.size w w' := by
  have HB := hid between_any
  go_enter Tryd.func9, Tryd.ntmps9
  go_wp2_with (go_at_call 30; refine (HB.out _ _ _ _).mono ?_; rintro e w' ⟨rfl, rfl⟩)
  go_ret
  exact ⟨rfl, (Below.refl _ _).alloc (Nat.le_refl _) _⟩
set_option maxHeartbeats 1000000 in
theorem datumError_3 (X Y Z A B C S : Nat) (h0 : inB 13904980397738950656 4681608360884174848 X = true) (h1 : inB 13904980397738950656 4681608360884174848 Y = true) (h2 : inB 13904980397738950656 4681608360884174848 Z = true) (h3 : inB 13785626545772145148 4562254508917369340 A = false) (w : World) : Calls Tryd.prog 9 #[dV X Y Z A B C S] w fun e w' => e = .returned (.int .i64 3) ∧ Below w.heap.size w w' := by
  have HB := hid between_any
  go_enter Tryd.func9, Tryd.ntmps9
  go_wp2_with (go_at_call 30; refine (HB.out _ _ _ _).mono ?_; rintro e w' ⟨rfl, rfl⟩)
  go_ret
  exact ⟨rfl, (Below.refl _ _).alloc (Nat.le_refl _) _⟩
set_option maxHeartbeats 1000000 in
theorem datumError_4 (X Y Z A B C S : Nat) (h0 : inB 13904980397738950656 4681608360884174848 X = true) (h1 : inB 13904980397738950656 4681608360884174848 Y = true) (h2 : inB 13904980397738950656 4681608360884174848 Z = true) (h3 : inB 13785626545772145148 4562254508917369340 A = true) (h4 : inB 13785626545772145148 4562254508917369340 B = false) (w : World) : Calls Tryd.prog 9 #[dV X Y Z A B C S] w fun e w' => e = .returned (.int .i64 3) ∧ Below w.heap.size w w' := by
  have HB := hid between_any
  go_enter Tryd.func9, Tryd.ntmps9
  go_wp2_with (go_at_call 30; refine (HB.out _ _ _ _).mono ?_; rintro e w' ⟨rfl, rfl⟩)
  go_ret
  exact ⟨rfl, (Below.refl _ _).alloc (Nat.le_refl _) _⟩
set_option maxHeartbeats 1000000 in
theorem datumError_5 (X Y Z A B C S : Nat) (h0 : inB 13904980397738950656 4681608360884174848 X = true) (h1 : inB 13904980397738950656 4681608360884174848 Y = true) (h2 : inB 13904980397738950656 4681608360884174848 Z = true) (h3 : inB 13785626545772145148 4562254508917369340 A = true) (h4 : inB 13785626545772145148 4562254508917369340 B = true) (h5 : inB 13785626545772145148 4562254508917369340 C = false) (w : World) : Calls Tryd.prog 9 #[dV X Y Z A B C S] w fun e w' => e = .returned (.int .i64 3) ∧ Below w.heap.size w w' := by
  have HB := hid between_any
  go_enter Tryd.func9, Tryd.ntmps9
  go_wp2_with (go_at_call 30; refine (HB.out _ _ _ _).mono ?_; rintro e w' ⟨rfl, rfl⟩)
  go_ret
  exact ⟨rfl, (Below.refl _ _).alloc (Nat.le_refl _) _⟩
set_option maxHeartbeats 1000000 in
theorem datumError_6 (X Y Z A B C S : Nat) (h0 : inB 13904980397738950656 4681608360884174848 X = true) (h1 : inB 13904980397738950656 4681608360884174848 Y = true) (h2 : inB 13904980397738950656 4681608360884174848 Z = true) (h3 : inB 13785626545772145148 4562254508917369340 A = true) (h4 : inB 13785626545772145148 4562254508917369340 B = true) (h5 : inB 13785626545772145148 4562254508917369340 C = true) (h6 : inB 13875379345695965184 4652007308841189376 S = false) (w : World) : Calls Tryd.prog 9 #[dV X Y Z A B C S] w fun e w' => e = .returned (.int .i64 3) ∧ Below w.heap.size w w' := by
  have HB := hid between_any
  go_enter Tryd.func9, Tryd.ntmps9
  go_wp2_with (go_at_call 30; refine (HB.out _ _ _ _).mono ?_; rintro e w' ⟨rfl, rfl⟩)
  go_ret
  exact ⟨rfl, (Below.refl _ _).alloc (Nat.le_refl _) _⟩
set_option maxHeartbeats 1000000 in
theorem datumError_7 (X Y Z A B C S : Nat) (h0 : inB 13904980397738950656 4681608360884174848 X = true) (h1 : inB 13904980397738950656 4681608360884174848 Y = true) (h2 : inB 13904980397738950656 4681608360884174848 Z = true) (h3 : inB 13785626545772145148 4562254508917369340 A = true) (h4 : inB 13785626545772145148 4562254508917369340 B = true) (h5 : inB 13785626545772145148 4562254508917369340 C = true) (h6 : inB 13875379345695965184 4652007308841189376 S = true) (w : World) : Calls Tryd.prog 9 #[dV X Y Z A B C S] w fun e w' => e = .returned (.int .i64 0) ∧ Below w.heap.size w w' := by
  have HB := hid between_any
  go_enter Tryd.func9, Tryd.ntmps9
  go_wp2_with (go_at_call 30; refine (HB.out _ _ _ _).mono ?_; rintro e w' ⟨rfl, rfl⟩)
  go_ret
  exact ⟨rfl, (Below.refl _ _).alloc (Nat.le_refl _) _⟩
theorem dcode_cases (X Y Z A B C S : Nat) : okD X Y Z A B C S = (inB 13904980397738950656 4681608360884174848 X && inB 13904980397738950656 4681608360884174848 Y && inB 13904980397738950656 4681608360884174848 Z && inB 13785626545772145148 4562254508917369340 A && inB 13785626545772145148 4562254508917369340 B && inB 13785626545772145148 4562254508917369340 C && inB 13875379345695965184 4652007308841189376 S) := by
  unfold okD okX okA okS in3
  cases inB 13904980397738950656 4681608360884174848 X <;> cases inB 13904980397738950656 4681608360884174848 Y <;> cases inB 13904980397738950656 4681608360884174848 Z <;> cases inB 13785626545772145148 4562254508917369340 A <;> cases inB 13785626545772145148 4562254508917369340 B <;> cases inB 13785626545772145148 4562254508917369340 C <;> cases inB 13875379345695965184 4652007308841189376 S <;> rfl
theorem datumError_any (X Y Z A B C S : Nat) (w : World) : Calls Tryd.prog 9 #[dV X Y Z A B C S] w fun e w' => e = .returned (.int .i64 (dcode X Y Z A B C S)) ∧ Below w.heap.size w w' := by
  unfold dcode
  rw [dcode_cases]
  cases h0 : inB 13904980397738950656 4681608360884174848 X with
  | false => exact datumError_0 X Y Z A B C S h0 w
  | true =>
    cases h1 : inB 13904980397738950656 4681608360884174848 Y with
    | false => exact datumError_1 X Y Z A B C S h0 h1 w
    | true =>
      cases h2 : inB 13904980397738950656 4681608360884174848 Z with
      | false => exact datumError_2 X Y Z A B C S h0 h1 h2 w
      | true =>
        cases h3 : inB 13785626545772145148 4562254508917369340 A with
        | false => exact datumError_3 X Y Z A B C S h0 h1 h2 h3 w
        | true =>
          cases h4 : inB 13785626545772145148 4562254508917369340 B with
          | false => exact datumError_4 X Y Z A B C S h0 h1 h2 h3 h4 w
          | true =>
            cases h5 : inB 13785626545772145148 4562254508917369340 C with
            | false => exact datumError_5 X Y Z A B C S h0 h1 h2 h3 h4 h5 w
            | true =>
              cases h6 : inB 13875379345695965184 4652007308841189376 S with
              | false => exact datumError_6 X Y Z A B C S h0 h1 h2 h3 h4 h5 h6 w
              | true =>
                exact datumError_7 X Y Z A B C S h0 h1 h2 h3 h4 h5 h6 w
theorem far_0 (x y z : Nat) (h0 : inB 13979912523730649088 4756540486875873280 x = false) (w : World) : Calls Tryd.prog 12 #[vV x y z] w fun e w' => e = .returned (.bool true) ∧ Below w.heap.size w w' := by
  have HB := hid between_any
  go_enter Tryd.func12, Tryd.ntmps12
  go_wp2_with (go_at_call 30; refine (HB.out _ _ _ _).mono ?_; rintro e w' ⟨rfl, rfl⟩)
  go_ret
  exact ⟨rfl, (Below.refl _ _).alloc (Nat.le_refl _) _⟩
theorem far_1 (x y z : Nat) (h0 : inB 13979912523730649088 4756540486875873280 x = true) (h1 : inB 13979912523730649088 4756540486875873280 y = false) (w : World) : Calls Tryd.prog 12 #[vV x y z] w fun e w' => e = .returned (.bool true) ∧ Below w.heap.size w w' := by
  have HB := hid between_any
  go_enter Tryd.func12, Tryd.ntmps12
  go_wp2_with (go_at_call 30; refine (HB.out _ _ _ _).mono ?_; rintro e w' ⟨rfl, rfl⟩)
  go_ret
  exact ⟨rfl, (Below.refl _ _).alloc (Nat.le_refl _) _⟩
theorem far_2 (x y z : Nat) (h0 : inB 13979912523730649088 4756540486875873280 x = true) (h1 : inB 13979912523730649088 4756540486875873280 y = true) (h2 : inB 13979912523730649088 4756540486875873280 z = false) (w : World) : Calls Tryd.prog 12 #[vV x y z] w fun e w' => e = .returned (.bool true) ∧ Below w.heap.size w w' := by
  have HB := hid between_any
  go_enter Tryd.func12, Tryd.ntmps12
  go_wp2_with (go_at_call 30; refine (HB.out _ _ _ _).mono ?_; rintro e w' ⟨rfl, rfl⟩)
  go_ret
  exact ⟨rfl, (Below.refl _ _).alloc (Nat.le_refl _) _⟩
theorem far_3 (x y z : Nat) (h0 : inB 13979912523730649088 4756540486875873280 x = true) (h1 : inB 13979912523730649088 4756540486875873280 y = true) (h2 : inB 13979912523730649088 4756540486875873280 z = true) (w : World) : Calls Tryd.prog 12 #[vV x y z] w fun e w' => e = .returned (.bool false) ∧ Below w.heap.size w w' := by
  have HB := hid between_any
  go_enter Tryd.func12, Tryd.ntmps12
  go_wp2_with (go_at_call 30; refine (HB.out _ _ _ _).mono ?_; rintro e w' ⟨rfl, rfl⟩)
  go_ret
  exact ⟨rfl, (Below.refl _ _).alloc (Nat.le_refl _) _⟩
theorem far_any (x y z : Nat) (w : World) : Calls Tryd.prog 12 #[vV x y z] w fun e w' => e = .returned (.bool (!okV x y z)) ∧ Below w.heap.size w w' := by
  unfold okV in3
  cases h0 : inB 13979912523730649088 4756540486875873280 x with
  | false => exact far_0 x y z h0 w
  | true =>
    cases h1 : inB 13979912523730649088 4756540486875873280 y with
    | false => exact far_1 x y z h0 h1 w
    | true =>
      cases h2 : inB 13979912523730649088 4756540486875873280 z with
      | false => exact far_2 x y z h0 h1 h2 w
      | true =>
        exact far_3 x y z h0 h1 h2 w
/-- Within a number and its opposite. -/
def wiB (hi lo x : Nat) : Bool := leB x hi && geB x lo
theorem lwithin_any (x hi lo : Nat) (hn : Op.negFloat .f64 hi = lo) (w : World) : Calls Tryd.prog 16 #[.float .f64 x, .float .f64 hi] w fun e w' => e = .returned (.bool (wiB hi lo x)) ∧ w' = w := by
  have HN := hneg hi
  rw [hn] at HN
  cases h1 : leB x hi with
  | false =>
    have HS : Hid (wiB hi lo x = false) := by unfold wiB Hid; rw [h1]; rfl
    have t1 : (FloatKind.f64.format.order x hi == some Ordering.lt || FloatKind.f64.format.order x hi == some Ordering.eq) = false := h1
    clear h1
    go_enter Tryd.func16, Tryd.ntmps16
    go_wp2
    go_ret
    exact ⟨by rw [HS.out]; rfl, rfl⟩
  | true =>
    have HS : Hid (wiB hi lo x = geB x lo) := by unfold wiB Hid; rw [h1]; rfl
    have t1 : (FloatKind.f64.format.order x hi == some Ordering.lt || FloatKind.f64.format.order x hi == some Ordering.eq) = true := h1
    have t2 : (FloatKind.f64.format.order x lo == some Ordering.gt || FloatKind.f64.format.order x lo == some Ordering.eq) = geB x lo := rfl
    clear h1
    generalize geB x lo = q at *
    go_enter Tryd.func16, Tryd.ntmps16
    go_wp2
    go_ret
    exact ⟨by rw [HS.out]; rfl, rfl⟩
theorem wiB_in {hi lo x : Nat} (h : wiB hi lo x = true) : inB lo hi x = true := by
  unfold wiB at h; unfold inB; rw [Bool.and_eq_true] at h ⊢; exact ⟨h.2, h.1⟩
theorem wi_Q {x : Nat} (hx : x < 18446744073709551616) (h : wiB 4726483295884279808 13949855332739055616 x = true) : Q 1050 100000000 x := by
  have c := val_ge_of (w := 4726483295884279808) 100000000 1 (by decide) (by decide) (by decide +kernel)
  have d := val_le_of (w := 4726483295884279808) 100000000 1 (by decide) (by decide) (by decide +kernel)
  have cn := val_neg_word (w := 4726483295884279808) (by decide)
  refine q_of hx ⟨by decide, by decide⟩ ⟨by decide, by decide⟩ (wiB_in h) (by decide) (by decide) ?_ (by grind)
  have : val 13949855332739055616 = -val 4726483295884279808 := cn
  rw [this]; grind
/-- The law's last comparison. -/
theorem wi_last {k r x : Nat} (hr : Le k r) (hk : k ≤ 1100) (hx : Q 1050 100000000 x) (h : Nr (8 / 1000000) (val r) (val x)) : Ieee.double.sub r x = some (FS r x) ∧ wiB 4532020583610935537 13755392620465711345 (FS r x) = true := by
  obtain ⟨h1, h2, h3, h4⟩ := last_ok hr hk hx h
  refine ⟨h1, ?_⟩
  have hn : NN (FS r x) := ⟨h2.1, Nat.le_trans h2.2 (by decide)⟩
  have o1 := order_key hn (⟨by decide, by decide⟩ : NN 4532020583610935537)
  have o2 := order_key hn (⟨by decide, by decide⟩ : NN 13755392620465711345)
  unfold wiB leB geB
  show ((Ieee.double.order (FS r x) 4532020583610935537 == some Ordering.lt || Ieee.double.order (FS r x) 4532020583610935537 == some Ordering.eq) && (Ieee.double.order (FS r x) 13755392620465711345 == some Ordering.gt || Ieee.double.order (FS r x) 13755392620465711345 == some Ordering.eq)) = true
  rw [o1, o2]
  have a1 : compare (key (FS r x)) (key 4532020583610935537) = .lt ∨ compare (key (FS r x)) (key 4532020583610935537) = .eq := by
    rcases Int.lt_or_eq_of_le h3 with h | h
    · exact .inl (Int.compare_eq_lt.2 h)
    · exact .inr (Int.compare_eq_eq.2 h)
  have a2 : compare (key (FS r x)) (key 13755392620465711345) = .gt ∨ compare (key (FS r x)) (key 13755392620465711345) = .eq := by
    rcases Int.lt_or_eq_of_le h4 with h | h
    · exact .inl (Int.compare_eq_gt.2 h)
    · exact .inr (Int.compare_eq_eq.2 h.symm)
  rcases a1 with a1 | a1 <;> rcases a2 with a2 | a2 <;> rw [a1, a2] <;> rfl
end Go.Proofs.YtmiamfnnccjmeacDoor
