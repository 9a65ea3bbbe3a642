/-
  Sums and products commute; nothings of either sign go through sums, products and roots alike; squares know no sign. No Go text is named here.
-/
import Derived.Test.YtmiamfnnccjmeacFltN
namespace Go.Proofs.Ytmiamfnnccjmeac.FB
open Ieee

theorem FM_comm {x y : Nat} (hx : Num x) (hy : Num y) : FM x y = FM y x := by
  obtain ⟨s, m, i, rx⟩ := hx
  obtain ⟨t, n, j, ry⟩ := hy
  unfold FM Format.mul
  rw [rx, ry]
  show double.nearest (s ^^ t) (m * n) (i + j) = double.nearest (t ^^ s) (n * m) (j + i)
  rw [Bool.xor_comm, Nat.mul_comm, Int.add_comm]

/-- A nothing, with or without its sign. -/
def Nz (x : Nat) : Prop := x = 0 ∨ x = 9223372036854775808
theorem Nz.read {x : Nat} (h : Nz x) : ∃ s, double.read x = .number s 0 (-1074) := by
  rcases h with rfl | rfl
  · exact ⟨false, by decide +kernel⟩
  · exact ⟨true, by decide +kernel⟩
theorem near_nz (s : Bool) (p : Int) : Nz (double.nearest s 0 p) := by
  unfold Format.nearest Format.word
  rw [if_pos rfl, sw]
  cases s
  · exact .inl rfl
  · exact .inr rfl
theorem SameZ.trans {a b c : Nat} (h : SameZ a b) (k : SameZ b c) : SameZ a c := by
  rcases h with rfl | ⟨h1, h2⟩
  · exact k
  · rcases k with rfl | ⟨k1, k2⟩
    · exact .inr ⟨h1, h2⟩
    · exact .inr ⟨h1, k2⟩
theorem SameZ.symm {a b : Nat} (h : SameZ a b) : SameZ b a := by
  rcases h with rfl | ⟨h1, h2⟩
  · exact .inl rfl
  · exact .inr ⟨h2, h1⟩
/-- The sum of two numbers, read. -/
def near3 (s : Bool) (m : Nat) (i : Int) (t : Bool) (n : Nat) (j : Int) : Nat :=
  double.nearest (if signed s m (i - min i j).toNat + signed t n (j - min i j).toNat = 0 then s && t else decide (signed s m (i - min i j).toNat + signed t n (j - min i j).toNat < 0)) (signed s m (i - min i j).toNat + signed t n (j - min i j).toNat).natAbs (min i j)
theorem FA_near {x y : Nat} {s : Bool} {m : Nat} {i : Int} {t : Bool} {n : Nat} {j : Int} (hx : double.read x = .number s m i) (hy : double.read y = .number t n j) : FA x y = near3 s m i t n j := by
  unfold FA Format.add; rw [hx, hy]; rfl
theorem FS_near {x y : Nat} {s : Bool} {m : Nat} {i : Int} {t : Bool} {n : Nat} {j : Int} (hx : double.read x = .number s m i) (hy : double.read y = .number t n j) : FS x y = near3 s m i (!t) n j := by
  unfold FS Format.sub; rw [hx, hy]; rfl
theorem near3_comm (s : Bool) (m : Nat) (i : Int) (t : Bool) (n : Nat) (j : Int) : near3 s m i t n j = near3 t n j s m i := by
  unfold near3
  rw [Int.min_comm j i, Int.add_comm (signed t n _), Bool.and_comm t s]
theorem FA_comm {x y : Nat} (hx : Num x) (hy : Num y) : FA x y = FA y x := by
  obtain ⟨s, m, i, rx⟩ := hx
  obtain ⟨t, n, j, ry⟩ := hy
  rw [FA_near rx ry, FA_near ry rx, near3_comm]
theorem signed_zero (b : Bool) (u : Nat) : signed b 0 u = 0 := by cases b <;> simp [signed_false, signed_true]
theorem near3_zr (s : Bool) (m : Nat) (i : Int) (t t' : Bool) (j : Int) : SameZ (near3 s m i t 0 j) (near3 s m i t' 0 j) := by
  unfold near3
  rw [signed_zero, signed_zero]
  generalize signed s m (i - min i j).toNat + 0 = T
  by_cases c : T = 0
  · subst c
    exact .inr ⟨near_nz _ _, near_nz _ _⟩
  · rw [if_neg c, if_neg c]; exact .inl rfl
theorem near3_zl (s s' : Bool) (i : Int) (t : Bool) (n : Nat) (j : Int) : SameZ (near3 s 0 i t n j) (near3 s' 0 i t n j) := by
  rw [near3_comm, near3_comm s']; exact near3_zr _ _ _ _ _ _
/-- The two stand for numbers that are the same but for a nothing's sign. -/
theorem same_read {x x' : Nat} (hx : Num x) (h : SameZ x x') : ∃ s s' m i, double.read x = .number s m i ∧ double.read x' = .number s' m i ∧ (s = s' ∨ m = 0) := by
  rcases h with rfl | ⟨h1, h2⟩
  · obtain ⟨s, m, i, rx⟩ := hx
    exact ⟨s, s, m, i, rx, rx, .inl rfl⟩
  · obtain ⟨s, r1⟩ := Nz.read h1
    obtain ⟨s', r2⟩ := Nz.read h2
    exact ⟨s, s', 0, _, r1, r2, .inr rfl⟩
theorem near3_z {s s' : Bool} {m : Nat} {i : Int} {t t' : Bool} {n : Nat} {j : Int} (h : s = s' ∨ m = 0) (k : t = t' ∨ n = 0) : SameZ (near3 s m i t n j) (near3 s' m i t' n j) := by
  have h1 : SameZ (near3 s m i t n j) (near3 s' m i t n j) := by
    rcases h with rfl | rfl
    · exact .inl rfl
    · exact near3_zl _ _ _ _ _ _
  have h2 : SameZ (near3 s' m i t n j) (near3 s' m i t' n j) := by
    rcases k with rfl | rfl
    · exact .inl rfl
    · exact near3_zr _ _ _ _ _ _
  exact h1.trans h2
theorem FA_zz {x x' y y' : Nat} (hx : Num x) (hy : Num y) (h : SameZ x x') (k : SameZ y y') : SameZ (FA x y) (FA x' y') := by
  obtain ⟨s, s', m, i, r1, r2, c⟩ := same_read hx h
  obtain ⟨t, t', n, j, q1, q2, d⟩ := same_read hy k
  rw [FA_near r1 q1, FA_near r2 q2]
  exact near3_z c d
theorem FS_zz {x x' y y' : Nat} (hx : Num x) (hy : Num y) (h : SameZ x x') (k : SameZ y y') : SameZ (FS x y) (FS x' y') := by
  obtain ⟨s, s', m, i, r1, r2, c⟩ := same_read hx h
  obtain ⟨t, t', n, j, q1, q2, d⟩ := same_read hy k
  rw [FS_near r1 q1, FS_near r2 q2]
  refine near3_z c ?_
  rcases d with rfl | d
  · exact .inl rfl
  · exact .inr d
theorem FM_zz {x x' y y' : Nat} (hx : Num x) (hy : Num y) (h : SameZ x x') (k : SameZ y y') : SameZ (FM x y) (FM x' y') := by
  obtain ⟨s, s', m, i, r1, r2, c⟩ := same_read hx h
  obtain ⟨t, t', n, j, q1, q2, d⟩ := same_read hy k
  have e1 : FM x y = double.nearest (s ^^ t) (m * n) (i + j) := by unfold FM Format.mul; rw [r1, q1]; rfl
  have e2 : FM x' y' = double.nearest (s' ^^ t') (m * n) (i + j) := by unfold FM Format.mul; rw [r2, q2]; rfl
  rw [e1, e2]
  rcases c with rfl | rfl
  · rcases d with rfl | rfl
    · exact .inl rfl
    · rw [Nat.mul_zero]; exact .inr ⟨near_nz _ _, near_nz _ _⟩
  · rw [Nat.zero_mul]; exact .inr ⟨near_nz _ _, near_nz _ _⟩
theorem sqrt_zz {x x' r : Nat} (h : SameZ x x') (hr : double.sqrt x = some r) : ∃ r', double.sqrt x' = some r' ∧ SameZ r r' := by
  have hz : ∀ u, Nz u → ∃ r, double.sqrt u = some r ∧ Nz r := by
    intro u hu
    obtain ⟨s, ru⟩ := Nz.read hu
    unfold Format.sqrt; rw [ru]
    exact ⟨_, rfl, near_nz _ _⟩
  rcases h with rfl | ⟨h1, h2⟩
  · exact ⟨r, hr, .inl rfl⟩
  · obtain ⟨q, e1, z1⟩ := hz x h1
    obtain ⟨q', e2, z2⟩ := hz x' h2
    rw [e1] at hr
    obtain rfl := Option.some.inj hr
    exact ⟨q', e2, .inr ⟨z1, z2⟩⟩
/-- Rounding knows no sign. -/
theorem near_mod (neg neg' : Bool) (mag : Nat) (place : Int) : double.nearest neg mag place % 9223372036854775808 = double.nearest neg' mag place % 9223372036854775808 := by
  have hw : ∀ (b : Bool) (r : Nat), r ≤ 9218868437227405312 → double.word b r % 9223372036854775808 = r := by
    intro b r hr
    unfold Format.word
    rw [sw]
    split <;> omega
  unfold Format.nearest
  by_cases c : mag = 0
  · rw [if_pos c, if_pos c, hw _ _ (by decide), hw _ _ (by decide)]
  · rw [if_neg c, if_neg c]
    simp only
    have hc : ∀ n d, Toward.even.cut neg n d = Toward.even.cut neg' n d := fun _ _ => rfl
    rw [ir, hw _ _ (Nat.min_le_right _ _), hw _ _ (Nat.min_le_right _ _), hc]
theorem signed_not (s : Bool) (m u : Nat) : signed (!s) m u = -signed s m u := by cases s <;> simp [signed_false, signed_true]
theorem FS_swap {x y : Nat} (hx : Num x) (hy : Num y) : FS x y % 9223372036854775808 = FS y x % 9223372036854775808 := by
  obtain ⟨s, m, i, rx⟩ := hx
  obtain ⟨t, n, j, ry⟩ := hy
  rw [FS_near rx ry, FS_near ry rx]
  unfold near3
  rw [Int.min_comm j i, signed_not, signed_not]
  have e : (signed t n (j - min i j).toNat + -signed s m (i - min i j).toNat).natAbs = (signed s m (i - min i j).toNat + -signed t n (j - min i j).toNat).natAbs := by omega
  rw [e]
  exact near_mod _ _ _ _
theorem FM_sq {x y : Nat} (hx : Num x) (h : x % 9223372036854775808 = y % 9223372036854775808) : FM x x = FM y y := by
  obtain ⟨s, m, i, rx⟩ := hx
  have ha : absB x = absB y := h
  have h1 := read_abs x
  rw [rx, ha, read_abs y] at h1
  obtain ⟨t, ry⟩ : ∃ t, double.read y = .number t m i := by
    cases hr : double.read y with
    | number t n j => rw [hr] at h1; injection h1 with _ h2 h3; exact ⟨t, by rw [h2, h3]⟩
    | infinity t => rw [hr] at h1; cases h1
    | nan t f => rw [hr] at h1; cases h1
  have e1 : FM x x = double.nearest (s ^^ s) (m * m) (i + i) := by unfold FM Format.mul; rw [rx]; rfl
  have e2 : FM y y = double.nearest (t ^^ t) (m * m) (i + i) := by unfold FM Format.mul; rw [ry]; rfl
  rw [e1, e2, Bool.xor_self, Bool.xor_self]
end Go.Proofs.Ytmiamfnnccjmeac.FB
