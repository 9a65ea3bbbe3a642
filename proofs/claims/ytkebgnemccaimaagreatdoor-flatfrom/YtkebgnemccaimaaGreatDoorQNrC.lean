/-
  math.RoundToEven; grain.Nearest and mercatorref1.NearestTo: the same angle of every number.
-/
import Derived.Test.YtkebgnemccaimaaGreatDoorQJ1
import Derived.Test.YtkebgnemccaimaaGreatDoorQFtA
import Derived.Test.YtkebgnemccaimaaGreatDoorQMem
namespace Go.Proofs.YtkebgnemccaimaaGreatDoor
open Go.RowKit FB
attribute [local go_sem] run_store_float

theorem rte_eq (x : Nat) : Extern.MathFloor.toIntegral "math.RoundToEven" .even #[.float .f64 x] = (match FloatKind.f64.decode x with
    | .nan s t =>
      if FloatKind.f64.format.quiet t = t then pure (.float .f64 x) else do
      let kept ← choose (.extern "math.Floor,Ceil,Trunc,RoundToEven.signallingNaN kept" 2)
      pure (.float .f64 (if kept == 1 then x else FloatKind.f64.encode (.nan s (FloatKind.f64.format.quiet t))))
    | d => pure (.float .f64 (FloatKind.f64.encode (d.integral .even)))) := rfl
theorem read_quiet (s : Bool) (t : Nat) (h : t % 4503599627370496 ≠ 0) : Nan (Ieee.double.write (.nan s t)) := by
  have hs : t % 4503599627370496 < 4503599627370496 := Nat.mod_lt _ (by decide)
  show Nan (Ieee.double.word s (Ieee.double.infRung + t % Ieee.double.binade))
  rw [ir, bn]
  generalize t % 4503599627370496 = u at *
  unfold Ieee.Format.word Nan
  rw [sw]
  cases s
  · exact ⟨_, _, by rw [if_neg (by decide), read_eq, Nat.mod_eq_of_lt (by omega), if_neg (by omega), if_neg (by omega), if_neg (by omega)]⟩
  · exact ⟨_, _, by rw [if_pos rfl, read_eq, show (9223372036854775808 + (9218868437227405312 + u)) % 9223372036854775808 = 9218868437227405312 + u by omega, if_neg (by omega), if_neg (by omega), if_neg (by omega)]⟩
theorem quiet_ne (t : Nat) : (FloatKind.f64.format.quiet t) % 4503599627370496 ≠ 0 := by
  show (t ||| 2 ^ 51) % 4503599627370496 ≠ 0
  intro h
  have h1 : ((t ||| 2 ^ 51) % 2 ^ 52).testBit 51 = true := by
    rw [Nat.testBit_mod_two_pow, Nat.testBit_or, Nat.testBit_two_pow_self]
    simp
  rw [show (2 : Nat) ^ 52 = 4503599627370496 by decide, h] at h1
  simp at h1
/-- The nearest whole number, the even one of two. -/
theorem rteA : ∃ (rF : Nat → World → Nat) (rD : Nat → Nat),
    (∀ x w, (callFunc 103 #[.float .f64 x]).run Tryz.prog w = .ok (.value (.float .f64 (rF x w))) (w.drewN (rD x))) ∧
    (∀ x w, Nan x → Nan (rF x w)) ∧ (∀ x w, ¬ Nan x → rF x w = Ieee.double.write ((Ieee.double.read x).integral .even)) := by
  have H : ∀ x : Nat, ∃ (f : World → Nat) (n : Nat), ∀ w, (callFunc 103 #[.float .f64 x]).run Tryz.prog w = .ok (.value (.float .f64 (f w))) (w.drewN n) ∧ (Nan x → Nan (f w)) ∧ (¬ Nan x → f w = Ieee.double.write ((Ieee.double.read x).integral .even)) := by
    intro x
    have hrun : ∀ w, (callFunc 103 #[.float .f64 x]).run Tryz.prog w = ((Extern.MathFloor.toIntegral "math.RoundToEven" .even #[.float .f64 x]).run Tryz.prog w).andThen fun v w' => .ok (.value v) w' := by
      intro w
      rw [@run_callFunc_extern Tryz.prog 103 _ (Extern.MathFloor.toIntegral "math.RoundToEven" .even) Tryz.func103 (by kernel_rfl) (by kernel_rfl) (by kernel_rfl) (by kernel_rfl) _ w]
    cases hr : Ieee.double.read x with
    | nan s t =>
      have hd : FloatKind.f64.decode x = .nan s t := hr
      have hn : Nan x := ⟨s, t, hr⟩
      by_cases hq : FloatKind.f64.format.quiet t = t
      · refine ⟨fun _ => x, 0, fun w => ⟨?_, fun _ => hn, fun h => absurd hn h⟩⟩
        rw [hrun, rte_eq, hd]
        simp only [if_pos hq]
        rfl
      · refine ⟨fun w => if ((Question.extern "math.Floor,Ceil,Trunc,RoundToEven.signallingNaN kept" 2).cut (w.tape w.drawn (.extern "math.Floor,Ceil,Trunc,RoundToEven.signallingNaN kept" 2)) == 1) = true then x else FloatKind.f64.encode (.nan s (FloatKind.f64.format.quiet t)), 1, fun w => ⟨?_, fun _ => ?_, fun h => absurd hn h⟩⟩
        · rw [hrun, rte_eq, hd]
          simp only [if_neg hq]
          simp [Question.forced]
          rfl
        · show Nan (if _ then _ else _)
          split
          · exact hn
          · exact read_quiet s _ (quiet_ne t)
    | infinity s =>
      have hd : FloatKind.f64.decode x = .infinity s := hr
      have hn : ¬ Nan x := by rintro ⟨s', f, h⟩; rw [hr] at h; cases h
      refine ⟨fun _ => Ieee.double.write ((Ieee.double.read x).integral .even), 0, fun w => ⟨?_, fun h => absurd h hn, fun _ => by rw [hr]⟩⟩
      rw [hrun, rte_eq, hd, hr]
      rfl
    | number s m e =>
      have hd : FloatKind.f64.decode x = .number s m e := hr
      have hn : ¬ Nan x := by rintro ⟨s', f, h⟩; rw [hr] at h; cases h
      refine ⟨fun _ => Ieee.double.write ((Ieee.double.read x).integral .even), 0, fun w => ⟨?_, fun h => absurd h hn, fun _ => by rw [hr]⟩⟩
      rw [hrun, rte_eq, hd, hr]
      rfl
  refine ⟨fun x w => (H x).choose w, fun x => (H x).choose_spec.choose, fun x w => ((H x).choose_spec.choose_spec w).1, fun x w => ((H x).choose_spec.choose_spec w).2.1, fun x w => ((H x).choose_spec.choose_spec w).2.2⟩

def bigW : Nat := 4890691058569617664
def bigN : Nat := 14114063095424393472
/-- Beyond what is made whole? -/
def farW (x : Nat) : Bool := Ieee.double.order x bigW == some Ordering.gt || Ieee.double.order x bigN == some Ordering.lt
/-- The whole number nearest to a number. -/
def whole (x : Nat) : Int := match Ieee.double.read x with
  | .number s m e => if e < 0 then Ieee.signed s (Ieee.Toward.even.cut s m (-e).toNat) 0 else if farW x = true then 0 else Ieee.signed s m e.toNat
  | _ => 0
def nrI : Option Nat → Int | none => 0 | some x => whole x
theorem key_big : key bigW = 4890691058569617664 ∧ key bigN = -4890691058569617664 ∧ NN bigW ∧ NN bigN := by
  unfold key bigW bigN NN
  omega
/-- A word of modest size is not beyond. -/
theorem near_small {a : Nat} (h : Le 1080 a) : Ieee.double.order a bigW = some .lt ∧ Ieee.double.order a bigN = some .gt := by
  obtain ⟨h1, h2⟩ := h
  obtain ⟨b1, b2, b3, b4⟩ := key_big
  have hn : NN a := ⟨h1, by omega⟩
  have hk : -4863887597560135680 ≤ key a ∧ key a ≤ 4863887597560135680 := by unfold key; split <;> omega
  rw [order_key hn b3, order_key hn b4, b1, b2, Int.compare_eq_lt.2 (by omega), Int.compare_eq_gt.2 (by omega)]
  exact ⟨rfl, rfl⟩
theorem small_le {x : Nat} {s : Bool} {m : Nat} {e : Int} (hx : x < 18446744073709551616) (hr : Ieee.double.read x = .number s m e) (he : e < 0) : Le 1080 x := by
  refine ⟨hx, ?_⟩
  rw [read_eq] at hr
  by_cases c1 : x % 9223372036854775808 < 4503599627370496
  · omega
  · rw [if_neg c1] at hr
    by_cases c2 : x % 9223372036854775808 < 9218868437227405312
    · rw [if_pos c2] at hr
      injection hr with _ _ h3
      omega
    · rw [if_neg c2] at hr
      split at hr <;> cases hr
/-- A great one is whole: it stands for itself. -/
theorem great_word {x : Nat} {s : Bool} {m : Nat} {e : Int} (hx : x < 18446744073709551616) (hr : Ieee.double.read x = .number s m e) (he : 0 ≤ e) : x = Ieee.double.word s ((e + 1074).toNat * 4503599627370496 + m) ∧ 4503599627370496 ≤ m ∧ e ≤ 971 ∧ m < 9007199254740992 := by
  have hb := num_bd hr
  refine ⟨?_, ?_, hb.2.2.1, by omega⟩
  · rw [read_eq] at hr
    by_cases c1 : x % 9223372036854775808 < 4503599627370496
    · rw [if_pos c1] at hr; injection hr with _ _ h3; omega
    · rw [if_neg c1] at hr
      by_cases c2 : x % 9223372036854775808 < 9218868437227405312
      · rw [if_pos c2] at hr
        injection hr with h1 h2 h3
        unfold Ieee.Format.word
        rw [sw, ← h1]
        have hq : (e + 1074).toNat = x % 9223372036854775808 / 4503599627370496 - 1 := by omega
        rw [hq, ← h2]
        have hd : x / 9223372036854775808 = 0 ∨ x / 9223372036854775808 = 1 := by omega
        rcases hd with h | h
        · rw [h, if_neg (by decide)]; omega
        · rw [h, if_pos (by decide)]; omega
      · rw [if_neg c2] at hr
        split at hr <;> cases hr
  · rw [read_eq] at hr
    by_cases c1 : x % 9223372036854775808 < 4503599627370496
    · rw [if_pos c1] at hr; injection hr with _ _ h3; omega
    · rw [if_neg c1] at hr
      by_cases c2 : x % 9223372036854775808 < 9218868437227405312
      · rw [if_pos c2] at hr
        injection hr with _ h2 _
        omega
      · rw [if_neg c2] at hr
        split at hr <;> cases hr
theorem great_self {x : Nat} {s : Bool} {m : Nat} {e : Int} (hx : x < 18446744073709551616) (hr : Ieee.double.read x = .number s m e) (he : 0 ≤ e) (way : Ieee.Toward) : Ieee.double.write ((Ieee.double.read x).integral way) = x := by
  obtain ⟨h1, h2, h3, h4⟩ := great_word hx hr he
  rw [hr]
  show Ieee.double.nearest s (way.cut s (m <<< e.toNat) (-e).toNat) 0 = x
  rw [show (-e).toNat = 0 by omega, Nat.shiftLeft_eq]
  have hc := cut_way_exact way s (m * 2 ^ e.toNat) 0
  rw [Nat.pow_zero, Nat.mul_one] at hc
  rw [hc, nearest_exact s m e.toNat 0 e h4 (by omega) (by omega) (by omega) h3 (.inl h2), ← h1]
theorem order_far {x : Nat} {s : Bool} {m : Nat} {e : Int} (hr : Ieee.double.read x = .number s m e) (he : 0 ≤ e) (h : farW x = false) : -9000000000000000000 ≤ Ieee.signed s m e.toNat ∧ Ieee.signed s m e.toNat ≤ 9000000000000000000 := by
  have r1 : Ieee.double.read bigW = .number false 8789062500000000 10 := by decide +kernel
  have r2 : Ieee.double.read bigN = .number true 8789062500000000 10 := by decide +kernel
  unfold farW at h
  rw [Bool.or_eq_false_iff] at h
  obtain ⟨g1, g2⟩ := h
  unfold Ieee.Format.order at g1 g2
  rw [hr, r1] at g1
  rw [hr, r2] at g2
  simp only [Ieee.Datum.order] at g1 g2
  generalize hb : min e 10 = base at g1 g2
  have b0 : 0 ≤ base := by omega
  have b1 : base ≤ e := by omega
  have b2 : base ≤ 10 := by omega
  have e1 : m * 2 ^ e.toNat = m * 2 ^ (e - base).toNat * 2 ^ base.toNat := by
    rw [Nat.mul_assoc, ← Nat.pow_add]; congr 2; omega
  have e2 : 8789062500000000 * 2 ^ (10 - base).toNat * 2 ^ base.toNat = 9000000000000000000 := by
    rw [Nat.mul_assoc, ← Nat.pow_add, show (10 - base).toNat + base.toNat = 10 by omega]
  have hp := Nat.two_pow_pos base.toNat
  have k1 : Ieee.signed s m (e - base).toNat ≤ ((8789062500000000 * 2 ^ (10 - base).toNat : Nat) : Int) := by
    rw [signed_false] at g1
    apply Classical.byContradiction
    intro c
    rw [Int.compare_eq_gt.2 (by omega)] at g1
    cases g1
  have k2 : -((8789062500000000 * 2 ^ (10 - base).toNat : Nat) : Int) ≤ Ieee.signed s m (e - base).toNat := by
    rw [signed_true] at g2
    apply Classical.byContradiction
    intro c
    rw [Int.compare_eq_lt.2 (by omega)] at g2
    cases g2
  generalize 8789062500000000 * 2 ^ (10 - base).toNat = B at *
  generalize 2 ^ base.toNat = U at *
  cases s
  · rw [signed_false] at k1 k2 ⊢
    rw [e1]
    generalize m * 2 ^ (e - base).toNat = M at *
    have : M * U ≤ B * U := Nat.mul_le_mul_right _ (by omega)
    omega
  · rw [signed_true] at k1 k2 ⊢
    rw [e1]
    generalize m * 2 ^ (e - base).toNat = M at *
    have : M * U ≤ B * U := Nat.mul_le_mul_right _ (by omega)
    omega
theorem toInt_great {x : Nat} {s : Bool} {m : Nat} {e : Int} (hr : Ieee.double.read x = .number s m e) (he : 0 ≤ e) (h : farW x = false) : floatToIntVal .f64 x .i64 = some (Ieee.signed s m e.toNat) := by
  obtain ⟨h1, h2⟩ := order_far hr he h
  unfold floatToIntVal
  have ht : (FloatKind.f64.decode x).toInt .zero = some (Ieee.signed s m e.toNat) := by
    show (Ieee.double.read x).toInt .zero = _
    rw [hr]
    unfold Ieee.Datum.toInt Ieee.Datum.integral
    simp only
    rw [show (-e).toNat = 0 by omega]
    have hc := cut_way_exact .zero s (m <<< e.toNat) 0
    rw [Nat.pow_zero, Nat.mul_one] at hc
    rw [hc]
    rfl
  rw [ht]
  simp only
  rw [if_pos]
  simp only [IntKind.min, IntKind.max, IntKind.signed, IntKind.bits]
  exact ⟨by first | (simp; done) | (simp; omega), by first | (simp; done) | (simp; omega)⟩
theorem toInt_small {s : Bool} {N : Nat} (h : N < 9007199254740992) : floatToIntVal .f64 (Ieee.double.nearest s N 0) .i64 = some (Ieee.signed s N 0) := by
  obtain ⟨e, e1, e2, e3⟩ := nearest_read s N 0 h (by omega) (by omega)
  unfold floatToIntVal
  rw [show (FloatKind.f64.decode (Ieee.double.nearest s N 0)).toInt .zero = some (Ieee.signed s N 0) from toInt_whole e2 e3]
  simp only
  rw [if_pos]
  rw [signed_zero_up]
  simp only [IntKind.min, IntKind.max, IntKind.signed, IntKind.bits]
  cases s
  · exact ⟨by first | (simp; done) | (simp; omega), by first | (simp; done) | (simp; omega)⟩
  · exact ⟨by first | (simp; done) | (simp; omega), by first | (simp; done) | (simp; omega)⟩
end Go.Proofs.YtkebgnemccaimaaGreatDoor
