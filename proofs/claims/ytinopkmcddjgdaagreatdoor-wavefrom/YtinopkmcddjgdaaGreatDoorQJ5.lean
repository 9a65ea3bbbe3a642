/-
  math.RoundToEven; grain.Nearest and mercatorref1.NearestTo: the same angle of every number.; grain.Nearest and mercatorref1.NearestTo: their walks.; Bounds of angles and of nearest numbers.
-/
import Derived.Test.YtinopkmcddjgdaaGreatDoorQJ1
import Derived.Test.YtinopkmcddjgdaaGreatDoorQFtA
import Derived.Test.YtinopkmcddjgdaaGreatDoorQMem
import Derived.Test.YtinopkmcddjgdaaGreatDoorQWth
import Derived.Test.YtinopkmcddjgdaaGreatDoorQJ6
namespace Go.Proofs.YtinopkmcddjgdaaGreatDoor
open Go.RowKit FB
attribute [local go_sem] run_store_float

theorem rte_eq (x : Nat) : Extern.MathFloor.toIntegral "math.RoundToEven" .even #[.float .f64 x] = (match FloatKind.f64.decode x with
    | .nan s t =>
      if FloatKind.f64.format.quiet t = t then pure (.float .f64 x) else do
      let kept ← choose (.extern "math.Floor,Ceil,Trunc,RoundToEven.signallingNaN kept" 2)
      pure (.float .f64 (if kept == 1 then x else FloatKind.f64.encode (.nan s (FloatKind.f64.format.quiet t))))
    | d => pure (.float .f64 (FloatKind.f64.encode (d.integral .even)))) := rfl
theorem read_quiet (s : Bool) (t : Nat) (h : t % 4503599627370496 ≠ 0) : Nan (Ieee.double.write (.nan s t)) := by
  have hs : t % 4503599627370496 < 4503599627370496 := Nat.mod_lt _ (by decide)
  show Nan (Ieee.double.word s (Ieee.double.infRung + t % Ieee.double.binade))
  rw [ir, bn]
  generalize t % 4503599627370496 = u at *
  unfold Ieee.Format.word Nan
  rw [sw]
  cases s
  · exact ⟨_, _, by rw [if_neg (by decide), read_eq, Nat.mod_eq_of_lt (by omega), if_neg (by omega), if_neg (by omega), if_neg (by omega)]⟩
  · exact ⟨_, _, by rw [if_pos rfl, read_eq, show (9223372036854775808 + (9218868437227405312 + u)) % 9223372036854775808 = 9218868437227405312 + u by omega, if_neg (by omega), if_neg (by omega), if_neg (by omega)]⟩
theorem quiet_ne (t : Nat) : (FloatKind.f64.format.quiet t) % 4503599627370496 ≠ 0 := by
  show (t ||| 2 ^ 51) % 4503599627370496 ≠ 0
  intro h
  have h1 : ((t ||| 2 ^ 51) % 2 ^ 52).testBit 51 = true := by
    rw [Nat.testBit_mod_two_pow, Nat.testBit_or, Nat.testBit_two_pow_self]
    simp
  rw [show (2 : Nat) ^ 52 = 4503599627370496 by decide, h] at h1
  simp at h1
/-- The nearest whole number, the even one of two. -/
theorem rteA : ∃ (rF : Nat → World → Nat) (rD : Nat → Nat),
    (∀ x w, (callFunc 80 #[.float .f64 x]).run Tryz.prog w = .ok (.value (.float .f64 (rF x w))) (w.drewN (rD x))) ∧
    (∀ x w, Nan x → Nan (rF x w)) ∧ (∀ x w, ¬ Nan x → rF x w = Ieee.double.write ((Ieee.double.read x).integral .even)) := by
  have H : ∀ x : Nat, ∃ (f : World → Nat) (n : Nat), ∀ w, (callFunc 80 #[.float .f64 x]).run Tryz.prog w = .ok (.value (.float .f64 (f w))) (w.drewN n) ∧ (Nan x → Nan (f w)) ∧ (¬ Nan x → f w = Ieee.double.write ((Ieee.double.read x).integral .even)) := by
    intro x
    have hrun : ∀ w, (callFunc 80 #[.float .f64 x]).run Tryz.prog w = ((Extern.MathFloor.toIntegral "math.RoundToEven" .even #[.float .f64 x]).run Tryz.prog w).andThen fun v w' => .ok (.value v) w' := by
      intro w
      rw [@run_callFunc_extern Tryz.prog 80 _ (Extern.MathFloor.toIntegral "math.RoundToEven" .even) Tryz.func80 (by kernel_rfl) (by kernel_rfl) (by kernel_rfl) (by kernel_rfl) _ w]
    cases hr : Ieee.double.read x with
    | nan s t =>
      have hd : FloatKind.f64.decode x = .nan s t := hr
      have hn : Nan x := ⟨s, t, hr⟩
      by_cases hq : FloatKind.f64.format.quiet t = t
      · refine ⟨fun _ => x, 0, fun w => ⟨?_, fun _ => hn, fun h => absurd hn h⟩⟩
        rw [hrun, rte_eq, hd]
        simp only [if_pos hq]
        rfl
      · refine ⟨fun w => if ((Question.extern "math.Floor,Ceil,Trunc,RoundToEven.signallingNaN kept" 2).cut (w.tape w.drawn (.extern "math.Floor,Ceil,Trunc,RoundToEven.signallingNaN kept" 2)) == 1) = true then x else FloatKind.f64.encode (.nan s (FloatKind.f64.format.quiet t)), 1, fun w => ⟨?_, fun _ => ?_, fun h => absurd hn h⟩⟩
        · rw [hrun, rte_eq, hd]
          simp only [if_neg hq]
          simp [Question.forced]
          rfl
        · show Nan (if _ then _ else _)
          split
          · exact hn
          · exact read_quiet s _ (quiet_ne t)
    | infinity s =>
      have hd : FloatKind.f64.decode x = .infinity s := hr
      have hn : ¬ Nan x := by rintro ⟨s', f, h⟩; rw [hr] at h; cases h
      refine ⟨fun _ => Ieee.double.write ((Ieee.double.read x).integral .even), 0, fun w => ⟨?_, fun h => absurd h hn, fun _ => by rw [hr]⟩⟩
      rw [hrun, rte_eq, hd, hr]
      rfl
    | number s m e =>
      have hd : FloatKind.f64.decode x = .number s m e := hr
      have hn : ¬ Nan x := by rintro ⟨s', f, h⟩; rw [hr] at h; cases h
      refine ⟨fun _ => Ieee.double.write ((Ieee.double.read x).integral .even), 0, fun w => ⟨?_, fun h => absurd h hn, fun _ => by rw [hr]⟩⟩
      rw [hrun, rte_eq, hd, hr]
      rfl
  refine ⟨fun x w => (H x).choose w, fun x => (H x).choose_spec.choose, fun x w => ((H x).choose_spec.choose_spec w).1, fun x w => ((H x).choose_spec.choose_spec w).2.1, fun x w => ((H x).choose_spec.choose_spec w).2.2⟩

def bigW : Nat := 4890691058569617664
def bigN : Nat := 14114063095424393472
/-- Beyond what is made whole? -/
def farW (x : Nat) : Bool := Ieee.double.order x bigW == some Ordering.gt || Ieee.double.order x bigN == some Ordering.lt
/-- The whole number nearest to a number. -/
def whole (x : Nat) : Int := match Ieee.double.read x with
  | .number s m e => if e < 0 then Ieee.signed s (Ieee.Toward.even.cut s m (-e).toNat) 0 else if farW x = true then 0 else Ieee.signed s m e.toNat
  | _ => 0
def nrI : Option Nat → Int | none => 0 | some x => whole x
theorem key_big : key bigW = 4890691058569617664 ∧ key bigN = -4890691058569617664 ∧ NN bigW ∧ NN bigN := by
  unfold key bigW bigN NN
  omega
/-- A word of modest size is not beyond. -/
theorem near_small {a : Nat} (h : Le 1080 a) : Ieee.double.order a bigW = some .lt ∧ Ieee.double.order a bigN = some .gt := by
  obtain ⟨h1, h2⟩ := h
  obtain ⟨b1, b2, b3, b4⟩ := key_big
  have hn : NN a := ⟨h1, by omega⟩
  have hk : -4863887597560135680 ≤ key a ∧ key a ≤ 4863887597560135680 := by unfold key; split <;> omega
  rw [order_key hn b3, order_key hn b4, b1, b2, Int.compare_eq_lt.2 (by omega), Int.compare_eq_gt.2 (by omega)]
  exact ⟨rfl, rfl⟩
theorem small_le {x : Nat} {s : Bool} {m : Nat} {e : Int} (hx : x < 18446744073709551616) (hr : Ieee.double.read x = .number s m e) (he : e < 0) : Le 1080 x := by
  refine ⟨hx, ?_⟩
  rw [read_eq] at hr
  by_cases c1 : x % 9223372036854775808 < 4503599627370496
  · omega
  · rw [if_neg c1] at hr
    by_cases c2 : x % 9223372036854775808 < 9218868437227405312
    · rw [if_pos c2] at hr
      injection hr with _ _ h3
      omega
    · rw [if_neg c2] at hr
      split at hr <;> cases hr
/-- A great one is whole: it stands for itself. -/
theorem great_word {x : Nat} {s : Bool} {m : Nat} {e : Int} (hx : x < 18446744073709551616) (hr : Ieee.double.read x = .number s m e) (he : 0 ≤ e) : x = Ieee.double.word s ((e + 1074).toNat * 4503599627370496 + m) ∧ 4503599627370496 ≤ m ∧ e ≤ 971 ∧ m < 9007199254740992 := by
  have hb := num_bd hr
  refine ⟨?_, ?_, hb.2.2.1, by omega⟩
  · rw [read_eq] at hr
    by_cases c1 : x % 9223372036854775808 < 4503599627370496
    · rw [if_pos c1] at hr; injection hr with _ _ h3; omega
    · rw [if_neg c1] at hr
      by_cases c2 : x % 9223372036854775808 < 9218868437227405312
      · rw [if_pos c2] at hr
        injection hr with h1 h2 h3
        unfold Ieee.Format.word
        rw [sw, ← h1]
        have hq : (e + 1074).toNat = x % 9223372036854775808 / 4503599627370496 - 1 := by omega
        rw [hq, ← h2]
        have hd : x / 9223372036854775808 = 0 ∨ x / 9223372036854775808 = 1 := by omega
        rcases hd with h | h
        · rw [h, if_neg (by decide)]; omega
        · rw [h, if_pos (by decide)]; omega
      · rw [if_neg c2] at hr
        split at hr <;> cases hr
  · rw [read_eq] at hr
    by_cases c1 : x % 9223372036854775808 < 4503599627370496
    · rw [if_pos c1] at hr; injection hr with _ _ h3; omega
    · rw [if_neg c1] at hr
      by_cases c2 : x % 9223372036854775808 < 9218868437227405312
      · rw [if_pos c2] at hr
        injection hr with _ h2 _
        omega
      · rw [if_neg c2] at hr
        split at hr <;> cases hr
theorem great_self {x : Nat} {s : Bool} {m : Nat} {e : Int} (hx : x < 18446744073709551616) (hr : Ieee.double.read x = .number s m e) (he : 0 ≤ e) (way : Ieee.Toward) : Ieee.double.write ((Ieee.double.read x).integral way) = x := by
  obtain ⟨h1, h2, h3, h4⟩ := great_word hx hr he
  rw [hr]
  show Ieee.double.nearest s (way.cut s (m <<< e.toNat) (-e).toNat) 0 = x
  rw [show (-e).toNat = 0 by omega, Nat.shiftLeft_eq]
  have hc := cut_way_exact way s (m * 2 ^ e.toNat) 0
  rw [Nat.pow_zero, Nat.mul_one] at hc
  rw [hc, nearest_exact s m e.toNat 0 e h4 (by omega) (by omega) (by omega) h3 (.inl h2), ← h1]
theorem order_far {x : Nat} {s : Bool} {m : Nat} {e : Int} (hr : Ieee.double.read x = .number s m e) (he : 0 ≤ e) (h : farW x = false) : -9000000000000000000 ≤ Ieee.signed s m e.toNat ∧ Ieee.signed s m e.toNat ≤ 9000000000000000000 := by
  have r1 : Ieee.double.read bigW = .number false 8789062500000000 10 := by decide +kernel
  have r2 : Ieee.double.read bigN = .number true 8789062500000000 10 := by decide +kernel
  unfold farW at h
  rw [Bool.or_eq_false_iff] at h
  obtain ⟨g1, g2⟩ := h
  unfold Ieee.Format.order at g1 g2
  rw [hr, r1] at g1
  rw [hr, r2] at g2
  simp only [Ieee.Datum.order] at g1 g2
  generalize hb : min e 10 = base at g1 g2
  have b0 : 0 ≤ base := by omega
  have b1 : base ≤ e := by omega
  have b2 : base ≤ 10 := by omega
  have e1 : m * 2 ^ e.toNat = m * 2 ^ (e - base).toNat * 2 ^ base.toNat := by
    rw [Nat.mul_assoc, ← Nat.pow_add]; congr 2; omega
  have e2 : 8789062500000000 * 2 ^ (10 - base).toNat * 2 ^ base.toNat = 9000000000000000000 := by
    rw [Nat.mul_assoc, ← Nat.pow_add, show (10 - base).toNat + base.toNat = 10 by omega]
  have hp := Nat.two_pow_pos base.toNat
  have k1 : Ieee.signed s m (e - base).toNat ≤ ((8789062500000000 * 2 ^ (10 - base).toNat : Nat) : Int) := by
    rw [signed_false] at g1
    apply Classical.byContradiction
    intro c
    rw [Int.compare_eq_gt.2 (by omega)] at g1
    cases g1
  have k2 : -((8789062500000000 * 2 ^ (10 - base).toNat : Nat) : Int) ≤ Ieee.signed s m (e - base).toNat := by
    rw [signed_true] at g2
    apply Classical.byContradiction
    intro c
    rw [Int.compare_eq_lt.2 (by omega)] at g2
    cases g2
  generalize 8789062500000000 * 2 ^ (10 - base).toNat = B at *
  generalize 2 ^ base.toNat = U at *
  cases s
  · rw [signed_false] at k1 k2 ⊢
    rw [e1]
    generalize m * 2 ^ (e - base).toNat = M at *
    have : M * U ≤ B * U := Nat.mul_le_mul_right _ (by omega)
    omega
  · rw [signed_true] at k1 k2 ⊢
    rw [e1]
    generalize m * 2 ^ (e - base).toNat = M at *
    have : M * U ≤ B * U := Nat.mul_le_mul_right _ (by omega)
    omega
theorem toInt_great {x : Nat} {s : Bool} {m : Nat} {e : Int} (hr : Ieee.double.read x = .number s m e) (he : 0 ≤ e) (h : farW x = false) : floatToIntVal .f64 x .i64 = some (Ieee.signed s m e.toNat) := by
  obtain ⟨h1, h2⟩ := order_far hr he h
  unfold floatToIntVal
  have ht : (FloatKind.f64.decode x).toInt .zero = some (Ieee.signed s m e.toNat) := by
    show (Ieee.double.read x).toInt .zero = _
    rw [hr]
    unfold Ieee.Datum.toInt Ieee.Datum.integral
    simp only
    rw [show (-e).toNat = 0 by omega]
    have hc := cut_way_exact .zero s (m <<< e.toNat) 0
    rw [Nat.pow_zero, Nat.mul_one] at hc
    rw [hc]
    rfl
  rw [ht]
  simp only
  rw [if_pos]
  simp only [IntKind.min, IntKind.max, IntKind.signed, IntKind.bits]
  exact ⟨by first | (simp; done) | (simp; omega), by first | (simp; done) | (simp; omega)⟩
theorem toInt_small {s : Bool} {N : Nat} (h : N < 9007199254740992) : floatToIntVal .f64 (Ieee.double.nearest s N 0) .i64 = some (Ieee.signed s N 0) := by
  obtain ⟨e, e1, e2, e3⟩ := nearest_read s N 0 h (by omega) (by omega)
  unfold floatToIntVal
  rw [show (FloatKind.f64.decode (Ieee.double.nearest s N 0)).toInt .zero = some (Ieee.signed s N 0) from toInt_whole e2 e3]
  simp only
  rw [if_pos]
  rw [signed_zero_up]
  simp only [IntKind.min, IntKind.max, IntKind.signed, IntKind.bits]
  cases s
  · exact ⟨by first | (simp; done) | (simp; omega), by first | (simp; done) | (simp; omega)⟩
  · exact ⟨by first | (simp; done) | (simp; omega), by first | (simp; done) | (simp; omega)⟩
end Go.Proofs.YtinopkmcddjgdaaGreatDoor
namespace Go.Proofs.YtinopkmcddjgdaaGreatDoor
open Go.RowKit FB
attribute [local go_sem] run_store_float

theorem nan_order {a : Nat} (h : Nan a) (b : Nat) : Ieee.double.order a b = none := by obtain ⟨s, f, h⟩ := h; exact order_nan h
theorem nan_of_ne {x : Nat} (h : Ieee.double.order x x ≠ some .eq) : Nan x := by
  cases hr : Ieee.double.read x with
  | nan s t => exact ⟨s, t, hr⟩
  | infinity s => exact absurd (order_inf hr).2 h
  | number s m e => exact absurd (order_self ⟨s, m, e, hr⟩) h
theorem whole_nan {x : Nat} (h : Nan x) : whole x = 0 := by obtain ⟨s, t, h⟩ := h; unfold whole; rw [h]
theorem whole_inf {x : Nat} {s : Bool} (h : Ieee.double.read x = .infinity s) : whole x = 0 := by unfold whole; rw [h]
theorem whole_small {x : Nat} {s : Bool} {m : Nat} {e : Int} (h : Ieee.double.read x = .number s m e) (he : e < 0) : whole x = Ieee.signed s (Ieee.Toward.even.cut s m (-e).toNat) 0 := by unfold whole; rw [h]; simp only; rw [if_pos he]
theorem whole_great {x : Nat} {s : Bool} {m : Nat} {e : Int} (h : Ieee.double.read x = .number s m e) (he : 0 ≤ e) : whole x = if farW x = true then 0 else Ieee.signed s m e.toNat := by unfold whole; rw [h]; simp only; rw [if_neg (by omega)]
theorem cut_small {m k : Nat} (way : Ieee.Toward) (s : Bool) (hm : m ≤ 9007199254740991) (hk : 1 ≤ k) (hw : way = .even ∨ way = .down) : way.cut s m k < 9007199254740992 := by
  have hg2 : 2 ≤ 2 ^ k := by
    have : 2 ^ 1 ≤ 2 ^ k := Nat.pow_le_pow_right (by decide) hk
    omega
  have hq : m / 2 ^ k ≤ m / 2 := Nat.div_le_div_left hg2 (by decide)
  rcases hw with rfl | rfl
  · rw [cut_even_parts]
    have : (if 2 ^ k < 2 * (m % 2 ^ k) ∨ (2 ^ k = 2 * (m % 2 ^ k) ∧ m / 2 ^ k % 2 = 1) then 1 else 0) ≤ 1 := by split <;> omega
    omega
  · rw [cut_down_parts]
    have : (if s = true ∧ m % 2 ^ k ≠ 0 then 1 else 0) ≤ 1 := by split <;> omega
    omega
theorem small_integral {x : Nat} {s : Bool} {m : Nat} {e : Int} (h : Ieee.double.read x = .number s m e) (he : e < 0) (way : Ieee.Toward) : Ieee.double.write ((Ieee.double.read x).integral way) = Ieee.double.nearest s (way.cut s m (-e).toNat) 0 := by
  rw [h]
  show Ieee.double.nearest s (way.cut s (m <<< e.toNat) (-e).toNat) 0 = _
  rw [show e.toNat = 0 by omega, Nat.shiftLeft_zero]
theorem near_le {s : Bool} {N : Nat} (h : N < 9007199254740992) : Le 1080 (Ieee.double.nearest s N 0) := by
  have h1 := nearest_le s N 0 53 1076 (by have : (2 : Nat) ^ 53 = 9007199254740992 := by decide
                                          omega) (by decide) (by decide)
  exact (h1.resolve_right (by decide)).mono (by decide)
theorem order_num {x y : Nat} (hx : Num x) (hy : Num y) : ∃ o, Ieee.double.order x y = some o := by
  obtain ⟨s, m, i, hx⟩ := hx
  obtain ⟨t, n, j, hy⟩ := hy
  unfold Ieee.Format.order
  rw [hx, hy]
  exact ⟨_, rfl⟩
theorem big_num : Num bigW ∧ Num bigN := ⟨⟨_, _, _, (by decide +kernel : Ieee.double.read bigW = .number false 8789062500000000 10)⟩, ⟨_, _, _, (by decide +kernel : Ieee.double.read bigN = .number true 8789062500000000 10)⟩⟩
theorem inf_order {s : Bool} : (Ieee.double.order (Ieee.double.write (.infinity s)) bigN = some (if s then .lt else .gt)) ∧ (Ieee.double.order (Ieee.double.write (.infinity s)) bigW = some (if s then .lt else .gt)) := by
  cases s <;> exact ⟨by decide +kernel, by decide +kernel⟩

/-- How the program comes to it. -/
theorem nr_prog {x a : Nat} (hx : x < 18446744073709551616) (ha1 : Nan x → Nan a) (ha2 : ¬ Nan x → a = Ieee.double.write ((Ieee.double.read x).integral .even)) :
    (geB a bigN = false ∧ whole x = 0) ∨ (geB a bigN = true ∧ leB a bigW = false ∧ whole x = 0) ∨ (geB a bigN = true ∧ leB a bigW = true ∧ floatToIntVal .f64 a .i64 = some (whole x)) := by
  by_cases hn : Nan x
  · refine .inl ⟨?_, whole_nan hn⟩
    show ((Ieee.double.order a bigN == _) || (Ieee.double.order a bigN == _)) = _
    rw [show Ieee.double.order a bigN = none from nan_order (ha1 hn) _]; rfl
  · have ha := ha2 hn
    clear ha1 ha2
    cases hr : Ieee.double.read x with
    | nan s t => exact absurd ⟨s, t, hr⟩ hn
    | infinity s =>
      rw [hr] at ha
      obtain ⟨o1, o2⟩ := inf_order (s := s)
      have ha' : a = Ieee.double.write (.infinity s) := ha
      rw [← ha'] at o1 o2
      cases s
      · refine .inr (.inl ⟨?_, ?_, whole_inf hr⟩)
        · show ((Ieee.double.order a bigN == _) || (Ieee.double.order a bigN == _)) = _
          rw [o1]; rfl
        · show ((Ieee.double.order a bigW == _) || (Ieee.double.order a bigW == _)) = _
          rw [o2]; rfl
      · refine .inl ⟨?_, whole_inf hr⟩
        show ((Ieee.double.order a bigN == _) || (Ieee.double.order a bigN == _)) = _
        rw [o1]; rfl
    | number s m e =>
      by_cases he : e < 0
      · rw [small_integral hr he] at ha
        have hc := cut_small (m := m) (k := (-e).toNat) .even s (num_bd hr).1 (by omega) (.inl rfl)
        have hs := near_small (near_le (s := s) hc)
        rw [← ha] at hs
        refine .inr (.inr ⟨?_, ?_, ?_⟩)
        · show ((Ieee.double.order a bigN == _) || (Ieee.double.order a bigN == _)) = _
          rw [hs.2]; rfl
        · show ((Ieee.double.order a bigW == _) || (Ieee.double.order a bigW == _)) = _
          rw [hs.1]; rfl
        · rw [ha, whole_small hr he]; exact toInt_small hc
      · rw [great_self hx hr (by omega)] at ha
        subst ha
        have hw := whole_great hr (by omega : 0 ≤ e)
        obtain ⟨o1, h1⟩ := order_num ⟨s, m, e, hr⟩ big_num.1
        obtain ⟨o2, h2⟩ := order_num ⟨s, m, e, hr⟩ big_num.2
        cases hf : farW a with
        | false =>
          rw [hf, if_neg (by decide)] at hw
          refine .inr (.inr ⟨?_, ?_, by rw [hw]; exact toInt_great hr (by omega) hf⟩)
          · unfold farW at hf
            rw [h1, h2] at hf
            show ((Ieee.double.order a bigN == _) || (Ieee.double.order a bigN == _)) = _
            rw [h2]
            cases o1 <;> cases o2 <;> first | rfl | (exact absurd hf (by decide))
          · unfold farW at hf
            rw [h1, h2] at hf
            show ((Ieee.double.order a bigW == _) || (Ieee.double.order a bigW == _)) = _
            rw [h1]
            cases o1 <;> cases o2 <;> first | rfl | (exact absurd hf (by decide))
        | true =>
          rw [hf, if_pos rfl] at hw
          unfold farW at hf
          rw [h1, h2] at hf
          cases hg : geB a bigN with
          | false => exact .inl ⟨rfl, hw⟩
          | true =>
            refine .inr (.inl ⟨rfl, ?_, hw⟩)
            have hg' : ((Ieee.double.order a bigN == some Ordering.gt) || (Ieee.double.order a bigN == some Ordering.eq)) = true := hg
            rw [h2] at hg'
            show ((Ieee.double.order a bigW == _) || (Ieee.double.order a bigW == _)) = _
            rw [h1]
            cases o1 <;> cases o2 <;> first | rfl | (exact absurd hf (by decide)) | (exact absurd hg' (by decide))

/-- How the document comes to it. -/
theorem nr_ref {x : Nat} (hx : x < 18446744073709551616) :
    ((FloatKind.f64.format.order x x != some Ordering.eq) = true ∧ whole x = 0) ∨
    ((FloatKind.f64.format.order x x != some Ordering.eq) = false ∧ (FloatKind.f64.format.order x bigW == some Ordering.gt) = true ∧ whole x = 0) ∨
    ((FloatKind.f64.format.order x x != some Ordering.eq) = false ∧ (FloatKind.f64.format.order x bigW == some Ordering.gt) = false ∧ (FloatKind.f64.format.order x bigN == some Ordering.lt) = true ∧ whole x = 0) ∨
    ((FloatKind.f64.format.order x x != some Ordering.eq) = false ∧ (FloatKind.f64.format.order x bigW == some Ordering.gt) = false ∧ (FloatKind.f64.format.order x bigN == some Ordering.lt) = false ∧ Num x ∧
      ∃ n d, floatToIntVal .f64 (Ieee.double.write ((Ieee.double.read x).integral .down)) .i64 = some n ∧ -9100000000000000000 ≤ n ∧ n ≤ 9100000000000000000 ∧ Ieee.double.sub x (Ieee.double.write ((Ieee.double.read x).integral .down)) = some d ∧ whole x = (if addOne d n = true then n + 1 else n)) := by
  cases hr : Ieee.double.read x with
  | nan s t =>
    refine .inl ⟨?_, whole_nan ⟨s, t, hr⟩⟩
    show (Ieee.double.order x x != _) = _
    rw [order_nan hr]; rfl
  | infinity s =>
    have h1 : (FloatKind.f64.format.order x x != some Ordering.eq) = false := by show (Ieee.double.order x x != _) = _; rw [(order_inf hr).2]; rfl
    have hb1 : Ieee.double.order x bigW = some (if s then .lt else .gt) := by unfold Ieee.Format.order; rw [hr, show Ieee.double.read bigW = .number false 8789062500000000 10 by decide +kernel]; rfl
    have hb2 : Ieee.double.order x bigN = some (if s then .lt else .gt) := by unfold Ieee.Format.order; rw [hr, show Ieee.double.read bigN = .number true 8789062500000000 10 by decide +kernel]; rfl
    cases s
    · refine .inr (.inl ⟨h1, ?_, whole_inf hr⟩)
      show (Ieee.double.order x bigW == _) = _
      rw [hb1]; rfl
    · refine .inr (.inr (.inl ⟨h1, ?_, ?_, whole_inf hr⟩))
      · show (Ieee.double.order x bigW == _) = _
        rw [hb1]; rfl
      · show (Ieee.double.order x bigN == _) = _
        rw [hb2]; rfl
  | number s m e =>
    have h1 : (FloatKind.f64.format.order x x != some Ordering.eq) = false := by show (Ieee.double.order x x != _) = _; rw [order_self ⟨s, m, e, hr⟩]; rfl
    by_cases he : e < 0
    · have hs := near_small (small_le hx hr he)
      refine .inr (.inr (.inr ⟨h1, ?_, ?_, ⟨s, m, e, hr⟩, ?_⟩))
      · show (Ieee.double.order x bigW == _) = _
        rw [hs.1]; rfl
      · show (Ieee.double.order x bigN == _) = _
        rw [hs.2]; rfl
      · have hc := cut_small (m := m) (k := (-e).toNat) .down s (num_bd hr).1 (by omega) (.inr rfl)
        have hre : Ieee.double.read x = .number s m (-((-e).toNat : Int)) := by rw [hr]; congr 1; omega
        obtain ⟨d, hd, hw⟩ := near_core hre (by omega)
        have hsm := small_integral hr he .down
        rw [hr] at hsm
        rw [hsm]
        refine ⟨_, d, toInt_small hc, ?_, ?_, hd, by rw [whole_small hr he]; exact hw⟩
        · rw [signed_zero_up]; split <;> omega
        · rw [signed_zero_up]; split <;> omega
    · have hw := whole_great hr (by omega : 0 ≤ e)
      have hgs := great_self hx hr (by omega : 0 ≤ e) .down
      rw [hr] at hgs
      rw [hgs]
      cases hf : farW x with
      | true =>
        rw [hf, if_pos rfl] at hw
        unfold farW at hf
        cases hg : (Ieee.double.order x bigW == some Ordering.gt) with
        | true => exact .inr (.inl ⟨h1, hg, hw⟩)
        | false =>
          rw [hg, Bool.false_or] at hf
          exact .inr (.inr (.inl ⟨h1, hg, hf, hw⟩))
      | false =>
        rw [hf, if_neg (by decide)] at hw
        have hf' := hf
        unfold farW at hf'
        rw [Bool.or_eq_false_iff] at hf'
        obtain ⟨b1, b2⟩ := order_far hr (by omega) hf
        refine .inr (.inr (.inr ⟨h1, hf'.1, hf'.2, ⟨s, m, e, hr⟩, _, 0, toInt_great hr (by omega) hf, by omega, by omega, sub_self ⟨s, m, e, hr⟩, ?_⟩))
        rw [hw]
        have h0 : Ieee.double.order 0 halfW = some .lt := by decide +kernel
        unfold addOne
        rw [h0, if_neg (by simp)]

def radW : Nat := 4445950764994258515
set_option maxHeartbeats 1000000 in
theorem nearest_any (o : Option Nat) (r : Nat) (h : Got o r) (w : World) : Calls Tryz.prog 49 #[.float .f64 r] w fun e w' => e = .returned (.int .i64 (nrI (oD o (some radW)))) ∧ Gr w w' := by
  obtain ⟨mF, aF, sF, qF, mD, aD, sD, qD, hm, ha, hss, hq, gm, ga, gs, gq⟩ := ops
  obtain ⟨rF, rD, hR, r1, r2⟩ := rteA
  have hx := gq o (some radW) r radW w h rfl
  have HW : Hid (nrI (oD o (some radW)) = whole (qF r radW w)) := by
    show _ = _
    cases ho : oD o (some radW) with
    | none =>
      rw [ho] at hx
      exact (whole_nan hx.1).symm
    | some q =>
      rw [ho] at hx
      obtain rfl : qF r radW w = q := hx.1
      rfl
  have H := nr_prog hx.2 (fun hn => r1 (qF r radW w) (w.drewN (qD r radW)) hn) (fun hn => r2 (qF r radW w) (w.drewN (qD r radW)) hn)
  rw [HW.out]
  clear hx h gm ga gs gq hm ha hss HW r1 r2
  unfold radW at H ⊢
  generalize hxx : qF r 4445950764994258515 w = x at H ⊢
  generalize haa : rF x (w.drewN (qD r 4445950764994258515)) = a at H ⊢
  unfold geB leB bigW bigN at H
  rcases H with ⟨t1, hw⟩ | ⟨t1, t2, hw⟩ | ⟨t1, t2, hc⟩
  · rw [hw]
    clear hw
    go_enter Tryz.func49, Tryz.ntmps49
    go_wp2
    go_ret
    exact ⟨rfl, by ((with_reducible repeat' (first | assumption | refine Gr.drewN ?_ _ | refine Gr.drew ?_ | refine Gr.alloc ?_ _ | exact Gr.refl _)); done)⟩
  · rw [hw]
    clear hw
    go_enter Tryz.func49, Tryz.ntmps49
    go_wp2
    go_ret
    exact ⟨rfl, by ((with_reducible repeat' (first | assumption | refine Gr.drewN ?_ _ | refine Gr.drew ?_ | refine Gr.alloc ?_ _ | exact Gr.refl _)); done)⟩
  · have hcv := conv_int a _ hc
    clear hc
    generalize whole x = n at *
    go_enter Tryz.func49, Tryz.ntmps49
    go_wp2
    go_ret
    exact ⟨rfl, by ((with_reducible repeat' (first | assumption | refine Gr.drewN ?_ _ | refine Gr.drew ?_ | refine Gr.alloc ?_ _ | exact Gr.refl _)); done)⟩
set_option maxHeartbeats 2000000 in
theorem nearestTo_any (o : Option Nat) (r : Nat) (h : Got o r) (w : World) : Calls Tryz.prog 55 #[.float .f64 r] w fun e w' => e = .returned (.int .i64 (nrI (oD o (some radW)))) ∧ Gr w w' := by
  obtain ⟨mF, aF, sF, qF, mD, aD, sD, qD, hm, ha, hss, hq, gm, ga, gs, gq⟩ := ops
  have hx := gq o (some radW) r radW w h rfl
  have HW : Hid (nrI (oD o (some radW)) = whole (qF r radW w)) := by
    show _ = _
    cases ho : oD o (some radW) with
    | none =>
      rw [ho] at hx
      exact (whole_nan hx.1).symm
    | some q =>
      rw [ho] at hx
      obtain rfl : qF r radW w = q := hx.1
      rfl
  have H := nr_ref hx.2
  rw [HW.out]
  clear hx h gm ga gs gq hm ha hss HW
  unfold radW at H ⊢
  generalize hxx : qF r 4445950764994258515 w = x at H ⊢
  unfold bigW bigN at H
  rcases H with ⟨t0, hw⟩ | ⟨t0, t1, hw⟩ | ⟨t0, t1, t2, hw⟩ | ⟨t0, t1, t2, hn, n, d, hc, b1, b2, hd, hw⟩
  · rw [hw]
    clear hw
    go_enter Tryz.func55, Tryz.ntmps55
    go_wp2
    go_ret
    exact ⟨rfl, by ((with_reducible repeat' (first | assumption | refine Gr.drewN ?_ _ | refine Gr.drew ?_ | refine Gr.alloc ?_ _ | exact Gr.refl _)); done)⟩
  · rw [hw]
    clear hw
    go_enter Tryz.func55, Tryz.ntmps55
    go_wp2
    go_ret
    exact ⟨rfl, by ((with_reducible repeat' (first | assumption | refine Gr.drewN ?_ _ | refine Gr.drew ?_ | refine Gr.alloc ?_ _ | exact Gr.refl _)); done)⟩
  · rw [hw]
    clear hw
    go_enter Tryz.func55, Tryz.ntmps55
    go_wp2
    go_ret
    exact ⟨rfl, by ((with_reducible repeat' (first | assumption | refine Gr.drewN ?_ _ | refine Gr.drew ?_ | refine Gr.alloc ?_ _ | exact Gr.refl _)); done)⟩
  · have HF := hid (fun w => floor_num x hn w)
    generalize Ieee.double.write ((Ieee.double.read x).integral .down) = f at HF hc hd
    have hcv := conv_int f _ hc
    have hsd := hsub hd
    have hwp : IntKind.i64.wrap (n + 1) = n + 1 := by simp [IntKind.wrap, IntKind.signed, IntKind.bits]; omega
    rw [hw]
    clear hc hd hw b1 b2 hn
    unfold addOne halfW
    cases g1 : (Ieee.double.order d 4602678819172646912 == some Ordering.gt) with
    | true =>
      have g1' : (FloatKind.f64.format.order d 4602678819172646912 == some Ordering.gt) = true := g1
      rw [Bool.true_or, if_pos rfl]
      clear g1
      go_enter Tryz.func55, Tryz.ntmps55
      go_wp2_with fail
      refine (HF.out _).mono ?_
      rintro e w1 ⟨rfl, rfl⟩
      go_wp2
      go_ret
      exact ⟨rfl, by ((with_reducible repeat' (first | assumption | refine Gr.drewN ?_ _ | refine Gr.drew ?_ | refine Gr.alloc ?_ _ | exact Gr.refl _)); done)⟩
    | false =>
      have g1' : (FloatKind.f64.format.order d 4602678819172646912 == some Ordering.gt) = false := g1
      rw [Bool.false_or]
      clear g1
      cases g2 : (Ieee.double.order d 4602678819172646912 == some Ordering.eq) with
      | false =>
        have g2' : (FloatKind.f64.format.order d 4602678819172646912 == some Ordering.eq) = false := g2
        rw [Bool.false_and, if_neg (by decide)]
        clear g2
        go_enter Tryz.func55, Tryz.ntmps55
        go_wp2_with fail
        refine (HF.out _).mono ?_
        rintro e w1 ⟨rfl, rfl⟩
        go_wp2
        go_ret
        exact ⟨rfl, by ((with_reducible repeat' (first | assumption | refine Gr.drewN ?_ _ | refine Gr.drew ?_ | refine Gr.alloc ?_ _ | exact Gr.refl _)); done)⟩
      | true =>
        have g2' : (FloatKind.f64.format.order d 4602678819172646912 == some Ordering.eq) = true := g2
        rw [Bool.true_and]
        clear g2
        cases g3 : (n.tmod 2 != 0) with
        | false =>
          rw [if_neg (by decide)]
          go_enter Tryz.func55, Tryz.ntmps55
          go_wp2_with fail
          refine (HF.out _).mono ?_
          rintro e w1 ⟨rfl, rfl⟩
          go_wp2
          go_ret
          exact ⟨rfl, by ((with_reducible repeat' (first | assumption | refine Gr.drewN ?_ _ | refine Gr.drew ?_ | refine Gr.alloc ?_ _ | exact Gr.refl _)); done)⟩
        | true =>
          rw [if_pos rfl]
          go_enter Tryz.func55, Tryz.ntmps55
          go_wp2_with fail
          refine (HF.out _).mono ?_
          rintro e w1 ⟨rfl, rfl⟩
          go_wp2
          go_ret
          exact ⟨rfl, by ((with_reducible repeat' (first | assumption | refine Gr.drewN ?_ _ | refine Gr.drew ?_ | refine Gr.alloc ?_ _ | exact Gr.refl _)); done)⟩
end Go.Proofs.YtinopkmcddjgdaaGreatDoor
namespace Go.Proofs.YtinopkmcddjgdaaGreatDoor
open Go.RowKit FB

theorem ang_bd (y x : Nat) : 0 ≤ (angV y x).1 ∧ (angV y x).1 ≤ 360000000000 := by
  have h := quarter_bd (absB y) (absB x)
  unfold angV
  generalize quarter (absB y) (absB x) = q at h ⊢
  have h2 := nrm_lt (360000000000 - q)
  generalize nrm (360000000000 - q) = r at h2 ⊢
  split
  · simp only; omega
  · split
    · simp only; omega
    · split
      · simp only; omega
      · split
        · simp only; omega
        · simp only; omega
theorem whole_bd2 (x : Nat) : -9000000000000000000 ≤ whole x ∧ whole x ≤ 9000000000000000000 := by
  cases hr : Ieee.double.read x with
  | nan s t => rw [whole_nan ⟨s, t, hr⟩]; omega
  | infinity s => rw [whole_inf hr]; omega
  | number s m e =>
    by_cases he : e < 0
    · rw [whole_small hr he, signed_zero_up]
      have := cut_small (m := m) (k := (-e).toNat) .even s (num_bd hr).1 (by omega) (.inl rfl)
      split <;> omega
    · rw [whole_great hr (by omega)]
      cases hf : farW x with
      | true => rw [if_pos rfl]; omega
      | false => rw [if_neg (by decide)]; exact order_far hr (by omega) hf
theorem nrI_bd (o : Option Nat) : -9000000000000000000 ≤ nrI o ∧ nrI o ≤ 9000000000000000000 := by
  cases o with
  | none => exact ⟨by decide, by decide⟩
  | some x => exact whole_bd2 x
theorem wrap_mid {mid n : Int} (h : -9000000000000000000 ≤ n ∧ n ≤ 9000000000000000000) : IntKind.i64.wrap (nrm mid + n) = nrm mid + n := by
  have := nrm_lt mid
  simp [IntKind.wrap, IntKind.signed, IntKind.bits]
  omega
end Go.Proofs.YtinopkmcddjgdaaGreatDoor
