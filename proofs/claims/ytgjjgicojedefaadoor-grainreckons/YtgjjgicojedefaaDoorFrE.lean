/-
  grain's whole numbers of 128 bits: multiply, negated, plus, sign, product.
-/
import Derived.Test.YtgjjgicojedefaaDoorFrP
import Derived.Test.YtgjjgicojedefaaDoorFrA
import Derived.Lib.Mul64
import Derived.Laws.Bits64b
import Derived.Shelf.Spec.BitsCarry
namespace Go.Proofs.YtgjjgicojedefaaDoor
open Go.RowKit BG

abbrev W2 (z : Int) : Value := .agg #[.int .u64 (hi2 z), .int .u64 (lo2 z)]
theorem add64 (x y c : Int) (hx : 0 ≤ x) (hy : 0 ≤ y) (hc0 : 0 ≤ c) (hc : c ≤ 1) (w : World) : (callFunc 70 #[.int .u64 x, .int .u64 y, .int .u64 c]).run Tryd.prog w = .ok (.value (.tuple #[.int .u64 ((x + y + c) % 18446744073709551616), .int .u64 ((x + y + c) / 18446744073709551616)])) w := by
  rw [run_callFunc_extern Tryd.func70 (by kernel_rfl) (by kernel_rfl) (by kernel_rfl) (e := add64Entry) (by kernel_rfl), run_add64 x y c hx hy hc0 hc]
  rfl
theorem sub64 (x y b : Int) (hx : 0 ≤ x) (hy : 0 ≤ y) (hy' : y < 18446744073709551616) (hb0 : 0 ≤ b) (hb : b ≤ 1) (w : World) : (callFunc 71 #[.int .u64 x, .int .u64 y, .int .u64 b]).run Tryd.prog w = .ok (.value (.tuple #[.int .u64 ((x - y - b) % 18446744073709551616), .int .u64 (bor x (y + b))])) w := by
  obtain ⟨x, rfl⟩ := Int.eq_ofNat_of_zero_le hx
  obtain ⟨y, rfl⟩ := Int.eq_ofNat_of_zero_le hy
  obtain ⟨b, rfl⟩ := Int.eq_ofNat_of_zero_le hb0
  have e1 : (((x + 18446744073709551616 - y - b) % 18446744073709551616 : Nat) : Int) = ((x : Int) - y - b) % 18446744073709551616 := by omega
  have e2 : ((if x < y + b then 1 else 0 : Nat) : Int) = bor (x : Int) (y + b) := by unfold bor; split <;> split <;> omega
  rw [← e1, ← e2, run_callFunc_extern Tryd.func71 (by kernel_rfl) (by kernel_rfl) (by kernel_rfl) (e := sub64Entry) (by kernel_rfl), run_sub64 x y b (by omega)]
  rfl
theorem add64_0 (x y : Int) (hx : 0 ≤ x) (hy : 0 ≤ y) (w : World) : (callFunc 70 #[.int .u64 x, .int .u64 y, .int .u64 0]).run Tryd.prog w = .ok (.value (.tuple #[.int .u64 ((x + y) % 18446744073709551616), .int .u64 ((x + y) / 18446744073709551616)])) w := by
  simpa using add64 x y 0 hx hy (Int.le_refl 0) (by decide) w
theorem sub64_0 (y : Int) (hy : 0 ≤ y) (hy' : y < 18446744073709551616) (w : World) : (callFunc 71 #[.int .u64 0, .int .u64 y, .int .u64 0]).run Tryd.prog w = .ok (.value (.tuple #[.int .u64 ((0 - y) % 18446744073709551616), .int .u64 (bor 0 y)])) w := by
  have h := sub64 0 y 0 (Int.le_refl 0) hy hy' (Int.le_refl 0) (by decide) w
  rw [Int.sub_zero, Int.add_zero] at h
  exact h
namespace M64
theorem maskN (a : Nat) (ha : a < 18446744073709551616) : bits .and .u64 (a : Int) 4294967295 = ((a % 4294967296 : Nat) : Int) := by
  have h := bits_and_u64_nat a 4294967295 ha (by omega)
  have e : a &&& 4294967295 = a % 4294967296 := Nat.and_two_pow_sub_one_eq_mod a 32
  rw [e] at h
  exact h
theorem divN (a : Nat) : (a : Int) / 4294967296 = ((a / 4294967296 : Nat) : Int) := by omega
theorem mulN (a b : Nat) : (a : Int) * (b : Int) = ((a * b : Nat) : Int) := (Int.natCast_mul a b).symm
theorem addN (a b : Nat) : (a : Int) + (b : Int) = ((a + b : Nat) : Int) := (Int.natCast_add a b).symm
theorem wrapN (a : Nat) (ha : a < 18446744073709551616) : IntKind.u64.wrap (a : Int) = (a : Int) := by rw [IntKind.wrap_u64]; omega
theorem wrapM (a : Nat) : IntKind.u64.wrap (a : Int) = ((a % 18446744073709551616 : Nat) : Int) := by rw [IntKind.wrap_u64]; omega
end M64
set_option maxHeartbeats 1000000 in
/-- math/bits.Mul64: Go's own text is walked; the arithmetic is the library's. -/
theorem mul64 (x y : Nat) (hx : x < 18446744073709551616) (hy : y < 18446744073709551616) (w : World) : Calls Tryd.prog 90 #[.int .u64 x, .int .u64 y] w fun e w' => e = .returned (.tuple #[.int .u64 (hi2 ((x : Int) * y)), .int .u64 (lo2 ((x : Int) * y))]) ∧ w' = w := by
  have ez : (x : Int) * y = ((x * y : Nat) : Int) := (Int.natCast_mul x y).symm
  have eh := hi_nat (x * y) (mul_128 hx hy)
  have el := lo_nat (x * y)
  rw [ez, ← eh, ← el]
  clear ez eh el
  obtain ⟨bd, bt, bw, hhi⟩ := Lib.mul64_hi x y hx hy
  have ba := Lib.half_mul_le (a := x / 4294967296) (b := y / 4294967296) (by omega) (by omega)
  have bb := Lib.half_mul_le (a := x / 4294967296) (b := y % 4294967296) (by omega) (by omega)
  have bc := Lib.half_mul_le (a := x % 4294967296) (b := y / 4294967296) (by omega) (by omega)
  have ba' : x / 4294967296 * (y / 4294967296) < 18446744073709551616 := by omega
  have bb' : x / 4294967296 * (y % 4294967296) < 18446744073709551616 := by omega
  have bc' : x % 4294967296 * (y / 4294967296) < 18446744073709551616 := by omega
  have bh1 : x / 4294967296 * (y / 4294967296) + (x / 4294967296 * (y % 4294967296) + x % 4294967296 * (y % 4294967296) / 4294967296) / 4294967296 < 18446744073709551616 := by omega
  have bh : x / 4294967296 * (y / 4294967296) + (x / 4294967296 * (y % 4294967296) + x % 4294967296 * (y % 4294967296) / 4294967296) / 4294967296 + ((x / 4294967296 * (y % 4294967296) + x % 4294967296 * (y % 4294967296) / 4294967296) % 4294967296 + x % 4294967296 * (y / 4294967296)) / 4294967296 < 18446744073709551616 := by omega
  go_enter Tryd.func90, Tryd.ntmps90
  go_wp2
  simp only [M64.maskN x hx, M64.maskN y hy, M64.divN, M64.mulN, M64.addN, M64.wrapN _ bd, M64.wrapN _ bb', M64.wrapN _ bt, M64.maskN _ bt, M64.wrapN _ bc', M64.wrapN _ bw, M64.wrapN _ ba', M64.wrapN _ bh1, M64.wrapN _ bh, M64.wrapM (x * y)]
  rw [hhi]
  go_ret2
  exact ⟨rfl, rfl⟩
theorem multiply_any (x y : Nat) (hx : x < 18446744073709551616) (hy : y < 18446744073709551616) (w : World) : Calls Tryd.prog 69 #[.int .u64 x, .int .u64 y] w fun e w' => e = .returned (W2 ((x : Int) * y)) ∧ Below w.heap.size w w' := by
  have HM := hidb (fun w => mul64 x y hx hy w)
  generalize (x : Int) * y = z at *
  go_enter Tryd.func69, Tryd.ntmps69
  go_wp2_with fail
  refine (HM.out _).mono ?_
  rintro e w1 ⟨rfl, rfl⟩
  go_wp2
  exact bodyPost_ret (v := W2 z) (by simp [results, Tryd.results69, go_sem]) rfl ⟨rfl, (Below.refl _ _).alloc (Nat.le_refl _) _⟩
theorem negated_any (z : Int) (w : World) : Calls Tryd.prog 45 #[W2 z] w fun e w' => e = .returned (W2 (-z)) ∧ Below w.heap.size w w' := by
  have e1 := lo_neg z
  have e2 := hi_neg z
  have a1 := hi2_0 z
  have a2 := hi2_1 z
  have b1 := lo2_0 z
  have b2 := lo2_1 z
  have k0 := bor_0 0 (lo2 z)
  have k1 := bor_1 0 (lo2 z)
  unfold W2
  rw [← e1, ← e2]
  clear e1 e2
  generalize hi2 z = h at *
  generalize lo2 z = l at *
  go_enter Tryd.func45, Tryd.ntmps45
  go_wp2_with (first | simp only [sub64_0 l b1 b2] | simp only [sub64 0 h _ (Int.le_refl 0) a1 a2 k0 k1])
  exact bodyPost_ret (v := .agg #[.int .u64 ((0 - h - bor 0 l) % 18446744073709551616), .int .u64 ((0 - l) % 18446744073709551616)]) (by simp [results, Tryd.results45, go_sem]) rfl ⟨rfl, ((Below.refl _ _).alloc (Nat.le_refl _) _).alloc (by simp) _⟩
theorem plus_any (x y : Int) (w : World) : Calls Tryd.prog 44 #[W2 x, W2 y] w fun e w' => e = .returned (W2 (x + y)) ∧ Below w.heap.size w w' := by
  have e1 := lo_add x y
  have e2 := hi_add x y
  have a1 := hi2_0 x
  have a2 := hi2_0 y
  have b1 := lo2_0 x
  have b2 := lo2_0 y
  have b3 := lo2_1 x
  have b4 := lo2_1 y
  have k0 : 0 ≤ (lo2 x + lo2 y) / 18446744073709551616 := by omega
  have k1 : (lo2 x + lo2 y) / 18446744073709551616 ≤ 1 := by omega
  unfold W2
  rw [← e1, ← e2]
  clear e1 e2
  generalize hi2 x = h at *
  generalize lo2 x = l at *
  generalize hi2 y = h' at *
  generalize lo2 y = l' at *
  go_enter Tryd.func44, Tryd.ntmps44
  go_wp2_with (first | simp only [add64_0 l l' b1 b2] | simp only [add64 h h' _ a1 a2 k0 k1])
  exact bodyPost_ret (v := .agg #[.int .u64 ((h + h' + (l + l') / 18446744073709551616) % 18446744073709551616), .int .u64 ((l + l') % 18446744073709551616)]) (by simp [results, Tryd.results44, go_sem]) rfl ⟨rfl, (((Below.refl _ _).alloc (Nat.le_refl _) _).alloc (by simp) _).alloc (by simp; omega) _⟩
theorem sign_any (z : Int) (hz : Wid z) (w : World) : Calls Tryd.prog 46 #[W2 z] w fun e w' => e = .returned (.int .i64 (sg z)) ∧ Below w.heap.size w w' := by
  have s1 := sign_neg hz
  have s2 := sign_zero hz
  have a1 := hi2_0 z
  have a2 := hi2_1 z
  have b1 := lo2_0 z
  have b2 := lo2_1 z
  have HV : Hid (sg z = if z < 0 then -1 else if z = 0 then 0 else 1) := show _ = _ from rfl
  unfold W2
  generalize hi2 z = h at *
  generalize lo2 z = l at *
  go_enter Tryd.func46, Tryd.ntmps46
  by_cases c1 : h / 9223372036854775808 = 1
  · have HW : Hid (sg z = -1) := by rw [HV.out, if_pos (s1.1 c1)]; rfl
    clear s1 s2 HV
    go_wp2
    go_ret
    exact ⟨by rw [HW.out]; rfl, (Below.refl _ _).alloc (Nat.le_refl _) _⟩
  have n1 : ¬ z < 0 := fun h => c1 (s1.2 h)
  by_cases c2 : h = 0
  · by_cases c3 : l = 0
    · have HW : Hid (sg z = 0) := by rw [HV.out, if_neg n1, if_pos (s2.1 ⟨c2, c3⟩)]; rfl
      clear s1 s2 HV
      subst c2 c3
      go_wp2
      go_ret
      exact ⟨by rw [HW.out]; rfl, (Below.refl _ _).alloc (Nat.le_refl _) _⟩
    · have HW : Hid (sg z = 1) := by rw [HV.out, if_neg n1, if_neg (fun k => c3 (s2.2 k).2)]; rfl
      clear s1 s2 HV
      subst c2
      go_wp2
      go_ret
      exact ⟨by rw [HW.out]; rfl, (Below.refl _ _).alloc (Nat.le_refl _) _⟩
  · have HW : Hid (sg z = 1) := by rw [HV.out, if_neg n1, if_neg (fun k => c2 (s2.2 k).1)]; rfl
    clear s1 s2 HV
    go_wp2
    go_ret
    exact ⟨by rw [HW.out]; rfl, (Below.refl _ _).alloc (Nat.le_refl _) _⟩
theorem product_any (n : Int) (y : Nat) (h1 : -9223372036854775808 ≤ n) (h2 : n ≤ 9223372036854775807) (hy : y < 18446744073709551616) (w : World) : Calls Tryd.prog 43 #[.int .i64 n, .int .u64 y] w fun e w' => e = .returned (W2 (n * y)) ∧ Below w.heap.size w w' := by
  have HS := hidb (fun w => size_any n h1 h2 w)
  have HM := hidb (fun w => multiply_any n.natAbs y (by omega) hy w)
  by_cases c : n < 0
  · have HN := hidb (fun w => negated_any ((n.natAbs : Int) * y) w)
    have e : -((n.natAbs : Int) * y) = n * y := by
      rw [← Int.neg_mul]; congr 1; omega
    rw [← e]
    clear e
    generalize n.natAbs = k at *
    generalize (k : Int) * y = z at *
    go_enter Tryd.func43, Tryd.ntmps43
    go_wp2_with fail
    refine (HS.out _).mono ?_
    rintro e w1 ⟨rfl, hB⟩
    have HC := Gr.step ((Gr.refl w).alloc (.cells #[.int .u64 0, .int .u64 0] 70)) hB
    have PA := At.below hB (At.new2 w (.int .u64 0) (.int .u64 0) 70)
    clear hB
    go_wp2_with fail
    refine (HM.out _).mono ?_
    rintro e w2 ⟨rfl, hB⟩
    replace HC := Gr.step HC hB
    replace PA := At.below hB PA
    clear hB HS HM
    go_wp2_with fail
    refine (HN.out _).mono ?_
    rintro e w3 ⟨rfl, hB⟩
    replace HC := Gr.step (HC.alloc _) hB
    replace PA := At.below hB (PA.alloc _)
    clear hB HN
    have lt := PA.lt
    obtain ⟨p0, p1⟩ := PA.c2
    obtain ⟨f0, f1⟩ := PA.f2
    go_wp2
    exact bodyPost_ret (v := W2 (-z)) (by simp [results, Tryd.results43, go_sem, p0, p1]) rfl ⟨rfl, (HC.set (Nat.le_refl _) _ _).set (Nat.le_refl _) _ _⟩
  · have e : ((n.natAbs : Int) * y) = n * y := by congr 1; omega
    rw [← e]
    clear e
    generalize n.natAbs = k at *
    generalize (k : Int) * y = z at *
    go_enter Tryd.func43, Tryd.ntmps43
    go_wp2_with fail
    refine (HS.out _).mono ?_
    rintro e w1 ⟨rfl, hB⟩
    have HC := Gr.step ((Gr.refl w).alloc (.cells #[.int .u64 0, .int .u64 0] 70)) hB
    have PA := At.below hB (At.new2 w (.int .u64 0) (.int .u64 0) 70)
    clear hB
    go_wp2_with fail
    refine (HM.out _).mono ?_
    rintro e w2 ⟨rfl, hB⟩
    replace HC := Gr.step HC hB
    replace PA := At.below hB PA
    clear hB HS HM
    have lt := PA.lt
    obtain ⟨p0, p1⟩ := PA.c2
    obtain ⟨f0, f1⟩ := PA.f2
    go_wp2
    obtain ⟨r0, r1⟩ := ((At.fill2 (PA.has rfl) (.int .u64 (hi2 z)) (.int .u64 (lo2 z))).alloc (.cells #[.int .u64 (hi2 z), .int .u64 (lo2 z)] 70)).c2
    exact bodyPost_ret (v := W2 z) (by simp [results, Tryd.results43, go_sem, r0, r1]) rfl ⟨rfl, ((HC.set (Nat.le_refl _) _ _).set (Nat.le_refl _) _ _).alloc _⟩
end Go.Proofs.YtgjjgicojedefaaDoor
