/-
  grain.size, grain.divisor; mercatorref1.IsRight.; grain's whole numbers of 128 bits: multiply, negated, plus, sign, product.; mercatorref1.IsRight, grain.right, grain.split.; grain.right, grain.split, grain.Floor, grain.Near.; grain.Floor, grain.Near.
-/
import Derived.Test.YtddnebgnohlchaaGreatDoorQJ20
import Derived.Deep.QuietTactic
import Derived.BigQuiet
import Derived.Test.YtddnebgnohlchaaGreatDoorQJ19
import Derived.Lib.Mul64
import Derived.Laws.Bits64b
import Derived.Shelf.Spec.BitsCarry
import Derived.Test.YtddnebgnohlchaaGreatDoorQCode
namespace Go.Proofs.YtddnebgnohlchaaGreatDoor
open Go.RowKit BG

theorem neg_size (n : Int) (c : n < 0) (h : -9223372036854775808 ≤ n) : IntKind.u64.wrap (-IntKind.u64.wrap n) = -n := by
  rw [IntKind.wrap_u64, IntKind.wrap_u64]; omega
theorem size_any (n : Int) (h1 : -9223372036854775808 ≤ n) (h2 : n ≤ 9223372036854775807) (w : World) : Calls Tryz.prog 76 #[.int .i64 n] w fun e w' => e = .returned (.int .u64 (n.natAbs : Int)) ∧ Below w.heap.size w w' := by
  by_cases c : n < 0
  · have e : ((n.natAbs : Nat) : Int) = -n := by omega
    rw [e]
    go_enter Tryz.func76, Tryz.ntmps76
    go_wp2
    go_ret
    exact ⟨congrArg (fun z => Ending.returned (.int .u64 z)) (neg_size n c h1), Below.refl _ _⟩
  · have e : ((n.natAbs : Nat) : Int) = n := by omega
    rw [e]
    go_enter Tryz.func76, Tryz.ntmps76
    go_wp2
    go_ret
    exact ⟨rfl, Below.refl _ _⟩
theorem gcd_step' (m g : Nat) : Nat.gcd g (m % g) = Nat.gcd m g := by rw [Nat.gcd_comm g, ← Nat.gcd_rec, Nat.gcd_comm]
set_option maxHeartbeats 1000000 in
theorem divisor_any (a b : Nat) (ha : a < 18446744073709551616) (hb : b < 18446744073709551616) (w : World) : Calls Tryz.prog 77 #[.int .u64 (a : Int), .int .u64 (b : Int)] w fun e w' => e = .returned (.int .u64 (Nat.gcd a b : Int)) ∧ Below w.heap.size w w' := by
  have LA := hidb ha
  have LB := hidb hb
  clear ha hb
  go_enter Tryz.func77, Tryz.ntmps77
  go_wp2
  go_loopg [0, 1] b (fun g s t wr => ∃ (m : Nat), s = .int .u64 (m : Int) ∧ t = .int .u64 (g : Int) ∧ m < 18446744073709551616 ∧ g < 18446744073709551616 ∧ Hid (Nat.gcd m g = Nat.gcd a b) ∧ Below w.heap.size w wr)
  case atStart => exact ⟨a, rfl, rfl, LA.out, LB.out, rfl, Below.refl _ _⟩
  case round =>
    obtain ⟨m, rfl, rfl, lm, lg, HG, hB⟩ := hrel
    rcases Nat.eq_zero_or_pos gk with h0 | h0
    · have HE : Hid (m = Nat.gcd a b) := by have := HG.out; rw [h0, Nat.gcd_zero_right] at this; exact this
      subst h0
      go_wp2
      go_ret
      exact ⟨by rw [← HE.out]; rfl, hB⟩
    · have h0' : ¬ (gk : Int) = 0 := by omega
      have HM : Hid (m % gk < gk) := Nat.mod_lt _ h0
      have e1 : (m : Int).tmod (gk : Int) = ((m % gk : Nat) : Int) := rfl
      have b1 : m % gk < 18446744073709551616 := Nat.lt_trans HM.out lg
      go_upto_region 2 with fail
      go_quiet (fail)
      go_wp2
      generalize hw2 : World.drewN _ _ = w2
      have HB := hidb (show Below w.heap.size w w2 by rw [← hw2]; exact below_drewN hB _)
      clear hw2
      go_roundg (m % gk)
      case measure => exact HM.out
      case rel => exact ⟨gk, rfl, rfl, lg, b1, by show _ = _; rw [gcd_step']; exact HG.out, HB.out⟩
end Go.Proofs.YtddnebgnohlchaaGreatDoor
namespace Go.Proofs.YtddnebgnohlchaaGreatDoor
open Go.RowKit BG

abbrev W2 (z : Int) : Value := .agg #[.int .u64 (hi2 z), .int .u64 (lo2 z)]
namespace M64
theorem maskN (a : Nat) (ha : a < 18446744073709551616) : bits .and .u64 (a : Int) 4294967295 = ((a % 4294967296 : Nat) : Int) := by
  have h := bits_and_u64_nat a 4294967295 ha (by omega)
  have e : a &&& 4294967295 = a % 4294967296 := Nat.and_two_pow_sub_one_eq_mod a 32
  rw [e] at h
  exact h
theorem divN (a : Nat) : (a : Int) / 4294967296 = ((a / 4294967296 : Nat) : Int) := by omega
theorem mulN (a b : Nat) : (a : Int) * (b : Int) = ((a * b : Nat) : Int) := (Int.natCast_mul a b).symm
theorem addN (a b : Nat) : (a : Int) + (b : Int) = ((a + b : Nat) : Int) := (Int.natCast_add a b).symm
theorem wrapN (a : Nat) (ha : a < 18446744073709551616) : IntKind.u64.wrap (a : Int) = (a : Int) := by rw [IntKind.wrap_u64]; omega
theorem wrapM (a : Nat) : IntKind.u64.wrap (a : Int) = ((a % 18446744073709551616 : Nat) : Int) := by rw [IntKind.wrap_u64]; omega
end M64
set_option maxHeartbeats 1000000 in
/-- math/bits.Mul64: Go's own text is walked; the arithmetic is the library's. -/
theorem mul64 (x y : Nat) (hx : x < 18446744073709551616) (hy : y < 18446744073709551616) (w : World) : Calls Tryz.prog 109 #[.int .u64 x, .int .u64 y] w fun e w' => e = .returned (.tuple #[.int .u64 (hi2 ((x : Int) * y)), .int .u64 (lo2 ((x : Int) * y))]) ∧ w' = w := by
  have ez : (x : Int) * y = ((x * y : Nat) : Int) := (Int.natCast_mul x y).symm
  have eh := hi_nat (x * y) (mul_128 hx hy)
  have el := lo_nat (x * y)
  rw [ez, ← eh, ← el]
  clear ez eh el
  obtain ⟨bd, bt, bw, hhi⟩ := Lib.mul64_hi x y hx hy
  have ba := Lib.half_mul_le (a := x / 4294967296) (b := y / 4294967296) (by omega) (by omega)
  have bb := Lib.half_mul_le (a := x / 4294967296) (b := y % 4294967296) (by omega) (by omega)
  have bc := Lib.half_mul_le (a := x % 4294967296) (b := y / 4294967296) (by omega) (by omega)
  have ba' : x / 4294967296 * (y / 4294967296) < 18446744073709551616 := by omega
  have bb' : x / 4294967296 * (y % 4294967296) < 18446744073709551616 := by omega
  have bc' : x % 4294967296 * (y / 4294967296) < 18446744073709551616 := by omega
  have bh1 : x / 4294967296 * (y / 4294967296) + (x / 4294967296 * (y % 4294967296) + x % 4294967296 * (y % 4294967296) / 4294967296) / 4294967296 < 18446744073709551616 := by omega
  have bh : x / 4294967296 * (y / 4294967296) + (x / 4294967296 * (y % 4294967296) + x % 4294967296 * (y % 4294967296) / 4294967296) / 4294967296 + ((x / 4294967296 * (y % 4294967296) + x % 4294967296 * (y % 4294967296) / 4294967296) % 4294967296 + x % 4294967296 * (y / 4294967296)) / 4294967296 < 18446744073709551616 := by omega
  go_enter Tryz.func109, Tryz.ntmps109
  go_wp2
  simp only [M64.maskN x hx, M64.maskN y hy, M64.divN, M64.mulN, M64.addN, M64.wrapN _ bd, M64.wrapN _ bb', M64.wrapN _ bt, M64.maskN _ bt, M64.wrapN _ bc', M64.wrapN _ bw, M64.wrapN _ ba', M64.wrapN _ bh1, M64.wrapN _ bh, M64.wrapM (x * y)]
  rw [hhi]
  go_ret2
  exact ⟨rfl, rfl⟩
end Go.Proofs.YtddnebgnohlchaaGreatDoor
namespace Go.Proofs.YtddnebgnohlchaaGreatDoor
open Go.RowKit BG
attribute [local go_sem ↓] Go.wp_at_zero Go.wp_at_succ

/-- The fraction is right. -/
def Rgt (n d : Int) : Prop := (1 ≤ d ∧ d ≤ 4611686018427387904 ∧ n ≤ 4611686018427387904 ∧ -4611686018427387904 ≤ n) ∧ Nat.gcd n.natAbs d.natAbs = 1
instance (n d : Int) : Decidable (Rgt n d) := by unfold Rgt; infer_instance
theorem Rgt.sml {n d : Int} (h : Rgt n d) : Sml n := by unfold Sml; have := h.1; omega
theorem Rgt.smd {n d : Int} (h : Rgt n d) : Sml d := by unfold Sml; have := h.1; omega
theorem one_or (y : Int) : (decide (y = 1) || decide (y = -1)) = decide (y.natAbs = 1) := by
  by_cases h : y = 1
  · subst h; rfl
  · by_cases k : y = -1
    · subst k; rfl
    · rw [decide_eq_false h, decide_eq_false k, decide_eq_false (by omega)]; rfl
set_option maxRecDepth 4000 in
set_option maxHeartbeats 2000000 in
theorem isRight_any (n d : Int) (w : World) : Calls Tryz.prog 38 #[.agg #[.int .i64 n, .int .i64 d]] w fun e w' => e = .returned (.bool (decide (Rgt n d))) ∧ Below w.heap.size w w' := by
  have HC := (Gr.refl w).alloc (.cells #[.int .i64 n, .int .i64 d] 50)
  by_cases c : 1 ≤ d ∧ d ≤ 4611686018427387904 ∧ n ≤ 4611686018427387904 ∧ -4611686018427387904 ≤ n
  · obtain ⟨c1, c2, c3, c4⟩ := id c
    have HD := hidb (show Rgt n d ↔ Nat.gcd n.natAbs d.natAbs = 1 from ⟨fun h => h.2, fun h => ⟨c, h⟩⟩)
    clear c
    go_enter Tryz.func38, Tryz.ntmps38
    go_wp2
    go_loopg [3, 4] n.natAbs (fun g s t wr => ∃ (x y : Int), s = .int .i64 x ∧ t = .int .i64 y ∧ Hid (x.natAbs = g) ∧ Sml x ∧ Sml y ∧ Hid (Nat.gcd x.natAbs y.natAbs = Nat.gcd n.natAbs d.natAbs) ∧ Below w.heap.size w wr)
    case atStart => exact ⟨n, d, rfl, rfl, rfl, by unfold Sml; omega, by unfold Sml; omega, rfl, HC⟩
    case round =>
      obtain ⟨x, y, rfl, rfl, HX, lx, ly, HG, hB⟩ := hrel
      clear HC
      by_cases h0 : x = 0
      · subst h0
        have HE : Hid (decide (Rgt n d) = (decide (y = 1) || decide (y = -1))) := by
          show _ = _
          rw [one_or, decide_eq_decide]
          have h := HG.out
          rw [Int.natAbs_zero, Nat.gcd_zero_left] at h
          rw [h]; exact HD.out
        by_cases hy : y = 1
        · subst hy
          go_wp2
          go_ret
          exact ⟨by rw [HE.out]; rfl, hB⟩
        · have hy' : (y == 1) = false := by simp [hy]
          have HF : Hid (decide (Rgt n d) = (y == -1)) := by
            show _ = _
            rw [HE.out, decide_eq_false hy, Bool.false_or]
            by_cases k : y = -1 <;> simp [k]
          go_wp2
          go_ret
          exact ⟨by rw [HF.out]; simp, hB⟩
      · have HM : Hid ((y.tmod x).natAbs = y.natAbs % x.natAbs) := Int.natAbs_tmod _ _
        have HL : Hid ((y.tmod x).natAbs < x.natAbs) := by show _ < _; rw [HM.out]; exact Nat.mod_lt _ (by omega)
        unfold Sml at lx ly
        have b1 : (y.tmod x).natAbs ≤ 4611686018427387904 := Nat.le_trans (Nat.le_of_lt HL.out) lx
        go_wp2
        go_roundg (y.tmod x).natAbs
        case measure => rw [← HX.out]; exact HL.out
        case rel => exact ⟨_, _, rfl, rfl, rfl, b1, lx, by show _ = _; rw [HM.out, Nat.gcd_comm, gcd_step', Nat.gcd_comm]; exact HG.out, hB⟩
  · have HE : Hid (decide (Rgt n d) = false) := decide_eq_false (fun h => c h.1)
    go_enter Tryz.func38, Tryz.ntmps38
    by_cases c1 : d < 1
    · go_wp2
      go_ret
      exact ⟨by rw [HE.out]; rfl, HC⟩
    by_cases c2 : 4611686018427387904 < d
    · go_wp2
      go_ret
      exact ⟨by rw [HE.out]; rfl, HC⟩
    by_cases c3 : 4611686018427387904 < n
    · go_wp2
      go_ret
      exact ⟨by rw [HE.out]; rfl, HC⟩
    have c4 : n < -4611686018427387904 := by omega
    go_wp2
    go_ret
    exact ⟨by rw [HE.out]; rfl, HC⟩
end Go.Proofs.YtddnebgnohlchaaGreatDoor
namespace Go.Proofs.YtddnebgnohlchaaGreatDoor
open Go.RowKit BG
attribute [local go_sem ↓] Go.wp_at_zero Go.wp_at_succ

end Go.Proofs.YtddnebgnohlchaaGreatDoor
namespace Go.Proofs.YtddnebgnohlchaaGreatDoor
open Go.RowKit BG

end Go.Proofs.YtddnebgnohlchaaGreatDoor
