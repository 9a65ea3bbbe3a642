/-
  grain.size, grain.divisor; mercatorref1.IsRight.; grain's whole numbers of 128 bits: multiply, negated, plus, sign, product.; mercatorref1.IsRight, grain.right, grain.split.; grain.right, grain.split, grain.Floor, grain.Near.; grain.Floor, grain.Near.
-/
import Derived.Test.YtpdiefmmenfpaaaDoorQJ4
import Derived.Deep.QuietTactic
import Derived.BigQuiet
import Derived.Test.YtpdiefmmenfpaaaDoorQJ3
import Derived.Lib.Mul64
import Derived.Laws.Bits64b
import Derived.Shelf.Spec.BitsCarry
import Derived.Test.YtpdiefmmenfpaaaDoorQCode
namespace Go.Proofs.YtpdiefmmenfpaaaDoor
open Go.RowKit BG

theorem neg_size (n : Int) (c : n < 0) (h : -9223372036854775808 ≤ n) : IntKind.u64.wrap (-IntKind.u64.wrap n) = -n := by
  rw [IntKind.wrap_u64, IntKind.wrap_u64]; omega
theorem size_any (n : Int) (h1 : -9223372036854775808 ≤ n) (h2 : n ≤ 9223372036854775807) (w : World) : Calls Tryd.prog 63 #[.int .i64 n] w fun e w' => e = .returned (.int .u64 (n.natAbs : Int)) ∧ Below w.heap.size w w' := by
  by_cases c : n < 0
  · have e : ((n.natAbs : Nat) : Int) = -n := by omega
    rw [e]
    go_enter Tryd.func63, Tryd.ntmps63
    go_wp2
    go_ret
    exact ⟨congrArg (fun z => Ending.returned (.int .u64 z)) (neg_size n c h1), Below.refl _ _⟩
  · have e : ((n.natAbs : Nat) : Int) = n := by omega
    rw [e]
    go_enter Tryd.func63, Tryd.ntmps63
    go_wp2
    go_ret
    exact ⟨rfl, Below.refl _ _⟩
theorem gcd_step' (m g : Nat) : Nat.gcd g (m % g) = Nat.gcd m g := by rw [Nat.gcd_comm g, ← Nat.gcd_rec, Nat.gcd_comm]
set_option maxHeartbeats 1000000 in
theorem divisor_any (a b : Nat) (ha : a < 18446744073709551616) (hb : b < 18446744073709551616) (w : World) : Calls Tryd.prog 64 #[.int .u64 (a : Int), .int .u64 (b : Int)] w fun e w' => e = .returned (.int .u64 (Nat.gcd a b : Int)) ∧ Below w.heap.size w w' := by
  have LA := hidb ha
  have LB := hidb hb
  clear ha hb
  go_enter Tryd.func64, Tryd.ntmps64
  go_wp2
  go_loopg [0, 1] b (fun g s t wr => ∃ (m : Nat), s = .int .u64 (m : Int) ∧ t = .int .u64 (g : Int) ∧ m < 18446744073709551616 ∧ g < 18446744073709551616 ∧ Hid (Nat.gcd m g = Nat.gcd a b) ∧ Below w.heap.size w wr)
  case atStart => exact ⟨a, rfl, rfl, LA.out, LB.out, rfl, Below.refl _ _⟩
  case round =>
    obtain ⟨m, rfl, rfl, lm, lg, HG, hB⟩ := hrel
    rcases Nat.eq_zero_or_pos gk with h0 | h0
    · have HE : Hid (m = Nat.gcd a b) := by have := HG.out; rw [h0, Nat.gcd_zero_right] at this; exact this
      subst h0
      go_wp2
      go_ret
      exact ⟨by rw [← HE.out]; rfl, hB⟩
    · have h0' : ¬ (gk : Int) = 0 := by omega
      have HM : Hid (m % gk < gk) := Nat.mod_lt _ h0
      have e1 : (m : Int).tmod (gk : Int) = ((m % gk : Nat) : Int) := rfl
      have b1 : m % gk < 18446744073709551616 := Nat.lt_trans HM.out lg
      go_upto_region 2 with fail
      go_quiet (fail)
      go_wp2
      generalize hw2 : World.drewN _ _ = w2
      have HB := hidb (show Below w.heap.size w w2 by rw [← hw2]; exact below_drewN hB _)
      clear hw2
      go_roundg (m % gk)
      case measure => exact HM.out
      case rel => exact ⟨gk, rfl, rfl, lg, b1, by show _ = _; rw [gcd_step']; exact HG.out, HB.out⟩
end Go.Proofs.YtpdiefmmenfpaaaDoor
namespace Go.Proofs.YtpdiefmmenfpaaaDoor
open Go.RowKit BG

abbrev W2 (z : Int) : Value := .agg #[.int .u64 (hi2 z), .int .u64 (lo2 z)]
namespace M64
theorem maskN (a : Nat) (ha : a < 18446744073709551616) : bits .and .u64 (a : Int) 4294967295 = ((a % 4294967296 : Nat) : Int) := by
  have h := bits_and_u64_nat a 4294967295 ha (by omega)
  have e : a &&& 4294967295 = a % 4294967296 := Nat.and_two_pow_sub_one_eq_mod a 32
  rw [e] at h
  exact h
theorem divN (a : Nat) : (a : Int) / 4294967296 = ((a / 4294967296 : Nat) : Int) := by omega
theorem mulN (a b : Nat) : (a : Int) * (b : Int) = ((a * b : Nat) : Int) := (Int.natCast_mul a b).symm
theorem addN (a b : Nat) : (a : Int) + (b : Int) = ((a + b : Nat) : Int) := (Int.natCast_add a b).symm
theorem wrapN (a : Nat) (ha : a < 18446744073709551616) : IntKind.u64.wrap (a : Int) = (a : Int) := by rw [IntKind.wrap_u64]; omega
theorem wrapM (a : Nat) : IntKind.u64.wrap (a : Int) = ((a % 18446744073709551616 : Nat) : Int) := by rw [IntKind.wrap_u64]; omega
end M64
end Go.Proofs.YtpdiefmmenfpaaaDoor
namespace Go.Proofs.YtpdiefmmenfpaaaDoor
open Go.RowKit BG
attribute [local go_sem ↓] Go.wp_at_zero Go.wp_at_succ

/-- The fraction is right. -/
def Rgt (n d : Int) : Prop := (1 ≤ d ∧ d ≤ 4611686018427387904 ∧ n ≤ 4611686018427387904 ∧ -4611686018427387904 ≤ n) ∧ Nat.gcd n.natAbs d.natAbs = 1
instance (n d : Int) : Decidable (Rgt n d) := by unfold Rgt; infer_instance
theorem Rgt.sml {n d : Int} (h : Rgt n d) : Sml n := by unfold Sml; have := h.1; omega
theorem Rgt.smd {n d : Int} (h : Rgt n d) : Sml d := by unfold Sml; have := h.1; omega
theorem one_or (y : Int) : (decide (y = 1) || decide (y = -1)) = decide (y.natAbs = 1) := by
  by_cases h : y = 1
  · subst h; rfl
  · by_cases k : y = -1
    · subst k; rfl
    · rw [decide_eq_false h, decide_eq_false k, decide_eq_false (by omega)]; rfl
set_option maxRecDepth 4000 in
set_option maxHeartbeats 2000000 in
theorem isRight_any (n d : Int) (w : World) : Calls Tryd.prog 28 #[.agg #[.int .i64 n, .int .i64 d]] w fun e w' => e = .returned (.bool (decide (Rgt n d))) ∧ Below w.heap.size w w' := by
  have HC := (Gr.refl w).alloc (.cells #[.int .i64 n, .int .i64 d] 28)
  by_cases c : 1 ≤ d ∧ d ≤ 4611686018427387904 ∧ n ≤ 4611686018427387904 ∧ -4611686018427387904 ≤ n
  · obtain ⟨c1, c2, c3, c4⟩ := id c
    have HD := hidb (show Rgt n d ↔ Nat.gcd n.natAbs d.natAbs = 1 from ⟨fun h => h.2, fun h => ⟨c, h⟩⟩)
    clear c
    go_enter Tryd.func28, Tryd.ntmps28
    go_wp2
    go_loopg [3, 4] n.natAbs (fun g s t wr => ∃ (x y : Int), s = .int .i64 x ∧ t = .int .i64 y ∧ Hid (x.natAbs = g) ∧ Sml x ∧ Sml y ∧ Hid (Nat.gcd x.natAbs y.natAbs = Nat.gcd n.natAbs d.natAbs) ∧ Below w.heap.size w wr)
    case atStart => exact ⟨n, d, rfl, rfl, rfl, by unfold Sml; omega, by unfold Sml; omega, rfl, HC⟩
    case round =>
      obtain ⟨x, y, rfl, rfl, HX, lx, ly, HG, hB⟩ := hrel
      clear HC
      by_cases h0 : x = 0
      · subst h0
        have HE : Hid (decide (Rgt n d) = (decide (y = 1) || decide (y = -1))) := by
          show _ = _
          rw [one_or, decide_eq_decide]
          have h := HG.out
          rw [Int.natAbs_zero, Nat.gcd_zero_left] at h
          rw [h]; exact HD.out
        by_cases hy : y = 1
        · subst hy
          go_wp2
          go_ret
          exact ⟨by rw [HE.out]; rfl, hB⟩
        · have hy' : (y == 1) = false := by simp [hy]
          have HF : Hid (decide (Rgt n d) = (y == -1)) := by
            show _ = _
            rw [HE.out, decide_eq_false hy, Bool.false_or]
            by_cases k : y = -1 <;> simp [k]
          go_wp2
          go_ret
          exact ⟨by rw [HF.out]; simp, hB⟩
      · have HM : Hid ((y.tmod x).natAbs = y.natAbs % x.natAbs) := Int.natAbs_tmod _ _
        have HL : Hid ((y.tmod x).natAbs < x.natAbs) := by show _ < _; rw [HM.out]; exact Nat.mod_lt _ (by omega)
        unfold Sml at lx ly
        have b1 : (y.tmod x).natAbs ≤ 4611686018427387904 := Nat.le_trans (Nat.le_of_lt HL.out) lx
        go_wp2
        go_roundg (y.tmod x).natAbs
        case measure => rw [← HX.out]; exact HL.out
        case rel => exact ⟨_, _, rfl, rfl, rfl, b1, lx, by show _ = _; rw [HM.out, Nat.gcd_comm, gcd_step', Nat.gcd_comm]; exact HG.out, hB⟩
  · have HE : Hid (decide (Rgt n d) = false) := decide_eq_false (fun h => c h.1)
    go_enter Tryd.func28, Tryd.ntmps28
    by_cases c1 : d < 1
    · go_wp2
      go_ret
      exact ⟨by rw [HE.out]; rfl, HC⟩
    by_cases c2 : 4611686018427387904 < d
    · go_wp2
      go_ret
      exact ⟨by rw [HE.out]; rfl, HC⟩
    by_cases c3 : 4611686018427387904 < n
    · go_wp2
      go_ret
      exact ⟨by rw [HE.out]; rfl, HC⟩
    have c4 : n < -4611686018427387904 := by omega
    go_wp2
    go_ret
    exact ⟨by rw [HE.out]; rfl, HC⟩
end Go.Proofs.YtpdiefmmenfpaaaDoor
namespace Go.Proofs.YtpdiefmmenfpaaaDoor
open Go.RowKit BG
attribute [local go_sem ↓] Go.wp_at_zero Go.wp_at_succ

end Go.Proofs.YtpdiefmmenfpaaaDoor
namespace Go.Proofs.YtpdiefmmenfpaaaDoor
open Go.RowKit BG

end Go.Proofs.YtpdiefmmenfpaaaDoor
