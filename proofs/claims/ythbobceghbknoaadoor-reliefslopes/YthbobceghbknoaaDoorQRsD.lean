/-
  relief.dot, product, squared, double.below; shining.
-/
import Derived.Test.YthbobceghbknoaaDoorQRlD
import Derived.ChangeKeysEq
namespace Go.Proofs.YthbobceghbknoaaDoor
open Go.RowKit

abbrev v3V (a b c : Int) : Value := .agg #[.int .i64 a, .int .i64 b, .int .i64 c]
def dotI (a b c x y z : Int) : Int := a * x + b * y + c * z
/-- Numbers that a product may have: each factor up to its bound. -/
theorem mul_bnd {x y p q : Int} (hx : -p ≤ x ∧ x ≤ p) (hy : -q ≤ y ∧ y ≤ q) (hp : 0 ≤ p) : -(p * q) ≤ x * y ∧ x * y ≤ p * q := by
  have h := Int.natAbs_mul x y
  have h1 : (x * y).natAbs ≤ (p * q).natAbs := by
    rw [h, Int.natAbs_mul]
    exact Nat.mul_le_mul (by omega) (by omega)
  have h2 : 0 ≤ p * q := Int.mul_nonneg hp (by omega)
  omega
set_option maxRecDepth 4000 in
set_option maxHeartbeats 4000000 in
theorem dot_any (a b c x y z : Int) (h1 : -8388608 ≤ a ∧ a ≤ 8388608) (h2 : -8388608 ≤ b ∧ b ≤ 8388608) (h3 : -8388608 ≤ c ∧ c ≤ 8388608) (k1 : -8388608 ≤ x ∧ x ≤ 8388608) (k2 : -8388608 ≤ y ∧ y ≤ 8388608) (k3 : -8388608 ≤ z ∧ z ≤ 8388608) (w : World) : Calls Tryd.prog 39 #[v3V a b c, v3V x y z] w fun e w' => e = .returned (.int .i64 (dotI a b c x y z)) ∧ Gr w w' := by
  have p1 := mul_bnd h1 k1 (by decide)
  have p2 := mul_bnd h2 k2 (by decide)
  have p3 := mul_bnd h3 k3 (by decide)
  rw [show (8388608 : Int) * 8388608 = 70368744177664 by decide] at p1 p2 p3
  unfold dotI
  obtain ⟨s1, hs1, e1⟩ : ∃ q : Int, q = a * x ∧ IntKind.i64.wrap (a * x) = q := ⟨_, rfl, wrap_in (by omega) (by omega)⟩
  obtain ⟨s2, hs2, e2⟩ : ∃ q : Int, q = b * y ∧ IntKind.i64.wrap (b * y) = q := ⟨_, rfl, wrap_in (by omega) (by omega)⟩
  obtain ⟨s3, hs3, e3⟩ : ∃ q : Int, q = c * z ∧ IntKind.i64.wrap (c * z) = q := ⟨_, rfl, wrap_in (by omega) (by omega)⟩
  rw [← hs1] at p1
  rw [← hs2] at p2
  rw [← hs3] at p3
  rw [← hs1, ← hs2, ← hs3]
  obtain ⟨s4, hs4, e4⟩ : ∃ q : Int, q = s1 + s2 ∧ IntKind.i64.wrap (s1 + s2) = q := ⟨_, rfl, wrap_in (by omega) (by omega)⟩
  rw [← hs4]
  have e5 : IntKind.i64.wrap (s4 + s3) = s4 + s3 := wrap_in (by omega) (by omega)
  have G0 := hidb (((Gr.refl w).alloc (.cells #[.int .i64 a, .int .i64 b, .int .i64 c] 34)).alloc (.cells #[.int .i64 x, .int .i64 y, .int .i64 z] 34))
  clear h1 h2 h3 k1 k2 k3 p1 p2 p3 hs1 hs2 hs3 hs4
  go_enter Tryd.func39, Tryd.ntmps39
  go_wp2
  go_ret
  exact ⟨rfl, G0.out⟩
set_option maxRecDepth 4000 in
set_option maxHeartbeats 4000000 in
theorem product_any (a b : Nat) (ha : a < 9223372036854775808) (hb : b < 9223372036854775808) (w : World) : Calls Tryd.prog 44 #[.int .i64 (a : Int), .int .i64 (b : Int)] w fun e w' => e = .returned (W2 ((a : Int) * b)) ∧ Gr w w' := by
  have C := hidb (fun W => mul64 a b (by omega) (by omega) W)
  have G0 := hidb ((Gr.refl w).alloc (.cells #[.int .u64 0, .int .u64 0] 77))
  have A0 := hidb (At.new2 w (.int .u64 0) (.int .u64 0) 77)
  have e1 : IntKind.u64.wrap (a : Int) = (a : Int) := by rw [IntKind.wrap_u64]; omega
  have e2 : IntKind.u64.wrap (b : Int) = (b : Int) := by rw [IntKind.wrap_u64]; omega
  unfold W2
  generalize hi2 ((a : Int) * b) = h at *
  generalize lo2 ((a : Int) * b) = l at *
  clear ha hb
  generalize (a : Int) = ai at *
  generalize (b : Int) = bi at *
  go_enter Tryd.func44, Tryd.ntmps44
  go_wp2_with fail
  refine (C.out _).mono ?_
  rintro e w1 ⟨rfl, rfl⟩
  obtain ⟨a0, a1⟩ := A0.out.c2
  obtain ⟨f0, f1⟩ := A0.out.f2
  go_wp2
  refine bodyPost_ret (v := .agg #[.int .u64 h, .int .u64 l]) (by simp [results, Tryd.results44, go_sem]) rfl ⟨rfl, ?_⟩
  first | exact (Gr.refl w).alloc _ | exact (G0.out.set (Nat.le_refl _) _ _).set (Nat.le_refl _) _ _
set_option maxRecDepth 4000 in
set_option maxHeartbeats 4000000 in
theorem squared_any (a : Nat) (ha : a < 9223372036854775808) (w : World) : Calls Tryd.prog 40 #[.int .i64 (a : Int)] w fun e w' => e = .returned (W2 ((a : Int) * a)) ∧ Gr w w' := by
  have G0 := hidb ((Gr.refl w).alloc (.cells #[.int .u64 0, .int .u64 0] 77))
  have A0 := hidb (At.new2 w (.int .u64 0) (.int .u64 0) 77)
  have C := hidb (fun W => product_any a a ha ha W)
  unfold W2 at C ⊢
  generalize hi2 ((a : Int) * a) = h at *
  generalize lo2 ((a : Int) * a) = l at *
  clear ha
  go_enter Tryd.func40, Tryd.ntmps40
  go_wp2_with fail
  refine (C.out _).mono ?_
  rintro e w1 ⟨rfl, hB⟩
  replace G0 := hidb (Gr.step G0.out hB.out)
  replace A0 := At.below hB.out A0.out
  clear hB
  obtain ⟨a0, a1⟩ := A0.c2
  obtain ⟨f0, f1⟩ := A0.f2
  go_wp2
  refine bodyPost_ret (v := .agg #[.int .u64 h, .int .u64 l]) (by simp [results, Tryd.results40, go_sem, a0, a1]) rfl ⟨rfl, ?_⟩
  exact (G0.out.set (Nat.le_refl _) _ _).set (Nat.le_refl _) _ _
theorem below_iff {p q : Int} (hp : 0 ≤ p) (hp2 : p < 340282366920938463463374607431768211456) (hq : 0 ≤ q) (hq2 : q < 340282366920938463463374607431768211456) : p < q ↔ hi2 p < hi2 q ∨ (hi2 p = hi2 q ∧ lo2 p < lo2 q) := by
  unfold hi2 lo2
  omega
set_option maxRecDepth 4000 in
set_option maxHeartbeats 4000000 in
theorem dbelow_any (p q : Int) (hp : 0 ≤ p) (hp2 : p < 340282366920938463463374607431768211456) (hq : 0 ≤ q) (hq2 : q < 340282366920938463463374607431768211456) (w : World) : Calls Tryd.prog 43 #[W2 p, W2 q] w fun e w' => e = .returned (.bool (decide (p < q))) ∧ Gr w w' := by
  have hb := below_iff hp hp2 hq hq2
  rw [show decide (p < q) = decide (hi2 p < hi2 q ∨ (hi2 p = hi2 q ∧ lo2 p < lo2 q)) from decide_eq_decide.2 hb]
  unfold W2
  generalize hi2 p = a at *
  generalize lo2 p = b at *
  generalize hi2 q = c at *
  generalize lo2 q = d at *
  clear hb hp hp2 hq hq2
  by_cases h : a = c
  · subst h
    have G0 := hidb (((Gr.refl w).alloc (.cells #[.int .u64 a, .int .u64 b] 77)).alloc (.cells #[.int .u64 a, .int .u64 d] 77))
    have hd : decide (a < a ∨ (a = a ∧ b < d)) = decide (b < d) := decide_eq_decide.2 (by omega)
    rw [hd]
    clear hd
    go_enter Tryd.func43, Tryd.ntmps43
    go_wp2
    go_ret
    exact ⟨rfl, G0.out⟩
  · have G0 := hidb (((Gr.refl w).alloc (.cells #[.int .u64 a, .int .u64 b] 77)).alloc (.cells #[.int .u64 c, .int .u64 d] 77))
    have hd : decide (a < c ∨ (a = c ∧ b < d)) = decide (a < c) := decide_eq_decide.2 (by omega)
    rw [hd]
    clear hd
    go_enter Tryd.func43, Tryd.ntmps43
    go_wp2
    go_ret
    exact ⟨rfl, G0.out⟩
/-- Can a light be so? -/
def liI (x y z : Int) : Bool := inI (-1024) 1024 x && inI (-1024) 1024 y && inI (-1024) 1024 z && !(decide (x = 0 ∧ y = 0 ∧ z = 0))
theorem idxA0 (a b c : Int) (w : World) : (Instr.index 34 (v3V a b c) (.int .i64 0)).run Tryd.prog w = .ok (.int .i64 a) w := by kernel_rfl
theorem idxA1 (a b c : Int) (w : World) : (Instr.index 34 (v3V a b c) (.int .i64 1)).run Tryd.prog w = .ok (.int .i64 b) w := by kernel_rfl
theorem idxA2 (a b c : Int) (w : World) : (Instr.index 34 (v3V a b c) (.int .i64 2)).run Tryd.prog w = .ok (.int .i64 c) w := by kernel_rfl
theorem part0 (a b c : Int) (w : World) : (part 3 #[.int .i64 a, .int .i64 b, .int .i64 c] 0).run Tryd.prog w = .ok (.int .i64 a) w := by kernel_rfl
theorem part1 (a b c : Int) (w : World) : (part 3 #[.int .i64 a, .int .i64 b, .int .i64 c] 1).run Tryd.prog w = .ok (.int .i64 b) w := by kernel_rfl
theorem part2 (a b c : Int) (w : World) : (part 3 #[.int .i64 a, .int .i64 b, .int .i64 c] 2).run Tryd.prog w = .ok (.int .i64 c) w := by kernel_rfl
theorem eqInt (a b : Int) (w : World) : (Op.equalIn 9999 3 (.int .i64 a) (.int .i64 b)).run Tryd.prog w = .ok (a == b) w := run_equalIn_int w 9998 3 .i64 .i64 a b (by kernel_rfl)
theorem infoA : ∃ i, Tryd.prog.info? 3 = some i := ⟨_, (show Tryd.prog.info? 3 = some ((Tryd.prog.info? 3).getD default) by kernel_rfl)⟩
theorem eqA (a b c : Int) (w : World) : (Op.equalIn 10000 34 (v3V a b c) (v3V 0 0 0)).run Tryd.prog w = .ok (decide (a = 0 ∧ b = 0 ∧ c = 0)) w := by
  obtain ⟨i, hi⟩ := infoA
  rw [run_equalIn_array w 9999 _ _ (show Tryd.prog.underlying 34 = some (.array 3 3) by kernel_rfl) hi, show Tryd.prog.cellsOf 3 = 1 by kernel_rfl, show List.range 3 = [0, 1, 2] from rfl]
  by_cases h1 : a = 0
  · by_cases h2 : b = 0
    · by_cases h3 : c = 0 <;> simp [Op.eqItems, part0, part1, part2, eqInt, h1, h2, h3]
    · simp [Op.eqItems, part0, part1, eqInt, h1, h2]
  · simp [Op.eqItems, part0, eqInt, h1]
theorem neqA (a b c : Int) (w : World) : (binOp .neq 34 (v3V a b c) (v3V 0 0 0)).run Tryd.prog w = .ok (.bool (!(decide (a = 0 ∧ b = 0 ∧ c = 0)))) w := by
  rw [run_neq_struct w, eqA]
  rfl
set_option maxRecDepth 4000 in
set_option maxHeartbeats 4000000 in
theorem shining_any (x y z : Int) (w : World) : Calls Tryd.prog 22 #[v3V x y z] w fun e w' => e = .returned (.bool (liI x y z)) ∧ Gr w w' := by
  have G0 := hidb ((Gr.refl w).alloc (.cells #[.int .i64 x, .int .i64 y, .int .i64 z] 34))
  have A0 := hidb (At.new3 w (.int .i64 x) (.int .i64 y) (.int .i64 z) 34)
  have J0 := idxA0 x y z
  have J1 := idxA1 x y z
  have J2 := idxA2 x y z
  have NE := neqA x y z
  have C0 := hidb (fun W => rwithin_any x (-1024) 1024 W)
  have C1 := hidb (fun W => rwithin_any y (-1024) 1024 W)
  have C2 := hidb (fun W => rwithin_any z (-1024) 1024 W)
  unfold liI
  generalize inI (-1024) 1024 x = b0 at *
  generalize inI (-1024) 1024 y = b1 at *
  generalize inI (-1024) 1024 z = b2 at *
  generalize decide (x = 0 ∧ y = 0 ∧ z = 0) = nz at *
  go_enter Tryd.func22, Tryd.ntmps22
  go_wp2
  generalize w.alloc (.cells #[.int .i64 x, .int .i64 y, .int .i64 z] 34) = w1 at *
  go_loopw [6] (fun t wr => (t = .int .i64 0 ∨ t = .int .i64 1 ∧ b0 = true ∨ t = .int .i64 2 ∧ b0 = true ∧ b1 = true ∨ t = .int .i64 3 ∧ b0 = true ∧ b1 = true ∧ b2 = true) ∧ wr = w1) (fun t _ => (3 - intOf t).toNat)
  case atStart => exact ⟨.inl rfl, rfl⟩
  case round =>
    obtain ⟨rfl | ⟨rfl, rfl⟩ | ⟨rfl, rfl, rfl⟩ | ⟨rfl, rfl, rfl, rfl⟩, rfl⟩ := hrel
    · cases b0
      · go_wp2_with fail
        refine (C0.out _).mono ?_
        rintro e w2 ⟨rfl, rfl⟩
        go_wp2
        go_ret
        exact ⟨by simp, G0.out⟩
      · go_wp2_with fail
        refine (C0.out _).mono ?_
        rintro e w2 ⟨rfl, rfl⟩
        go_wp2
        go_roundw
        case rel => exact ⟨.inr (.inl ⟨rfl, by first | trivial | rfl⟩), by first | trivial | rfl⟩
        case measure => simp [intOf]
    · cases b1
      · go_wp2_with fail
        refine (C1.out _).mono ?_
        rintro e w2 ⟨rfl, rfl⟩
        go_wp2
        go_ret
        exact ⟨by simp, G0.out⟩
      · go_wp2_with fail
        refine (C1.out _).mono ?_
        rintro e w2 ⟨rfl, rfl⟩
        go_wp2
        go_roundw
        case rel => exact ⟨.inr (.inr (.inl ⟨rfl, by first | trivial | rfl, by first | trivial | rfl⟩)), by first | trivial | rfl⟩
        case measure => simp [intOf]
    · cases b2
      · go_wp2_with fail
        refine (C2.out _).mono ?_
        rintro e w2 ⟨rfl, rfl⟩
        go_wp2
        go_ret
        exact ⟨by simp, G0.out⟩
      · go_wp2_with fail
        refine (C2.out _).mono ?_
        rintro e w2 ⟨rfl, rfl⟩
        go_wp2
        go_roundw
        case rel => exact ⟨.inr (.inr (.inr ⟨rfl, by first | trivial | rfl, by first | trivial | rfl, by first | trivial | rfl⟩)), by first | trivial | rfl⟩
        case measure => simp [intOf]
    · obtain ⟨a0, a1, a2⟩ := A0.out.c3
      go_wp2
      go_ret
      exact ⟨by simp, G0.out⟩
end Go.Proofs.YthbobceghbknoaaDoor
