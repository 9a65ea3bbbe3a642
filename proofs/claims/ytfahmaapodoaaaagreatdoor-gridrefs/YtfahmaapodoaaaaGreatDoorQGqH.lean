/-
  mercatorref2.SquareText of a reference.
-/
import Derived.Test.YtfahmaapodoaaaaGreatDoorQGqG
namespace Go.Proofs.YtfahmaapodoaaaaGreatDoor
open Go.RowKit GQ

theorem tens (x m t : Int) (x0 : 0 ≤ x) (m0 : 0 ≤ m) (m1 : m ≤ 5) (ht : t = ((10 ^ (5 - m).toNat : Nat) : Int)) : ∃ u v : Int, x.tmod 100000 = u ∧ u.tdiv t = v ∧ IntKind.i64.wrap u = u ∧ IntKind.i64.wrap v = v ∧ Hid (∀ w, Calls Tryz.prog 24 #[.int .i64 v, .int .i64 m] w fun e w' => e = .returned (.string (CT x m)) ∧ Gr w w') := by
  obtain ⟨x, rfl⟩ := Int.eq_ofNat_of_zero_le x0
  obtain ⟨m, rfl⟩ := Int.eq_ofNat_of_zero_le m0
  have e1 : (x : Int).tmod 100000 = ((x % 100000 : Nat) : Int) := by rw [Int.tmod_eq_emod_of_nonneg (by omega)]; omega
  have e2 : (5 - (m : Int)).toNat = 5 - m := by omega
  rw [e2] at ht
  have e3 : ((x % 100000 : Nat) : Int).tdiv t = ((x % 100000 / 10 ^ (5 - m) : Nat) : Int) := by
    rw [ht, Int.tdiv_eq_ediv_of_nonneg (by omega), Int.natCast_ediv]
  have l1 : x % 100000 < 100000 := Nat.mod_lt _ (by decide)
  have l2 : x % 100000 / 10 ^ (5 - m) ≤ x % 100000 := Nat.div_le_self _ _
  refine ⟨_, _, e1, e3, wrq (by omega) (by omega), wrq ?_ ?_, ?_⟩
  · generalize x % 100000 / 10 ^ (5 - m) = v at l2; omega
  · generalize x % 100000 / 10 ^ (5 - m) = v at l2; omega
  · intro w
    have h := digits_any (x % 100000 / 10 ^ (5 - m)) m (Nat.lt_trans (Nat.lt_of_le_of_lt l2 l1) (by decide)) (by omega) w
    unfold CT
    simp only [Int.toNat_natCast]
    exact h
theorem ten_bd {t : Int} {k : Nat} (hk : k ≤ 4) (h : t = ((10 ^ k : Nat) : Int)) : 1 ≤ t ∧ t ≤ 10000 := by
  have h1 : 10 ^ k ≤ 10 ^ 4 := Nat.pow_le_pow_right (by decide) hk
  have h2 : 0 < 10 ^ k := Nat.pow_pos (by decide)
  generalize 10 ^ k = q at h h1 h2
  omega
theorem ten_pos {t : Int} {k : Nat} (h : t = ((10 ^ k : Nat) : Int)) : ¬ t = 0 := by
  have h2 : 0 < 10 ^ k := Nat.pow_pos (by decide)
  generalize 10 ^ k = q at h h2
  omega
theorem sq_adds2 (x y m : Int) (x0 : 0 ≤ x) (x1 : x ≤ 999999) (y0 : 0 ≤ y) (y1 : y ≤ 9999999) (m0 : 0 ≤ m) (m1 : m ≤ 5) : ∃ (a c : Nat) (s : Int) (B C : ByteArray), x.tdiv 100000 = a ∧ y.tdiv 100000 = s ∧ IntKind.i64.wrap s = s ∧ s.tmod 20 = c ∧ a < 20 ∧ c < 20 ∧ ⟨[ltr a, ltr c].toArray⟩ = B ∧ (∀ W : World, (Op.stringOp .add B (CT x m)).run Tryz.prog W = .ok (.string C) W) ∧ ∀ W : World, (Op.stringOp .add C (CT y m)).run Tryz.prog W = .ok (.string (SQ x y m)) W := by
  obtain ⟨x, rfl⟩ := Int.eq_ofNat_of_zero_le x0
  obtain ⟨y, rfl⟩ := Int.eq_ofNat_of_zero_le y0
  obtain ⟨m, rfl⟩ := Int.eq_ofNat_of_zero_le m0
  have e1 : (x : Int).tdiv 100000 = ((x / 100000 : Nat) : Int) := by rw [Int.tdiv_eq_ediv_of_nonneg x0]; omega
  have e2 : (y : Int).tdiv 100000 = ((y / 100000 : Nat) : Int) := by rw [Int.tdiv_eq_ediv_of_nonneg y0]; omega
  have e3 : ((y / 100000 : Nat) : Int).tmod 20 = ((y / 100000 % 20 : Nat) : Int) := by rw [Int.tmod_eq_emod_of_nonneg (by omega)]; omega
  have l1 : (dgs (x % 100000 / 10 ^ (5 - m)) m).length ≤ 5 := by rw [dgs_length]; omega
  have l2 : (dgs (y % 100000 / 10 ^ (5 - m)) m).length ≤ 5 := by rw [dgs_length]; omega
  unfold CT SQ
  simp only [Int.toNat_natCast]
  refine ⟨_, _, _, _, _, e1, e2, wrq (by omega) (by omega), e3, by omega, Nat.mod_lt _ (by decide), rfl, fun W => add_s _ _ (by simp) (by omega) W, fun W => ?_⟩
  rw [add_s _ _ (by simp; omega) (by omega)]
  rfl
set_option maxHeartbeats 1000000 in
theorem squareText_ok (z : Int) (b : Bool) (x y m : Int) (h : okRef z x y) (m0 : 0 ≤ m) (m1 : m ≤ 5) (w : World) : Calls Tryz.prog 17 #[rfV z b x y, .int .i64 m] w fun e w' => e = .returned (.tuple #[.string (SQ x y m), .int .i64 0]) ∧ Gr w w' := by
  have H1 := hidb (fun w => refError_ok z b x y h w)
  obtain ⟨-, ⟨x0, x1⟩, y0, y1⟩ := h
  have HX := hidb (fun t ht => tens x m t x0 m0 m1 ht)
  have HY := hidb (fun t ht => tens y m t y0 m0 m1 ht)
  obtain ⟨a, c, s, B, C, ea, es, ews, ec, ha, hc, eB, a1, a2⟩ := sq_adds2 x y m x0 x1 y0 y1 m0 m1
  have EB := hidb eB
  have ha' : (a : Int) < 20 := by omega
  have hc' : (c : Int) < 20 := by omega
  have ewa : IntKind.i64.wrap (a : Int) = a := wrq (by omega) (by omega)
  have HA := hidb (lL_at a ha)
  have HL := hidb (lL_at c hc)
  clear eB ha hc
  go_enter Tryz.func17, Tryz.ntmps17
  go_wp2_with fail
  have PA : At (w.alloc (.cells #[.int .i64 z, .bool b, .int .i64 x, .int .i64 y] 23)) w.heap.size [.int .i64 z, .bool b, .int .i64 x, .int .i64 y] := At.new4 w _ _ _ _ _
  have HC : Gr w (w.alloc (.cells #[.int .i64 z, .bool b, .int .i64 x, .int .i64 y] 23)) := (Gr.refl w).alloc _
  generalize w.alloc (.cells #[.int .i64 z, .bool b, .int .i64 x, .int .i64 y] 23) = w1 at *
  refine (H1.out _).mono ?_
  rintro e w2 ⟨rfl, g2⟩
  replace HC : Gr w w2 := HC.step g2
  replace PA := At.below g2 PA
  clear g2 H1
  go_upto_region 7 with fail
  obtain ⟨o, ho⟩ : ∃ o : Obj, o = .cells #[.int .u8 65, .int .u8 66, .int .u8 67, .int .u8 68, .int .u8 69, .int .u8 70, .int .u8 71, .int .u8 72, .int .u8 74, .int .u8 75, .int .u8 76, .int .u8 77, .int .u8 78, .int .u8 80, .int .u8 81, .int .u8 82, .int .u8 83, .int .u8 84, .int .u8 85, .int .u8 86] 5 := ⟨_, rfl⟩
  have RA : At (w2.alloc o) w2.heap.size lL := by rw [ho]; exact At.newRow w2 lL 5
  rw [← ho]
  clear ho
  replace PA := PA.alloc o
  replace HC := HC.alloc o
  generalize w2.heap.size = R at RA ⊢
  generalize w2.alloc o = w3 at *
  go_wp2_with fail
  go_loopw [8, 9] (fun v u wr => ∃ (t i : Int), m ≤ i ∧ i ≤ 5 ∧ Hid (t = ((10 ^ (i - m).toNat : Nat) : Int)) ∧ v = .int .i64 t ∧ u = .int .i64 i ∧ wr = w3) (fun _ u _ => (5 - intOf u).toNat)
  case atStart => exact ⟨1, m, Int.le_refl _, m1, by rw [Int.sub_self]; rfl, rfl, rfl, rfl⟩
  case round =>
    obtain ⟨t, i, hi1, hi2, HT, rfl, rfl, hwr⟩ := hrel
    have hwr' := hwr.symm
    subst hwr'
    by_cases hi : i = 5
    · subst hi
      obtain ⟨u, v, q1, q2, q3, q4, HU⟩ := HX.out t HT.out
      obtain ⟨u', v', r1, r2, r3, r4, HV⟩ := HY.out t HT.out
      have t0 := ten_pos HT.out
      obtain ⟨c0, c1, c2, c3⟩ := PA.c4
      go_wp2_with fail
      refine (HU.out _).mono ?_
      rintro e w5 ⟨rfl, g5⟩
      replace PA := At.below g5 PA
      replace RA := At.below g5 RA
      replace HC := HC.step g5
      clear g5 c0 c1 c2 c3
      obtain ⟨c0, c1, c2, c3⟩ := PA.c4
      go_wp2_with fail
      refine (HV.out _).mono ?_
      rintro e w6 ⟨rfl, g6⟩
      replace PA := At.below g6 PA
      replace RA := At.below g6 RA
      replace HC := HC.step g6
      clear g6 c0 c1 c2 c3 HU HV HX HY q1 q2 q3 q4 r1 r2 r3 r4 t0 HT
      obtain ⟨c0, c1, c2, c3⟩ := PA.c4
      have d1 := RA.get HA.out
      have d2 := RA.get HL.out
      have nA := ((At.new2 w6 (.int .u8 ((ltr a).toNat : Int)) (.int .u8 ((ltr c).toNat : Int)) 5).drew).c2
      have hconv := conv2 (w6.alloc (.cells #[.int .u8 ((ltr a).toNat : Int), .int .u8 ((ltr c).toNat : Int)] 5)).drew w6.heap.size 2 (ltr a) (ltr c) nA.1 nA.2
      rw [EB.out] at hconv
      clear PA RA nA HA HL EB
      go_upto_region 14 with fail
      go_region_law (fail)
      all_goals
        go_wp2_with fail
        go_ret2
        exact ⟨rfl, by ((with_reducible repeat' (first | assumption | refine Gr.drewN ?_ _ | refine Gr.drew ?_ | refine Gr.alloc ?_ _ | exact Gr.refl _)); done)⟩
    · have hi' : i < 5 := by omega
      have hb := ten_bd (k := (i - m).toNat) (by omega) HT.out
      have w1 : IntKind.i64.wrap (t * 10) = t * 10 := wrq (by omega) (by omega)
      have w2 : IntKind.i64.wrap (i + 1) = i + 1 := wrq (by omega) (by omega)
      have HT2 : Hid (t * 10 = ((10 ^ (i + 1 - m).toNat : Nat) : Int)) := by
        show t * 10 = _
        rw [show (i + 1 - m).toNat = (i - m).toNat + 1 by omega, Nat.pow_succ, HT.out, Int.natCast_mul]
        rfl
      clear hb HT
      go_wp2
      go_roundw
      case rel => exact ⟨t * 10, i + 1, by omega, by omega, HT2, rfl, rfl, trivial⟩
      case measure => simp [intOf]; omega
end Go.Proofs.YtfahmaapodoaaaaGreatDoor
