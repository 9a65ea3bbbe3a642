/-
  whole.add, whole.subtract: within a row.; whole.subtract, within a row; whole.compare.
-/
import Derived.Test.YtecmkjefoppbiaaDoorQWhA
import Derived.Test.YtecmkjefoppbiaaDoorQFrE
import Derived.Deep.QuietTactic
import Derived.Deep.CutRange
import Derived.Deep.RegionHeld3
namespace Go.Proofs.YtecmkjefoppbiaaDoor
open Go.RowKit WH

theorem add64N (x y c : Nat) (hc : c ≤ 1) (w : World) : (callFunc 58 #[.int .u64 (x : Int), .int .u64 (y : Int), .int .u64 (c : Int)]).run Tryd.prog w = .ok (.value (.tuple #[.int .u64 (((x + y + c) % 18446744073709551616 : Nat) : Int), .int .u64 (((x + y + c) / 18446744073709551616 : Nat) : Int)])) w := by
  have := add64 (x : Int) (y : Int) (c : Int) (by omega) (by omega) (by omega) (by omega) w
  rw [this]
  simp
theorem add64N0 (x y : Nat) (w : World) : (callFunc 58 #[.int .u64 (x : Int), .int .u64 (y : Int), .int .u64 0]).run Tryd.prog w = .ok (.value (.tuple #[.int .u64 (((x + y) % 18446744073709551616 : Nat) : Int), .int .u64 (((x + y) / 18446744073709551616 : Nat) : Int)])) w := add64N x y 0 (by decide) w
theorem sub64N (x y b : Nat) (_hy : y < 18446744073709551616) (hb : b ≤ 1) (w : World) : (callFunc 67 #[.int .u64 (x : Int), .int .u64 (y : Int), .int .u64 (b : Int)]).run Tryd.prog w = .ok (.value (.tuple #[.int .u64 (((x + 18446744073709551616 - y - b) % 18446744073709551616 : Nat) : Int), .int .u64 ((if x < y + b then 1 else 0 : Nat) : Int)])) w := by
  rw [run_callFunc_extern Tryd.func67 (by kernel_rfl) (by kernel_rfl) (by kernel_rfl) (e := sub64Entry) (by kernel_rfl), run_sub64 x y b (by omega)]
  rfl
theorem mul64N (x y : Nat) (hx : x < 18446744073709551616) (hy : y < 18446744073709551616) (w : World) : Calls Tryd.prog 57 #[.int .u64 (x : Int), .int .u64 (y : Int)] w fun e w' => e = .returned (.tuple #[.int .u64 ((x * y / 18446744073709551616 : Nat) : Int), .int .u64 ((x * y % 18446744073709551616 : Nat) : Int)]) ∧ w' = w := by
  have := mul64 x y hx hy w
  rw [show (x : Int) * y = ((x * y : Nat) : Int) from (Int.natCast_mul x y).symm, ← hi_nat (x * y) (mul_128 hx hy), ← lo_nat (x * y)] at this
  exact this
theorem getD_lt {b : List Nat} {i : Nat} (h : i < b.length) : b.getD i 0 = b[i] := by simp [List.getD, h]
theorem getD_ge {b : List Nat} {i : Nat} (h : ¬ i < b.length) : b.getD i 0 = 0 := by simp [List.getD, Nat.not_lt.1 h]
set_option maxRecDepth 4000 in
set_option maxHeartbeats 4000000 in
theorem wadd_gen (ad bd : Option Addr) (A o n ca bb cb : Nat) (L b : List Nat) (w : World) (hA : At w A (us L)) (hL : Dg L) (hb : Dg b) (ho : o + n ≤ L.length) (hn : n ≤ 1000) (_lb : b.length ≤ 1000) (rb : Rd w A bd bb cb b)
    (ia : ∀ k : Nat, k < n → ∀ w, (Instr.indexAt 63 (.slice ad n ca) (.int .i64 k)).run Tryd.prog w = .ok (.pointer (some ⟨A, o + k, none⟩)) w) :
    Calls Tryd.prog 63 #[.slice ad n ca, .slice bd b.length cb] w fun e w' => ∃ (M : List Nat) (c : Nat), e = .returned (.int .u64 (c : Int)) ∧ c ≤ 1 ∧ At w' A (us M) ∧ AddI L b M o n c ∧ Onl A w w' := by
  have HA := hidb hA
  have HL := hidb hL
  have HB := hidb hb
  have RB := hidb rb
  have IA := hidb ia
  have HO := hidb ho
  clear hA hL hb rb ia ho
  go_enter Tryd.func63, Tryd.ntmps63
  go_wp2
  go_loopw [5, 10] (fun s t wr => ∃ (c i : Nat) (M : List Nat), c ≤ 1 ∧ i ≤ n ∧ s = .int .u64 (c : Int) ∧ t = .int .i64 (i : Int) ∧ Hid (AddI L b M o i c) ∧ Hid (At wr A (us M)) ∧ Hid (Onl A w wr)) (fun _ t _ => n - (intOf t).toNat)
  case atStart => exact ⟨0, 0, L, by omega, by omega, rfl, rfl, AddI.start HL.out, HA.out, Onl.refl _ _⟩
  case round =>
    obtain ⟨c, i, M, hc, hi, rfl, rfl, HI, HM, HW⟩ := hrel
    by_cases h1 : i < n
    · have hj : o + i < M.length := by rw [HI.out.like.len]; have := HO.out; omega
      obtain ⟨cellm, frm⟩ := HM.out.ucell hj
      have ixa := IA.out i h1
      have HS := hidb (HI.out.step hj)
      have zl := HI.out.dg.get hj
      by_cases h2 : i < b.length
      · have cellb := RB.out.cell h2 HW.out
        have ixb := RB.out.ix i h2
        have yl := HB.out.get h2
        rw [getD_lt h2] at HS
        generalize M[o + i] = z at *
        generalize b[i] = y at *
        have ha := add64N z y c hc
        obtain ⟨d, hd⟩ : ∃ d, d = (z + y + c) % 18446744073709551616 := ⟨_, rfl⟩
        obtain ⟨q, hq⟩ : ∃ q, q = (z + y + c) / 18446744073709551616 := ⟨_, rfl⟩
        rw [← hd, ← hq] at ha HS
        have hq1 : q ≤ 1 := by omega
        have HD := hidb hd
        clear hd hq
        go_wp2_with (simp only [ha])
        go_roundw
        case rel => exact ⟨q, i + 1, M.set (o + i) d, hq1, by omega, by go_num, by go_num, HS, HM.out.uput (o + i) d, HW.out.set (o + i) _⟩
        case measure => simp [intOf]; omega
      · rw [getD_ge h2] at HS
        generalize M[o + i] = z at *
        have ha := add64N z 0 c hc
        obtain ⟨d, hd⟩ : ∃ d, d = (z + 0 + c) % 18446744073709551616 := ⟨_, rfl⟩
        obtain ⟨q, hq⟩ : ∃ q, q = (z + 0 + c) / 18446744073709551616 := ⟨_, rfl⟩
        rw [← hd, ← hq] at ha HS
        have hq1 : q ≤ 1 := by omega
        have HD := hidb hd
        clear hd hq
        replace ha : ∀ w, (callFunc 58 #[.int .u64 (z : Int), .int .u64 0, .int .u64 (c : Int)]).run Tryd.prog w = .ok (.value (.tuple #[.int .u64 (d : Int), .int .u64 (q : Int)])) w := ha
        go_wp2_with (simp only [ha])
        go_roundw
        case rel => exact ⟨q, i + 1, M.set (o + i) d, hq1, by omega, by go_num, by go_num, HS, HM.out.uput (o + i) d, HW.out.set (o + i) _⟩
        case measure => simp [intOf]; omega
    · obtain rfl : i = n := by omega
      go_wp2
      go_ret
      exact ⟨M, c, rfl, hc, HM.out, HI.out, HW.out⟩
end Go.Proofs.YtecmkjefoppbiaaDoor
namespace Go.Proofs.YtecmkjefoppbiaaDoor
open Go.RowKit WH

set_option maxRecDepth 4000 in
set_option maxHeartbeats 4000000 in
theorem wsub_gen (ad bd : Option Addr) (A o n ca bb cb t : Nat) (L b : List Nat) (w : World) (hA : At w A (us L)) (hL : Dg L) (hb : Dg b) (ho : o + n ≤ L.length) (hn : n ≤ 1000) (_lb : b.length ≤ 1000) (ht : t < 18446744073709551616) (rb : Rd w A bd bb cb b)
    (ia : ∀ k : Nat, k < n → ∀ w, (Instr.indexAt 63 (.slice ad n ca) (.int .i64 k)).run Tryd.prog w = .ok (.pointer (some ⟨A, o + k, none⟩)) w) :
    Calls Tryd.prog 62 #[.slice ad n ca, .slice bd b.length cb, .int .u64 (t : Int)] w fun e w' => ∃ (M : List Nat) (c r : Nat), e = .returned (.int .u64 (r : Int)) ∧ r ≤ 1 ∧ At w' A (us M) ∧ SubI L b M t o n c r ∧ Onl A w w' := by
  have HA := hidb hA
  have HL := hidb hL
  have HB := hidb hb
  have RB := hidb rb
  have IA := hidb ia
  have HO := hidb ho
  have HT := hidb ht
  clear hA hL hb rb ia ho ht
  go_enter Tryd.func62, Tryd.ntmps62
  go_wp2
  go_loopw [7, 8, 16] (fun s u t' wr => ∃ (c r i : Nat) (M : List Nat), r ≤ 1 ∧ i ≤ n ∧ s = .int .u64 (c : Int) ∧ u = .int .u64 (r : Int) ∧ t' = .int .i64 (i : Int) ∧ Hid (SubI L b M t o i c r) ∧ Hid (At wr A (us M)) ∧ Hid (Onl A w wr)) (fun _ _ t' _ => n - (intOf t').toNat)
  case atStart => exact ⟨0, 0, 0, L, by omega, by omega, rfl, rfl, rfl, SubI.start HL.out, HA.out, Onl.refl _ _⟩
  case round =>
    obtain ⟨c, r, i, M, hr, hi, rfl, rfl, rfl, HI, HM, HW⟩ := hrel
    by_cases h1 : i < n
    · have hj : o + i < M.length := by rw [HI.out.like.len]; have := HO.out; omega
      obtain ⟨cellm, frm⟩ := HM.out.ucell hj
      have ixa := IA.out i h1
      have zl := HI.out.dg.get hj
      have cl := HI.out.lid
      by_cases h2 : i < b.length
      · have cellb := RB.out.cell h2 HW.out
        have ixb := RB.out.ix i h2
        have yl := HB.out.get h2
        have WD := sub_words (z := M[o + i]) (y := b[i]) (t := t) (c := c) (e := r) zl yl HT.out cl hr
        have HS := hidb (HI.out.step HB.out hj (by rw [getD_lt h2]; exact WD))
        generalize M[o + i] = z at *
        generalize b[i] = y at *
        have HP := hidb (fun w => mul64N y t yl HT.out w)
        have hml : y * t / 18446744073709551616 ≤ 18446744073709551614 := by
          have hm : y * t ≤ 18446744073709551615 * 18446744073709551615 := Nat.mul_le_mul (by omega) (by have := HT.out; omega)
          generalize y * t = p at *
          omega
        clear WD
        obtain ⟨lo, hlo⟩ : ∃ d, d = y * t % 18446744073709551616 := ⟨_, rfl⟩
        obtain ⟨hi', hhi⟩ : ∃ d, d = y * t / 18446744073709551616 := ⟨_, rfl⟩
        rw [← hlo, ← hhi] at HS HP
        rw [← hhi] at hml
        have hll : lo < 18446744073709551616 := by omega
        have ha := add64N0 lo c
        obtain ⟨d, hd⟩ : ∃ d, d = (lo + c) % 18446744073709551616 := ⟨_, rfl⟩
        obtain ⟨q, hq⟩ : ∃ q, q = (lo + c) / 18446744073709551616 := ⟨_, rfl⟩
        rw [← hd, ← hq] at ha HS
        have hd1 : d < 18446744073709551616 := by omega
        have hq1 : q ≤ 1 := by omega
        have hs := sub64N z d r hd1 hr
        obtain ⟨f, hf⟩ : ∃ f, f = (z + 18446744073709551616 - d - r) % 18446744073709551616 := ⟨_, rfl⟩
        obtain ⟨g, hg⟩ : ∃ g, g = if z < d + r then 1 else 0 := ⟨_, rfl⟩
        rw [← hf, ← hg] at hs HS
        have hg1 : g ≤ 1 := by rw [hg]; split <;> omega
        have hw : IntKind.u64.wrap ((hi' : Int) + (q : Int)) = ((hi' + q : Nat) : Int) := by rw [IntKind.wrap_u64]; omega
        clear hf hg hd hq hlo hhi
        go_wp2_with fail
        refine (HP.out _).mono ?_
        rintro e w1 ⟨rfl, rfl⟩
        go_wp2_with (first | rw [ha] | rw [hs])
        go_roundw
        case rel => exact ⟨hi' + q, g, i + 1, M.set (o + i) f, hg1, by omega, by go_num, by go_num, by go_num, HS, HM.out.uput (o + i) f, HW.out.set (o + i) _⟩
        case measure => simp [intOf]; omega
      · have WD := sub_words (z := M[o + i]) (y := 0) (t := t) (c := c) (e := r) zl (by decide) HT.out cl hr
        have HS := hidb (HI.out.step HB.out hj (by rw [getD_ge h2]; exact WD))
        generalize M[o + i] = z at *
        have HP := hidb (fun w => mul64N 0 t (by decide) HT.out w)
        clear WD
        rw [Nat.zero_mul] at HS HP
        obtain ⟨lo, hlo⟩ : ∃ d, d = 0 % 18446744073709551616 := ⟨_, rfl⟩
        obtain ⟨hi', hhi⟩ : ∃ d, d = 0 / 18446744073709551616 := ⟨_, rfl⟩
        rw [← hlo, ← hhi] at HS HP
        have hml : hi' ≤ 18446744073709551614 := by omega
        have hll : lo < 18446744073709551616 := by omega
        have ha := add64N0 lo c
        obtain ⟨d, hd⟩ : ∃ d, d = (lo + c) % 18446744073709551616 := ⟨_, rfl⟩
        obtain ⟨q, hq⟩ : ∃ q, q = (lo + c) / 18446744073709551616 := ⟨_, rfl⟩
        rw [← hd, ← hq] at ha HS
        have hd1 : d < 18446744073709551616 := by omega
        have hq1 : q ≤ 1 := by omega
        have hs := sub64N z d r hd1 hr
        obtain ⟨f, hf⟩ : ∃ f, f = (z + 18446744073709551616 - d - r) % 18446744073709551616 := ⟨_, rfl⟩
        obtain ⟨g, hg⟩ : ∃ g, g = if z < d + r then 1 else 0 := ⟨_, rfl⟩
        rw [← hf, ← hg] at hs HS
        have hg1 : g ≤ 1 := by rw [hg]; split <;> omega
        have hw : IntKind.u64.wrap ((hi' : Int) + (q : Int)) = ((hi' + q : Nat) : Int) := by rw [IntKind.wrap_u64]; omega
        replace HP : Hid (∀ w, Calls Tryd.prog 57 #[.int .u64 0, .int .u64 (t : Int)] w fun e w' => e = .returned (.tuple #[.int .u64 (hi' : Int), .int .u64 (lo : Int)]) ∧ w' = w) := HP
        clear hf hg hd hq hlo hhi
        go_wp2_with fail
        refine (HP.out _).mono ?_
        rintro e w1 ⟨rfl, rfl⟩
        go_wp2_with (first | rw [ha] | rw [hs])
        go_roundw
        case rel => exact ⟨hi' + q, g, i + 1, M.set (o + i) f, hg1, by omega, by go_num, by go_num, by go_num, HS, HM.out.uput (o + i) f, HW.out.set (o + i) _⟩
        case measure => simp [intOf]; omega
    · obtain rfl : i = n := by omega
      go_wp2
      go_ret
      exact ⟨M, c, r, rfl, hr, HM.out, HI.out, HW.out⟩
end Go.Proofs.YtecmkjefoppbiaaDoor
