/-
  mercatorref2.SheetsOf: what it gives.
-/
import Derived.Test.YthpbkomchdgneaaDoorQGsD
namespace Go.Proofs.YthpbkomchdgneaaDoor
open Go.RowKit

set_option maxRecDepth 4000 in
set_option maxHeartbeats 8000000 in
theorem sheetsOf_ok (a b c d wide high lap : Int) (h : okS a b c d wide high lap = true) (hm : cnt a c wide * cnt b d high ≤ 4000) (w : World) : Calls Tryd.prog 11 #[boV a b c d, .int .i64 wide, .int .i64 high, .int .i64 lap] w fun e w' => ∃ v, e = .returned (.tuple #[v, .int .i64 0]) ∧ RowS w' v (shL a b wide high lap (cnt a c wide) (cnt b d high * cnt a c wide)) ∧ Gr w w' := by
  have k1 := (okS_parts h).1
  have fin := okS_fine h
  obtain ⟨e1, e2, e3, e4, f1, f2, f3, f4, ep⟩ := fin.aheadR
  have n1 : ¬ wide < 1 := by have := fin.w1; omega
  have n2 : ¬ 33554432 < wide := by have := fin.w2; omega
  have n3 : ¬ high < 1 := by have := fin.h1; omega
  have n4 : ¬ 33554432 < high := by have := fin.h2; omega
  have n5 : ¬ lap < 0 := by have := fin.l1; omega
  have n6 : ¬ 16777216 < lap := by have := fin.l2; omega
  obtain ⟨a1, b1, c1', d1', ac, bd, w1', w2', h1', h2', l1', l2'⟩ := fin
  have HCI := hidb (fun k => cnt_iff (lo := a) (hi := c) (wide := wide) ac w1' k)
  have HRI := hidb (fun k => cnt_iff (lo := b) (hi := d) (wide := high) bd h1' k)
  have hcb := (cnt_bd a1 c1' ac w1').1
  generalize cnt a c wide = cols at *
  generalize cnt b d high = rows at *
  have hm' : ¬ (4000 : Int) < (cols : Int) * (rows : Int) := by
    have e : (cols : Int) * (rows : Int) = ((cols * rows : Nat) : Int) := by simp
    rw [e]; omega
  have hm2 : rows * cols ≤ 4000 := by rw [Nat.mul_comm]; exact hm
  have HM2 := hidb hm2
  have BB : Hid ((-16777216 ≤ a ∧ -16777216 ≤ b ∧ c ≤ 16777216 ∧ d ≤ 16777216) ∧ (1 ≤ wide ∧ wide ≤ 33554432 ∧ 1 ≤ high ∧ high ≤ 33554432 ∧ 0 ≤ lap ∧ lap ≤ 16777216) ∧ 1 ≤ cols) := ⟨⟨a1, b1, c1', d1'⟩, ⟨w1', w2', h1', h2', l1', l2'⟩, hcb⟩
  have HI := hidb (fun w => isBox_any a b c d w)
  rw [k1] at HI
  obtain ⟨i0, hi, hz0, hz1, hz2⟩ := info_parts infoT
  clear h k1 hm a1 b1 c1' d1' ac bd w1' w2' h1' h2' l1' l2' hm2 hcb
  go_enter Tryd.func11, Tryd.ntmps11
  go_wp2_with fail
  refine (HI.out _).mono ?_
  rintro e w1 ⟨rfl, hB⟩
  have PA : At w1 w.heap.size (boL a b c d) := At.below hB (At.new4 w _ _ _ _ _)
  have HC : Gr w w1 := Gr.step (by ((with_reducible repeat' (first | assumption | refine Gr.drew ?_ | refine Gr.alloc ?_ _ | refine Gr.set ?_ (by first | omega | (simp; omega)) _ _ | exact Gr.refl _)); done)) hB
  clear hB
  obtain ⟨c0, c1, c2, c3⟩ := PA.c4
  go_upto_region 4 with fail
  go_quiet (fail)
  clear c0 c1 c2 c3
  replace PA := PA.drewN nq
  replace HC := HC.drewN nq
  generalize w1.drewN nq = w2 at PA HC ⊢
  obtain ⟨c0, c1, c2, c3⟩ := PA.c4
  go_wp2
  clear e1 e2 e3 e4 f1 f2 f3 f4 ep hm' c0 c1 c2 c3 n1 n2 n3 n4 n5 n6
  go_loopw [11, 12, 13] (fun v t u wr => ∃ (r : Nat) (y : Int) (ad : Option Addr) (cap : Nat), r ≤ rows ∧ Hid (y = b + (r : Int) * high) ∧ v = .slice ad (r * cols) cap ∧ t = .int .i64 (r : Int) ∧ u = .int .i64 y ∧ wr.ownsRow (w.heap.size + 1) 47 6 v (r * cols) (sc (shL a b wide high lap cols (r * cols))) ∧ At wr w.heap.size (boL a b c d) ∧ Gr w wr) (fun _ t _ _ => rows - (intOf t).toNat)
  case atStart => exact ⟨0, b, none, 0, by omega, by show b = _; simp, by simp, rfl, rfl, by simpa [shL, sc] using World.ownsRow_nil w2 _ _ _, PA, HC⟩
  case round =>
    clear PA HC
    obtain ⟨r, y, ad, cap, hr, HY, rfl, rfl, rfl, hown, PA, HC⟩ := hrel
    obtain ⟨c0, c1, c2, c3⟩ := PA.c4
    have hyd : r < rows ↔ y ≤ d := by rw [HY.out]; exact HRI.out r
    by_cases hrr : r < rows
    · have hyd' := hyd.1 hrr
      have HRR := hidb hrr
      clear hrr hr hyd
      go_wp2
      clear c0 c1 c2 c3
      have HYD := hidb hyd'
      clear hyd'
      go_loopw [11, 14, 15] (fun v t u wr => ∃ (k : Nat) (x : Int) (ad : Option Addr) (cap : Nat), k ≤ cols ∧ Hid (x = a + (k : Int) * wide) ∧ v = .slice ad (r * cols + k) cap ∧ t = .int .i64 (k : Int) ∧ u = .int .i64 x ∧ wr.ownsRow (w.heap.size + 1) 47 6 v (r * cols + k) (sc (shL a b wide high lap cols (r * cols + k))) ∧ At wr w.heap.size (boL a b c d) ∧ Gr w wr) (fun _ t _ _ => cols - (intOf t).toNat)
      case atStart => exact ⟨0, a, ad, cap, by omega, by show a = _; simp, rfl, rfl, rfl, hown, PA, HC⟩
      case round =>
        clear PA HC hown
        obtain ⟨k, x, ad, cap, hk, HX, rfl, rfl, rfl, hown, PA, HC⟩ := hrel
        obtain ⟨c0, c1, c2, c3⟩ := PA.c4
        have hxc : k < cols ↔ x ≤ c := by rw [HX.out]; exact HCI.out k
        by_cases hkk : k < cols
        · have hxc' := hxc.1 hkk
          obtain ⟨⟨ba, bb, bc, bd⟩, ⟨bw, bw2, bh, bh2, bl, bl2⟩, _⟩ := BB.out
          have cp : 0 ≤ (k : Int) * wide := Int.mul_nonneg (by omega) (by omega)
          have cq : 0 ≤ (r : Int) * high := Int.mul_nonneg (by omega) (by omega)
          have hxa : a ≤ x := by have := HX.out; omega
          have hyb : b ≤ y := by have := HY.out; omega
          have hyd' := HYD.out
          have HS0 : Hid (shOf a b wide high lap cols (r * cols + k) = ⟨k, r, x - lap, y - lap, x + wide + lap - 1, y + high + lap - 1⟩) := by
            show _ = _
            rw [shOf_at a b wide high lap hkk, HX.out, HY.out]
          have g1 : IntKind.i64.wrap (x - lap) = x - lap := wr64 (by omega) (by omega)
          have g2 : IntKind.i64.wrap (y - lap) = y - lap := wr64 (by omega) (by omega)
          have g3 : IntKind.i64.wrap (x + wide) = x + wide := wr64 (by omega) (by omega)
          have g4 : IntKind.i64.wrap (x + wide + lap) = x + wide + lap := wr64 (by omega) (by omega)
          have g5 : IntKind.i64.wrap (x + wide + lap - 1) = x + wide + lap - 1 := wr64 (by omega) (by omega)
          have g6 : IntKind.i64.wrap (y + high) = y + high := wr64 (by omega) (by omega)
          have g7 : IntKind.i64.wrap (y + high + lap) = y + high + lap := wr64 (by omega) (by omega)
          have g8 : IntKind.i64.wrap (y + high + lap - 1) = y + high + lap - 1 := wr64 (by omega) (by omega)
          have hcl : cols ≤ 4000 := Nat.le_trans (Nat.le_mul_of_pos_left cols (Nat.lt_of_le_of_lt (Nat.zero_le _) HRR.out)) HM2.out
          have g14 : IntKind.i64.wrap ((k : Int) + 1) = ((k + 1 : Nat) : Int) := by rw [wr64 (by omega) (by omega)]; simp
          have HXX : Hid (x + wide = a + ((k + 1 : Nat) : Int) * wide) := by
            show _ = _
            rw [HX.out]
            have e : ((k + 1 : Nat) : Int) * wide = (k : Int) * wide + wide := by
              rw [show ((k + 1 : Nat) : Int) = (k : Int) + 1 by simp, Int.add_mul]; omega
            rw [e]; omega
          have HKK := hidb hkk
          clear hcl ba bb bc bd bw bw2 bh bh2 bl bl2 cp cq hxa hyb hyd' hkk hxc
          have hcount : r * cols + k + 1 ≤ 4000 := by
            have h1 := HM2.out
            have h2 : (r + 1) * cols ≤ rows * cols := Nat.mul_le_mul_right cols HRR.out
            have h3 := HKK.out
            rw [Nat.add_mul] at h2
            omega
          have HCN := hidb hcount
          clear hcount
          go_upto_region 17 with fail
          obtain ⟨X, hX⟩ : ∃ n, n = x - lap := ⟨_, rfl⟩
          obtain ⟨Y, hY⟩ : ∃ n, n = y - lap := ⟨_, rfl⟩
          obtain ⟨X2, hX2⟩ : ∃ n, n = x + wide + lap - 1 := ⟨_, rfl⟩
          obtain ⟨Y2, hY2⟩ : ∃ n, n = y + high + lap - 1 := ⟨_, rfl⟩
          rw [← hX2, ← hY2, ← hX, ← hY] at HS0
          rw [← hX2, ← hY2, ← hX, ← hY]
          have SA : At ((wr.alloc (.cells #[.int .i64 X, .int .i64 Y] 32)).alloc (.cells #[.int .i64 X2, .int .i64 Y2] 32)) wr.heap.size [.int .i64 X, .int .i64 Y] := by ((with_reducible repeat' (first | assumption | exact At.new1 _ _ _ | exact At.new2 _ _ _ _ | exact At.new3 _ _ _ _ _ | exact At.nx1 _ _ _ | exact At.nx2 _ _ _ _ | exact At.nx3 _ _ _ _ _ | exact At.ny1 _ _ _ _ | exact At.ny2 _ _ _ _ _ | exact At.ny3 _ _ _ _ _ _ | exact At.nz1 _ _ _ _ _ | exact At.nz2 _ _ _ _ _ _ | exact At.nz3 _ _ _ _ _ _ _ | exact Has.new1 _ _ _ | exact Has.new2 _ _ _ _ | exact Has.new3 _ _ _ _ _ | exact Has.nx1 _ _ _ | exact Has.nx2 _ _ _ _ | exact Has.nx3 _ _ _ _ _ | exact Has.ny1 _ _ _ _ | exact Has.ny2 _ _ _ _ _ | exact Has.ny3 _ _ _ _ _ _ | exact Has.nz1 _ _ _ _ _ | exact Has.nz2 _ _ _ _ _ _ | exact Has.nz3 _ _ _ _ _ _ _ | refine At.fill1 ?_ _ | refine At.fill2 ?_ _ _ | refine At.fill3 ?_ _ _ _ | refine At.swap ?_ (by first | omega | (simp; omega)) _ _ | refine At.alloc ?_ _ | refine At.drew ?_ | refine At.skip ?_ (by first | omega | (simp; omega)) _ _ | refine At.below (by assumption) ?_ | refine Has.alloc ?_ _ | refine Has.drew ?_ | refine Has.set ?_ _ _ _ | refine Has.below (by assumption) ?_)); done)
          have TA : At ((wr.alloc (.cells #[.int .i64 X, .int .i64 Y] 32)).alloc (.cells #[.int .i64 X2, .int .i64 Y2] 32)) (wr.heap.size + 1) [.int .i64 X2, .int .i64 Y2] := by ((with_reducible repeat' (first | assumption | exact At.new1 _ _ _ | exact At.new2 _ _ _ _ | exact At.new3 _ _ _ _ _ | exact At.nx1 _ _ _ | exact At.nx2 _ _ _ _ | exact At.nx3 _ _ _ _ _ | exact At.ny1 _ _ _ _ | exact At.ny2 _ _ _ _ _ | exact At.ny3 _ _ _ _ _ _ | exact At.nz1 _ _ _ _ _ | exact At.nz2 _ _ _ _ _ _ | exact At.nz3 _ _ _ _ _ _ _ | exact Has.new1 _ _ _ | exact Has.new2 _ _ _ _ | exact Has.new3 _ _ _ _ _ | exact Has.nx1 _ _ _ | exact Has.nx2 _ _ _ _ | exact Has.nx3 _ _ _ _ _ | exact Has.ny1 _ _ _ _ | exact Has.ny2 _ _ _ _ _ | exact Has.ny3 _ _ _ _ _ _ | exact Has.nz1 _ _ _ _ _ | exact Has.nz2 _ _ _ _ _ _ | exact Has.nz3 _ _ _ _ _ _ _ | refine At.fill1 ?_ _ | refine At.fill2 ?_ _ _ | refine At.fill3 ?_ _ _ _ | refine At.swap ?_ (by first | omega | (simp; omega)) _ _ | refine At.alloc ?_ _ | refine At.drew ?_ | refine At.skip ?_ (by first | omega | (simp; omega)) _ _ | refine At.below (by assumption) ?_ | refine Has.alloc ?_ _ | refine Has.drew ?_ | refine Has.set ?_ _ _ _ | refine Has.below (by assumption) ?_)); done)
          replace PA := (PA.alloc (.cells #[.int .i64 X, .int .i64 Y] 32)).alloc (.cells #[.int .i64 X2, .int .i64 Y2] 32)
          replace HC := (HC.alloc (.cells #[.int .i64 X, .int .i64 Y] 32)).alloc (.cells #[.int .i64 X2, .int .i64 Y2] 32)
          replace hown := (hown.alloc (.cells #[.int .i64 X, .int .i64 Y] 32)).alloc (.cells #[.int .i64 X2, .int .i64 Y2] 32)
          generalize hwd : (wr.alloc (.cells #[.int .i64 X, .int .i64 Y] 32)).alloc (.cells #[.int .i64 X2, .int .i64 Y2] 32) = w5 at SA TA PA HC hown ⊢
          clear hwd hX hY hX2 hY2 c0 c1 c2 c3 g1 g2 g4 g5 g7 g8
          generalize wr.heap.size = B15 at SA TA ⊢
          obtain ⟨s0, s1⟩ := SA.c2
          obtain ⟨t0, t1⟩ := TA.c2
          have lPA := PA.lt
          go_wp2_with (at_builtin; refine wpList_append_own _ rfl _ _ 40 rfl (w.heap.size + 1) 47 i0 (.agg #[.int .i64 0, .int .i64 0, .int .i64 0, .int .i64 0, .int .i64 0, .int .i64 0]) 6 48 undT hi hz0 hz1 hz2 rfl (by decide) _ _ _ rfl (hown.alloc _) ⟨w5.heap.size, 0, none⟩ 1 1 (Sh.mk k r X Y X2 Y2).cs rfl rfl ?c1 ?c2 ?c3 ?c4 ?c5 ?_)
          case c1 => intro j u hj; exact news6 (s := Sh.mk k r X Y X2 Y2) hj (by simp [go_sem, Addr.add]) (by simp [go_sem, Addr.add]) (by simp [go_sem, Addr.add]) (by simp [go_sem, Addr.add]) (by simp [go_sem, Addr.add]) (by simp [go_sem, Addr.add])
          case c2 => intro u hu; simp at hu; rcases hu with rfl | rfl | rfl | rfl | rfl | rfl <;> rfl
          case c3 => have := HCN.out; unfold maxLen; omega
          case c4 => have := HCN.out; omega
          case c5 => simp; omega
          intro v' w6 hown' hgrow _
          rw [sc_snoc, ← HS0.out, shL_snoc] at hown'
          obtain ⟨ad', cap', hv'⟩ := own_shape6 hown'
          have PA6 : At w6 w.heap.size (boL a b c d) := (PA.alloc _).grown hgrow (by intro e; have := (hown.lt _ e.symm).1; omega)
          have HC6 : Gr w w6 := Below.grown (HC.alloc _) hgrow (by have := HC.out.size; simp; omega) (fun n hn => by have := (hown.lt n hn).1; omega)
          clear hgrow hown PA HC SA TA s0 s1 t0 t1
          go_wp2
          go_roundw
          case rel => exact ⟨k + 1, x + wide, ad', cap', HKK.out, HXX.out, hv', rfl, rfl, hown', PA6, HC6⟩
          case measure => have := HKK.out; simp [intOf]; omega
        · have hxc' : ¬ x ≤ c := fun h => hkk (hxc.2 h)
          have HE : Hid (r * cols + k = (r + 1) * cols) := by
            show _ = _
            rw [Nat.add_mul]
            omega
          obtain ⟨⟨ba, bb, bc, bd⟩, ⟨bw, bw2, bh, bh2, bl, bl2⟩, hc1⟩ := BB.out
          have hrb : r < 4001 := by
            have h2 := HM2.out
            have h3 := HRR.out
            have h4 : rows * 1 ≤ rows * cols := Nat.mul_le_mul_left rows hc1
            omega
          have cq : 0 ≤ (r : Int) * high := Int.mul_nonneg (by omega) (by omega)
          have hyb : b ≤ y := by have := HY.out; omega
          have g6 : IntKind.i64.wrap (y + high) = y + high := wr64 (by omega) (by have := HYD.out; omega)
          have g14 : IntKind.i64.wrap ((r : Int) + 1) = ((r + 1 : Nat) : Int) := by rw [wr64 (by omega) (by omega)]; simp
          have HYY : Hid (y + high = b + ((r + 1 : Nat) : Int) * high) := by
            show _ = _
            rw [HY.out]
            have e : ((r + 1 : Nat) : Int) * high = (r : Int) * high + high := by
              rw [show ((r + 1 : Nat) : Int) = (r : Int) + 1 by simp, Int.add_mul]; omega
            rw [e]; omega
          clear hkk hk hrb hxc ba bb bc bd bw bw2 bh bh2 bl bl2 hc1 cq hyb
          go_wp2
          go_roundw
          case rel => exact ⟨r + 1, y + high, ad, cap, HRR.out, HYY.out, by rw [HE.out], rfl, rfl, by rw [← HE.out]; exact hown, PA, HC⟩
          case measure => have := HRR.out; simp [intOf]; omega
    · have hyd' : ¬ y ≤ d := fun h => hrr (hyd.2 h)
      obtain rfl : r = rows := by omega
      have HRS := hidb (own_rs hown).1
      clear hrr hr hown hyd
      go_wp2
      go_ret2
      exact ⟨_, rfl, HRS.out, HC⟩
end Go.Proofs.YthpbkomchdgneaaDoor
