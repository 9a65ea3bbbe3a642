/-
  mercatorref4.IsRim, WayOf.
-/
import Derived.Test.YtbkggcfogmgmmaaDoorQJ3
import Derived.Test.YtbkggcfogmgmmaaDoorQRb
namespace Go.Proofs.YtbkggcfogmgmmaaDoor
open Go.RowKit

set_option maxRecDepth 4000 in
set_option maxHeartbeats 8000000 in
theorem isRim_any {pb po m n cap : Nat} {H : Int} {ad : Option Addr} (N c : Nat) (hm : 1 ≤ m) (hN : N = m * n) (hN2 : N ≤ 16384) (hc : c < N) (w : World) (hp : PtR w pb po m H (.slice ad N cap)) : Calls Tryd.prog 26 #[.pointer (some ⟨pb, po, none⟩), .int .i64 (c : Int)] w fun e w' => e = .returned (.bool (decide (rim m n c))) ∧ Gr w w' := by
  have HT := hidb (fun k (hk : k < N) W (hG : Gr w W) => touchOf_any c k hm (by omega) (by omega) W (hp.below hG.out))
  have HE : Hid (decide (rim m n c) = decide (((tcs m c N : Nat) : Int) < 8)) := by
    show _ = _
    apply decide_eq_decide.2
    rw [← tcs_rim (show c < m * n by omega), ← hN]
    omega
  have HP := hidb hp
  have HB := hidb hN2
  clear hm hN hc hp hN2
  go_enter Tryd.func26, Tryd.ntmps26
  go_wp2
  go_loopw [5, 6] (fun s t wr => ∃ k : Nat, k ≤ N ∧ s = .int .i64 ((tcs m c k : Nat) : Int) ∧ t = .int .i64 (k : Int) ∧ Hid (Gr w wr)) (fun _ t _ => N - (intOf t).toNat)
  case atStart => exact ⟨0, Nat.zero_le _, by simp [tcs], rfl, hidb (Gr.refl w)⟩
  case round =>
    obtain ⟨k, hk, rfl, rfl, G⟩ := hrel
    have p2 := (HP.out.below G.out.out).c2
    by_cases h1 : k < N
    · have h1' : (k : Int) < (N : Int) := by omega
      have hb := HB.out
      have e1 : IntKind.i64.wrap ((k : Int) + 1) = ((k + 1 : Nat) : Int) := wrap_in (by omega) (by omega)
      have e2 : IntKind.i64.wrap (((tcs m c k : Nat) : Int) + 1) = ((tcs m c k + 1 : Nat) : Int) := wrap_in (by have := tcs_le m c k; omega) (by have := tcs_le m c k; omega)
      have HC := hidb (HT.out k h1 wr G.out)
      have HSc := hidb (tcs_succ m c k)
      generalize tcs m c k = tk at *
      clear hb h1
      by_cases ht : tch m c k
      · rw [decide_eq_true ht] at HC
        rw [if_pos ht] at HSc
        clear ht
        go_wp2_with fail
        refine HC.out.mono ?_
        rintro e w2 ⟨rfl, hB⟩
        go_wp2
        go_roundw
        case rel => exact ⟨k + 1, by omega, by rw [HSc.out]; rfl, by go_num, hidb (Gr.step G.out hB.out)⟩
        case measure => simp [intOf]; omega
      · rw [decide_eq_false ht] at HC
        rw [if_neg ht] at HSc
        clear ht
        go_wp2_with fail
        refine HC.out.mono ?_
        rintro e w2 ⟨rfl, hB⟩
        go_wp2
        go_roundw
        case rel => exact ⟨k + 1, by omega, by rw [HSc.out]; rfl, by go_num, hidb (Gr.step G.out hB.out)⟩
        case measure => simp [intOf]; omega
    · have hkN : k = N := by omega
      subst hkN
      generalize tcs m c k = tk at *
      go_wp2
      go_ret
      exact ⟨by rw [HE.out]; rfl, G.out⟩
set_option maxRecDepth 4000 in
set_option maxHeartbeats 8000000 in
theorem wayOf_any {pb po m : Nat} {H : Int} {v : Value} (i k : Nat) (hm : 1 ≤ m) (hi : i ≤ 16384) (hk : k ≤ 16384) (ht : i = k ∨ tch m i k) (w : World) (hp : PtR w pb po m H v) : Calls Tryd.prog 18 #[.pointer (some ⟨pb, po, none⟩), .int .i64 (i : Int), .int .i64 (k : Int)] w fun e w' => e = .returned (.int .i64 (wyD m i k : Int)) ∧ Gr w w' := by
  have HP := hidb hp
  obtain ⟨iI, hiI'⟩ : ∃ z : Int, z = (i : Int) := ⟨_, rfl⟩
  obtain ⟨kI, hkI'⟩ : ∃ z : Int, z = (k : Int) := ⟨_, rfl⟩
  obtain ⟨mI, hmI⟩ : ∃ z : Int, z = (m : Int) := ⟨_, rfl⟩
  obtain ⟨q1, r1, s1, s2⟩ := nat_q hiI' hmI (by omega)
  obtain ⟨q2, r2, s3, s4⟩ := nat_q hkI' hmI (by omega)
  have b1 : i % m ≤ i := Nat.mod_le _ _
  have b2 : k % m ≤ k := Nat.mod_le _ _
  have b3 : i / m ≤ i := Nat.div_le_self _ _
  have b4 : k / m ≤ k := Nat.div_le_self _ _
  have hx : (-1 ≤ ((k % m : Nat) : Int) - ((i % m : Nat) : Int) ∧ ((k % m : Nat) : Int) - ((i % m : Nat) : Int) ≤ 1) ∧ (-1 ≤ ((i / m : Nat) : Int) - ((k / m : Nat) : Int) ∧ ((i / m : Nat) : Int) - ((k / m : Nat) : Int) ≤ 1) := by
    rcases ht with rfl | ht
    · omega
    · unfold tch at ht
      obtain ⟨_, h1, h2⟩ := ht
      omega
  have HW : Hid (wyD m i k = wyI (((k % m : Nat) : Int) - ((i % m : Nat) : Int)) (((i / m : Nat) : Int) - ((k / m : Nat) : Int))) := rfl
  generalize wyD m i k = r at *
  generalize i % m = im at *
  generalize k % m = km at *
  generalize i / m = iq at *
  generalize k / m = kq at *
  obtain ⟨x, hx1, e1⟩ : ∃ z : Int, z = (km : Int) - (im : Int) ∧ IntKind.i64.wrap ((km : Int) - (im : Int)) = z := ⟨_, rfl, wrap_in (by omega) (by omega)⟩
  obtain ⟨y, hy1, e2⟩ : ∃ z : Int, z = (iq : Int) - (kq : Int) ∧ IntKind.i64.wrap ((iq : Int) - (kq : Int)) = z := ⟨_, rfl, wrap_in (by omega) (by omega)⟩
  rw [← hx1, ← hy1] at hx HW
  have e0 : ¬ mI = 0 := by omega
  rw [← hmI] at HP
  rw [← hiI', ← hkI']
  obtain ⟨p0, -, -⟩ := HP.out
  clear hp hx1 hy1 b1 b2 b3 b4 hiI' hkI' hmI hm hi hk ht
  have hx' : x = -1 ∨ x = 0 ∨ x = 1 := by omega
  have hy' : y = -1 ∨ y = 0 ∨ y = 1 := by omega
  clear hx
  rcases hx' with rfl | rfl | rfl <;> rcases hy' with rfl | rfl | rfl
  all_goals
    have HR := hidb HW.out
    go_enter Tryd.func18, Tryd.ntmps18
    go_upto_region 1 with fail
    go_quiet (fail)
    go_upto_region 2 with fail
    go_quiet (fail)
    go_wp2
    go_ret
    exact ⟨by rw [HR.out]; rfl, (Gr.refl w).drewN _⟩
end Go.Proofs.YtbkggcfogmgmmaaDoor
