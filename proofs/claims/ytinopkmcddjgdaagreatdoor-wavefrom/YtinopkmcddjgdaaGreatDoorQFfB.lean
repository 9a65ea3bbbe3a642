/-
  mercatorref2: latAt, LatOf.
-/
import Derived.Test.YtinopkmcddjgdaaGreatDoorQFfA
namespace Go.Proofs.YtinopkmcddjgdaaGreatDoor
open Go.RowKit FB
attribute [local go_sem] run_store_float

set_option maxHeartbeats 4000000 in
theorem latAt_iso (a f m goal : Nat) (k : ByteArray) (mid : Int) (og : Option Nat) (hf : Le 1021 f) (hg : Got og goal) (w : World) : Calls Tryz.prog 85 #[pV a f k mid m, .bool false, .float .f64 goal] w fun e w' => e = .returned (.int .i64 (srch fun m' => leO (isO f m') og)) ∧ Gr w w' := by
  have HG := hid hg
  clear hg
  obtain ⟨t, ht⟩ : ∃ t, (fun m' => leO (isO f m') og) = t := ⟨_, rfl⟩
  have HT : Hid (∀ m' r, GW (isO f m') r → leB r goal = t m') := fun m' r h => by rw [← ht, leO_got h.1 HG.out]
  rw [ht]
  clear ht HG
  go_enter Tryz.func85, Tryz.ntmps85
  go_upto_region 1 with fail
  have PA : At (w.alloc (.cells #[.float .f64 a, .float .f64 f, .string k, .int .i64 mid, .float .f64 m] 120)) w.heap.size (pL a f k mid m) := At.new5 w _ _ _ _ _ _
  have HC : Gr w (w.alloc (.cells #[.float .f64 a, .float .f64 f, .string k, .int .i64 mid, .float .f64 m] 120)) := (Gr.refl w).alloc _
  generalize w.alloc (.cells #[.float .f64 a, .float .f64 f, .string k, .int .i64 mid, .float .f64 m] 120) = w1 at *
  go_wp2
  go_loopw [7, 8] (fun s u wr => ∃ (lo hi : Int) (n : Nat), -89000000000 ≤ lo ∧ lo < hi ∧ hi ≤ 89000000001 ∧ hi - lo ≤ 2 ^ n ∧ Hid (bis t n lo hi = srch t) ∧ s = .int .i64 lo ∧ u = .int .i64 hi ∧ At wr w.heap.size (pL a f k mid m) ∧ Gr w wr) (fun s u _ => (intOf u - intOf s).toNat)
  case atStart => exact ⟨-89000000000, 89000000001, 38, by decide, by decide, by decide, by decide, rfl, rfl, rfl, PA, HC⟩
  case round =>
    clear HC PA
    obtain ⟨lo, hi, n, h1, h2, h3, h4, HB, rfl, rfl, PA, HC⟩ := hrel
    have HP := hid h4
    clear h4
    by_cases hlt : 1 < hi - lo
    · obtain ⟨n', rfl⟩ : ∃ n', n = n' + 1 := by
        rcases n with _ | n'
        · exfalso; have := HP.out; simp at this; omega
        · exact ⟨n', rfl⟩
      have hp : ∀ a : Int, a * 2 ≤ hi - lo + 1 → a ≤ 2 ^ n' := by
        intro a ha
        have := HP.out
        rw [Int.pow_succ] at this
        generalize (2 : Int) ^ n' = P at this ⊢
        omega
      have HQ := hid hp
      clear hp
      have HT4 := hid (show bis t (n' + 1) lo hi = if t ((lo + hi) / 2) then bis t n' ((lo + hi) / 2) hi else bis t n' lo ((lo + hi) / 2) by
        show (if 1 < hi - lo then _ else _) = _
        rw [if_pos hlt])
      obtain ⟨c0, c1, c2, c3, c4⟩ := PA.c5
      have key : ((lo + hi).tmod 2 != 0) = decide ((lo + hi) % 2 = 1) := odd_test _
      have hpar : (((lo + hi).tmod 2 != 0) = false ∧ lo + (hi - lo).tdiv 2 = (lo + hi) / 2) ∨ (((lo + hi).tmod 2 != 0) = true ∧ (lo + hi - 1).tdiv 2 = (lo + hi) / 2) := by
        rw [key]
        by_cases c : (lo + hi) % 2 = 1
        · refine .inr ⟨by simp [c], ?_⟩
          obtain ⟨q, hq⟩ : ∃ q, lo + hi - 1 = 2 * q := ⟨(lo + hi - 1) / 2, by omega⟩
          rw [hq, Int.mul_tdiv_cancel_left _ (by decide)]; omega
        · refine .inl ⟨by simp [c], ?_⟩
          obtain ⟨q, hq⟩ : ∃ q, hi - lo = 2 * q := ⟨(hi - lo) / 2, by omega⟩
          rw [hq, Int.mul_tdiv_cancel_left _ (by decide)]; omega
      clear key
      rcases hpar with ⟨hp1, hp2⟩ | ⟨hp1, hp2⟩
      all_goals
        have HP2 := hid hp2
        clear hp2
        go_wp2_with fail
        first | rw [show (lo + hi - 1).tdiv 2 = (lo + hi) / 2 from HP2.out] | rw [show lo + (hi - lo).tdiv 2 = (lo + hi) / 2 from HP2.out] | rw [show lo + (hi - lo) / 2 = (lo + hi) / 2 by omega]
        refine (isoOf_any a f _ hf _).mono ?_
        rintro x w2 ⟨r, rfl, hr, hB⟩
        have ht := HT.out _ _ hr
        clear hr
        replace HC : Gr w w2 := Gr.step HC hB
        replace PA : At w2 w.heap.size (pL a f k mid m) := At.below hB PA
        clear hB HT c0 c1 c2 c3 c4
        generalize t ((lo + hi) / 2) = tt at ht HT4
        unfold leB at ht
        cases tt with
        | true =>
          go_wp2
          go_roundw
          case rel => exact ⟨(lo + hi) / 2, hi, n', by omega, by omega, by omega, HQ.out _ (by omega), by rw [← HB.out, HT4.out]; rfl, by first | rfl | (rw [HP2.out]) | (congr 1; omega), rfl, PA, HC⟩
          case measure => simp [intOf]; first | omega | (have := HP2.out; omega)
        | false =>
          go_wp2
          go_roundw
          case rel => exact ⟨lo, (lo + hi) / 2, n', by omega, by omega, by omega, HQ.out _ (by omega), by rw [← HB.out, HT4.out]; rfl, rfl, by first | rfl | (rw [HP2.out]) | (congr 1; omega), PA, HC⟩
          case measure => simp [intOf]; first | omega | (have := HP2.out; omega)
    · have HS := hid (bis_stop t n lo hi hlt)
      go_wp2
      go_ret
      exact ⟨by rw [← HB.out, HS.out]; rfl, HC⟩
set_option maxHeartbeats 4000000 in
theorem latAt_up (a f m goal : Nat) (k : ByteArray) (mid : Int) (og : Option Nat) (hf : Le 1021 f) (hg : Got og goal) (w : World) : Calls Tryz.prog 85 #[pV a f k mid m, .bool true, .float .f64 goal] w fun e w' => e = .returned (.int .i64 (srch fun m' => leO (upS a m f (sinV (nrm m'))) og)) ∧ Gr w w' := by
  have HG := hid hg
  clear hg
  obtain ⟨t, ht⟩ : ∃ t, (fun m' => leO (upS a m f (sinV (nrm m'))) og) = t := ⟨_, rfl⟩
  have HT : Hid (∀ m' r, GW (upS a m f (sinV (nrm m'))) r → leB r goal = t m') := fun m' r h => by rw [← ht, leO_got h.1 HG.out]
  rw [ht]
  clear ht HG
  go_enter Tryz.func85, Tryz.ntmps85
  go_upto_region 1 with fail
  have PA : At (w.alloc (.cells #[.float .f64 a, .float .f64 f, .string k, .int .i64 mid, .float .f64 m] 120)) w.heap.size (pL a f k mid m) := At.new5 w _ _ _ _ _ _
  have HC : Gr w (w.alloc (.cells #[.float .f64 a, .float .f64 f, .string k, .int .i64 mid, .float .f64 m] 120)) := (Gr.refl w).alloc _
  generalize w.alloc (.cells #[.float .f64 a, .float .f64 f, .string k, .int .i64 mid, .float .f64 m] 120) = w1 at *
  go_wp2
  go_loopw [7, 8] (fun s u wr => ∃ (lo hi : Int) (n : Nat), -89000000000 ≤ lo ∧ lo < hi ∧ hi ≤ 89000000001 ∧ hi - lo ≤ 2 ^ n ∧ Hid (bis t n lo hi = srch t) ∧ s = .int .i64 lo ∧ u = .int .i64 hi ∧ At wr w.heap.size (pL a f k mid m) ∧ Gr w wr) (fun s u _ => (intOf u - intOf s).toNat)
  case atStart => exact ⟨-89000000000, 89000000001, 38, by decide, by decide, by decide, by decide, rfl, rfl, rfl, PA, HC⟩
  case round =>
    clear HC PA
    obtain ⟨lo, hi, n, h1, h2, h3, h4, HB, rfl, rfl, PA, HC⟩ := hrel
    have HP := hid h4
    clear h4
    by_cases hlt : 1 < hi - lo
    · obtain ⟨n', rfl⟩ : ∃ n', n = n' + 1 := by
        rcases n with _ | n'
        · exfalso; have := HP.out; simp at this; omega
        · exact ⟨n', rfl⟩
      have hp : ∀ a : Int, a * 2 ≤ hi - lo + 1 → a ≤ 2 ^ n' := by
        intro a ha
        have := HP.out
        rw [Int.pow_succ] at this
        generalize (2 : Int) ^ n' = P at this ⊢
        omega
      have HQ := hid hp
      clear hp
      have HT4 := hid (show bis t (n' + 1) lo hi = if t ((lo + hi) / 2) then bis t n' ((lo + hi) / 2) hi else bis t n' lo ((lo + hi) / 2) by
        show (if 1 < hi - lo then _ else _) = _
        rw [if_pos hlt])
      obtain ⟨c0, c1, c2, c3, c4⟩ := PA.c5
      have key : ((lo + hi).tmod 2 != 0) = decide ((lo + hi) % 2 = 1) := odd_test _
      have hpar : (((lo + hi).tmod 2 != 0) = false ∧ lo + (hi - lo).tdiv 2 = (lo + hi) / 2) ∨ (((lo + hi).tmod 2 != 0) = true ∧ (lo + hi - 1).tdiv 2 = (lo + hi) / 2) := by
        rw [key]
        by_cases c : (lo + hi) % 2 = 1
        · refine .inr ⟨by simp [c], ?_⟩
          obtain ⟨q, hq⟩ : ∃ q, lo + hi - 1 = 2 * q := ⟨(lo + hi - 1) / 2, by omega⟩
          rw [hq, Int.mul_tdiv_cancel_left _ (by decide)]; omega
        · refine .inl ⟨by simp [c], ?_⟩
          obtain ⟨q, hq⟩ : ∃ q, hi - lo = 2 * q := ⟨(hi - lo) / 2, by omega⟩
          rw [hq, Int.mul_tdiv_cancel_left _ (by decide)]; omega
      clear key
      rcases hpar with ⟨hp1, hp2⟩ | ⟨hp1, hp2⟩
      all_goals
        have HP2 := hid hp2
        clear hp2
        go_wp2_with fail
        first | rw [show (lo + hi - 1).tdiv 2 = (lo + hi) / 2 from HP2.out] | rw [show lo + (hi - lo).tdiv 2 = (lo + hi) / 2 from HP2.out] | rw [show lo + (hi - lo) / 2 = (lo + hi) / 2 by omega]
        refine (upOf_any a f m k mid _ hf _).mono ?_
        rintro x w2 ⟨r, rfl, hr, hB⟩
        have ht := HT.out _ _ hr
        clear hr
        replace HC : Gr w w2 := Gr.step HC hB
        replace PA : At w2 w.heap.size (pL a f k mid m) := At.below hB PA
        clear hB HT c0 c1 c2 c3 c4
        generalize t ((lo + hi) / 2) = tt at ht HT4
        unfold leB at ht
        cases tt with
        | true =>
          go_wp2
          go_roundw
          case rel => exact ⟨(lo + hi) / 2, hi, n', by omega, by omega, by omega, HQ.out _ (by omega), by rw [← HB.out, HT4.out]; rfl, by first | rfl | (rw [HP2.out]) | (congr 1; omega), rfl, PA, HC⟩
          case measure => simp [intOf]; first | omega | (have := HP2.out; omega)
        | false =>
          go_wp2
          go_roundw
          case rel => exact ⟨lo, (lo + hi) / 2, n', by omega, by omega, by omega, HQ.out _ (by omega), by rw [← HB.out, HT4.out]; rfl, rfl, by first | rfl | (rw [HP2.out]) | (congr 1; omega), PA, HC⟩
          case measure => simp [intOf]; first | omega | (have := HP2.out; omega)
    · have HS := hid (bis_stop t n lo hi hlt)
      go_wp2
      go_ret
      exact ⟨by rw [← HB.out, HS.out]; rfl, HC⟩
theorem latOf_any (a f goal : Nat) (og : Option Nat) (hf : Le 1021 f) (hg : Got og goal) (w : World) : Calls Tryz.prog 56 #[.agg #[.float .f64 a, .float .f64 f], .float .f64 goal] w fun e w' => e = .returned (.int .i64 (srch fun m' => leO (isO f m') og)) ∧ Gr w w' := by
  go_enter Tryz.func56, Tryz.ntmps56
  go_wp2_with fail
  refine (latAt_iso a f 0 goal ⟨#[]⟩ 0 og hf hg _).mono ?_
  rintro x w1 ⟨rfl, hB⟩
  have HC : Gr w w1 := Gr.step (by ((with_reducible repeat' (first | assumption | refine Gr.drewN ?_ _ | refine Gr.drew ?_ | refine Gr.alloc ?_ _ | exact Gr.refl _)); done)) hB
  go_wp2
  go_ret
  exact ⟨rfl, HC⟩
end Go.Proofs.YtinopkmcddjgdaaGreatDoor
