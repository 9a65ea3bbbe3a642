/-
  grid: stands, wrongByte, number.
-/
import Derived.Test.YtfahmaapodoaaaaGreatDoorQGfN
import Derived.Test.YtfahmaapodoaaaaGreatDoorQGqB
import Derived.Lib.AtoiErrMem
namespace Go.Proofs.YtfahmaapodoaaaaGreatDoor
open Go.RowKit GQ

theorem stands_any (b t : Nat) (w : World) : Calls Tryz.prog 36 #[.int .u8 (b : Int), .int .u8 (t : Int)] w fun e w' => e = .returned (.bool (stC b t)) ∧ w' = w := by
  by_cases h1 : t = 48
  · subst h1
    by_cases h2 : 48 ≤ b
    · have HS : Hid (stC b 48 = decide ((b : Int) ≤ 57)) := by
        show _ = _
        unfold stC
        rw [if_pos rfl]
        by_cases h3 : b ≤ 57
        · rw [decide_eq_true ⟨h2, h3⟩, decide_eq_true (by omega)]
        · rw [decide_eq_false (fun k => h3 k.2), decide_eq_false (by omega)]
      have h2' : (48 : Int) ≤ b := by omega
      clear h2
      go_enter Tryz.func36, Tryz.ntmps36
      go_wp2
      go_ret
      exact ⟨by rw [HS.out]; rfl, rfl⟩
    · have HS : Hid (stC b 48 = false) := by
        show _ = _
        unfold stC
        rw [if_pos rfl, decide_eq_false (fun k => h2 k.1)]
      have h2' : ¬ (48 : Int) ≤ b := by omega
      clear h2
      go_enter Tryz.func36, Tryz.ntmps36
      go_wp2
      go_ret
      exact ⟨by rw [HS.out]; rfl, rfl⟩
  · have h1' : ¬ (t : Int) = 48 := by omega
    by_cases h2 : t = 78
    · subst h2
      have HS : Hid (stC b 78 = ((b : Int) == 78 || (b : Int) == 83)) := by
        show _ = _
        unfold stC
        rw [if_neg (by decide), if_pos rfl, show ((b : Int) == 78) = decide (b = 78) from decide_eq_decide.2 (by omega), show ((b : Int) == 83) = decide (b = 83) from decide_eq_decide.2 (by omega), Bool.decide_or]
      clear h1
      go_enter Tryz.func36, Tryz.ntmps36
      go_wp2
      all_goals
        go_ret
        refine ⟨?_, rfl⟩
        rw [HS.out]
        first
          | rfl
          | (rename_i h; rw [h]; rfl)
    · have h2' : ¬ (t : Int) = 78 := by omega
      have HS : Hid (stC b t = decide ((b : Int) = (t : Int))) := by
        show _ = _
        unfold stC
        rw [if_neg h1, if_neg h2]
        by_cases h4 : b = t
        · rw [decide_eq_true h4, decide_eq_true (by omega)]
        · rw [decide_eq_false h4, decide_eq_false (by omega)]
      clear h1 h2
      go_enter Tryz.func36, Tryz.ntmps36
      go_wp2
      go_ret
      exact ⟨by rw [HS.out]; rfl, rfl⟩
theorem pat_fin : ∀ k : Fin 18, ((ByteArray.mk #[48, 48, 78, 32, 48, 48, 48, 48, 48, 48, 32, 48, 48, 48, 48, 48, 48, 48])[k.val]'k.isLt).toNat = pat k.val := by decide
theorem pat_run (k : Nat) (hk : k < 18) (W : World) : (Instr.index 9 (.string ⟨#[48, 48, 78, 32, 48, 48, 48, 48, 48, 48, 32, 48, 48, 48, 48, 48, 48, 48]⟩) (.int .i64 (k : Int))).run Tryz.prog W = .ok (.int .u8 (pat k : Int)) W := by
  have h := pat_fin ⟨k, hk⟩
  dsimp only at h
  rw [run_index_string W 9 _ .i64 (k : Int) Tryz.underlying9, dif_pos ⟨Int.natCast_nonneg k, Int.ofNat_lt.2 hk⟩, ← h]
  rfl
theorem number_any (s : ByteArray) (n : Int) (hl : s.size ≤ 18) (h : Lib.atoi s.data.toList = some n) (w : World) : Calls Tryz.prog 26 #[.string s] w fun e w' => e = .returned (.int .i64 n) ∧ Gr w w' ∧ w.heap.size < w'.heap.size := by
  have H := hidb (fun w => Tryz.strconv_Atoi s n hl h w)
  clear h hl
  go_enter Tryz.func26, Tryz.ntmps26
  go_wp2_with fail
  refine (H.out _).mono ?_
  rintro e w1 ⟨rfl, t, hw⟩
  have hg : Gr w w1 := by rw [hw]; exact Lib.bytesWorld_below _ _ _
  have hs : w.heap.size < w1.heap.size := by rw [hw, Lib.bytesWorld_size]; omega
  clear hw
  go_wp2_with fail
  go_ret
  exact ⟨rfl, hg, hs⟩
end Go.Proofs.YtfahmaapodoaaaaGreatDoor
