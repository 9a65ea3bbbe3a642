/-
  grid.wrongByte.
-/
import Derived.Test.YtfahmaapodoaaaaGreatDoorQGfR
namespace Go.Proofs.YtfahmaapodoaaaaGreatDoor
open Go.RowKit GQ

set_option maxHeartbeats 2000000 in
theorem wrong_w (s : ByteArray) (hs : s.size ≤ 200) (r : Int) (hr : (∃ k : Nat, k < 18 ∧ Fst s k ∧ r = (k : Int)) ∨ ((∀ j, j < 18 → okA s j) ∧ ((18 < s.size ∧ r = 18) ∨ (s.size = 18 ∧ r = -1)))) (w : World) : Calls Tryz.prog 25 #[.string s] w fun e w' => e = .returned (.int .i64 r) ∧ Gr w w' := by
  have HR := hidb hr
  clear hr
  go_enter Tryz.func25, Tryz.ntmps25
  go_wp2
  go_loopw [4] (fun t wr => ∃ k : Nat, t = .int .i64 (k : Int) ∧ k ≤ 18 ∧ Hid (∀ j, j < k → okA s j) ∧ Gr w wr) (fun t _ => 18 - (intOf t).toNat)
  case atStart => exact ⟨0, rfl, by omega, fun j h => absurd h (by omega), Gr.refl _⟩
  case round =>
    obtain ⟨k, rfl, hk, HK, HC⟩ := hrel
    by_cases h18 : k = 18
    · subst h18
      rcases HR.out with ⟨m, hm, hf, hr⟩ | ⟨-, ⟨h1, hr⟩ | ⟨h1, hr⟩⟩
      · exact absurd (HK.out m hm) hf.2
      · have h1' : (18 : Int) < (s.size : Int) := by omega
        subst hr
        clear h1 hk hs
        go_wp2
        go_ret
        exact ⟨rfl, HC⟩
      · have h1' : ¬ (18 : Int) < (s.size : Int) := by omega
        subst hr
        clear h1 hk hs
        go_wp2
        go_ret
        exact ⟨rfl, HC⟩
    · have hk' : (k : Int) < 18 := by omega
      have HP := hidb (fun W => stands_any (bt s k) (pat k) W)
      have hp := fun W => pat_run k (by omega) W
      have ew : IntKind.i64.wrap ((k : Int) + 1) = k + 1 := wrq (by omega) (by omega)
      by_cases hin : k < s.size
      · have hne : ¬ (k : Int) = (s.size : Int) := by omega
        have hb := bt_in hin
        rw [hb] at HP
        by_cases ho : okA s k
        · have HK2 : Hid (∀ j, j < k + 1 → okA s j) := fun j hj => by
            by_cases e : j = k
            · rw [e]; exact ho
            · exact HK.out j (by omega)
          have ho' : stC s[k].toNat (pat k) = true := by rw [← hb]; exact ho
          rw [ho'] at HP
          have H18 := hidb h18
          clear hb ho ho' h18 hk
          go_upto_region 4 with fail
          go_quiet ((go_at_call 36; exact Calls.quiet_of_same (HP.out _)))
          go_wp2_with fail
          go_roundw
          case rel => exact ⟨k + 1, by simp, by have := H18.out; omega, HK2, by ((with_reducible repeat' (first | assumption | refine Gr.drewN ?_ _ | refine Gr.drew ?_ | refine Gr.alloc ?_ _ | exact Gr.refl _)); done)⟩
          case measure => have := H18.out; simp [intOf]; omega
        · have hr : r = (k : Int) := by
            rcases HR.out with ⟨m, hm, hf, hr⟩ | ⟨h1, -⟩
            · rw [hr, hf.uniq ⟨HK.out, ho⟩]
            · exact absurd (h1 k (by omega)) ho
          have ho' : stC s[k].toNat (pat k) = false := by rw [← hb]; unfold okA at ho; simpa using ho
          rw [ho'] at HP
          subst hr
          clear hb ho ho' h18 hk
          go_upto_region 4 with fail
          go_quiet ((go_at_call 36; exact Calls.quiet_of_same (HP.out _)))
          go_wp2_with fail
          go_ret
          exact ⟨rfl, by ((with_reducible repeat' (first | assumption | refine Gr.drewN ?_ _ | refine Gr.drew ?_ | refine Gr.alloc ?_ _ | exact Gr.refl _)); done)⟩
      · have hb := bt_out hin
        have ho : ¬ okA s k := fun h => hin (okA_lt (by omega) h)
        have hr : r = (k : Int) := by
          rcases HR.out with ⟨m, hm, hf, hr⟩ | ⟨h1, -⟩
          · rw [hr, hf.uniq ⟨HK.out, ho⟩]
          · exact absurd (h1 k (by omega)) ho
        have hle : k ≤ s.size := Fst.le (s := s) (k := k) ⟨HK.out, ho⟩ (by omega)
        have heq : k = s.size := by omega
        subst hr
        subst heq
        clear hb ho h18 hk hin hle
        go_upto_region 4 with fail
        go_quiet (fail)
        go_wp2_with fail
        go_ret
        exact ⟨rfl, by ((with_reducible repeat' (first | assumption | refine Gr.drewN ?_ _ | refine Gr.drew ?_ | refine Gr.alloc ?_ _ | exact Gr.refl _)); done)⟩
end Go.Proofs.YtfahmaapodoaaaaGreatDoor
