/-
  The closed sentence Names: its walk.
-/
import Derived.Test.YtcbiigmnldcggaaDoorCode
import Derived.Deep.QuietTactic
import Derived.BigQuiet
import Derived.WalkSmall
namespace Go.Proofs.YtcbiigmnldcggaaDoor
open Go.RowKit Go.Extern.Stop Go.Stop Go.Extern

set_option maxHeartbeats 1000000 in
theorem names_walk (a : Nat → Addr) (w : World) (hl : Laid w a) :
    Calls Tryd.prog 3 #[] w fun e w' => e = .returned (.bool true) ∧ Below w.heap.size w w' := by
  have c0 : w.cell? ⟨0, 0, none⟩ = some (.iface 173 (.pointer (some (a 0)))) := hl.cell 0 (by decide)
  have c1 : w.cell? ⟨1, 0, none⟩ = some (.iface 173 (.pointer (some (a 1)))) := hl.cell 1 (by decide)
  have c2 : w.cell? ⟨2, 0, none⟩ = some (.iface 173 (.pointer (some (a 2)))) := hl.cell 2 (by decide)
  have c3 : w.cell? ⟨3, 0, none⟩ = some (.iface 173 (.pointer (some (a 3)))) := hl.cell 3 (by decide)
  have c4 : w.cell? ⟨4, 0, none⟩ = some (.iface 173 (.pointer (some (a 4)))) := hl.cell 4 (by decide)
  have c5 : w.cell? ⟨5, 0, none⟩ = some (.iface 173 (.pointer (some (a 5)))) := hl.cell 5 (by decide)
  have c6 : w.cell? ⟨6, 0, none⟩ = some (.iface 173 (.pointer (some (a 6)))) := hl.cell 6 (by decide)
  have c7 : w.cell? ⟨7, 0, none⟩ = some (.iface 173 (.pointer (some (a 7)))) := hl.cell 7 (by decide)
  go_enter Tryd.func3, Tryd.ntmps3
  go_wp2_with fail
  clear c0 c1 c2 c3 c4 c5 c6 c7
  have h8 := fun k hk => eight_at a w 23 k hk
  simp only [eight, sent] at h8
  have hl1 := hl.alloc (.cells (eight a) 23)
  simp only [eight, sent] at hl1
  go_loopw [4] (fun t wr => ∃ i : Nat, i ≤ 8 ∧ t = .int .i64 i ∧ Laid wr a ∧ (∀ k, k < 8 → wr.cell? ⟨w.heap.size, k, none⟩ = some (.iface 173 (.pointer (some (a k))))) ∧ Below w.heap.size w wr ∧ w.heap.size < wr.heap.size) (fun t _ => 8 - (intOf t).toNat)
  case atStart => exact ⟨0, by omega, rfl, hl1, h8, (Below.refl _ _).alloc (Nat.le_refl _) _, by simp⟩
  case round =>
    obtain ⟨i, hi, rfl, hL, hC, hB, hS⟩ := hrel
    clear h8 hl1 hl
    by_cases hlt : i < 8
    · have hd : decide ((i : Int) < 8) = true := by simp; omega
      go_wp2_with fail
      go_loopw [5] (fun t wq => ∃ k : Nat, k ≤ i ∧ t = .int .i64 k ∧ Laid wq a ∧ (∀ k, k < 8 → wq.cell? ⟨w.heap.size, k, none⟩ = some (.iface 173 (.pointer (some (a k))))) ∧ Below w.heap.size w wq ∧ w.heap.size < wq.heap.size) (fun t _ => i - (intOf t).toNat)
      case atStart => exact ⟨0, by omega, rfl, hL, hC, hB, hS⟩
      case round =>
        clear hL hC hB hS
        obtain ⟨k, hk, rfl, hL, hC, hB, hS⟩ := hrel
        have hci := hC i hlt
        by_cases hlk : k < i
        · have hne := hL.ne i k hlt (by omega) (by omega)
          have hck := hC k (by omega)
          obtain ⟨ci, ti, hri⟩ := hL.row i hlt
          obtain ⟨ck, tk, hrk⟩ := hL.row k (by omega)
          go_wp2_with fail
          go_quiet ((go_at_call 7; exact Calls.quiet_of_same (is_other (a i) (a k) ci ck ti tk _ hne (by exact hri) (by exact hrk))))
          go_wp2
          go_roundw
          case rel => exact ⟨k + 1, by omega, by go_num, hL.below (below_drewN (Below.refl _ _) nq), hC, below_drewN hB nq, hS⟩
          case measure => simp [intOf]; omega
        · go_wp2_with fail
          refine (coded_sent a i hlt _ _ hL).mono ?_
          rintro e w2 ⟨rfl, hb⟩
          have hz : ((i : Int) + 1 == (i : Int) + 1) = true := by simp
          have hC2 : ∀ k, k < 8 → w2.cell? ⟨w.heap.size, k, none⟩ = some (.iface 173 (.pointer (some (a k)))) := fun k hk => (hb.cell (p := ⟨w.heap.size, k, none⟩) hS).trans (hC k hk)
          have hL2 := hL.below hb
          have hS2 : w.heap.size < w2.heap.size := Nat.lt_of_lt_of_le hS hb.size
          have hB2 : Below w.heap.size w w2 := hB.trans (hb.mono (Nat.le_of_lt hS))
          clear hL hC hB hS hb hci
          go_wp2
          go_roundw
          case rel => exact ⟨i + 1, by omega, by go_num, hL2, hC2, hB2, hS2⟩
          case measure => simp [intOf]; omega
    · go_wp2_with fail
      go_ret
      exact ⟨rfl, hB⟩
end Go.Proofs.YtcbiigmnldcggaaDoor
