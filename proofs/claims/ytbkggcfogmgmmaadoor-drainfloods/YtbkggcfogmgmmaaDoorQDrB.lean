/-
  drain.onRim.
-/
import Derived.Test.YtbkggcfogmgmmaaDoorQDrA
namespace Go.Proofs.YtbkggcfogmgmmaaDoor
open Go.RowKit

set_option maxRecDepth 4000 in
set_option maxHeartbeats 8000000 in
theorem onRim_any {m n : Nat} (ad : Option Addr) (len cap : Nat) (c : Nat) (hm : 1 ≤ m) (hm2 : m ≤ 128) (hn2 : n ≤ 128) (hc : c < m * n) (hll : len = m * n) (w : World) : Calls Tryd.prog 61 #[raV m n (.slice ad len cap), .int .i64 (c : Int)] w fun e w' => e = .returned (.bool (decide (rim m n c))) ∧ Gr w w' := by
  have hle : m * n ≤ 128 * 128 := Nat.mul_le_mul hm2 hn2
  have HN := hidb (fun d (hd : d ≤ 8) w => neighbour_any ad len cap c d hm hm2 hn2 (by omega : c ≤ 16384) (by omega) hd w)
  have HR := hidb (rim_iff hc)
  have A1 := hidb (At.new3 w (.int .i64 (m : Int)) (.int .i64 (n : Int)) (.slice ad len cap) 27)
  have HW := hidb ((Gr.refl w).alloc (.cells #[.int .i64 (m : Int), .int .i64 (n : Int), .slice ad len cap] 27))
  obtain ⟨r, hr⟩ : ∃ z : Bool, z = decide (rim m n c) := ⟨_, rfl⟩
  rw [← hr]
  have HRr := hidb hr
  clear hll hr hm hm2 hn2 hc hle
  go_enter Tryd.func61, Tryd.ntmps61
  go_wp2
  generalize w.alloc (.cells #[.int .i64 (m : Int), .int .i64 (n : Int), .slice ad len cap] 27) = w1 at *
  go_loopw [8] (fun t wr => ∃ (k : Nat), k ≤ 8 ∧ t = .int .i64 (k : Int) ∧ Hid ((∀ d, d < k → nbO m n c d ≠ none) ∧ Gr w1 wr)) (fun t _ => 8 - (intOf t).toNat)
  case atStart => exact ⟨0, Nat.zero_le _, rfl, hidb ⟨fun d hd => absurd hd (Nat.not_lt_zero _), Gr.refl _⟩⟩
  case round =>
    obtain ⟨k, hk, rfl, E⟩ := hrel
    by_cases h1 : k < 8
    · have h1' : (k : Int) < 8 := by omega
      obtain ⟨q0, q1, q2⟩ := (At.below E.out.2.out A1.out).c3
      have e1 : IntKind.i64.wrap ((k : Int) + 1) = ((k + 1 : Nat) : Int) := wrap_in (by omega) (by omega)
      have HK := hidb (HN.out k (by omega) wr)
      cases ho : nbO m n c k with
      | none =>
        have HE : Hid (r = true) := by show _ = _; rw [HRr.out]; exact decide_eq_true (HR.out.2 ⟨k, h1, ho⟩)
        rw [ho] at HK
        clear ho h1
        go_wp2_with fail
        refine HK.out.mono ?_
        rintro e w2 ⟨rfl, hB⟩
        unfold nbA
        go_wp2
        go_ret
        exact ⟨by rw [HE.out]; rfl, Gr.step (Gr.step HW.out E.out.2.out) hB.out⟩
      | some kk =>
        have HE : Hid (∀ d, d < k + 1 → nbO m n c d ≠ none) := fun d hd => by
          by_cases e : d = k
          · rw [e, ho]; exact fun h => by cases h
          · exact E.out.1 d (by omega)
        rw [ho] at HK
        clear ho h1
        go_wp2_with fail
        refine HK.out.mono ?_
        rintro e w2 ⟨rfl, hB⟩
        unfold nbA
        go_wp2
        go_roundw
        case rel => exact ⟨k + 1, by omega, by go_num, hidb ⟨HE.out, Gr.step E.out.2 hB.out⟩⟩
        case measure => simp [intOf]; omega
    · have HE : Hid (r = false) := by
        show _ = _
        rw [HRr.out]
        refine decide_eq_false (fun h => ?_)
        obtain ⟨d, hd, hn⟩ := HR.out.1 h
        exact E.out.1 d (by omega) hn
      have h1' : ¬ (k : Int) < 8 := by omega
      clear h1
      go_wp2
      go_ret
      exact ⟨by rw [HE.out]; rfl, Gr.step HW.out E.out.2.out⟩
end Go.Proofs.YtbkggcfogmgmmaaDoor
