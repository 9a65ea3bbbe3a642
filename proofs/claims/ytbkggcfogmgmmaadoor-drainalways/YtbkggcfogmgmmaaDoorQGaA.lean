/-
  drain.rains, slices.Clone of whole numbers, drain.Way.
-/
import Derived.Test.YtbkggcfogmgmmaaDoorQDgA
import Derived.Test.YtbkggcfogmgmmaaDoorQDrQ
import Derived.Test.YtbkggcfogmgmmaaDoorQJ5
import Derived.Test.YtbkggcfogmgmmaaDoorQDrT
namespace Go.Proofs.YtbkggcfogmgmmaaDoor
open Go.RowKit
attribute [local go_sem ↓] Go.wp_at_zero Go.wp_at_succ

/-- Can so much rain on each? -/
def rainI (x : Int) : Prop := 0 ≤ x ∧ x ≤ 1048576
instance (x : Int) : Decidable (rainI x) := by unfold rainI; exact inferInstance
def rainsB (l : List Int) : Bool := decide (∀ x ∈ l, rainI x)
theorem rain_all {l : List Int} (h : ∀ i, i < l.length → rainI (gl l i)) : ∀ x ∈ l, rainI x := by
  intro x hx
  obtain ⟨i, hi, rfl⟩ := List.getElem_of_mem hx
  rw [gl_get hi]
  exact h i hi
set_option maxRecDepth 4000 in
set_option maxHeartbeats 4000000 in
theorem rains_any (ad : Option Addr) (b o cap : Nat) (l : List Int) (w : World) (h : ISl w ad b o cap l) (ll : l.length ≤ 20000) : Calls Tryd.prog 40 #[.slice ad l.length cap] w fun e w' => e = .returned (.bool (rainsB l)) ∧ w' = w := by
  obtain ⟨r, hr⟩ : ∃ z : Bool, z = rainsB l := ⟨_, rfl⟩
  rw [← hr]
  have HR := hidb hr
  have HI := hidb h
  obtain ⟨N, hN⟩ : ∃ N, N = l.length := ⟨_, rfl⟩
  have HN := hidb (show N = l.length ∧ N ≤ 20000 from ⟨hN, by omega⟩)
  rw [← hN]
  clear h ll hr hN
  go_enter Tryd.func40, Tryd.ntmps40
  go_wp2
  go_loopw [7] (fun t wr => ∃ k : Nat, k ≤ N ∧ t = .int .i64 (k : Int) ∧ Hid (wr = w ∧ ∀ i, i < k → rainI (gl l i))) (fun t _ => N - (intOf t).toNat)
  case atStart => exact ⟨0, Nat.zero_le _, rfl, hidb ⟨rfl, fun i hi => absurd hi (Nat.not_lt_zero _)⟩⟩
  case round =>
    obtain ⟨k, hk, rfl, E⟩ := hrel
    have hwr := E.out.1
    subst hwr
    by_cases h1 : ¬ k < N
    · have h1' : ¬ (k : Int) < (N : Int) := by omega
      have HE : Hid (r = true) := by
        show _ = _
        rw [HR.out]
        exact decide_eq_true (rain_all (fun i hi => E.out.2 i (by have := HN.out; omega)))
      clear h1
      go_wp2
      go_ret
      exact ⟨by rw [HE.out]; rfl, rfl⟩
    · have h1' : (k : Int) < (N : Int) := by omega
      have hkl : k < l.length := by have := HN.out; omega
      have e1 : IntKind.i64.wrap ((k : Int) + 1) = ((k + 1 : Nat) : Int) := by rw [show (k : Int) + 1 = ((k + 1 : Nat) : Int) by omega]; exact wrap_in (by have := HN.out; omega) (by have := HN.out; omega)
      have ix := HI.out.ix k hkl
      have c := HI.out.gcell hkl
      rw [← HN.out.1] at ix
      have HW := hidb (fun w => dwithin_any (gl l k) 0 1048576 w)
      by_cases hx : rainI (gl l k)
      · have HS : Hid (∀ i, i < k + 1 → rainI (gl l i)) := fun i hi => by
          by_cases e : i = k
          · rw [e]; exact hx
          · exact E.out.2 i (by omega)
        rw [inI_of hx] at HW
        generalize gl l k = x at *
        clear hx h1 hkl E
        go_wp2_with fail
        refine (HW.out _).mono ?_
        rintro e w2 ⟨rfl, rfl⟩
        go_wp2
        go_roundw
        case rel => exact ⟨k + 1, by omega, by go_num, hidb ⟨by trivial, HS.out⟩⟩
        case measure => simp [intOf]; omega
      · have HE : Hid (r = false) := by
          show _ = _
          rw [HR.out]
          exact decide_eq_false (fun h => hx (by rw [← gl_get hkl]; exact h _ (List.getElem_mem hkl)))
        rw [inI_not hx] at HW
        generalize gl l k = x at *
        clear hx h1 hkl E
        go_wp2_with fail
        refine (HW.out _).mono ?_
        rintro e w2 ⟨rfl, rfl⟩
        go_wp2
        go_ret
        exact ⟨by rw [HE.out]; rfl, rfl⟩
end Go.Proofs.YtbkggcfogmgmmaaDoor
