/-
  mercatorref3.RastersError; mercatorlaw3.small, nothing, sameInts, is; field.alike.
-/
import Derived.Test.YtbkggcfogmgmmaaDoorQFdB
namespace Go.Proofs.YtbkggcfogmgmmaaDoor
open Go.RowKit

/-- Two rasters of one size: which error. -/
def acode (W H : Int) (l : List Int) (W' H' : Int) (l' : List Int) : Nat := if vcode W H l = 0 then (if vcode W' H' l' = 0 then (if W = W' ∧ H = H' then 0 else 3) else vcode W' H' l') else vcode W H l
set_option maxRecDepth 4000 in
set_option maxHeartbeats 4000000 in
theorem sameInts_eq {ad ad' : Option Addr} {b b' o o' cap cap' : Nat} {l : List Int} (hn : l.length ≤ 20000) (w : World) (h : ISl w ad b o cap l) (h' : ISl w ad' b' o' cap' l) : Calls Tryd.prog 17 #[.slice ad l.length cap, .slice ad' l.length cap'] w fun e w' => e = .returned (.bool true) ∧ Gr w w' := by
  have HA := hidb h
  have HB := hidb h'
  clear h h'
  obtain ⟨p, hp⟩ : ∃ p, p = l.length := ⟨_, rfl⟩
  have HI : Hid (∀ k : Nat, k < p → ∀ w, (Instr.indexAt 25 (.slice ad p cap) (.int .i64 k)).run Tryd.prog w = .ok (.pointer (some ⟨b, o + k, none⟩)) w) := by rw [hp]; exact HA.out.ix
  have HI' : Hid (∀ k : Nat, k < p → ∀ w, (Instr.indexAt 25 (.slice ad' p cap') (.int .i64 k)).run Tryd.prog w = .ok (.pointer (some ⟨b', o' + k, none⟩)) w) := by rw [hp]; exact HB.out.ix
  rw [← hp] at hn ⊢
  have HP := hidb hp
  clear hp
  go_enter Tryd.func17, Tryd.ntmps17
  go_wp2
  go_loopw [5] (fun t wr => ∃ (k : Nat), k ≤ p ∧ t = .int .i64 k ∧ Gr w wr) (fun t _ => p - (intOf t).toNat)
  case atStart => exact ⟨0, by omega, rfl, Gr.refl _⟩
  case round =>
    obtain ⟨k, hk, rfl, hB⟩ := hrel
    by_cases h1 : k < p
    · have h1a : k < l.length := by rw [← HP.out]; exact h1
      have ca := (HA.out.below hB.out).cell h1a
      have ca' := (HB.out.below hB.out).cell h1a
      have ixa := HI.out k h1
      have ixa' := HI'.out k h1
      have h1' : (k : Int) < (p : Int) := by omega
      have e5 : IntKind.i64.wrap ((k : Int) + 1) = ((k + 1 : Nat) : Int) := by simp [IntKind.wrap, IntKind.signed, IntKind.bits]; omega
      generalize l[k] = x at ca ca'
      go_upto_region 6 with fail
      go_quiet (fail)
      go_wp2
      go_roundw
      case rel => exact ⟨k + 1, by omega, rfl, by first | exact hB.drew | exact (Gr.drewN (w := w) hB _) | exact hB⟩
      case measure => simp [intOf]; omega
    · have h1' : ¬ (k : Int) < (p : Int) := by omega
      clear h1
      go_wp2
      go_ret
      exact ⟨rfl, hB⟩
end Go.Proofs.YtbkggcfogmgmmaaDoor
