/-
  mercatorlaw2.sameInts; grid.Lines.
-/
import Derived.Test.YthpbkomchdgneaaDoorQGlD
import Derived.BigQuiet
import Derived.Deep.QuietTactic
import Derived.Deep.CutRange
import Derived.Deep.RegionHeld3
import Derived.Deep.RegionLaw
namespace Go.Proofs.YthpbkomchdgneaaDoor
open Go.RowKit

set_option maxRecDepth 4000 in
set_option maxHeartbeats 4000000 in
theorem same_gen (ad ad' : Option Addr) (b b' : Nat) (l : List Int) (cap cap' : Nat) (hn : l.length ≤ 4001) (w : World) (c : ∀ i, (h : i < l.length) → w.cell? ⟨b, i, none⟩ = some (.int .i64 l[i])) (c' : ∀ i, (h : i < l.length) → w.cell? ⟨b', i, none⟩ = some (.int .i64 l[i])) (hb : l = [] ∨ (b < w.heap.size ∧ b' < w.heap.size))
    (ia : ∀ k : Nat, k < l.length → ∀ w, (Instr.indexAt 44 (.slice ad l.length cap) (.int .i64 k)).run Tryd.prog w = .ok (.pointer (some ⟨b, k, none⟩)) w) (ia' : ∀ k : Nat, k < l.length → ∀ w, (Instr.indexAt 44 (.slice ad' l.length cap') (.int .i64 k)).run Tryd.prog w = .ok (.pointer (some ⟨b', k, none⟩)) w) :
    Calls Tryd.prog 17 #[.slice ad l.length cap, .slice ad' l.length cap'] w fun e w' => e = .returned (.bool true) ∧ Gr w w' := by
  have HA := hidb c
  have HA' := hidb c'
  have HB := hidb hb
  have IA := hidb ia
  have IA' := hidb ia'
  clear c c' hb ia ia'
  obtain ⟨p, hp⟩ : ∃ p, p = l.length := ⟨_, rfl⟩
  rw [← hp] at IA IA' hn
  rw [← hp]
  have HP := hidb hp
  clear hp
  go_enter Tryd.func17, Tryd.ntmps17
  go_wp2
  go_loopw [5] (fun t wr => ∃ (k : Nat), k ≤ p ∧ t = .int .i64 k ∧ Below w.heap.size w wr) (fun t _ => p - (intOf t).toNat)
  case atStart => exact ⟨0, by omega, rfl, Below.refl _ _⟩
  case round =>
    obtain ⟨k, hk, rfl, hB⟩ := hrel
    by_cases h1 : k < p
    · have h1a : k < l.length := by rw [← HP.out]; exact h1
      have hbb : b < w.heap.size ∧ b' < w.heap.size := HB.out.resolve_left (by intro e; rw [e] at h1a; simp at h1a)
      have ca : wr.cell? ⟨b, k, none⟩ = some (.int .i64 l[k]) := (hB.cell (p := ⟨b, k, none⟩) hbb.1).trans (HA.out k h1a)
      have ca' : wr.cell? ⟨b', k, none⟩ = some (.int .i64 l[k]) := (hB.cell (p := ⟨b', k, none⟩) hbb.2).trans (HA'.out k h1a)
      have ixa := IA.out k h1
      have ixa' := IA'.out k h1
      have h1' : (k : Int) < (p : Int) := by omega
      have e5 : IntKind.i64.wrap ((k : Int) + 1) = ((k + 1 : Nat) : Int) := by simp [IntKind.wrap, IntKind.signed, IntKind.bits]; omega
      generalize l[k] = x at ca ca'
      go_upto_region 6 with fail
      go_quiet (fail)
      go_wp2
      go_roundw
      case rel => exact ⟨k + 1, by omega, rfl, by first | exact hB.drew | exact (Gr.drewN (w := w) hB _) | exact hB⟩
      case measure => simp [intOf]; omega
    · have h1' : ¬ (k : Int) < (p : Int) := by omega
      clear h1
      go_wp2
      go_ret
      exact ⟨rfl, hB⟩
theorem sameInts_eq {w : World} {v v' : Value} {l : List Int} (hn : l.length ≤ 4001) (h : RowI w v l) (h' : RowI w v' l) : Calls Tryd.prog 17 #[v, v'] w fun e w' => e = .returned (.bool true) ∧ Gr w w' := by
  rcases h with ⟨rfl, rfl⟩ | ⟨b, cap, rfl, h2, h3, h4, h5⟩
  · rcases h' with ⟨rfl, _⟩ | ⟨b', cap', rfl, k2, k3, k4, k5⟩
    · exact same_gen none none 0 0 [] 0 0 hn w (fun i h => by simp at h) (fun i h => by simp at h) (.inl rfl) (fun k h => by simp at h) (fun k h => by simp at h)
    · exact same_gen none (some ⟨b', 0, none⟩) 0 b' [] 0 cap' hn w (fun i h => by simp at h) k4 (.inl rfl) (fun k h => by simp at h) (fun k h => by simp at h)
  · rcases h' with ⟨rfl, rfl⟩ | ⟨b', cap', rfl, k2, k3, k4, k5⟩
    · exact same_gen (some ⟨b, 0, none⟩) none b 0 [] cap 0 hn w h4 (fun i h => by simp at h) (.inl rfl) (fun k h => by simp at h) (fun k h => by simp at h)
    · exact same_gen (some ⟨b, 0, none⟩) (some ⟨b', 0, none⟩) b b' l cap cap' hn w h4 k4 (.inr ⟨h5, k5⟩) (fun k hk w => index_row b _ cap k hk w) (fun k hk w => index_row b' _ cap' k hk w)
end Go.Proofs.YthpbkomchdgneaaDoor
