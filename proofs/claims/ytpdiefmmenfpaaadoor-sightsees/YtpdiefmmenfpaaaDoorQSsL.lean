/-
  What SightSees' last loop wants.
-/
import Derived.Test.YtpdiefmmenfpaaaDoorQSsK
namespace Go.Proofs.YtpdiefmmenfpaaaDoor
open Go.RowKit

/-- The reference's stops as a slice that is read. -/
theorem ov_tsl {W : World} {G : Nat × Nat → Int} {v : Value} {L : List (Nat × Nat)} (h : OV W G v L) : ∃ ad b cap, v = .slice ad L.length cap ∧ TSl W G ad b cap L := by
  rcases h with ⟨rfl, rfl⟩ | ⟨_, b, cap, h1, h2, _⟩
  · exact ⟨none, 0, 0, rfl, TSl.nil _ _ _ _ _⟩
  · exact ⟨_, b, cap, h1, h2⟩
/-- The program's stops as a slice that is read. -/
structure FSl (w : World) (ad : Option Addr) (b cap : Nat) (L : List (Int × Int)) : Prop where
  row : ∀ j, (h : j < L.length) → (w.cell? ⟨b, j * 2, none⟩ = some (.int .i64 L[j].1) ∧ w.cell? ⟨b, j * 2 + 1, none⟩ = some (.int .i64 L[j].2)) ∧ b < w.heap.size
  ix : ∀ j : Nat, j < L.length → ∀ w, (Instr.indexAt 36 (.slice ad L.length cap) (.int .i64 j)).run Tryd.prog w = .ok (.pointer (some ⟨b, j * 2, none⟩)) w
theorem FSl.below {W w' : World} {ad : Option Addr} {b cap : Nat} {L : List (Int × Int)} (h : FSl W ad b cap L) (hB : Below W.heap.size W w') : FSl w' ad b cap L :=
  ⟨fun j hj => by
    obtain ⟨⟨h1, h2⟩, h4⟩ := h.row j hj
    exact ⟨⟨(hB.cell (p := ⟨b, j * 2, none⟩) h4).trans h1, (hB.cell (p := ⟨b, j * 2 + 1, none⟩) h4).trans h2⟩, Nat.lt_of_lt_of_le h4 hB.size⟩, h.ix⟩
theorem sta_fsl {w w' : World} {L : List (Int × Int)} {ee : Ending} (h : StA w L ee w') : ∃ ad b cap, ee = .returned (.tuple #[.slice ad L.length cap, .nilIface]) ∧ FSl w' ad b cap L ∧ Gr w w' := by
  obtain ⟨ad, cp, h1, h2, h3⟩ := h
  rcases h2 with rfl | ⟨G, rfl, _, hG, hF⟩
  · exact ⟨ad, 0, cp, h1, ⟨fun j hj => by simp at hj, fun j hj => by simp at hj⟩, h3⟩
  · refine ⟨_, G, cp, h1, ⟨fun j hj => ⟨hF j hj, hG⟩, fun j hj w => ?_⟩, h3⟩
    have k := findex G 0 L.length cp j hj w
    rwa [Nat.zero_add] at k
/-- The reference's way to lowest terms answers the same fraction. -/
theorem red_low {p : Nat × Nat} (hp : Ok2 p) {w : World} {m n : Bool} {u v : Value} (h : Sg w m u (p.1 : Int)) (k : Sg w n v (p.2 : Int)) : Calls Tryd.prog 25 #[.agg #[.bool m, u], .agg #[.bool n, v]] w fun e w' => e = .returned (.tuple #[.agg #[.int .i64 (lowP p).1, .int .i64 (lowP p).2], .bool true]) ∧ Below w.heap.size w w' := by
  have hp' := hp
  unfold Ok2 at hp'
  have hl : 1000 ≤ lid := by unfold lid; decide
  have C := reduced_any (x := (p.1 : Int)) (y := (p.2 : Int)) (by omega) (by omega) (by omega) h k ⟨by have := rn_le p.1 p.2; simp only [Int.natAbs_natCast]; omega, by have := rd_le p.1 p.2; simp only [Int.natAbs_natCast]; omega⟩
  rw [decide_eq_false (show ¬ (p.1 : Int) < 0 by omega), decide_eq_false (show ¬ (p.2 : Int) < 0 by omega)] at C
  exact C
/-- The stops of a line are within it. -/
theorem sts_ok2 {c0 r0 c1 r1 : Nat} (h1 : c0 < 128) (h2 : c1 < 128) (h3 : r0 < 128) (h4 : r1 < 128) : ∀ p ∈ sts c0 r0 c1 r1, Ok2 p := fun _ hp => ⟨(sts_in hp).1, (sts_in hp).2, sts_le hp h1 h2 h3 h4⟩
end Go.Proofs.YtpdiefmmenfpaaaDoor
