/-
  mercatorlaw5.sameLists, where they are the same.
-/
import Derived.Test.YtnadgoomkaldkaaDoorQTk
import Derived.Test.YtnadgoomkaldkaaDoorQJ9
import Derived.Test.YtnadgoomkaldkaaDoorQSfM
namespace Go.Proofs.YtnadgoomkaldkaaDoor
open Go.RowKit
attribute [local go_sem ↓] Go.wp_at_zero Go.wp_at_succ

def lI (L : List (List Int)) (i : Nat) : List Int := L.getD i []
/-- A slice of slices of ints that is read. -/
structure LIs (w : World) (ad : Option Addr) (b o cap : Nat) (L : List (List Int)) : Prop where
  row : ∀ i, i < L.length → (∃ ad' b' o' cap', w.cell? ⟨b, o + i, none⟩ = some (.slice ad' (lI L i).length cap') ∧ ISl w ad' b' o' cap' (lI L i)) ∧ b < w.heap.size
  ix : ∀ k : Nat, k < L.length → ∀ w, (Instr.indexAt 34 (.slice ad L.length cap) (.int .i64 k)).run Tryd.prog w = .ok (.pointer (some ⟨b, o + k, none⟩)) w
theorem LIs.below {W w' : World} {ad : Option Addr} {b o cap : Nat} {L : List (List Int)} (h : LIs W ad b o cap L) (hB : Below W.heap.size W w') : LIs w' ad b o cap L :=
  ⟨fun i hi => by
    obtain ⟨⟨ad', b', o', cap', h1, h2⟩, h3⟩ := h.row i hi
    exact ⟨⟨ad', b', o', cap', (hB.cell (p := ⟨b, o + i, none⟩) h3).trans h1, h2.below hB⟩, Nat.lt_of_lt_of_le h3 hB.size⟩, h.ix⟩
end Go.Proofs.YtnadgoomkaldkaaDoor
