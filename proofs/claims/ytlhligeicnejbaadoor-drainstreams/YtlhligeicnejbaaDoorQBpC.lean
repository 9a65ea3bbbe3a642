/-
  mercatorref4.HomeOf, mercatorlaw4.homes.
-/
import Derived.Test.YtlhligeicnejbaaDoorQBpA
import Derived.Test.YtlhligeicnejbaaDoorQDrT
namespace Go.Proofs.YtlhligeicnejbaaDoor
open Go.RowKit
attribute [local go_sem ↓] Go.wp_at_zero Go.wp_at_succ

/-- The reference's flood says where each flows. -/
def TwL (m n : Nat) (l Lt : List Int) : Prop := Lt.length = l.length ∧ ∀ i, i < l.length → gl Lt i = (tw m n l i : Int)
theorem TwL.of {m n : Nat} {l Lf Lt Ls : List Int} (ok : Ok l m n) (h : RSy l (flo m n l l.length) Lf Lt Ls) : TwL m n l Lt :=
  ⟨h.ll.2.1, fun i hi => by
    rw [h.t i hi]
    unfold twV
    rw [if_neg (by rw [flo_all m n l ok.m1 ok.len i hi]; omega)]
    rfl⟩
/-- The first so many basins. -/
def hmP (m n : Nat) (l : List Int) (k : Nat) : List Int := (List.range k).map (fun c => (hom m n l c : Int))
theorem hmP_snoc (m n : Nat) (l : List Int) (k : Nat) : hmP m n l k ++ [(hom m n l k : Int)] = hmP m n l (k + 1) := by simp [hmP, List.range_succ]
theorem hmP_len (m n : Nat) (l : List Int) (k : Nat) : (hmP m n l k).length = k := by simp [hmP]
/-- What lies in memory while the homes are told. -/
structure HB (w W : World) (T TO base k : Nat) (t : List Value) (Lt : List Int) (v : Value) (xs : List Int) : Prop where
  t : At W T t
  o : At W TO (ir Lt)
  r : W.ownsRow base 3 1 v k (ir xs)
  gr : Gr w W
  b : (T < base ∧ TO < base) ∧ w.heap.size ≤ base ∧ base ≤ W.heap.size
section
variable {w W : World} {T TO base k : Nat} {t : List Value} {Lt : List Int} {v : Value} {xs : List Int}
theorem HB.below {w' : World} (h : HB w W T TO base k t Lt v xs) (hB : Below W.heap.size W w') : HB w w' T TO base k t Lt v xs :=
  ⟨At.below hB h.t, At.below hB h.o, own_keep h.r hB, Gr.step h.gr hB, h.b.1, h.b.2.1, Nat.le_trans h.b.2.2 hB.size⟩
theorem HB.app {w' : World} {ob : Obj} {v' : Value} {xs' : List Int} (h : HB w W T TO base k t Lt v xs) (hown : w'.ownsRow base 3 1 v' (k + 1) (ir xs')) (hg : (W.alloc ob).grownBy w' v.ownBlock) : HB w w' T TO base (k + 1) t Lt v' xs' := by
  have hv : ∀ i, i < base → v.ownBlock ≠ some i := fun i hi e => by have := (h.r.lt i e).1; omega
  exact ⟨At.grow (h.t.alloc ob) hg (hv _ h.b.1.1), At.grow (h.o.alloc ob) hg (hv _ h.b.1.2), hown, gr_app h.gr h.r h.b.2.1 hg, h.b.1, h.b.2.1, by have := hg.size; have := h.b.2.2; simp at *; omega⟩
end
end Go.Proofs.YtlhligeicnejbaaDoor
