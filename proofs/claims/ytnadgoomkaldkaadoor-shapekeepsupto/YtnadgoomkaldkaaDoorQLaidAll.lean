/-
  What the row's list gives the walks: the eight sentinels are different pointers, each variable's cell is known, and errors.errorType is the handle of error.
-/
import Derived.Test.YtnadgoomkaldkaaDoorRows
import Derived.Test.YtnadgoomkaldkaaDoorQJ2
import Derived.ProofKit
import Derived.LaidLaws
import Derived.LaidHandle
import Derived.LaidMore
import Derived.Stop.LaidErr
namespace Go.Proofs.YtnadgoomkaldkaaDoor
open Go.ChangeShapes Go.WideShapes Go.RowKit

theorem own : ownKnob Tryd.prog.godebug = none := by kernel_rfl
theorem Tryd.et : Tryd.prog.globalNamed "errors.errorType" = some 8 := by kernel_rfl
theorem Tryd.size : Tryd.prog.types.size = 171 := by kernel_rfl

def sentData (text : List UInt8) : DataW Unit := .iface "*errors.errorString" (.ptr (.agg [.lit (.string text)]))

theorem sents {P : Program} {W : World} {ti tp te ts : TypeId} {ms : Array (String × TypeId)} {f : Field}
    (hi : P.underlying ti = some (.interface ms)) (hrow : ∀ u, P.typeName? 3 u = some "*errors.errorString" → u = tp)
    (hp : P.underlying tp = some (.pointer te)) (he : P.underlying te = some (.struct #[f])) (hft : f.type = ts) (hfo : f.offset = 0) (hs : P.underlying ts = some .string) (hc : P.cellsOf te = 1) (hcs : P.cellsOf ts = 1) :
    ∀ (l : List (String × List UInt8 × Nat)) (ps : List MemPlace), (∀ x ∈ l, P.globalNamed x.1 = some x.2.2 ∧ (P.globals[x.2.2]?).map (·.type) = some ti) →
      DataW.LaidVars P W (l.map fun x => (x.1, sentData x.2.1)) ps →
      (∀ b off, MemPlace.cell b off ∈ ps → (∃ c t, W.heap[b]? = some (.cells c t (0, 0))) ∧ ∀ u v, W.cell? ⟨b, off, none⟩ = some (.iface u v) → Value.okWide P W .any 0 u v) →
      ∃ bs : List Addr, bs.length = l.length ∧ List.Sublist (bs.map fun a : Addr => MemPlace.cell a.block a.off) ps ∧
        ∀ (i : Nat) (x : String × List UInt8 × Nat) (a : Addr), l[i]? = some x → bs[i]? = some a → W.cell? ⟨x.2.2, 0, none⟩ = some (.iface tp (.pointer (some a))) ∧ ∃ c t, W.heap[a.block]? = some (.cells c t (0, 0)) := by
  intro l
  induction l with
  | nil => intro ps _ _ _; exact ⟨[], rfl, List.nil_sublist _, fun i x a h => by simp at h⟩
  | cons x r ih =>
    intro ps hall hv hrows
    obtain ⟨g0, t0, cs0, f0, p0, q0, hg0, ht0, hv0, hd0, hr, e0⟩ := hv
    obtain ⟨hg, ht⟩ := hall x (List.mem_cons_self ..)
    obtain rfl := Option.some.inj (hg.symm.trans hg0)
    obtain rfl := Option.some.inj (ht.symm.trans ht0)
    subst e0
    obtain ⟨l0⟩ := cs0
    have ok0 : ∀ u v, l0 = [.iface u v] → Value.okWide P W .any 0 u v := fun u v e => by
      subst e
      exact (hrows x.2.2 0 (by simp [MemPlace.row])).2 u v (by simpa using World.var?_cell hg0 hv0 0)
    obtain ⟨a0, s0, rfl, hc0, hs0, hz0, rfl⟩ := errorString_of_trod hi hrow hp he hft hfo hs hc hcs hd0 ok0
    obtain ⟨bs, hlen, hsub, hat⟩ := ih q0 (fun y hy => hall y (List.mem_cons_of_mem _ hy)) hr (fun b off hm => hrows b off (List.mem_append_right _ hm))
    refine ⟨a0 :: bs, by simp [hlen], ?_, ?_⟩
    · simp only [List.map_cons]
      have h1 : [MemPlace.cell a0.block a0.off].Sublist (MemPlace.row ⟨x.2.2, 0, none⟩ 1 ++ MemPlace.row a0 1) := by
        refine List.Sublist.trans ?_ (List.sublist_append_right _ _)
        simp [MemPlace.row]
      exact List.Sublist.append h1 hsub
    · intro i y a h1 h2
      match i, h1, h2 with
      | 0, h1, h2 =>
        simp at h1 h2
        subst h1 h2
        exact ⟨by simpa using World.var?_cell hg0 hv0 0, (hrows a0.block a0.off (by simp [MemPlace.row])).1⟩
      | i + 1, h1, h2 => exact hat i y a (by simpa using h1) (by simpa using h2)

theorem starName : "*" ++ "errors.errorString" = "*errors.errorString" := by decide
theorem Tryd.sentRow (u : TypeId) (h : Tryd.prog.typeName? 3 u = some "*errors.errorString") : u = 137 :=
  typeName_ptr_named (nm := "errors.errorString") (by rw [starName]; kernel_rfl) (by kernel_rfl) (by decide) u (by rw [starName]; exact h)

def eightNames : List (String × List UInt8 × Nat) :=
  [("mercator/api.ErrText", [109, 101, 114, 99, 97, 116, 111, 114, 58, 32, 116, 101, 120, 116], 3), ("mercator/api.ErrBound", [109, 101, 114, 99, 97, 116, 111, 114, 58, 32, 98, 111, 117, 110, 100], 0),
   ("mercator/api.ErrShape", [109, 101, 114, 99, 97, 116, 111, 114, 58, 32, 115, 104, 97, 112, 101], 1), ("mercator/api.ErrRange", [109, 101, 114, 99, 97, 116, 111, 114, 58, 32, 114, 97, 110, 103, 101], 4),
   ("mercator/api.ErrName", [109, 101, 114, 99, 97, 116, 111, 114, 58, 32, 110, 97, 109, 101], 5), ("mercator/api.ErrNone", [109, 101, 114, 99, 97, 116, 111, 114, 58, 32, 110, 111, 110, 101], 6),
   ("mercator/api.ErrOrder", [109, 101, 114, 99, 97, 116, 111, 114, 58, 32, 111, 114, 100, 101, 114], 2), ("mercator/api.ErrFile", [109, 101, 114, 99, 97, 116, 111, 114, 58, 32, 102, 105, 108, 101], 7)]

end Go.Proofs.YtnadgoomkaldkaaDoor
