/-
  errors.Is and errors.As at the program's own sentinels, by contracts: Go's own text of both is walked.; errors.As at the target **api.Fault, by its contract where the error is one of errors.New's make: false, nothing old turns.; plain.Code at nil and at each of the eight sentinels, and the law's own 'coded'.
-/
import Derived.Test.YtnadgoomkaldkaaDoorProg
import Derived.WalkKit
import Derived.LaidEql
import Derived.Stop.Asserts
import Derived.RowKitTokens
import Derived.Outline
import Derived.Stop.IfaceNil
namespace Go.Proofs.YtnadgoomkaldkaaDoor
open Go.RowKit Go.Extern.Stop Go.Stop Go.Extern

/-- The model's entry for (rtype).Comparable, under a name. -/
def cmpEntry : Array Value → Sem Value := Extern.ReflectliteType.method fun t => do Rtype.noPackHeld "Comparable" t; pure (.bool (← typeInfo t).comparable)
end Go.Proofs.YtnadgoomkaldkaaDoor
namespace Go.Proofs.YtnadgoomkaldkaaDoor
open Go.RowKit Go.Extern.Stop Go.Stop Go.Extern

def kindEntry : Array Value → Sem Value := ReflectliteType.abiMethod fun t => do pure (.int .u8 (← Rtype.kind t))
def unpackEntry : Array Value → Sem Value := fun args => ReflectliteValue.unpack (args.getD 0 (.tuple #[]))
def typeEntry : Array Value → Sem Value := ReflectliteValue.methodAny (ReflectliteValue.valueError "reflectlite.Value.Type" 0) (fun t _ _ _ => ReflectliteType.toType t)
def nilEntry : Array Value → Sem Value := ReflectliteValue.method (ReflectliteValue.valueError "reflectlite.Value.IsNil" 0) ReflectliteValue.isNil
def elemEntry : Array Value → Sem Value := ReflectliteType.method ReflectliteType.elem
def implEntry : Array Value → Sem Value := ReflectliteType.relation "Implements" ReflectliteType.implements_
def assnEntry : Array Value → Sem Value := ReflectliteType.relation "AssignableTo" ReflectliteType.assignableTo

end Go.Proofs.YtnadgoomkaldkaaDoor
namespace Go.Proofs.YtnadgoomkaldkaaDoor
open Go.RowKit Go.Extern.Stop Go.Stop Go.Extern

/-- The numbers of the eight variables. -/
def gv (i : Nat) : Nat := [3, 0, 1, 4, 5, 6, 2, 7].getD i 0
/-- What the listed variables hold: eight different pointers to strings of errors.New's make, and the handle of the type error. -/
structure Laid (w : World) (a : Nat → Addr) : Prop where
  cell : ∀ i, i < 8 → w.cell? ⟨gv i, 0, none⟩ = some (.iface 137 (.pointer (some (a i))))
  et : w.cell? ⟨8, 0, none⟩ = some (.iface 121 (.agg #[.pointer (some ⟨9, 28, none⟩)]))
  ne : ∀ i j, i < 8 → j < 8 → i ≠ j → a i ≠ a j
  row : ∀ i, i < 8 → ∃ c t, w.heap[(a i).block]? = some (.cells c t (0, 0))

abbrev errV (a : Nat → Addr) (i : Nat) : Value := .iface 137 (.pointer (some (a i)))
theorem lt_of_cell {w : World} {p : Addr} {v : Value} (h : w.cell? p = some v) : p.block < w.heap.size := by
  rcases Nat.lt_or_ge p.block w.heap.size with h' | h'
  · exact h'
  · simp [World.cell?, Array.getElem?_eq_none h'] at h

theorem Laid.below {w w' : World} {a : Nat → Addr} (h : Laid w a) (hb : Below w.heap.size w w') : Laid w' a where
  cell i hi := by rw [hb.cell (p := ⟨gv i, 0, none⟩) (lt_of_cell (h.cell i hi))]; exact h.cell i hi
  et := by rw [hb.cell (p := ⟨8, 0, none⟩) (lt_of_cell h.et)]; exact h.et
  ne := h.ne
  row i hi := by
    obtain ⟨c, t, hr⟩ := h.row i hi
    refine ⟨c, t, ?_⟩
    rw [hb.block _ ?_]; exact hr
    rcases Nat.lt_or_ge (a i).block w.heap.size with h' | h'
    · exact h'
    · rw [Array.getElem?_eq_none h'] at hr; cases hr

theorem Laid.alloc {w : World} {a : Nat → Addr} (h : Laid w a) (o : Obj) : Laid (w.alloc o) a := h.below ((Below.refl _ _).alloc (Nat.le_refl _) o)

def sent (a : Nat → Addr) (k : Nat) : Value := .iface 137 (.pointer (some (a k)))
def eight (a : Nat → Addr) : Array Value := #[sent a 0, sent a 1, sent a 2, sent a 3, sent a 4, sent a 5, sent a 6, sent a 7]

end Go.Proofs.YtnadgoomkaldkaaDoor
