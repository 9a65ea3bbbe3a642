/-
  A fact that the walk does not see.
-/
import Derived.Below
namespace Go.Proofs.YtnadgoomkaldkaaDoor
open Go.RowKit

theorem hidb {p : Prop} (h : p) : Hid p := h
end Go.Proofs.YtnadgoomkaldkaaDoor
