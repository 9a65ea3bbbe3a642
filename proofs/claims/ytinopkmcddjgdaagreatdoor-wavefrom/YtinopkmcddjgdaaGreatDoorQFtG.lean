/-
  flat: To.
-/
import Derived.Test.YtinopkmcddjgdaaGreatDoorQFtF
namespace Go.Proofs.YtinopkmcddjgdaaGreatDoor
open Go.RowKit FB
attribute [local go_sem] run_store_float

theorem Has.drewN {W : World} {B n : Nat} (h : Has W B n) (k : Nat) : Has (W.drewN k) B n := h
theorem c52 {W : World} {P R : Nat} {a b c d e x y : Value} (h : At W P [a, b, c, d, e]) (k : At W R [x, y]) : W.cell? ⟨P, 0, none⟩ = some a ∧ W.cell? ⟨P, 1, none⟩ = some b ∧ W.cell? ⟨P, 2, none⟩ = some c ∧ W.cell? ⟨P, 3, none⟩ = some d ∧ W.cell? ⟨P, 4, none⟩ = some e ∧ W.cell? ⟨R, 0, none⟩ = some x ∧ W.cell? ⟨R, 1, none⟩ = some y := by
  obtain ⟨h0, h1, h2, h3, h4⟩ := h.c5
  obtain ⟨k0, k1⟩ := k.c2
  exact ⟨h0, h1, h2, h3, h4, k0, k1⟩
abbrev aL (lon lat : Int) : List Value := [.int .i64 lon, .int .i64 lat]
abbrev fL (x y : Nat) : List Value := [.float .f64 x, .float .f64 y]
abbrev fV (x y : Nat) : Value := .agg #[.float .f64 x, .float .f64 y]
def uzO (o : Option Nat) : Option Nat := o.map uz
theorem got_uz {o : Option Nat} {r : Nat} (h : GW o r) : GW (uzO o) (uz r) := by
  refine ⟨?_, uz_lt h.2⟩
  cases o with
  | none => show Nan (uz r); rw [uz_nan h.1]; exact h.1
  | some q => obtain rfl : r = q := h.1; rfl
/-- A place on paper, before its nothings lose their sign. -/
noncomputable def tX (a f m : Nat) (k : ByteArray) (lat off : Int) : Option Nat := if kd k = 2 then oM (dnO a m f lat) (some (uz (sinV (nrm off)))) else asO a m off
noncomputable def tY (a f m : Nat) (k : ByteArray) (lat off : Int) : Option Nat := if kd k = 0 then oM (raO a m) (uzO (isO f lat)) else if kd k = 1 then upS a m f (uz (sinV (nrm lat))) else oN (oM (dnO a m f lat) (some (uz (cosV (nrm off)))))

end Go.Proofs.YtinopkmcddjgdaaGreatDoor
