/-
  A raster that a law is handed; what lies in memory of it; errors by their numbers.
-/
import Derived.Test.YtlhligeicnejbaaDoorQJ3
import Derived.Test.YtlhligeicnejbaaDoorQJ1
import Derived.OpenShut
import Derived.Stop.Joined
import Derived.SevenTiedAt
import Derived.Lib.SmallJoins
namespace Go.Proofs.YtlhligeicnejbaaDoor
open Go.ChangeShapes Go.WideShapes Go.ChangeAt Go.RowKit Go.Joins

theorem evc_of {g : Nat → Addr} {c : Nat} (h : ¬ c = 0) : evc g c = errV g (c - 1) := by unfold evc; rw [if_neg h]
theorem PtR.all {w : World} {pb po : Nat} {W H : Int} {v : Value} (h : PtR w pb po W H v) : w.cell? ⟨pb, po, none⟩ = some (.int .i64 W) ∧ w.cell? ⟨pb, po + 1, none⟩ = some (.int .i64 H) ∧ w.cell? ⟨pb, po + 2, none⟩ = some v := ⟨h.c0, h.c1, h.c2⟩
theorem coded_evc (g : Nat → Addr) (c : Nat) (hc : c ≤ 8) (w : World) (hl : Laid w g) : Calls Tryd.prog 9 #[evc g c, .int .i64 (c : Int)] w fun e w' => e = .returned (.bool true) ∧ Gr w w' := by
  by_cases h : c = 0
  · subst h
    refine (coded_nil 0 w).mono ?_
    rintro e w' ⟨rfl, rfl⟩
    exact ⟨rfl, Gr.refl _⟩
  · unfold evc
    rw [if_neg h]
    refine (coded_sent g (c - 1) (by omega) (c : Int) w hl).mono ?_
    rintro e w' ⟨rfl, hB⟩
    exact ⟨by rw [show ((c - 1 : Nat) : Int) + 1 = (c : Int) by omega]; simp, hB⟩
/-- A raster that the law is handed. -/
structure Rin (w : World) (pb po : Nat) (W H : Int) (ad : Option Addr) (b o cap : Nat) (l : List Int) : Prop where
  pt : PtR w pb po W H (.slice ad l.length cap)
  sl : ISl w ad b o cap l
theorem Rin.below {w w' : World} {pb po : Nat} {W H : Int} {ad : Option Addr} {b o cap : Nat} {l : List Int} (h : Rin w pb po W H ad b o cap l) (hB : Gr w w') : Rin w' pb po W H ad b o cap l := ⟨h.pt.below hB.out, h.sl.below hB.out⟩
/-- A pointer to a raster, or none. -/
def RArg (w : World) (ad : Option Addr) : Prop := ad = none ∨ ∃ pb po W H sd b o cap l, ad = some ⟨pb, po, none⟩ ∧ Rin w pb po W H sd b o cap l ∧ (¬ l.length = 0 → sd = some ⟨b, o, none⟩ ∧ Rs w b o cap l)
section
variable {H : Type} {enc : TypeId × Value → H} {w : World} {spare : Nat → Bool} {held : Bool}
theorem add_none (b o n : Nat) : (⟨b, o, none⟩ : Addr).add n = ⟨b, o + n, none⟩ := by
  unfold Addr.add
  split
  · rename_i h; subst h; rfl
  · rfl
theorem spot_none {a : Addr} {v : Value} (h : w.cell? a = some v) : a.spot = none := by
  unfold World.cell? at h
  split at h
  · split at h
    · cases h
    · rename_i hs; simpa using hs
  · cases h
theorem list3 {cs : List Value} (h : cs.length = 3) : ∃ c0 c1 c2, cs = [c0, c1, c2] := by
  match cs, h with
  | [c0, c1, c2], _ => exact ⟨c0, c1, c2, rfl⟩
theorem cellsRaster : Tryd.prog.cellsOf 32 = 3 := by kernel_rfl
theorem cellsInt : Tryd.prog.cellsOf 3 = 1 := by kernel_rfl
theorem cellsSl : Tryd.prog.cellsOf 30 = 1 := by kernel_rfl
theorem open_isl {fuel : Nat} {c : Value} {x : DataW H × List MemPlace} (hf : DataW.trod enc Tryd.prog w 0 spare held fuel 30 [c] = some x) : ∃ sd b o cap l, c = .slice sd (List.length l) cap ∧ ISl w sd b o cap l ∧ (¬ l.length = 0 → sd = some ⟨b, o, none⟩ ∧ Rs w b o cap l) := by
  rcases open_ints Tryd.underlying30 Tryd.underlying3 cellsInt hf with ⟨hc, _⟩ | ⟨a, len, cap, zs, hc, _, hl, _, hz, _, hcell, _⟩
  · simp only [List.cons.injEq, and_true] at hc
    subst hc
    exact ⟨none, 0, 0, 0, [], rfl, ISl.nil _ _ _ _ _, fun h => absurd rfl h⟩
  · simp only [List.cons.injEq, and_true] at hc
    subst hc
    have hzl : len ≤ zs.length := by rw [hz]; split <;> omega
    have hlen : (zs.take len).length = len := by rw [List.length_take]; omega
    by_cases h0 : len = 0
    · subst h0
      exact ⟨some a, 0, 0, cap, [], rfl, ISl.nil _ _ _ _ _, fun h => absurd rfl h⟩
    · have k0 := hcell 0 (by omega)
      have hs : a.spot = none := by
        have e : a.add 0 = a := by simp [Addr.add]
        rw [e] at k0
        exact spot_none k0
      obtain ⟨b, o, s⟩ := a
      simp only at hs
      subst hs
      have hrow : ∀ i, (h : i < (zs.take len).length) → w.cell? ⟨b, o + i, none⟩ = some (.int .i64 (zs.take len)[i]) := fun i hi => by
        have hi' : i < zs.length := by omega
        have k := hcell i hi'
        rw [add_none] at k
        rw [k]
        simp [hi']
      have hlt : b < w.heap.size := by rw [add_none] at k0; exact lt_of_cell k0
      exact ⟨some ⟨b, o, none⟩, b, o, cap, zs.take len, by rw [hlen], ISl.mk' hrow hlt, fun _ => ⟨rfl, hrow, hlt, by omega⟩⟩
theorem open_raster {fuel : Nat} {ad : Option Addr} {x : DataW H × List MemPlace} (hf : DataW.trod enc Tryd.prog w 0 spare held fuel 22 [.pointer ad] = some x) : RArg w ad := by
  rcases DataW.trod_pointer Tryd.underlying22 hf with ⟨hc, _⟩ | ⟨a, cs, y, n, _, hc, _, h1, h2⟩
  · simp only [List.cons.injEq, Value.pointer.injEq, and_true] at hc
    exact .inl hc
  · simp only [List.cons.injEq, Value.pointer.injEq, and_true] at hc
    subst hc
    rw [cellsRaster] at h1
    obtain ⟨_, h3, h4⟩ := World.cells?_some h1
    obtain ⟨c0, c1, c2, rfl⟩ := list3 h3
    obtain ⟨xs, m, _, _, _, hlen, hg⟩ := DataW.trod_struct Tryd.underlying32 h2
    match xs, hlen with
    | [y0, y1, y2], _ =>
      have g0 := hg 0 _ rfl
      have g1 := hg 1 _ rfl
      have g2 := hg 2 _ rfl
      simp [cellsInt, cellsSl] at g0 g1 g2
      obtain ⟨W, e0, _, _⟩ := DataW.trod_int Tryd.underlying3 g0
      obtain ⟨H', e1, _, _⟩ := DataW.trod_int Tryd.underlying3 g1
      obtain ⟨sd, b, o, cap, l, e2, hI, hR⟩ := open_isl g2
      simp at e0 e1
      subst e0 e1 e2
      have k0 := h4 0 (by omega)
      have k1 := h4 1 (by omega)
      have k2 := h4 2 (by omega)
      have hs : a.spot = none := by
        have e : a.add 0 = a := by simp [Addr.add]
        rw [e] at k0
        exact spot_none k0
      obtain ⟨pb, po, s⟩ := a
      simp only at hs
      subst hs
      rw [add_none] at k0 k1 k2
      exact .inr ⟨pb, po, W, H', sd, b, o, cap, l, rfl, ⟨⟨k0, k1, k2⟩, hI⟩, hR⟩
end
end Go.Proofs.YtlhligeicnejbaaDoor
