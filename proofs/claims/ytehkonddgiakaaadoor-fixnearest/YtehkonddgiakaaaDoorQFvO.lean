/-
  A slice of ranges that the law is handed: what lies in memory.
-/
import Derived.Test.YtehkonddgiakaaaDoorQFxO
import Derived.Test.YtehkonddgiakaaaDoorQFxT
namespace Go.Proofs.YtehkonddgiakaaaDoor
open Go.ChangeShapes Go.WideShapes Go.ChangeAt Go.RowKit Go.Joins

section
variable {H : Type} {enc : TypeId × Value → H} {w : World} {spare : Nat → Bool} {held : Bool}
theorem add_none (b o n : Nat) : (⟨b, o, none⟩ : Addr).add n = ⟨b, o + n, none⟩ := by
  unfold Addr.add
  split
  · rename_i h; subst h; rfl
  · rfl
theorem spot_none {a : Addr} {v : Value} (h : w.cell? a = some v) : a.spot = none := by
  unfold World.cell? at h
  split at h
  · split at h
    · cases h
    · rename_i hs; simpa using hs
  · cases h
theorem list3 {cs : List Value} (h : cs.length = 3) : ∃ c0 c1 c2, cs = [c0, c1, c2] := by
  match cs, h with
  | [c0, c1, c2], _ => exact ⟨c0, c1, c2, rfl⟩
theorem open_ranges {ad : Option Addr} {n cap fuel : Nat} {x : DataW H × List MemPlace} (hf : DataW.trod enc Tryd.prog w 0 spare held fuel 22 [.slice ad n cap] = some x) : ∃ (b o : Nat) (l : List Rg), l.length = n ∧ RSo w ad b o cap l := by
  rcases DataW.trod_slice Tryd.underlying22 hf with ⟨hc, _⟩ | ⟨a, len, cap', elems, rest, m, _, hc, _, hb, hl, hm, hlen, hel, _⟩
  · simp only [List.cons.injEq, Value.slice.injEq, and_true] at hc
    obtain ⟨rfl, rfl, rfl⟩ := hc
    exact ⟨0, 0, [], rfl, .inr rfl, fun k hk => by simp at hk⟩
  · simp only [List.cons.injEq, Value.slice.injEq, and_true] at hc
    obtain ⟨rfl, rfl, rfl⟩ := hc
    have each : ∀ i, i < n → ∃ r : Rg, w.cell? ((a.add (i * 3)).add 0) = some (.int .i64 r.x) ∧ w.cell? ((a.add (i * 3)).add 1) = some (.int .i64 r.y) ∧ w.cell? ((a.add (i * 3)).add 2) = some (.int .i64 r.q) := by
      intro i hi
      have h1 := hel i hi
      rw [cellsRange, List.getElem?_eq_getElem (by omega), Option.bind_eq_some_iff] at h1
      obtain ⟨cs, h2, h3⟩ := h1
      obtain ⟨_, h4, h5⟩ := World.cells?_some h2
      obtain ⟨c0, c1, c2, rfl⟩ := list3 h4
      obtain ⟨r, he, _, _⟩ := open_cells h3
      simp only [List.cons.injEq, and_true] at he
      obtain ⟨rfl, rfl, rfl⟩ := he
      exact ⟨r, (h5 0 (by omega)).trans rfl, (h5 1 (by omega)).trans rfl, (h5 2 (by omega)).trans rfl⟩
    by_cases hn : n = 0
    · subst hn
      exact ⟨0, 0, [], rfl, .inr rfl, fun k hk => by simp at hk⟩
    · obtain ⟨r0, k0, _, _⟩ := each 0 (by omega)
      have hs : a.spot = none := by
        have : (a.add (0 * 3)).add 0 = a := by simp [Addr.add]
        rw [this] at k0
        exact spot_none k0
      obtain ⟨b, o, s⟩ := a
      simp only at hs
      subst hs
      have hlt : b < w.heap.size := by
        rw [add_none, add_none] at k0
        exact lt_of_cell k0
      let f : Nat → Rg := fun i => if h : i < n then Classical.choose (each i h) else ⟨0, 0, 0⟩
      have hf : ∀ i, (h : i < n) → w.cell? ((Addr.add ⟨b, o, none⟩ (i * 3)).add 0) = some (.int .i64 (f i).x) ∧ w.cell? ((Addr.add ⟨b, o, none⟩ (i * 3)).add 1) = some (.int .i64 (f i).y) ∧ w.cell? ((Addr.add ⟨b, o, none⟩ (i * 3)).add 2) = some (.int .i64 (f i).q) := by
        intro i h
        have e : f i = Classical.choose (each i h) := by simp only [f]; rw [dif_pos h]
        rw [e]
        exact Classical.choose_spec (each i h)
      have ln : ((List.range n).map f).length = n := by simp
      refine ⟨b, o, (List.range n).map f, ln, .inl ⟨fun i hi => ?_, hlt⟩, fun k hk w => ?_⟩
      · have hi' : i < n := by simpa using hi
        obtain ⟨g0, g1, g2⟩ := hf i hi'
        rw [add_none, add_none] at g0 g1 g2
        have e : ((List.range n).map f)[i] = f i := by simp
        rw [e]
        exact ⟨g0, g1, g2⟩
      · rw [ln] at hk ⊢
        exact oindex b o n cap k hk w
end
end Go.Proofs.YtehkonddgiakaaaDoor
