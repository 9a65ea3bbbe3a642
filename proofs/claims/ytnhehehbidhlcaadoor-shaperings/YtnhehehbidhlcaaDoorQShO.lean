/-
  A slice of points that the law is handed: what lies in memory.
-/
import Derived.Test.YtnhehehbidhlcaaDoorQShG
import Derived.OpenShut
import Derived.Stop.Joined
import Derived.SevenTiedAt
import Derived.Lib.SmallJoins
namespace Go.Proofs.YtnhehehbidhlcaaDoor
open Go.ChangeShapes Go.WideShapes Go.ChangeAt Go.RowKit Go.Joins

section
variable {H : Type} {enc : TypeId × Value → H} {w : World} {base : Nat} {spare : Nat → Bool} {held : Bool}
theorem cellsSp : Tryd.prog.cellsOf 24 = 2 := by kernel_rfl
theorem cellsIn : Tryd.prog.cellsOf 3 = 1 := by kernel_rfl
theorem add_none (b o n : Nat) : (⟨b, o, none⟩ : Addr).add n = ⟨b, o + n, none⟩ := by
  unfold Addr.add
  split
  · rename_i h; subst h; rfl
  · rfl
theorem spot_none {a : Addr} {v : Value} (h : w.cell? a = some v) : a.spot = none := by
  unfold World.cell? at h
  split at h
  · split at h
    · cases h
    · rename_i hs; simpa using hs
  · cases h
theorem list2 {cs : List Value} (h : cs.length = 2) : ∃ c0 c1, cs = [c0, c1] := by
  match cs, h with
  | [c0, c1], _ => exact ⟨c0, c1, rfl⟩
set_option maxRecDepth 100000 in
theorem open_spot {fuel : Nat} {c0 c1 : Value} {x : DataW H × List MemPlace} (hf : DataW.trod enc Tryd.prog w base spare held fuel 24 [c0, c1] = some x) : ∃ p : Sp, [c0, c1] = [.int .i64 p.1, .int .i64 p.2] := by
  obtain ⟨ys, n', _, hy, _, hlen', hg'⟩ := DataW.trod_struct Tryd.underlying24 hf
  match ys, hlen' with
  | [z0, z1], _ =>
    have k0 := hg' 0 _ rfl
    have k1 := hg' 1 _ rfl
    simp [cellsIn] at k0 k1
    obtain ⟨a, e0, rfl, wa⟩ := DataW.trod_int Tryd.underlying3 k0
    obtain ⟨f, e1, rfl, wf⟩ := DataW.trod_int Tryd.underlying3 k1
    simp at e0 e1
    subst e0 e1
    exact ⟨(a, f), rfl⟩
theorem open_spots {ad : Option Addr} {n cap fuel : Nat} {x : DataW H × List MemPlace} (hf : DataW.trod enc Tryd.prog w 0 spare held fuel 22 [.slice ad n cap] = some x) : SArg w ad n cap := by
  rcases DataW.trod_slice Tryd.underlying22 hf with ⟨hc, _⟩ | ⟨a, len, cap', elems, rest, m, _, hc, _, hb, hl, hm, hlen, hel, _⟩
  · simp only [List.cons.injEq, Value.slice.injEq, and_true] at hc
    obtain ⟨rfl, rfl, rfl⟩ := hc
    exact ⟨0, 0, [], rfl, SSl.nil _ _ _ _ _⟩
  · simp only [List.cons.injEq, Value.slice.injEq, and_true] at hc
    obtain ⟨rfl, rfl, rfl⟩ := hc
    have each : ∀ i, i < n → ∃ r : Sp, w.cell? ((a.add (i * 2)).add 0) = some (.int .i64 r.1) ∧ w.cell? ((a.add (i * 2)).add 1) = some (.int .i64 r.2) := by
      intro i hi
      have h1 := hel i hi
      rw [cellsSp, List.getElem?_eq_getElem (by omega), Option.bind_eq_some_iff] at h1
      obtain ⟨cs, h2, h3⟩ := h1
      obtain ⟨_, h4, h5⟩ := World.cells?_some h2
      obtain ⟨c0, c1, rfl⟩ := list2 h4
      obtain ⟨r, he⟩ := open_spot h3
      simp only [List.cons.injEq, and_true] at he
      obtain ⟨rfl, rfl⟩ := he
      exact ⟨r, (h5 0 (by omega)).trans rfl, (h5 1 (by omega)).trans rfl⟩
    by_cases hn : n = 0
    · subst hn
      exact ⟨0, 0, [], rfl, SSl.nil _ _ _ _ _⟩
    · obtain ⟨r0, k0, _⟩ := each 0 (by omega)
      have hs : a.spot = none := by
        have : (a.add (0 * 2)).add 0 = a := by simp [Addr.add]
        rw [this] at k0
        exact spot_none k0
      obtain ⟨b, o, s⟩ := a
      simp only at hs
      subst hs
      have hlt : b < w.heap.size := by
        rw [add_none, add_none] at k0
        exact lt_of_cell k0
      let f : Nat → Sp := fun i => if h : i < n then Classical.choose (each i h) else (0, 0)
      have hf : ∀ i, (h : i < n) → w.cell? ((Addr.add ⟨b, o, none⟩ (i * 2)).add 0) = some (.int .i64 (f i).1) ∧ w.cell? ((Addr.add ⟨b, o, none⟩ (i * 2)).add 1) = some (.int .i64 (f i).2) := by
        intro i h
        have e : f i = Classical.choose (each i h) := by simp only [f]; rw [dif_pos h]
        rw [e]
        exact Classical.choose_spec (each i h)
      have ln : ((List.range n).map f).length = n := by simp
      refine ⟨b, o, (List.range n).map f, ln, fun i hi => ?_, fun k hk w => ?_⟩
      · have hi' : i < n := by simpa using hi
        obtain ⟨g0, g1⟩ := hf i hi'
        rw [add_none, add_none] at g0 g1
        have e : sx ((List.range n).map f) i = f i := by rw [← sx_get hi]; simp
        rw [e]
        exact ⟨⟨g0, g1⟩, hlt⟩
      · rw [ln] at hk ⊢
        exact sindex b o n cap k hk w
end
end Go.Proofs.YtnhehehbidhlcaaDoor
