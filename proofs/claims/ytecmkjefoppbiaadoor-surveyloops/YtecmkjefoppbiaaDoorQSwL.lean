/-
  A pointer to a survey that the law is handed: what lies in memory.
-/
import Derived.Test.YtecmkjefoppbiaaDoorQSwK
import Derived.OpenShut
import Derived.Stop.Joined
import Derived.SevenTiedAt
import Derived.Lib.SmallJoins
namespace Go.Proofs.YtecmkjefoppbiaaDoor
open Go.ChangeShapes Go.WideShapes Go.ChangeAt Go.RowKit Go.Joins

section
variable {H : Type} {enc : TypeId × Value → H} {w : World} {base : Nat} {spare : Nat → Bool} {held : Bool}
theorem cellsSeen : Tryd.prog.cellsOf 51 = 4 := by kernel_rfl
theorem cellsSurvey : Tryd.prog.cellsOf 26 = 3 := by kernel_rfl
theorem cellsSeenS : Tryd.prog.cellsOf 24 = 1 := by kernel_rfl
theorem cellsIn : Tryd.prog.cellsOf 3 = 1 := by kernel_rfl
theorem add_none (b o n : Nat) : (⟨b, o, none⟩ : Addr).add n = ⟨b, o + n, none⟩ := by
  unfold Addr.add
  split
  · rename_i h; subst h; rfl
  · rfl
theorem spot_none {a : Addr} {v : Value} (h : w.cell? a = some v) : a.spot = none := by
  unfold World.cell? at h
  split at h
  · split at h
    · cases h
    · rename_i hs; simpa using hs
  · cases h
theorem list4 {cs : List Value} (h : cs.length = 4) : ∃ c0 c1 c2 c3, cs = [c0, c1, c2, c3] := by
  match cs, h with
  | [c0, c1, c2, c3], _ => exact ⟨c0, c1, c2, c3, rfl⟩
theorem list3 {cs : List Value} (h : cs.length = 3) : ∃ c0 c1 c2, cs = [c0, c1, c2] := by
  match cs, h with
  | [c0, c1, c2], _ => exact ⟨c0, c1, c2, rfl⟩
theorem rsindex (b o n cap k : Nat) (hk : k < n) (w : World) : (Instr.indexAt 24 (.slice (some ⟨b, o, none⟩) n cap) (.int .i64 k)).run Tryd.prog w = .ok (.pointer (some ⟨b, o + k * 4, none⟩)) w := by
  have hu : Tryd.prog.underlying 24 = some (.slice (Tryd.prog.elem 24)) := by kernel_rfl
  refine (run_indexAt_slice (P := Tryd.prog) (w := w) 24 ⟨b, o, none⟩ n cap .i64 (k : Int) hu).trans ?_
  rw [if_pos ⟨by omega, by omega⟩]
  have hs : (sizeOf (Tryd.prog.elem 24)).run Tryd.prog w = .ok 4 w := by kernel_rfl
  rw [hs]
  simp [Addr.add]
  try (intro h; omega)
set_option maxRecDepth 100000 in
theorem open_seen {fuel : Nat} {c0 c1 c2 c3 : Value} {x : DataW H × List MemPlace} (hf : DataW.trod enc Tryd.prog w base spare held fuel 51 [c0, c1, c2, c3] = some x) : ∃ p : Sn, [c0, c1, c2, c3] = [.int .i64 p.f, .int .i64 p.t, .int .i64 p.u, .int .i64 p.w] := by
  obtain ⟨ys, n', _, hy, _, hlen', hg'⟩ := DataW.trod_struct Tryd.underlying51 hf
  match ys, hlen' with
  | [z0, z1, z2, z3], _ =>
    have k0 := hg' 0 _ rfl
    have k1 := hg' 1 _ rfl
    have k2 := hg' 2 _ rfl
    have k3 := hg' 3 _ rfl
    simp [cellsIn] at k0 k1 k2 k3
    obtain ⟨a, e0, rfl, -⟩ := DataW.trod_int Tryd.underlying3 k0
    obtain ⟨f, e1, rfl, -⟩ := DataW.trod_int Tryd.underlying3 k1
    obtain ⟨g, e2, rfl, -⟩ := DataW.trod_int Tryd.underlying3 k2
    obtain ⟨h, e3, rfl, -⟩ := DataW.trod_int Tryd.underlying3 k3
    simp at e0 e1 e2 e3
    subst e0 e1 e2 e3
    exact ⟨⟨a, f, g, h⟩, rfl⟩
theorem open_sel {c : Value} {fuel : Nat} {x : DataW H × List MemPlace} (hf : DataW.trod enc Tryd.prog w 0 spare held fuel 24 [c] = some x) : ∃ ad b o cap l, c = .slice ad (List.length l) cap ∧ SeL 24 w ad b o cap l := by
  rcases DataW.trod_slice Tryd.underlying24 hf with ⟨hc, _⟩ | ⟨a, n, cap, elems, rest, m, _, hc, _, hb, hl, hm, hlen, hel, _⟩
  · simp only [List.cons.injEq, and_true] at hc
    subst hc
    exact ⟨none, 0, 0, 0, [], rfl, fun k hk => by simp at hk, fun k hk => by simp at hk⟩
  · simp only [List.cons.injEq, and_true] at hc
    subst hc
    have each : ∀ i, i < n → ∃ r : Sn, w.cell? ((a.add (i * 4)).add 0) = some (.int .i64 r.f) ∧ w.cell? ((a.add (i * 4)).add 1) = some (.int .i64 r.t) ∧ w.cell? ((a.add (i * 4)).add 2) = some (.int .i64 r.u) ∧ w.cell? ((a.add (i * 4)).add 3) = some (.int .i64 r.w) := by
      intro i hi
      have h1 := hel i hi
      rw [cellsSeen, List.getElem?_eq_getElem (by omega), Option.bind_eq_some_iff] at h1
      obtain ⟨cs, h2, h3⟩ := h1
      obtain ⟨_, h4, h5⟩ := World.cells?_some h2
      obtain ⟨c0, c1, c2, c3, rfl⟩ := list4 h4
      obtain ⟨r, he⟩ := open_seen h3
      simp only [List.cons.injEq, and_true] at he
      obtain ⟨rfl, rfl, rfl, rfl⟩ := he
      exact ⟨r, (h5 0 (by omega)).trans rfl, (h5 1 (by omega)).trans rfl, (h5 2 (by omega)).trans rfl, (h5 3 (by omega)).trans rfl⟩
    by_cases hn : n = 0
    · subst hn
      exact ⟨some a, 0, 0, cap, [], rfl, fun k hk => by simp at hk, fun k hk => by simp at hk⟩
    · obtain ⟨r0, k0, _⟩ := each 0 (by omega)
      have hs : a.spot = none := by
        have : (a.add (0 * 4)).add 0 = a := by simp [Addr.add]
        rw [this] at k0
        exact spot_none k0
      obtain ⟨b, o, s⟩ := a
      simp only at hs
      subst hs
      have hlt : b < w.heap.size := by
        rw [add_none, add_none] at k0
        exact lt_of_cell k0
      let f : Nat → Sn := fun i => if h : i < n then Classical.choose (each i h) else ⟨0, 0, 0, 0⟩
      have hf : ∀ i, (h : i < n) → w.cell? ((Addr.add ⟨b, o, none⟩ (i * 4)).add 0) = some (.int .i64 (f i).f) ∧ w.cell? ((Addr.add ⟨b, o, none⟩ (i * 4)).add 1) = some (.int .i64 (f i).t) ∧ w.cell? ((Addr.add ⟨b, o, none⟩ (i * 4)).add 2) = some (.int .i64 (f i).u) ∧ w.cell? ((Addr.add ⟨b, o, none⟩ (i * 4)).add 3) = some (.int .i64 (f i).w) := by
        intro i h
        have e : f i = Classical.choose (each i h) := by simp only [f]; rw [dif_pos h]
        rw [e]
        exact Classical.choose_spec (each i h)
      have ln : ((List.range n).map f).length = n := by simp
      refine ⟨some ⟨b, o, none⟩, b, o, cap, (List.range n).map f, by rw [ln], fun i hi => ?_, fun k hk w => ?_⟩
      · have hi' : i < n := by simpa using hi
        obtain ⟨g0, g1, g2, g3⟩ := hf i hi'
        rw [add_none, add_none] at g0 g1 g2 g3
        have e : snX ((List.range n).map f) i = f i := by simp [snX, hi']
        rw [e]
        exact ⟨⟨g0, g1, g2, g3⟩, hlt⟩
      · rw [ln] at hk ⊢
        exact rsindex b o n cap k hk w
theorem open_survey {fuel : Nat} {ad : Option Addr} {x : DataW H × List MemPlace} (hf : DataW.trod enc Tryd.prog w 0 spare held fuel 22 [.pointer ad] = some x) : SPArg w ad := by
  rcases DataW.trod_pointer Tryd.underlying22 hf with ⟨hc, _⟩ | ⟨a, cs, y, n, _, hc, _, h1, h2⟩
  · simp only [List.cons.injEq, Value.pointer.injEq, and_true] at hc
    exact .inl hc
  · simp only [List.cons.injEq, Value.pointer.injEq, and_true] at hc
    subst hc
    rw [cellsSurvey] at h1
    obtain ⟨_, h3, h4⟩ := World.cells?_some h1
    obtain ⟨c0, c1, c2, rfl⟩ := list3 h3
    obtain ⟨xs, m, _, _, _, hlen, hg⟩ := DataW.trod_struct Tryd.underlying26 h2
    match xs, hlen with
    | [y0, y1, y2], _ =>
      have g0 := hg 0 _ rfl
      have g1 := hg 1 _ rfl
      have g2 := hg 2 _ rfl
      simp [cellsIn, cellsSeenS] at g0 g1 g2
      obtain ⟨W, e0, _, _⟩ := DataW.trod_int Tryd.underlying3 g0
      obtain ⟨H', e1, _, _⟩ := DataW.trod_int Tryd.underlying3 g1
      obtain ⟨sd, b, o, cap, l, e2, hI⟩ := open_sel g2
      simp at e0 e1
      subst e0 e1 e2
      have k0 := h4 0 (by omega)
      have k1 := h4 1 (by omega)
      have k2 := h4 2 (by omega)
      have hs : a.spot = none := by
        have e : a.add 0 = a := by simp [Addr.add]
        rw [e] at k0
        exact spot_none k0
      obtain ⟨pb, po, s⟩ := a
      simp only at hs
      subst hs
      rw [add_none] at k0 k1 k2
      exact .inr ⟨pb, po, W, H', sd, b, o, cap, l, rfl, ⟨⟨k0, k1, k2⟩, hI⟩⟩
end
end Go.Proofs.YtecmkjefoppbiaaDoor
