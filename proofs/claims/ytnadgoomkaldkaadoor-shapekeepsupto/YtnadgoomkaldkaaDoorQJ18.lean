/-
  A slice of points that the law is handed: what lies in memory.; A pointer to a map that the law is handed: what lies in memory, and how much it is.
-/
import Derived.Test.YtnadgoomkaldkaaDoorQJ3
import Derived.OpenShut
import Derived.Stop.Joined
import Derived.SevenTiedAt
import Derived.Lib.SmallJoins
import Derived.Test.YtnadgoomkaldkaaDoorQJ20
import Derived.Test.YtnadgoomkaldkaaDoorRows
namespace Go.Proofs.YtnadgoomkaldkaaDoor
open Go.ChangeShapes Go.WideShapes Go.ChangeAt Go.RowKit Go.Joins

section
variable {H : Type} {enc : TypeId × Value → H} {w : World} {base : Nat} {spare : Nat → Bool} {held : Bool}
theorem cellsSp : Tryd.prog.cellsOf 52 = 2 := by kernel_rfl
theorem cellsIn : Tryd.prog.cellsOf 3 = 1 := by kernel_rfl
theorem add_none (b o n : Nat) : (⟨b, o, none⟩ : Addr).add n = ⟨b, o + n, none⟩ := by
  unfold Addr.add
  split
  · rename_i h; subst h; rfl
  · rfl
theorem spot_none {a : Addr} {v : Value} (h : w.cell? a = some v) : a.spot = none := by
  unfold World.cell? at h
  split at h
  · split at h
    · cases h
    · rename_i hs; simpa using hs
  · cases h
theorem list2 {cs : List Value} (h : cs.length = 2) : ∃ c0 c1, cs = [c0, c1] := by
  match cs, h with
  | [c0, c1], _ => exact ⟨c0, c1, rfl⟩
set_option maxRecDepth 100000 in
theorem open_spot {fuel : Nat} {c0 c1 : Value} {x : DataW H × List MemPlace} (hf : DataW.trod enc Tryd.prog w base spare held fuel 52 [c0, c1] = some x) : ∃ p : Sp, [c0, c1] = [.int .i64 p.1, .int .i64 p.2] := by
  obtain ⟨ys, n', _, hy, _, hlen', hg'⟩ := DataW.trod_struct Tryd.underlying52 hf
  match ys, hlen' with
  | [z0, z1], _ =>
    have k0 := hg' 0 _ rfl
    have k1 := hg' 1 _ rfl
    simp [cellsIn] at k0 k1
    obtain ⟨a, e0, rfl, wa⟩ := DataW.trod_int Tryd.underlying3 k0
    obtain ⟨f, e1, rfl, wf⟩ := DataW.trod_int Tryd.underlying3 k1
    simp at e0 e1
    subst e0 e1
    exact ⟨(a, f), rfl⟩
theorem open_spots {ad : Option Addr} {n cap fuel : Nat} {x : DataW H × List MemPlace} (hf : DataW.trod enc Tryd.prog w 0 spare held fuel 43 [.slice ad n cap] = some x) : SArg w ad n cap := by
  rcases DataW.trod_slice Tryd.underlying43 hf with ⟨hc, _⟩ | ⟨a, len, cap', elems, rest, m, _, hc, _, hb, hl, hm, hlen, hel, _⟩
  · simp only [List.cons.injEq, Value.slice.injEq, and_true] at hc
    obtain ⟨rfl, rfl, rfl⟩ := hc
    exact ⟨0, 0, [], rfl, SSl.nil _ _ _ _ _⟩
  · simp only [List.cons.injEq, Value.slice.injEq, and_true] at hc
    obtain ⟨rfl, rfl, rfl⟩ := hc
    have each : ∀ i, i < n → ∃ r : Sp, w.cell? ((a.add (i * 2)).add 0) = some (.int .i64 r.1) ∧ w.cell? ((a.add (i * 2)).add 1) = some (.int .i64 r.2) := by
      intro i hi
      have h1 := hel i hi
      rw [cellsSp, List.getElem?_eq_getElem (by omega), Option.bind_eq_some_iff] at h1
      obtain ⟨cs, h2, h3⟩ := h1
      obtain ⟨_, h4, h5⟩ := World.cells?_some h2
      obtain ⟨c0, c1, rfl⟩ := list2 h4
      obtain ⟨r, he⟩ := open_spot h3
      simp only [List.cons.injEq, and_true] at he
      obtain ⟨rfl, rfl⟩ := he
      exact ⟨r, (h5 0 (by omega)).trans rfl, (h5 1 (by omega)).trans rfl⟩
    by_cases hn : n = 0
    · subst hn
      exact ⟨0, 0, [], rfl, SSl.nil _ _ _ _ _⟩
    · obtain ⟨r0, k0, _⟩ := each 0 (by omega)
      have hs : a.spot = none := by
        have : (a.add (0 * 2)).add 0 = a := by simp [Addr.add]
        rw [this] at k0
        exact spot_none k0
      obtain ⟨b, o, s⟩ := a
      simp only at hs
      subst hs
      have hlt : b < w.heap.size := by
        rw [add_none, add_none] at k0
        exact lt_of_cell k0
      let f : Nat → Sp := fun i => if h : i < n then Classical.choose (each i h) else (0, 0)
      have hf : ∀ i, (h : i < n) → w.cell? ((Addr.add ⟨b, o, none⟩ (i * 2)).add 0) = some (.int .i64 (f i).1) ∧ w.cell? ((Addr.add ⟨b, o, none⟩ (i * 2)).add 1) = some (.int .i64 (f i).2) := by
        intro i h
        have e : f i = Classical.choose (each i h) := by simp only [f]; rw [dif_pos h]
        rw [e]
        exact Classical.choose_spec (each i h)
      have ln : ((List.range n).map f).length = n := by simp
      refine ⟨b, o, (List.range n).map f, ln, fun i hi => ?_, fun k hk w => ?_⟩
      · have hi' : i < n := by simpa using hi
        obtain ⟨g0, g1⟩ := hf i hi'
        rw [add_none, add_none] at g0 g1
        have e : sx ((List.range n).map f) i = f i := by rw [← sx_get hi]; simp
        rw [e]
        exact ⟨⟨g0, g1⟩, hlt⟩
      · rw [ln] at hk ⊢
        exact sindex b o n cap k hk w
end
end Go.Proofs.YtnadgoomkaldkaaDoor
namespace Go.Proofs.YtnadgoomkaldkaaDoor
open Go.ChangeShapes Go.WideShapes Go.ChangeAt Go.RowKit Go.Joins

theorem bulk_one {H : Type} (d : DataW H) : 1 ≤ Rows.uptoBulk d := by
  cases d with
  | lit l => cases l <;> simp [Rows.uptoBulk]
  | nil => simp [Rows.uptoBulk]
  | ptr d => simp [Rows.uptoBulk]
  | slice elems spare => simp [Rows.uptoBulk]
  | agg parts => simp [Rows.uptoBulk]
  | iface t d => simp [Rows.uptoBulk]
  | map entries => simp [Rows.uptoBulk]
  | held h => simp [Rows.uptoBulk]
theorem bulk_len {H : Type} : ∀ l : List (DataW H), l.length ≤ Rows.uptoBulkAll l
  | [] => by simp [Rows.uptoBulkAll]
  | x :: r => by have := bulk_one x; have := bulk_len r; simp only [Rows.uptoBulkAll, List.length_cons]; omega
theorem bulk_sum {H : Type} : ∀ (Ls : List (List Sp)) (ds : List (DataW H)), ds.length = Ls.length → (∀ i, (h : i < ds.length) → (lx Ls i).length ≤ Rows.uptoBulk ds[i]) → Ls.flatten.length ≤ Rows.uptoBulkAll ds
  | [], _, _, _ => by simp
  | a :: Ls, [], h, _ => by simp at h
  | a :: Ls, d :: ds, h, hb => by
    have ih := bulk_sum Ls ds (by simpa using h) (fun i hi => hb (i + 1) (by simpa using hi))
    have h0 := hb 0 (by simp)
    simp only [List.flatten_cons, List.length_append, Rows.uptoBulkAll]
    have : (lx (a :: Ls) 0).length = a.length := rfl
    simp only [List.getElem_cons_zero] at h0
    omega
section
variable {H : Type} {enc : TypeId × Value → H} {w : World} {base : Nat} {spare : Nat → Bool} {held : Bool}
theorem cellsSl1 : Tryd.prog.cellsOf 43 = 1 := by kernel_rfl
theorem cellsSl2 : Tryd.prog.cellsOf 30 = 1 := by kernel_rfl
theorem cellsMp : Tryd.prog.cellsOf 50 = 1 := by kernel_rfl
theorem open_row {fuel : Nat} {v : Value} {x : DataW H × List MemPlace} (hf : DataW.trod enc Tryd.prog w 0 spare held fuel 43 [v] = some x) : ∃ (ad : Option Addr) (b o cap : Nat) (l : List Sp), v = .slice ad l.length cap ∧ (1 ≤ l.length → ad = some ⟨b, o, none⟩ ∧ l.length ≤ cap) ∧ SSl w ad b o cap l ∧ l.length ≤ Rows.uptoBulk x.1 := by
  have hf2 := hf
  rcases DataW.trod_slice Tryd.underlying43 hf with ⟨hc, _⟩ | ⟨a, len, cap', elems, rest, m, _, hc, hx, hb, hl, hm, hlen, hel, _⟩
  · simp only [List.cons.injEq, and_true] at hc
    exact ⟨none, 0, 0, 0, [], hc, fun h => by simp at h, SSl.nil _ _ _ _ _, by simp⟩
  · simp only [List.cons.injEq, and_true] at hc
    subst hc
    obtain ⟨b, o, l, h1, h2⟩ := open_spots hf2
    subst h1
    refine ⟨some a, b, o, cap', l, rfl, fun h => ⟨?_, hl⟩, h2, ?_⟩
    · have h3 := h2.ix 0 (by omega) w
      obtain ⟨ab, ao, az⟩ := a
      have hu : Tryd.prog.underlying 43 = some (.slice (Tryd.prog.elem 43)) := by kernel_rfl
      rw [run_indexAt_slice (P := Tryd.prog) (w := w) 43 ⟨ab, ao, az⟩ l.length cap' .i64 ((0 : Nat) : Int) hu, if_pos ⟨by omega, by omega⟩] at h3
      have hs : (sizeOf (Tryd.prog.elem 43)).run Tryd.prog w = .ok 2 w := by kernel_rfl
      rw [hs] at h3
      simp [Addr.add] at h3
      obtain ⟨rfl, rfl, rfl⟩ := h3
      rfl
    · rw [hx]
      simp only [Rows.uptoBulk]
      have := bulk_len (elems.map (·.1))
      rw [List.length_map, hlen] at this
      omega
def MArg (w : World) (ad : Option Addr) (B : Nat) : Prop := ad = none ∨ ∃ (pb po : Nat) (sd : Option Addr) (b o cap : Nat) (Ls : List (List Sp)), ad = some ⟨pb, po, none⟩ ∧ (w.cell? ⟨pb, po, none⟩ = some (.slice sd Ls.length cap) ∧ pb < w.heap.size) ∧ LLd w sd b o cap Ls ∧ Ls.length ≤ B ∧ Ls.flatten.length ≤ B
theorem open_rows {fuel : Nat} {v : Value} {x : DataW H × List MemPlace} (hf : DataW.trod enc Tryd.prog w 0 spare held fuel 30 [v] = some x) : ∃ (ad : Option Addr) (b o cap : Nat) (Ls : List (List Sp)), v = .slice ad Ls.length cap ∧ LLd w ad b o cap Ls ∧ Ls.length ≤ Rows.uptoBulk x.1 ∧ Ls.flatten.length ≤ Rows.uptoBulk x.1 := by
  rcases DataW.trod_slice Tryd.underlying30 hf with ⟨hc, _⟩ | ⟨a, n, cap, elems, rest, m, _, hc, hx, hb, hl, hm, hlen, hel, _⟩
  · simp only [List.cons.injEq, and_true] at hc
    exact ⟨none, 0, 0, 0, [], hc, ⟨fun i hi => by simp at hi, fun k hk => by simp at hk⟩, by simp, by simp⟩
  · simp only [List.cons.injEq, and_true] at hc
    subst hc
    have each : ∀ i, (h : i < n) → ∃ (ad : Option Addr) (b o cap : Nat) (l : List Sp), w.cell? ((a.add (i * 1)).add 0) = some (.slice ad l.length cap) ∧ (1 ≤ l.length → ad = some ⟨b, o, none⟩ ∧ l.length ≤ cap) ∧ SSl w ad b o cap l ∧ l.length ≤ Rows.uptoBulk (elems[i]'(by omega)).1 := by
      intro i hi
      have h1 := hel i hi
      rw [cellsSl1, List.getElem?_eq_getElem (by omega), Option.bind_eq_some_iff] at h1
      obtain ⟨cs, h2, h3⟩ := h1
      obtain ⟨_, h4, h5⟩ := World.cells?_some h2
      match cs, h4, h3, h5 with
      | [c0], _, h3, h5 =>
        obtain ⟨ad, b, o, cap, l, rfl, h6, h7, h8⟩ := open_row h3
        exact ⟨ad, b, o, cap, l, (h5 0 (by omega)).trans rfl, h6, h7, h8⟩
    by_cases hn : n = 0
    · subst hn
      exact ⟨some a, 0, 0, cap, [], rfl, ⟨fun i hi => by simp at hi, fun k hk => by simp at hk⟩, by simp, by simp⟩
    · obtain ⟨_, _, _, _, _, k0, _⟩ := each 0 (by omega)
      have hs : a.spot = none := by
        have : (a.add (0 * 1)).add 0 = a := by simp [Addr.add]
        rw [this] at k0
        exact spot_none k0
      obtain ⟨b, o, s⟩ := a
      simp only at hs
      subst hs
      have hlt : b < w.heap.size := by
        rw [add_none, add_none] at k0
        exact lt_of_cell k0
      have each2 : ∀ i, (h : i < n) → ∃ (l : List Sp) (ad : Option Addr) (b' o' cap' : Nat), w.cell? ⟨b, o + i, none⟩ = some (.slice ad l.length cap') ∧ (1 ≤ l.length → ad = some ⟨b', o', none⟩ ∧ l.length ≤ cap') ∧ SSl w ad b' o' cap' l ∧ l.length ≤ Rows.uptoBulk (elems[i]'(by omega)).1 := by
        intro i hi
        obtain ⟨ad, b', o', cap', l, h1, h2⟩ := each i hi
        rw [add_none, add_none, Nat.mul_one, Nat.add_zero] at h1
        exact ⟨l, ad, b', o', cap', h1, h2⟩
      let f : Nat → List Sp := fun i => if h : i < n then Classical.choose (each2 i h) else []
      have hf : ∀ i, (h : i < n) → ∃ (ad : Option Addr) (b' o' cap' : Nat), w.cell? ⟨b, o + i, none⟩ = some (.slice ad (f i).length cap') ∧ (1 ≤ (f i).length → ad = some ⟨b', o', none⟩ ∧ (f i).length ≤ cap') ∧ SSl w ad b' o' cap' (f i) ∧ (f i).length ≤ Rows.uptoBulk (elems[i]'(by omega)).1 := by
        intro i h
        have e : f i = Classical.choose (each2 i h) := by simp only [f]; rw [dif_pos h]
        rw [e]
        exact Classical.choose_spec (each2 i h)
      have ln : ((List.range n).map f).length = n := by simp
      have le : ∀ i, i < n → lx ((List.range n).map f) i = f i := by intro i hi; simp [lx, hi]
      refine ⟨_, b, o, cap, (List.range n).map f, by rw [ln], ⟨fun i hi => ?_, fun k hk w => ?_⟩, ?_, ?_⟩
      · rw [ln] at hi
        rw [le i hi]
        obtain ⟨ad, b', o', cap', h1, h2, h3, _⟩ := hf i hi
        exact ⟨⟨ad, b', o', cap', h1, h2, h3⟩, hlt⟩
      · rw [ln] at hk ⊢
        exact lindex b o n cap k hk w
      · rw [ln, hx]
        simp only [Rows.uptoBulk]
        have := bulk_len (elems.map (·.1))
        rw [List.length_map, hlen] at this
        omega
      · rw [hx]
        simp only [Rows.uptoBulk]
        have := bulk_sum ((List.range n).map f) (elems.map (·.1)) (by simp [hlen]) (fun i hi => by
          have hi2 : i < n := by simpa [hlen] using hi
          rw [le i hi2]
          obtain ⟨_, _, _, _, _, _, _, h4⟩ := hf i hi2
          simpa using h4)
        omega
theorem open_map {fuel : Nat} {ad : Option Addr} {x : DataW H × List MemPlace} (hf : DataW.trod enc Tryd.prog w 0 spare held fuel 22 [.pointer ad] = some x) : MArg w ad (Rows.uptoBulk x.1) := by
  rcases DataW.trod_pointer Tryd.underlying22 hf with ⟨hc, _⟩ | ⟨a, cs, y, n, _, hc, hx, h1, h2⟩
  · simp only [List.cons.injEq, Value.pointer.injEq, and_true] at hc
    exact .inl hc
  · simp only [List.cons.injEq, Value.pointer.injEq, and_true] at hc
    subst hc
    rw [cellsMp] at h1
    obtain ⟨_, h3, h4⟩ := World.cells?_some h1
    match cs, h3, h2, h4 with
    | [c0], _, h2, h4 =>
      obtain ⟨xs, m, _, hy, _, hlen, hg⟩ := DataW.trod_struct Tryd.underlying50 h2
      match xs, hlen, hy with
      | [y0], _, hy =>
        have g0 := hg 0 _ rfl
        simp [cellsSl2] at g0
        obtain ⟨sd, b, o, cap, Ls, rfl, hL, hb1, hb2⟩ := open_rows g0
        have k0 := h4 0 (by omega)
        have hs : a.spot = none := by
          have e : a.add 0 = a := by simp [Addr.add]
          rw [e] at k0
          exact spot_none k0
        obtain ⟨pb, po, s⟩ := a
        simp only at hs
        subst hs
        rw [add_none] at k0
        have hb : Rows.uptoBulk x.1 = Rows.uptoBulk y0.1 + 2 := by
          rw [hx, hy]
          simp [Rows.uptoBulk, Rows.uptoBulkAll]
        exact .inr ⟨pb, po, sd, b, o, cap, Ls, rfl, ⟨k0, lt_of_cell k0⟩, hL, by omega, by omega⟩
end
end Go.Proofs.YtnadgoomkaldkaaDoor
