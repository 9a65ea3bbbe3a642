/-
  Rasters: field.within, side, Valid; mercatorref3.great, RasterError.; mercatorref3.great, RasterError, RastersError; mercatorlaw3.small, nothing, sameInts, is.
-/
import Derived.Test.YtecmkjefoppbiaaDoorQJ14
import Derived.BigQuiet
import Derived.Deep.QuietTactic
import Derived.Deep.CutRange
import Derived.Deep.RegionHeld3
import Derived.Deep.RegionLaw
namespace Go.Proofs.YtecmkjefoppbiaaDoor
open Go.RowKit

/-- A slice of whole numbers that is read: it may begin anywhere in its block. -/
structure ISl (w : World) (ad : Option Addr) (b o cap : Nat) (l : List Int) : Prop where
  row : ((∀ i, (h : i < l.length) → w.cell? ⟨b, o + i, none⟩ = some (.int .i64 l[i])) ∧ b < w.heap.size) ∨ l = []
  ix : ∀ k : Nat, k < l.length → ∀ w, (Instr.indexAt 28 (.slice ad l.length cap) (.int .i64 k)).run Tryd.prog w = .ok (.pointer (some ⟨b, o + k, none⟩)) w
theorem ISl.below {W w' : World} {ad : Option Addr} {b o cap : Nat} {l : List Int} (hB : Below W.heap.size W w') (h : ISl W ad b o cap l) : ISl w' ad b o cap l :=
  ⟨h.row.imp (fun r => ⟨fun i hi => (hB.cell (p := ⟨b, o + i, none⟩) r.2).trans (r.1 i hi), Nat.lt_of_lt_of_le r.2 hB.size⟩) id, h.ix⟩
theorem ISl.cell {W : World} {ad : Option Addr} {b o cap : Nat} {l : List Int} (h : ISl W ad b o cap l) {k : Nat} (hk : k < l.length) : W.cell? ⟨b, o + k, none⟩ = some (.int .i64 l[k]) := by
  have hn : l ≠ [] := by intro e; rw [e] at hk; simp at hk
  exact (h.row.resolve_right hn).1 k hk
theorem iindex (b o n cap k : Nat) (hk : k < n) (w : World) : (Instr.indexAt 28 (.slice (some ⟨b, o, none⟩) n cap) (.int .i64 k)).run Tryd.prog w = .ok (.pointer (some ⟨b, o + k, none⟩)) w := by
  have hu : Tryd.prog.underlying 28 = some (.slice (Tryd.prog.elem 28)) := by kernel_rfl
  refine (run_indexAt_slice (P := Tryd.prog) (w := w) 28 ⟨b, o, none⟩ n cap .i64 (k : Int) hu).trans ?_
  rw [if_pos ⟨by omega, by omega⟩]
  have hs : (sizeOf (Tryd.prog.elem 28)).run Tryd.prog w = .ok 1 w := by kernel_rfl
  rw [hs]
  simp [Addr.add]
  try (intro h; omega)
theorem ISl.mk' {w : World} {b o cap : Nat} {l : List Int} (h : ∀ i, (h : i < l.length) → w.cell? ⟨b, o + i, none⟩ = some (.int .i64 l[i])) (hb : b < w.heap.size) : ISl w (some ⟨b, o, none⟩) b o cap l := ⟨.inl ⟨h, hb⟩, fun k hk w => iindex b o _ cap k hk w⟩
theorem ISl.nil (w : World) (ad : Option Addr) (b o cap : Nat) : ISl w ad b o cap [] := ⟨.inr rfl, fun k hk => by simp at hk⟩
/-- A raster's value; its error. -/
abbrev raV (W H : Int) (v : Value) : Value := .agg #[.int .i64 W, .int .i64 H, v]
def hiI (x : Int) : Prop := -1048576 ≤ x ∧ x ≤ 1048576
instance (x : Int) : Decidable (hiI x) := by unfold hiI; exact inferInstance
def vcode (W H : Int) (l : List Int) : Nat := if 128 < W ∨ 128 < H then 2 else if (W < 1 ∨ H < 1) ∨ ¬ (l.length : Int) = W * H then 3 else if ∀ x ∈ l, hiI x then 0 else 4
def evc (g : Nat → Addr) (c : Nat) : Value := if c = 0 then .nilIface else errV g (c - 1)
theorem hi_step {l : List Int} {k : Nat} (hk : k < l.length) (h : ∀ r ∈ l.take k, hiI r) (ho : hiI l[k]) : ∀ r ∈ l.take (k + 1), hiI r := by
  intro r hr
  rw [List.take_succ_eq_append_getElem hk] at hr
  rcases List.mem_append.1 hr with hr | hr
  · exact h r hr
  · rw [List.mem_singleton.1 hr]; exact ho
theorem wrap_in {n : Int} (h1 : -9223372036854775808 ≤ n) (h2 : n ≤ 9223372036854775807) : IntKind.i64.wrap n = n := by simp [IntKind.wrap, IntKind.signed, IntKind.bits]; omega
theorem side_mul {W H : Int} (h1 : 1 ≤ W) (h2 : W ≤ 128) (h3 : 1 ≤ H) (h4 : H ≤ 128) : 1 ≤ W * H ∧ W * H ≤ 16384 := by
  constructor
  · have := Int.mul_le_mul h1 h3 (by omega) (by omega); omega
  · have := Int.mul_le_mul h2 h4 (by omega) (by omega); omega
theorem inI_hi (x : Int) : inI (-1048576) 1048576 x = decide (hiI x) := by
  unfold inI
  by_cases h : hiI x
  · rw [decide_eq_true h, decide_eq_true h.1, decide_eq_true h.2]; rfl
  · rw [decide_eq_false h]; unfold hiI at h; rw [← Bool.decide_and]; exact decide_eq_false h
/-- The three errors that a raster can have are laid. -/
structure Lai (w : World) (a : Nat → Addr) : Prop where
  cell : ∀ i, 1 ≤ i ∧ i ≤ 3 → w.cell? ⟨gv i, 0, none⟩ = some (errV a i)
theorem Lai.below {w w' : World} {a : Nat → Addr} (h : Lai w a) (hb : Below w.heap.size w w') : Lai w' a where
  cell i hi := by rw [hb.cell (p := ⟨gv i, 0, none⟩) (lt_of_cell (h.cell i hi))]; exact h.cell i hi
theorem Laid.lai {w : World} {a : Nat → Addr} (h : Laid w a) : Lai w a := ⟨fun i hi => h.cell i (by omega)⟩
end Go.Proofs.YtecmkjefoppbiaaDoor
namespace Go.Proofs.YtecmkjefoppbiaaDoor
open Go.RowKit

/-- A raster that a pointer points to. -/
structure PtR (w : World) (pb po : Nat) (W H : Int) (v : Value) : Prop where
  c0 : w.cell? ⟨pb, po, none⟩ = some (.int .i64 W)
  c1 : w.cell? ⟨pb, po + 1, none⟩ = some (.int .i64 H)
  c2 : w.cell? ⟨pb, po + 2, none⟩ = some v
theorem PtR.below {w w' : World} {pb po : Nat} {W H : Int} {v : Value} (hB : Below w.heap.size w w') (h : PtR w pb po W H v) : PtR w' pb po W H v := by
  have hb : pb < w.heap.size := lt_of_cell h.c0
  have e := fun j => hB.cell (p := ⟨pb, j, none⟩) hb
  exact ⟨(e _).trans h.c0, (e _).trans h.c1, (e _).trans h.c2⟩
theorem great_any (x : Int) (w : World) : Calls Tryd.prog 17 #[.int .i64 x] w fun e w' => e = .returned (.bool (decide (¬ hiI x))) ∧ w' = w := by
  by_cases c1 : 1048576 < x
  · rw [decide_eq_true (show ¬ hiI x from fun h => by have := h.2; omega)]
    go_enter Tryd.func17, Tryd.ntmps17
    go_wp2
    go_ret
    exact ⟨rfl, rfl⟩
  · by_cases c2 : x < -1048576
    · rw [decide_eq_true (show ¬ hiI x from fun h => by have := h.1; omega)]
      go_enter Tryd.func17, Tryd.ntmps17
      go_wp2
      go_ret
      exact ⟨rfl, rfl⟩
    · rw [decide_eq_false (show ¬ ¬ hiI x from fun h => h ⟨by omega, by omega⟩)]
      go_enter Tryd.func17, Tryd.ntmps17
      go_wp2
      go_ret
      exact ⟨rfl, rfl⟩
end Go.Proofs.YtecmkjefoppbiaaDoor
