/-
  Rasters: field.within, side, Valid; mercatorref3.great, RasterError.; mercatorref3.great, RasterError, RastersError; mercatorlaw3.small, nothing, sameInts, is.; mercatorref3.RastersError; mercatorlaw3.small, nothing, sameInts, is; field.alike.
-/
import Derived.Test.YtnadgoomkaldkaaDoorQGlA
import Derived.BigQuiet
import Derived.Deep.QuietTactic
import Derived.Deep.CutRange
import Derived.Deep.RegionHeld3
import Derived.Deep.RegionLaw
namespace Go.Proofs.YtnadgoomkaldkaaDoor
open Go.RowKit

/-- A slice of whole numbers that is read: it may begin anywhere in its block. -/
structure ISl (w : World) (ad : Option Addr) (b o cap : Nat) (l : List Int) : Prop where
  row : ((∀ i, (h : i < l.length) → w.cell? ⟨b, o + i, none⟩ = some (.int .i64 l[i])) ∧ b < w.heap.size) ∨ l = []
  ix : ∀ k : Nat, k < l.length → ∀ w, (Instr.indexAt 37 (.slice ad l.length cap) (.int .i64 k)).run Tryd.prog w = .ok (.pointer (some ⟨b, o + k, none⟩)) w
theorem ISl.below {W w' : World} {ad : Option Addr} {b o cap : Nat} {l : List Int} (hB : Below W.heap.size W w') (h : ISl W ad b o cap l) : ISl w' ad b o cap l :=
  ⟨h.row.imp (fun r => ⟨fun i hi => (hB.cell (p := ⟨b, o + i, none⟩) r.2).trans (r.1 i hi), Nat.lt_of_lt_of_le r.2 hB.size⟩) id, h.ix⟩
theorem ISl.cell {W : World} {ad : Option Addr} {b o cap : Nat} {l : List Int} (h : ISl W ad b o cap l) {k : Nat} (hk : k < l.length) : W.cell? ⟨b, o + k, none⟩ = some (.int .i64 l[k]) := by
  have hn : l ≠ [] := by intro e; rw [e] at hk; simp at hk
  exact (h.row.resolve_right hn).1 k hk
theorem iindex (b o n cap k : Nat) (hk : k < n) (w : World) : (Instr.indexAt 37 (.slice (some ⟨b, o, none⟩) n cap) (.int .i64 k)).run Tryd.prog w = .ok (.pointer (some ⟨b, o + k, none⟩)) w := by
  have hu : Tryd.prog.underlying 37 = some (.slice (Tryd.prog.elem 37)) := by kernel_rfl
  refine (run_indexAt_slice (P := Tryd.prog) (w := w) 37 ⟨b, o, none⟩ n cap .i64 (k : Int) hu).trans ?_
  rw [if_pos ⟨by omega, by omega⟩]
  have hs : (sizeOf (Tryd.prog.elem 37)).run Tryd.prog w = .ok 1 w := by kernel_rfl
  rw [hs]
  simp [Addr.add]
  try (intro h; omega)
theorem ISl.mk' {w : World} {b o cap : Nat} {l : List Int} (h : ∀ i, (h : i < l.length) → w.cell? ⟨b, o + i, none⟩ = some (.int .i64 l[i])) (hb : b < w.heap.size) : ISl w (some ⟨b, o, none⟩) b o cap l := ⟨.inl ⟨h, hb⟩, fun k hk w => iindex b o _ cap k hk w⟩
theorem ISl.nil (w : World) (ad : Option Addr) (b o cap : Nat) : ISl w ad b o cap [] := ⟨.inr rfl, fun k hk => by simp at hk⟩
/-- A raster's value; its error. -/
abbrev raV (W H : Int) (v : Value) : Value := .agg #[.int .i64 W, .int .i64 H, v]
def hiI (x : Int) : Prop := -1048576 ≤ x ∧ x ≤ 1048576
instance (x : Int) : Decidable (hiI x) := by unfold hiI; exact inferInstance
def vcode (W H : Int) (l : List Int) : Nat := if 128 < W ∨ 128 < H then 2 else if (W < 1 ∨ H < 1) ∨ ¬ (l.length : Int) = W * H then 3 else if ∀ x ∈ l, hiI x then 0 else 4
def evc (g : Nat → Addr) (c : Nat) : Value := if c = 0 then .nilIface else errV g (c - 1)
theorem wrap_in {n : Int} (h1 : -9223372036854775808 ≤ n) (h2 : n ≤ 9223372036854775807) : IntKind.i64.wrap n = n := by simp [IntKind.wrap, IntKind.signed, IntKind.bits]; omega
/-- The three errors that a raster can have are laid. -/
structure Lai (w : World) (a : Nat → Addr) : Prop where
  cell : ∀ i, 1 ≤ i ∧ i ≤ 3 → w.cell? ⟨gv i, 0, none⟩ = some (errV a i)
theorem Lai.below {w w' : World} {a : Nat → Addr} (h : Lai w a) (hb : Below w.heap.size w w') : Lai w' a where
  cell i hi := by rw [hb.cell (p := ⟨gv i, 0, none⟩) (lt_of_cell (h.cell i hi))]; exact h.cell i hi
end Go.Proofs.YtnadgoomkaldkaaDoor
namespace Go.Proofs.YtnadgoomkaldkaaDoor
open Go.RowKit

/-- A raster that a pointer points to. -/
structure PtR (w : World) (pb po : Nat) (W H : Int) (v : Value) : Prop where
  c0 : w.cell? ⟨pb, po, none⟩ = some (.int .i64 W)
  c1 : w.cell? ⟨pb, po + 1, none⟩ = some (.int .i64 H)
  c2 : w.cell? ⟨pb, po + 2, none⟩ = some v
theorem PtR.below {w w' : World} {pb po : Nat} {W H : Int} {v : Value} (hB : Below w.heap.size w w') (h : PtR w pb po W H v) : PtR w' pb po W H v := by
  have hb : pb < w.heap.size := lt_of_cell h.c0
  have e := fun j => hB.cell (p := ⟨pb, j, none⟩) hb
  exact ⟨(e _).trans h.c0, (e _).trans h.c1, (e _).trans h.c2⟩
end Go.Proofs.YtnadgoomkaldkaaDoor
namespace Go.Proofs.YtnadgoomkaldkaaDoor
open Go.RowKit

/-- Two rasters of one size: which error. -/
def acode (W H : Int) (l : List Int) (W' H' : Int) (l' : List Int) : Nat := if vcode W H l = 0 then (if vcode W' H' l' = 0 then (if W = W' ∧ H = H' then 0 else 3) else vcode W' H' l') else vcode W H l
set_option maxRecDepth 4000 in
set_option maxHeartbeats 4000000 in
theorem sameInts_eq {ad ad' : Option Addr} {b b' o o' cap cap' : Nat} {l : List Int} (hn : l.length ≤ 20000) (w : World) (h : ISl w ad b o cap l) (h' : ISl w ad' b' o' cap' l) : Calls Tryd.prog 31 #[.slice ad l.length cap, .slice ad' l.length cap'] w fun e w' => e = .returned (.bool true) ∧ Gr w w' := by
  have HA := hidb h
  have HB := hidb h'
  clear h h'
  obtain ⟨p, hp⟩ : ∃ p, p = l.length := ⟨_, rfl⟩
  have HI : Hid (∀ k : Nat, k < p → ∀ w, (Instr.indexAt 37 (.slice ad p cap) (.int .i64 k)).run Tryd.prog w = .ok (.pointer (some ⟨b, o + k, none⟩)) w) := by rw [hp]; exact HA.out.ix
  have HI' : Hid (∀ k : Nat, k < p → ∀ w, (Instr.indexAt 37 (.slice ad' p cap') (.int .i64 k)).run Tryd.prog w = .ok (.pointer (some ⟨b', o' + k, none⟩)) w) := by rw [hp]; exact HB.out.ix
  rw [← hp] at hn ⊢
  have HP := hidb hp
  clear hp
  go_enter Tryd.func31, Tryd.ntmps31
  go_wp2
  go_loopw [5] (fun t wr => ∃ (k : Nat), k ≤ p ∧ t = .int .i64 k ∧ Gr w wr) (fun t _ => p - (intOf t).toNat)
  case atStart => exact ⟨0, by omega, rfl, Gr.refl _⟩
  case round =>
    obtain ⟨k, hk, rfl, hB⟩ := hrel
    by_cases h1 : k < p
    · have h1a : k < l.length := by rw [← HP.out]; exact h1
      have ca := (HA.out.below hB.out).cell h1a
      have ca' := (HB.out.below hB.out).cell h1a
      have ixa := HI.out k h1
      have ixa' := HI'.out k h1
      have h1' : (k : Int) < (p : Int) := by omega
      have e5 : IntKind.i64.wrap ((k : Int) + 1) = ((k + 1 : Nat) : Int) := by simp [IntKind.wrap, IntKind.signed, IntKind.bits]; omega
      generalize l[k] = x at ca ca'
      go_upto_region 6 with fail
      go_quiet (fail)
      go_wp2
      go_roundw
      case rel => exact ⟨k + 1, by omega, rfl, by first | exact hB.drew | exact (Gr.drewN (w := w) hB _) | exact hB⟩
      case measure => simp [intOf]; omega
    · have h1' : ¬ (k : Int) < (p : Int) := by omega
      clear h1
      go_wp2
      go_ret
      exact ⟨rfl, hB⟩
end Go.Proofs.YtnadgoomkaldkaaDoor
