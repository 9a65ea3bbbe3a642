/-
  What a call leaves that writes into one block alone.
-/
import Derived.Test.YtbkggcfogmgmmaaDoorQFdG
import Derived.Test.YtbkggcfogmgmmaaDoorQRa
namespace Go.Proofs.YtbkggcfogmgmmaaDoor
open Go.RowKit

/-- Only the block A is other than it was. -/
abbrev Onl (A : Nat) (w w' : World) : Prop := w.grownBy w' (some A)
theorem Onl.refl (A : Nat) (w : World) : Onl A w w := ⟨rfl, rfl, rfl, Nat.le_refl _, fun _ _ _ => rfl⟩
theorem Onl.trans {A : Nat} {a b c : World} (h : Onl A a b) (k : Onl A b c) : Onl A a c :=
  ⟨k.os.trans h.os, k.tape.trans h.tape, k.output.trans h.output, Nat.le_trans h.size k.size, fun i hi hn => (k.block i (Nat.lt_of_lt_of_le hi h.size) hn).trans (h.block i hi hn)⟩
theorem Onl.set {A : Nat} {a b : World} (h : Onl A a b) (o : Nat) (v : Value) : Onl A a (b.setCell ⟨A, o, none⟩ v) := by
  have k := Below.setCell (Below.refl 0 b) (p := ⟨A, o, none⟩) (Nat.zero_le _) v
  refine ⟨k.os.trans h.os, k.tape.trans h.tape, k.output.trans h.output, by simpa using h.size, fun i hi hn => ?_⟩
  · rw [Below.heap_setCell b ⟨A, o, none⟩ v i (fun e => hn (by rw [e]))]; exact h.block i hi hn
theorem Onl.drewN {A : Nat} {a b : World} (h : Onl A a b) (n : Nat) : Onl A a (b.drewN n) := ⟨h.os, h.tape, h.output, h.size, h.block⟩
theorem Onl.drew {A : Nat} {a b : World} (h : Onl A a b) : Onl A a b.drew := ⟨h.os, h.tape, h.output, h.size, h.block⟩
theorem Onl.of {A : Nat} {w a b : World} (h : Below w.heap.size w a) (k : Onl A a b) (hA : w.heap.size ≤ A) : Below w.heap.size w b :=
  Below.grown h k h.size (fun _ e => by cases e; exact hA)
theorem Onl.gr {A : Nat} {w a b : World} (h : Gr w a) (k : Onl A a b) (hA : w.heap.size ≤ A) : Gr w b := Onl.of h.out k hA
theorem Onl.below {A : Nat} {a b c : World} (h : Onl A a b) (k : Below b.heap.size b c) : Onl A a c :=
  h.trans ⟨k.os, k.tape, k.output, k.size, fun i hi _ => k.block i hi⟩
theorem Onl.alloc {A : Nat} {a b : World} (h : Onl A a b) (o : Obj) : Onl A a (b.alloc o) := h.below ((Below.refl _ _).alloc (Nat.le_refl _) o)
theorem At.onl {A B : Nat} {w w' : World} {l : List Value} (h : At w B l) (k : Onl A w w') (hn : B ≠ A) : At w' B l := by
  have hb := k.block B h.2 (fun e => hn (Option.some.inj e))
  exact ⟨fun i hi => ⟨(World.cell?_of_block (w := w) (a := ⟨B, i, none⟩) hb).trans (h.1 i hi).1, (World.frozen?_of_block (w := w) (a := ⟨B, i, none⟩) hb).trans (h.1 i hi).2⟩, Nat.lt_of_lt_of_le h.2 k.size⟩
theorem ISl.onl {A : Nat} {w w' : World} {ad : Option Addr} {b o cap : Nat} {l : List Int} (h : ISl w ad b o cap l) (k : Onl A w w') (hn : b ≠ A) : ISl w' ad b o cap l :=
  ⟨h.row.imp (fun r => by
    have hb := k.block b r.2 (fun e => hn (Option.some.inj e))
    exact ⟨fun i hi => (World.cell?_of_block (w := w) (a := ⟨b, o + i, none⟩) hb).trans (r.1 i hi), Nat.lt_of_lt_of_le r.2 k.size⟩) id, h.ix⟩
theorem At.get {W : World} {B : Nat} {L : List Int} (h : At W B (ir L)) {j : Nat} (hj : j < L.length) : W.cell? ⟨B, j, none⟩ = some (.int .i64 L[j]) ∧ W.frozen? ⟨B, j, none⟩ = false := by
  have := h.1 j (by simpa [ir] using hj)
  simpa [ir] using this
theorem ISl.gcell {W : World} {ad : Option Addr} {b o cap : Nat} {l : List Int} (h : ISl W ad b o cap l) {k : Nat} (hk : k < l.length) : W.cell? ⟨b, o + k, none⟩ = some (.int .i64 (gl l k)) := by
  rw [← gl_get hk]; exact h.cell hk
end Go.Proofs.YtbkggcfogmgmmaaDoor
