/-
  Blocks of memory: what lies in one, and what is left of it behind new blocks, stores elsewhere, calls. No Go text is named here.; A fact that the walk does not see.
-/
import Derived.WalkKit
import Derived.Below
import Derived.Deep.Quiet
namespace Go.Proofs.YtecmkjefoppbiaaDoor
open Go.RowKit

/-- All that was there is as it was. -/
def Gr (w w' : World) : Prop := Below w.heap.size w w'
theorem Gr.out {w w' : World} (h : Gr w w') : Below w.heap.size w w' := h
theorem Gr.refl (w : World) : Gr w w := Below.refl _ _
theorem Gr.drew {w w' : World} (h : Gr w w') : Gr w w'.drew := Below.drew h
theorem Gr.drewN {w w' : World} (h : Gr w w') (n : Nat) : Gr w (w'.drewN n) := ⟨h.1, h.2, h.3, h.4, h.5⟩
theorem Gr.alloc {w w' : World} (h : Gr w w') (o : Obj) : Gr w (w'.alloc o) := Below.alloc h h.out.size o
theorem Gr.set {w w' : World} (h : Gr w w') {c : Nat} (hc : w.heap.size ≤ c) (o : Nat) (v : Value) : Gr w (w'.setCell ⟨c, o, none⟩ v) := Below.setCell h hc v
theorem Gr.step {w W w' : World} (h : Gr w W) (k : Below W.heap.size W w') : Gr w w' := Below.trans h (k.mono h.out.size)
/-- The values of the list lie in the block, one a cell, and may be written. -/
def At (W : World) (B : Nat) (l : List Value) : Prop := (∀ i, (h : i < l.length) → W.cell? ⟨B, i, none⟩ = some l[i] ∧ W.frozen? ⟨B, i, none⟩ = false) ∧ B < W.heap.size
theorem At.lt {W : World} {B : Nat} {l : List Value} (h : At W B l) : B < W.heap.size := h.2
theorem At.below {W w' : World} {B : Nat} {l : List Value} (hB : Below W.heap.size W w') (h : At W B l) : At w' B l :=
  ⟨fun i hi => ⟨(hB.cell (p := ⟨B, i, none⟩) h.2).trans (h.1 i hi).1, (hB.frozen (p := ⟨B, i, none⟩) h.2).trans (h.1 i hi).2⟩, Nat.lt_of_lt_of_le h.2 hB.size⟩
theorem At.alloc {W : World} {B : Nat} {l : List Value} (h : At W B l) (o : Obj) : At (W.alloc o) B l := At.below ((Below.refl _ _).alloc (Nat.le_refl _) o) h
theorem At.drew {W : World} {B : Nat} {l : List Value} (h : At W B l) : At W.drew B l := h
theorem At.drewN {W : World} {B : Nat} {l : List Value} (h : At W B l) (n : Nat) : At (W.drewN n) B l := h
theorem At.skip {W : World} {B : Nat} {l : List Value} (h : At W B l) {c : Nat} (hc : ¬ c = B) (o : Nat) (v : Value) : At (W.setCell ⟨c, o, none⟩ v) B l := by
  have hc' : ¬ B = c := fun e => hc e.symm
  refine ⟨fun i hi => ?_, by simpa using h.2⟩
  obtain ⟨h1, h2⟩ := h.1 i hi
  exact ⟨by simp [go_sem, h1], by simp [go_sem, h2]⟩
theorem At.put {W : World} {B : Nat} {l : List Value} (h : At W B l) (i : Nat) (v : Value) : At (W.setCell ⟨B, i, none⟩ v) B (l.set i v) := by
  refine ⟨fun j hj => ?_, by simpa using h.2⟩
  have hj' : j < l.length := by simpa using hj
  obtain ⟨h1, h2⟩ := h.1 j hj'
  refine ⟨?_, by simp [go_sem, h2]⟩
  by_cases c : i = j
  · subst c
    simp [go_sem, h1]
  · simp [go_sem, h1, c]
/-- So many cells are there. -/
def Has (W : World) (B n : Nat) : Prop := ∃ l, l.length = n ∧ At W B l
theorem At.has {W : World} {B n : Nat} {l : List Value} (h : At W B l) (hn : l.length = n) : Has W B n := ⟨l, hn, h⟩
theorem Has.below {W w' : World} {B n : Nat} (hB : Below W.heap.size W w') (h : Has W B n) : Has w' B n := by
  obtain ⟨l, h1, h2⟩ := h; exact ⟨l, h1, At.below hB h2⟩
theorem Has.alloc {W : World} {B n : Nat} (h : Has W B n) (o : Obj) : Has (W.alloc o) B n := by
  obtain ⟨l, h1, h2⟩ := h; exact ⟨l, h1, h2.alloc o⟩
theorem Has.drew {W : World} {B n : Nat} (h : Has W B n) : Has W.drew B n := h
theorem Has.set {W : World} {B n : Nat} (h : Has W B n) (c o : Nat) (v : Value) : Has (W.setCell ⟨c, o, none⟩ v) B n := by
  obtain ⟨l, h1, h2⟩ := h
  by_cases e : c = B
  · subst e; exact ⟨l.set o v, by simpa using h1, h2.put o v⟩
  · exact ⟨l, h1, h2.skip e o v⟩
theorem At.new2 (W : World) (a b : Value) (t : Nat) : At (W.alloc (.cells #[a, b] t)) W.heap.size [a, b] := by
  refine ⟨fun i hi => ?_, by simp⟩
  match i, hi with
  | 0, _ => exact ⟨by simp [go_sem], by simp [go_sem]⟩
  | 1, _ => exact ⟨by simp [go_sem], by simp [go_sem]⟩
theorem At.new3 (W : World) (a b c : Value) (t : Nat) : At (W.alloc (.cells #[a, b, c] t)) W.heap.size [a, b, c] := by
  refine ⟨fun i hi => ?_, by simp⟩
  match i, hi with
  | 0, _ => exact ⟨by simp [go_sem], by simp [go_sem]⟩
  | 1, _ => exact ⟨by simp [go_sem], by simp [go_sem]⟩
  | 2, _ => exact ⟨by simp [go_sem], by simp [go_sem]⟩
theorem At.new1 (W : World) (a : Value) (t : Nat) : At (W.alloc (.cells #[a] t)) W.heap.size [a] := by
  refine ⟨fun i hi => ?_, by simp⟩
  match i, hi with
  | 0, _ => exact ⟨by simp [go_sem], by simp [go_sem]⟩
theorem At.new7 (W : World) (a b c d e f g : Value) (t : Nat) : At (W.alloc (.cells #[a, b, c, d, e, f, g] t)) W.heap.size [a, b, c, d, e, f, g] := by
  refine ⟨fun i hi => ?_, by simp⟩
  match i, hi with
  | 0, _ => exact ⟨by simp [go_sem], by simp [go_sem]⟩
  | 1, _ => exact ⟨by simp [go_sem], by simp [go_sem]⟩
  | 2, _ => exact ⟨by simp [go_sem], by simp [go_sem]⟩
  | 3, _ => exact ⟨by simp [go_sem], by simp [go_sem]⟩
  | 4, _ => exact ⟨by simp [go_sem], by simp [go_sem]⟩
  | 5, _ => exact ⟨by simp [go_sem], by simp [go_sem]⟩
  | 6, _ => exact ⟨by simp [go_sem], by simp [go_sem]⟩
theorem At.c7 {W : World} {B : Nat} {a b c d e f g : Value} (h : At W B [a, b, c, d, e, f, g]) : W.cell? ⟨B, 0, none⟩ = some a ∧ W.cell? ⟨B, 1, none⟩ = some b ∧ W.cell? ⟨B, 2, none⟩ = some c ∧ W.cell? ⟨B, 3, none⟩ = some d ∧ W.cell? ⟨B, 4, none⟩ = some e ∧ W.cell? ⟨B, 5, none⟩ = some f ∧ W.cell? ⟨B, 6, none⟩ = some g := ⟨(h.1 0 (by simp)).1, (h.1 1 (by simp)).1, (h.1 2 (by simp)).1, (h.1 3 (by simp)).1, (h.1 4 (by simp)).1, (h.1 5 (by simp)).1, (h.1 6 (by simp)).1⟩
theorem At.at1 {W : World} {B : Nat} (hB : B = W.heap.size) (a : Value) (t : Nat) : At (W.alloc (.cells #[a] t)) B [a] := by subst hB; exact At.new1 W a t
theorem At.at2 {W : World} {B : Nat} (hB : B = W.heap.size) (a b : Value) (t : Nat) : At (W.alloc (.cells #[a, b] t)) B [a, b] := by subst hB; exact At.new2 W a b t
theorem At.at3 {W : World} {B : Nat} (hB : B = W.heap.size) (a b c : Value) (t : Nat) : At (W.alloc (.cells #[a, b, c] t)) B [a, b, c] := by subst hB; exact At.new3 W a b c t
theorem At.nx1 {W : World} (o : Obj) (a : Value) (t : Nat) : At ((W.alloc o).alloc (.cells #[a] t)) (W.heap.size + 1) [a] := At.at1 (by simp) a t
theorem At.nx2 {W : World} (o : Obj) (a b : Value) (t : Nat) : At ((W.alloc o).alloc (.cells #[a, b] t)) (W.heap.size + 1) [a, b] := At.at2 (by simp) a b t
theorem At.nx3 {W : World} (o : Obj) (a b c : Value) (t : Nat) : At ((W.alloc o).alloc (.cells #[a, b, c] t)) (W.heap.size + 1) [a, b, c] := At.at3 (by simp) a b c t
theorem At.ny1 {W : World} (o p : Obj) (a : Value) (t : Nat) : At (((W.alloc o).alloc p).alloc (.cells #[a] t)) (W.heap.size + 1 + 1) [a] := At.at1 (by simp) a t
theorem At.ny2 {W : World} (o p : Obj) (a b : Value) (t : Nat) : At (((W.alloc o).alloc p).alloc (.cells #[a, b] t)) (W.heap.size + 1 + 1) [a, b] := At.at2 (by simp) a b t
theorem At.ny3 {W : World} (o p : Obj) (a b c : Value) (t : Nat) : At (((W.alloc o).alloc p).alloc (.cells #[a, b, c] t)) (W.heap.size + 1 + 1) [a, b, c] := At.at3 (by simp) a b c t
theorem At.nz1 {W : World} (o p q : Obj) (a : Value) (t : Nat) : At ((((W.alloc o).alloc p).alloc q).alloc (.cells #[a] t)) (W.heap.size + 1 + 1 + 1) [a] := At.at1 (by simp) a t
theorem At.nz2 {W : World} (o p q : Obj) (a b : Value) (t : Nat) : At ((((W.alloc o).alloc p).alloc q).alloc (.cells #[a, b] t)) (W.heap.size + 1 + 1 + 1) [a, b] := At.at2 (by simp) a b t
theorem At.nz3 {W : World} (o p q : Obj) (a b c : Value) (t : Nat) : At ((((W.alloc o).alloc p).alloc q).alloc (.cells #[a, b, c] t)) (W.heap.size + 1 + 1 + 1) [a, b, c] := At.at3 (by simp) a b c t
theorem Has.new1 (W : World) (a : Value) (t : Nat) : Has (W.alloc (.cells #[a] t)) W.heap.size 1 := (At.new1 W a t).has rfl
theorem Has.new2 (W : World) (a b : Value) (t : Nat) : Has (W.alloc (.cells #[a, b] t)) W.heap.size 2 := (At.new2 W a b t).has rfl
theorem Has.new3 (W : World) (a b c : Value) (t : Nat) : Has (W.alloc (.cells #[a, b, c] t)) W.heap.size 3 := (At.new3 W a b c t).has rfl
theorem Has.nx1 {W : World} (o : Obj) (a : Value) (t : Nat) : Has ((W.alloc o).alloc (.cells #[a] t)) (W.heap.size + 1) 1 := (At.nx1 o a t).has rfl
theorem Has.nx2 {W : World} (o : Obj) (a b : Value) (t : Nat) : Has ((W.alloc o).alloc (.cells #[a, b] t)) (W.heap.size + 1) 2 := (At.nx2 o a b t).has rfl
theorem Has.nx3 {W : World} (o : Obj) (a b c : Value) (t : Nat) : Has ((W.alloc o).alloc (.cells #[a, b, c] t)) (W.heap.size + 1) 3 := (At.nx3 o a b c t).has rfl
theorem Has.ny1 {W : World} (o p : Obj) (a : Value) (t : Nat) : Has (((W.alloc o).alloc p).alloc (.cells #[a] t)) (W.heap.size + 1 + 1) 1 := (At.ny1 o p a t).has rfl
theorem Has.ny2 {W : World} (o p : Obj) (a b : Value) (t : Nat) : Has (((W.alloc o).alloc p).alloc (.cells #[a, b] t)) (W.heap.size + 1 + 1) 2 := (At.ny2 o p a b t).has rfl
theorem Has.ny3 {W : World} (o p : Obj) (a b c : Value) (t : Nat) : Has (((W.alloc o).alloc p).alloc (.cells #[a, b, c] t)) (W.heap.size + 1 + 1) 3 := (At.ny3 o p a b c t).has rfl
theorem Has.nz1 {W : World} (o p q : Obj) (a : Value) (t : Nat) : Has ((((W.alloc o).alloc p).alloc q).alloc (.cells #[a] t)) (W.heap.size + 1 + 1 + 1) 1 := (At.nz1 o p q a t).has rfl
theorem Has.nz2 {W : World} (o p q : Obj) (a b : Value) (t : Nat) : Has ((((W.alloc o).alloc p).alloc q).alloc (.cells #[a, b] t)) (W.heap.size + 1 + 1 + 1) 2 := (At.nz2 o p q a b t).has rfl
theorem Has.nz3 {W : World} (o p q : Obj) (a b c : Value) (t : Nat) : Has ((((W.alloc o).alloc p).alloc q).alloc (.cells #[a, b, c] t)) (W.heap.size + 1 + 1 + 1) 3 := (At.nz3 o p q a b c t).has rfl
theorem World.heap_swap (W : World) (c o : Nat) (v : Value) (p : Obj) (B : Nat) (hc : ¬ c = B) : ((W.setCell ⟨c, o, none⟩ v).alloc p).heap[B]? = (W.alloc p).heap[B]? := by
  show ((W.setCell ⟨c, o, none⟩ v).heap.push p)[B]? = (W.heap.push p)[B]?
  rw [Array.getElem?_push, Array.getElem?_push]
  have hs : (W.setCell ⟨c, o, none⟩ v).heap.size = W.heap.size := by simp
  rw [hs]
  split
  · rfl
  · exact Below.heap_setCell W ⟨c, o, none⟩ v B (fun e => hc e.symm)
theorem At.swap {W : World} {B : Nat} {l : List Value} {p : Obj} (h : At (W.alloc p) B l) {c : Nat} (hc : ¬ c = B) (o : Nat) (v : Value) : At ((W.setCell ⟨c, o, none⟩ v).alloc p) B l := by
  have e := World.heap_swap W c o v p B hc
  refine ⟨fun i hi => ?_, by have := h.2; simp at this ⊢; exact this⟩
  obtain ⟨h1, h2⟩ := h.1 i hi
  exact ⟨(World.cell?_of_block (w := W.alloc p) (a := ⟨B, i, none⟩) e).trans h1, (World.frozen?_of_block (w := W.alloc p) (a := ⟨B, i, none⟩) e).trans h2⟩
theorem Has.two {W : World} {B : Nat} (h : Has W B 2) : ∃ a b, At W B [a, b] := by
  obtain ⟨l, h1, h2⟩ := h
  match l, h1 with
  | [a, b], _ => exact ⟨a, b, h2⟩
theorem Has.three {W : World} {B : Nat} (h : Has W B 3) : ∃ a b c, At W B [a, b, c] := by
  obtain ⟨l, h1, h2⟩ := h
  match l, h1 with
  | [a, b, c], _ => exact ⟨a, b, c, h2⟩
theorem At.fill1 {W : World} {B : Nat} (h : Has W B 1) (x : Value) : At (W.setCell ⟨B, 0, none⟩ x) B [x] := by
  obtain ⟨l, h1, h2⟩ := h
  have := h2.put 0 x
  match l, h1 with
  | [_], _ => exact this
theorem At.fill2 {W : World} {B : Nat} (h : Has W B 2) (x y : Value) : At ((W.setCell ⟨B, 0, none⟩ x).setCell ⟨B, 1, none⟩ y) B [x, y] := by
  obtain ⟨l, h1, h2⟩ := h
  have := (h2.put 0 x).put 1 y
  match l, h1 with
  | [_, _], _ => exact this
theorem At.fill3 {W : World} {B : Nat} (h : Has W B 3) (x y z : Value) : At (((W.setCell ⟨B, 0, none⟩ x).setCell ⟨B, 1, none⟩ y).setCell ⟨B, 2, none⟩ z) B [x, y, z] := by
  obtain ⟨l, h1, h2⟩ := h
  have := ((h2.put 0 x).put 1 y).put 2 z
  match l, h1 with
  | [_, _, _], _ => exact this
theorem At.c1 {W : World} {B : Nat} {a : Value} (h : At W B [a]) : W.cell? ⟨B, 0, none⟩ = some a := (h.1 0 (by simp)).1
theorem At.c2 {W : World} {B : Nat} {a b : Value} (h : At W B [a, b]) : W.cell? ⟨B, 0, none⟩ = some a ∧ W.cell? ⟨B, 1, none⟩ = some b := ⟨(h.1 0 (by simp)).1, (h.1 1 (by simp)).1⟩
theorem At.c3 {W : World} {B : Nat} {a b c : Value} (h : At W B [a, b, c]) : W.cell? ⟨B, 0, none⟩ = some a ∧ W.cell? ⟨B, 1, none⟩ = some b ∧ W.cell? ⟨B, 2, none⟩ = some c := ⟨(h.1 0 (by simp)).1, (h.1 1 (by simp)).1, (h.1 2 (by simp)).1⟩
theorem At.f1 {W : World} {B : Nat} {a : Value} (h : At W B [a]) : W.frozen? ⟨B, 0, none⟩ = false := (h.1 0 (by simp)).2
theorem At.f2 {W : World} {B : Nat} {a b : Value} (h : At W B [a, b]) : W.frozen? ⟨B, 0, none⟩ = false ∧ W.frozen? ⟨B, 1, none⟩ = false := ⟨(h.1 0 (by simp)).2, (h.1 1 (by simp)).2⟩
theorem At.f3 {W : World} {B : Nat} {a b c : Value} (h : At W B [a, b, c]) : W.frozen? ⟨B, 0, none⟩ = false ∧ W.frozen? ⟨B, 1, none⟩ = false ∧ W.frozen? ⟨B, 2, none⟩ = false := ⟨(h.1 0 (by simp)).2, (h.1 1 (by simp)).2, (h.1 2 (by simp)).2⟩
/-- What a call leaves as it was, cell by cell; the call has laid a block. -/
theorem mcell {W w1 : World} (hb : Below W.heap.size W w1) : (∀ b o, b < W.heap.size → w1.cell? ⟨b, o, none⟩ = W.cell? ⟨b, o, none⟩) ∧ (∀ b o, b < W.heap.size → w1.frozen? ⟨b, o, none⟩ = W.frozen? ⟨b, o, none⟩) :=
  ⟨fun b o h => hb.cell (p := ⟨b, o, none⟩) h, fun b o h => hb.frozen (p := ⟨b, o, none⟩) h⟩
theorem mt {a b c : World} (h : Below a.heap.size a b) (k : Below b.heap.size b c) : Below a.heap.size a c := h.trans (k.mono h.size)
theorem bless {W w1 : World} (h : W.heap.size < w1.heap.size) : (∀ b, b < W.heap.size → b < w1.heap.size) ∧ (∀ b, b < W.heap.size → ¬ b = w1.heap.size) ∧ (∀ b, b < W.heap.size → ¬ w1.heap.size = b) :=
  ⟨fun b hb => by omega, fun b hb => by omega, fun b hb => by omega⟩
end Go.Proofs.YtecmkjefoppbiaaDoor
namespace Go.Proofs.YtecmkjefoppbiaaDoor
open Go.RowKit

theorem hidb {p : Prop} (h : p) : Hid p := h
end Go.Proofs.YtecmkjefoppbiaaDoor
