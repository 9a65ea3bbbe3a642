/-
  field.Both.; What a call leaves that writes into one block alone.
-/
import Derived.Test.YtpdiefmmenfpaaaDoorQJ2
import Derived.Test.YtpdiefmmenfpaaaDoorQRa
namespace Go.Proofs.YtpdiefmmenfpaaaDoor
open Go.RowKit

/-- Cell by cell. -/
def bothL (h : Int) (l l' : List Int) : List Int := List.zipWith (twoI h) l l'
theorem bothL_len {h : Int} {l l' : List Int} (e : l'.length = l.length) : (bothL h l l').length = l.length := by simp [bothL, e]
/-- So far: the first k are done. -/
def soFar (h : Int) (l l' : List Int) (k : Nat) : List Int := (bothL h l l').take k ++ List.replicate (l.length - k) 0
theorem soFar_set {h : Int} {l l' : List Int} (e : l'.length = l.length) {k : Nat} (hk : k < l.length) : (ir (soFar h l l' k)).set k (.int .i64 (twoI h l[k] (l'[k]'(by omega)))) = ir (soFar h l l' (k + 1)) := by
  have hz : k < (bothL h l l').length := by rw [bothL_len e]; exact hk
  apply List.ext_getElem
  · simp [soFar, bothL, e]; omega
  · intro i h1 h2
    simp only [List.getElem_set, ir, List.getElem_map]
    by_cases c : k = i
    · subst c
      rw [if_pos rfl]
      simp only [soFar]
      rw [List.getElem_append_left (by simp [bothL, e]; omega)]
      simp [bothL]
    · rw [if_neg c]
      simp only [soFar]
      by_cases c2 : i < k
      · rw [List.getElem_append_left (by simp [bothL, e]; omega), List.getElem_append_left (by simp [bothL, e]; omega)]
        simp
      · rw [List.getElem_append_right (by simp [bothL, e]; omega), List.getElem_append_right (by simp [bothL, e]; omega)]
        simp
theorem soFar_zero (h : Int) (l l' : List Int) : soFar h l l' 0 = List.replicate l.length 0 := by simp [soFar]
theorem soFar_end {h : Int} {l l' : List Int} (e : l'.length = l.length) : soFar h l l' l.length = bothL h l l' := by
  simp only [soFar, Nat.sub_self, List.replicate_zero, List.append_nil]
  exact List.take_of_length_le (by rw [bothL_len e]; exact Nat.le_refl _)
theorem At.isl {w : World} {B : Nat} {l : List Int} (h : At w B (ir l)) (cap : Nat) : ISl w (some ⟨B, 0, none⟩) B 0 cap l := by
  refine ISl.mk' (fun i hi => ?_) h.2
  have := (h.1 i (by simpa using hi)).1
  simpa using this
theorem vcode_zero {W H : Int} {l : List Int} (h : vcode W H l = 0) : (1 ≤ W ∧ W ≤ 128) ∧ (1 ≤ H ∧ H ≤ 128) ∧ (l.length : Int) = W * H ∧ ∀ x ∈ l, hiI x := by
  unfold vcode at h
  by_cases c1 : 128 < W ∨ 128 < H
  · rw [if_pos c1] at h; cases h
  · rw [if_neg c1] at h
    by_cases c2 : (W < 1 ∨ H < 1) ∨ ¬ (l.length : Int) = W * H
    · rw [if_pos c2] at h; cases h
    · rw [if_neg c2] at h
      by_cases c3 : ∀ x ∈ l, hiI x
      · exact ⟨⟨by omega, by omega⟩, ⟨by omega, by omega⟩, Classical.not_not.1 (fun hh => c2 (.inr hh)), c3⟩
      · rw [if_neg c3] at h; cases h
theorem acode_zero {W H W' H' : Int} {l l' : List Int} (h : acode W H l W' H' l' = 0) : vcode W H l = 0 ∧ vcode W' H' l' = 0 ∧ W = W' ∧ H = H' := by
  unfold acode at h
  by_cases c1 : vcode W H l = 0
  · rw [if_pos c1] at h
    by_cases c2 : vcode W' H' l' = 0
    · rw [if_pos c2] at h
      by_cases c3 : W = W' ∧ H = H'
      · exact ⟨c1, c2, c3.1, c3.2⟩
      · rw [if_neg c3] at h; cases h
    · rw [if_neg c2] at h; exact absurd h c2
  · rw [if_neg c1] at h; exact absurd h c1
/-- Which error. -/
def bcode (W H : Int) (l : List Int) (W' H' : Int) (l' : List Int) (h : Int) : Nat := if acode W H l W' H' l' = 0 then (if knI h then vcode W H (bothL h l l') else 3) else acode W H l W' H' l'
end Go.Proofs.YtpdiefmmenfpaaaDoor
namespace Go.Proofs.YtpdiefmmenfpaaaDoor
open Go.RowKit

/-- Only the block A is other than it was. -/
abbrev Onl (A : Nat) (w w' : World) : Prop := w.grownBy w' (some A)
theorem Onl.refl (A : Nat) (w : World) : Onl A w w := ⟨rfl, rfl, rfl, Nat.le_refl _, fun _ _ _ => rfl⟩
theorem Onl.trans {A : Nat} {a b c : World} (h : Onl A a b) (k : Onl A b c) : Onl A a c :=
  ⟨k.os.trans h.os, k.tape.trans h.tape, k.output.trans h.output, Nat.le_trans h.size k.size, fun i hi hn => (k.block i (Nat.lt_of_lt_of_le hi h.size) hn).trans (h.block i hi hn)⟩
theorem Onl.set {A : Nat} {a b : World} (h : Onl A a b) (o : Nat) (v : Value) : Onl A a (b.setCell ⟨A, o, none⟩ v) := by
  have k := Below.setCell (Below.refl 0 b) (p := ⟨A, o, none⟩) (Nat.zero_le _) v
  refine ⟨k.os.trans h.os, k.tape.trans h.tape, k.output.trans h.output, by simpa using h.size, fun i hi hn => ?_⟩
  · rw [Below.heap_setCell b ⟨A, o, none⟩ v i (fun e => hn (by rw [e]))]; exact h.block i hi hn
theorem Onl.drewN {A : Nat} {a b : World} (h : Onl A a b) (n : Nat) : Onl A a (b.drewN n) := ⟨h.os, h.tape, h.output, h.size, h.block⟩
theorem Onl.drew {A : Nat} {a b : World} (h : Onl A a b) : Onl A a b.drew := ⟨h.os, h.tape, h.output, h.size, h.block⟩
theorem Onl.of {A : Nat} {w a b : World} (h : Below w.heap.size w a) (k : Onl A a b) (hA : w.heap.size ≤ A) : Below w.heap.size w b :=
  Below.grown h k h.size (fun _ e => by cases e; exact hA)
theorem Onl.gr {A : Nat} {w a b : World} (h : Gr w a) (k : Onl A a b) (hA : w.heap.size ≤ A) : Gr w b := Onl.of h.out k hA
theorem Onl.below {A : Nat} {a b c : World} (h : Onl A a b) (k : Below b.heap.size b c) : Onl A a c :=
  h.trans ⟨k.os, k.tape, k.output, k.size, fun i hi _ => k.block i hi⟩
theorem Onl.alloc {A : Nat} {a b : World} (h : Onl A a b) (o : Obj) : Onl A a (b.alloc o) := h.below ((Below.refl _ _).alloc (Nat.le_refl _) o)
theorem At.onl {A B : Nat} {w w' : World} {l : List Value} (h : At w B l) (k : Onl A w w') (hn : B ≠ A) : At w' B l := by
  have hb := k.block B h.2 (fun e => hn (Option.some.inj e))
  exact ⟨fun i hi => ⟨(World.cell?_of_block (w := w) (a := ⟨B, i, none⟩) hb).trans (h.1 i hi).1, (World.frozen?_of_block (w := w) (a := ⟨B, i, none⟩) hb).trans (h.1 i hi).2⟩, Nat.lt_of_lt_of_le h.2 k.size⟩
theorem ISl.onl {A : Nat} {w w' : World} {ad : Option Addr} {b o cap : Nat} {l : List Int} (h : ISl w ad b o cap l) (k : Onl A w w') (hn : b ≠ A) : ISl w' ad b o cap l :=
  ⟨h.row.imp (fun r => by
    have hb := k.block b r.2 (fun e => hn (Option.some.inj e))
    exact ⟨fun i hi => (World.cell?_of_block (w := w) (a := ⟨b, o + i, none⟩) hb).trans (r.1 i hi), Nat.lt_of_lt_of_le r.2 k.size⟩) id, h.ix⟩
theorem At.get {W : World} {B : Nat} {L : List Int} (h : At W B (ir L)) {j : Nat} (hj : j < L.length) : W.cell? ⟨B, j, none⟩ = some (.int .i64 L[j]) ∧ W.frozen? ⟨B, j, none⟩ = false := by
  have := h.1 j (by simpa [ir] using hj)
  simpa [ir] using this
theorem ISl.gcell {W : World} {ad : Option Addr} {b o cap : Nat} {l : List Int} (h : ISl W ad b o cap l) {k : Nat} (hk : k < l.length) : W.cell? ⟨b, o + k, none⟩ = some (.int .i64 (gl l k)) := by
  rw [← gl_get hk]; exact h.cell hk
end Go.Proofs.YtpdiefmmenfpaaaDoor
