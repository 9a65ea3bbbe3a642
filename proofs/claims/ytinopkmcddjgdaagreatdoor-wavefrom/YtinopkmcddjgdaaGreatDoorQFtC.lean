/-
  flat: radius, thin, belt, even, aside, fromPole; mercatorref2: upOf, downOf.
-/
import Derived.Test.YtinopkmcddjgdaaGreatDoorQFtB
import Derived.Deep.RegionHeld3
import Derived.Deep.CutRange
namespace Go.Proofs.YtinopkmcddjgdaaGreatDoor
open Go.RowKit FB
attribute [local go_sem] run_store_float

theorem At.new5 (W : World) (a b c d e : Value) (t : Nat) : At (W.alloc (.cells #[a, b, c, d, e] t)) W.heap.size [a, b, c, d, e] := by
  refine ⟨fun i hi => ?_, by simp⟩
  match i, hi with
  | 0, _ => exact ⟨by simp [go_sem], by simp [go_sem]⟩
  | 1, _ => exact ⟨by simp [go_sem], by simp [go_sem]⟩
  | 2, _ => exact ⟨by simp [go_sem], by simp [go_sem]⟩
  | 3, _ => exact ⟨by simp [go_sem], by simp [go_sem]⟩
  | 4, _ => exact ⟨by simp [go_sem], by simp [go_sem]⟩
theorem At.c5 {W : World} {B : Nat} {a b c d e : Value} (h : At W B [a, b, c, d, e]) : W.cell? ⟨B, 0, none⟩ = some a ∧ W.cell? ⟨B, 1, none⟩ = some b ∧ W.cell? ⟨B, 2, none⟩ = some c ∧ W.cell? ⟨B, 3, none⟩ = some d ∧ W.cell? ⟨B, 4, none⟩ = some e := ⟨(h.1 0 (by simp)).1, (h.1 1 (by simp)).1, (h.1 2 (by simp)).1, (h.1 3 (by simp)).1, (h.1 4 (by simp)).1⟩
/-- A paper's values. -/
abbrev pL (a f : Nat) (k : ByteArray) (mid : Int) (m : Nat) : List Value := [.float .f64 a, .float .f64 f, .string k, .int .i64 mid, .float .f64 m]
abbrev pV (a f : Nat) (k : ByteArray) (mid : Int) (m : Nat) : Value := .agg #[.float .f64 a, .float .f64 f, .string k, .int .i64 mid, .float .f64 m]

/-- A chain whose answer is nothing. -/
def isZO : Option Nat → Bool | some r => isZ r | none => false
theorem isZ_got {o : Option Nat} {r : Nat} (h : Got o r) : isZ r = isZO o := by
  cases o with
  | none => obtain ⟨s, f, h⟩ := h; show (Ieee.double.order r 0 == _) = false; rw [order_nan h]; rfl
  | some q => obtain rfl : r = q := h; rfl
def thS (f s : Nat) : Option Nat := oS (some oneW) (oM (oM (some (eOf f)) (some s)) (some s))
def beS (f s : Nat) : Option Nat := if isZO (rtO f) = true then oM (some twoW) (some s) else oM (oS (some oneW) (some (eOf f))) (oA (oD (some s) (thS f s)) (oD (tbO (oM (rtO f) (some s))) (oM (some twoW) (rtO f))))
def upS (a m f s : Nat) : Option Nat := oD (oM (oD (some a) (some m)) (beS f s)) (some twoW)
def raO (a m : Nat) : Option Nat := oM (some a) (some m)

/-- Nothings in quotients and sums. -/
theorem div_zr {u v t : Nat} (hu : Zr u) (hv : Zr v) : Sim (Ieee.double.div u t) (Ieee.double.div v t) := by
  obtain ⟨s, hs⟩ := read_zr hu
  obtain ⟨s', hs'⟩ := read_zr hv
  unfold Ieee.Format.div
  rw [hs, hs']
  cases ht : Ieee.double.read t with
  | nan x y => exact .inl ⟨rfl, rfl⟩
  | infinity x =>
    refine .inr ⟨_, _, rfl, rfl, .inr ⟨?_, ?_⟩⟩
    · exact near_zr _ _
    · exact near_zr _ _
  | number x n j =>
    simp only [Ieee.Datum.quotient]
    by_cases hn : n = 0
    · rw [if_pos hn, if_pos hn]; exact .inl ⟨rfl, rfl⟩
    · rw [if_neg hn, if_neg hn]
      have hz : ∀ k : Nat, 2 * ((0 <<< k) / n) + ((0 <<< k) % n != 0).toNat = 0 := by
        intro k; rw [Nat.zero_shiftLeft, Nat.zero_div, Nat.zero_mod]; rfl
      rw [hz]
      refine .inr ⟨_, _, rfl, rfl, .inr ⟨?_, ?_⟩⟩
      · exact near_zr _ _
      · exact near_zr _ _
theorem signed_zero (s : Bool) (k : Nat) : Ieee.signed s 0 k = 0 := by unfold Ieee.signed; rw [Nat.zero_shiftLeft]; cases s <;> rfl
theorem add_zr {u v t : Nat} (hu : Zr u) (hv : Zr v) : Sim (Ieee.double.add u t) (Ieee.double.add v t) := by
  obtain ⟨s, hs⟩ := read_zr hu
  obtain ⟨s', hs'⟩ := read_zr hv
  unfold Ieee.Format.add
  rw [hs, hs']
  cases ht : Ieee.double.read t with
  | nan x y => exact .inl ⟨rfl, rfl⟩
  | infinity x => exact Sim.refl _
  | number x n j =>
    simp only [Ieee.Datum.sum]
    rw [signed_zero, signed_zero, Int.zero_add]
    by_cases hn : Ieee.signed x n (j - min (-1074) j).toNat = 0
    · rw [if_pos hn, if_pos hn, hn]
      refine .inr ⟨_, _, rfl, rfl, .inr ⟨?_, ?_⟩⟩
      · exact near_zr _ _
      · exact near_zr _ _
    · rw [if_neg hn, if_neg hn]; exact Sim.refl _
theorem oD_sim {o o' t : Option Nat} (h : Sim o o') : Sim (oD o t) (oD o' t) := by
  rcases h with ⟨rfl, rfl⟩ | ⟨r, q, rfl, rfl, rfl | ⟨h1, h2⟩⟩
  · exact .inl ⟨rfl, rfl⟩
  · exact Sim.refl _
  · cases t with
    | none => exact .inl ⟨rfl, rfl⟩
    | some t => exact div_zr h1 h2
theorem oA_sim {o o' t : Option Nat} (h : Sim o o') : Sim (oA o t) (oA o' t) := by
  rcases h with ⟨rfl, rfl⟩ | ⟨r, q, rfl, rfl, rfl | ⟨h1, h2⟩⟩
  · exact .inl ⟨rfl, rfl⟩
  · exact Sim.refl _
  · cases t with
    | none => exact .inl ⟨rfl, rfl⟩
    | some t => exact add_zr h1 h2
theorem oneS_sim {o p : Option Nat} (h : Sim o p) : oS (some oneW) o = oS (some oneW) p := by
  rcases h with ⟨rfl, rfl⟩ | ⟨r, q, rfl, rfl, h⟩
  · rfl
  · exact one_sub h
theorem upS_sim {a m f u v : Nat} (h : SameZ u v) : Sim (upS a m f u) (upS a m f v) := by
  have hs := sim_z h
  unfold upS
  refine oD_sim (oM_sim (Sim.refl _) ?_)
  unfold beS
  split
  · exact oM_sim (Sim.refl _) hs
  · refine oM_sim (Sim.refl _) ?_
    have e1 : thS f u = thS f v := oneS_sim (oM_sim (oM_sim (Sim.refl _) hs) hs)
    rw [e1, tbO_sim (oM_sim (Sim.refl (rtO f)) hs)]
    exact oA_sim (oD_sim hs)

end Go.Proofs.YtinopkmcddjgdaaGreatDoor
