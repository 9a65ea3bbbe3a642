/-
  slices.SortFunc of fractions in lowest terms.
-/
import Derived.Test.YtpdiefmmenfpaaaDoorQSsD
namespace Go.Proofs.YtpdiefmmenfpaaaDoor
open Go.RowKit

theorem mul3_lt {a b c d e f : Int} (hb : 0 < b) (hd : 0 < d) (hf : 0 < f) (h1 : a * d < c * b) (h2 : c * f < e * d) : a * f < e * b := by
  have k1 := Int.mul_lt_mul_of_pos_right h1 hf
  have k2 := Int.mul_lt_mul_of_pos_right h2 hb
  refine Int.lt_of_mul_lt_mul_right (a := d) ?_ (Int.le_of_lt hd)
  have e1 : a * f * d = a * d * f := by rw [Int.mul_assoc, Int.mul_comm f d, ← Int.mul_assoc]
  have e2 : c * b * f = c * f * b := by rw [Int.mul_assoc, Int.mul_comm b f, ← Int.mul_assoc]
  have e3 : e * b * d = e * d * b := by rw [Int.mul_assoc, Int.mul_comm b d, ← Int.mul_assoc]
  omega
theorem mul3_le {a b c d e f : Int} (hb : 0 < b) (hd : 0 < d) (hf : 0 < f) (h1 : c * b ≤ a * d) (h2 : e * d ≤ c * f) : e * b ≤ a * f := by
  have k1 := Int.mul_le_mul_of_nonneg_right h1 (Int.le_of_lt hf)
  have k2 := Int.mul_le_mul_of_nonneg_right h2 (Int.le_of_lt hb)
  refine Int.le_of_mul_le_mul_right (a := d) ?_ hd
  have e1 : a * f * d = a * d * f := by rw [Int.mul_assoc, Int.mul_comm f d, ← Int.mul_assoc]
  have e2 : c * b * f = c * f * b := by rw [Int.mul_assoc, Int.mul_comm b f, ← Int.mul_assoc]
  have e3 : e * b * d = e * d * b := by rw [Int.mul_assoc, Int.mul_comm b d, ← Int.mul_assoc]
  omega
theorem swoF : Go.Sort.SWO (Go.Proofs.ltOf cfF) where
  irrefl x := by rw [ltF]; simp
  trans x y z h1 h2 := by
    rw [ltF] at *
    simp only [decide_eq_true_eq] at *
    have := x.2; have := y.2; have := z.2
    exact mul3_lt (by omega) (by omega) (by omega) h1 h2
  ntrans x y z h1 h2 := by
    rw [ltF] at *
    simp only [decide_eq_false_iff_not, Int.not_lt] at *
    have := x.2; have := y.2; have := z.2
    exact mul3_le (by omega) (by omega) (by omega) h1 h2
theorem dvd_one {a b d : Int} (h : b ∣ a * d) (h1 : Int.gcd a b = 1) : b ∣ d := by
  rw [← Int.natAbs_dvd_natAbs] at h ⊢
  rw [Int.natAbs_mul] at h
  exact Nat.Coprime.dvd_of_dvd_mul_left (Nat.Coprime.symm h1) h
theorem frac_one {a b c d : Int} (hb : 0 < b) (hd : 0 < d) (h1 : Int.gcd a b = 1) (h2 : Int.gcd c d = 1) (h : a * d = c * b) : a = c ∧ b = d := by
  have k1 : b ∣ d := by
    have : b ∣ a * d := ⟨c, by rw [h, Int.mul_comm]⟩
    exact dvd_one this h1
  have k2 : d ∣ b := by
    have : d ∣ c * b := ⟨a, by rw [← h, Int.mul_comm]⟩
    exact dvd_one this h2
  have e : b = d := Int.le_antisymm (Int.le_of_dvd hd k1) (Int.le_of_dvd hb k2)
  subst e
  exact ⟨Int.eq_of_mul_eq_mul_right (by omega) h, rfl⟩
theorem totF (x y : RF) (h1 : Go.Proofs.ltOf cfF x y = false) (h2 : Go.Proofs.ltOf cfF y x = false) : x = y := by
  rw [ltF] at h1 h2
  simp only [decide_eq_false_iff_not, Int.not_lt] at h1 h2
  obtain ⟨⟨a, b⟩, p1, p2, p3, p4⟩ := x
  obtain ⟨⟨c, d⟩, q1, q2, q3, q4⟩ := y
  simp only at *
  obtain ⟨e1, e2⟩ := frac_one (by omega) (by omega) p4 q4 (Int.le_antisymm h2 h1)
  subst e1 e2
  rfl
/-- A list's i-th fraction. -/
def fsAt (l : List RF) (i : Nat) : Int × Int := (l.getD i default).1
theorem holdsF {w : World} {B : Nat} {l : List RF} (h : FB2 w B l.length (fsAt l)) : Go.Sort.HoldsK encF 2 w B 0 l.toArray := by
  intro j hj
  rw [Go.Sort.size_flatK] at hj
  simp at hj
  rw [Go.Sort.get_flatK _ _ _ _ (by simpa using hj)]
  obtain ⟨⟨u1, u2⟩, u3, u4⟩ := h.cl (j / 2) (by omega)
  have hg : l.toArray[j / 2]! = l.getD (j / 2) default := by simp
  rw [hg, Nat.zero_add]
  have h7 : j % 2 = 0 ∨ j % 2 = 1 := by omega
  rcases h7 with e | e
  · rw [e]
    have e1 : j = j / 2 * 2 := by omega
    rw [← e1] at u1 u3
    exact ⟨u1, u3⟩
  · rw [e]
    have e1 : j = j / 2 * 2 + 1 := by omega
    rw [← e1] at u2 u4
    exact ⟨u2, u4⟩
theorem ofHoldsF {w : World} {B : Nat} {l : List RF} (h : Go.Sort.HoldsK encF 2 w B 0 l.toArray) (hB : B < w.heap.size) : FB2 w B l.length (fsAt l) := by
  refine ⟨fun i hi => ?_, hB⟩
  have c0 := h.cell (i := i) (c := 0) (by simpa using hi) (by omega)
  have c1 := h.cell (i := i) (c := 1) (by simpa using hi) (by omega)
  have hg : l.toArray[i]! = l.getD i default := by simp
  rw [hg] at c0 c1
  simp only [Nat.zero_add, Nat.add_zero] at c0 c1
  exact ⟨⟨c0.1, c1.1⟩, c0.2, c1.2⟩
theorem onl_sort {w : World} {B : Nat} (n : Nat) (d : Array RF) (os : Array Obj) : Onl B w (Go.Proofs.sortWorldK encF 2 w B 0 n d os) := by
  refine ⟨rfl, rfl, rfl, Go.Proofs.size_sortWorldK_c _ _ _ _ _ _ _ _, fun i hi hn => ?_⟩
  have hne : B ≠ i := fun e => hn (by rw [e])
  simp [Go.Proofs.sortWorldK, Go.Sort.grow, Go.Sort.putRowK, Go.Sort.putRow, Go.Sort.mapBlock, Go.Sort.ahead, Array.getElem?_append, hi, Array.getElem_modify, hne]
/-- Sorted from the least to the greatest. -/
def srt (l : List RF) : List RF := l.mergeSort fun x y => !(Go.Proofs.ltOf cfF) y x
theorem srt_len (l : List RF) : (srt l).length = l.length := by simp [srt]
end Go.Proofs.YtpdiefmmenfpaaaDoor
