/-
  Datums: there and back, in fractions. No Go text is named here.
-/
import Derived.Test.YtmiamfnnccjmeacDoorDatN
namespace Go.Proofs.YtmiamfnnccjmeacDoor.FB
open Ieee

/-- Back from the other frame, ahead of turning: within a 2000000th. -/
theorem w_back {k s2 t X X1 d1 d w U : Rat} (k1 : 99 / 100 ≤ k) (k2 : k ≤ 101 / 100) (h : Nr (4 / 50000000) s2 U) (h1 : Nr (1 / 50000000) t (k * s2)) (h2 : Nr (1 / 50000000) X1 (X + t)) (h3 : Nr (1 / 50000000) d1 (X1 - X)) (h4 : d * k = d1) (h5 : Nr (3 / 50000000) w d) : Nr (1 / 2000000) w U := by
  have hs := prod_near (Nr.refl k) h (show Sz 2 k from ⟨by grind, by grind⟩) (show Sz (U * U + 1) U from by
    have : 0 ≤ U * U := by
      rcases Rat.le_total (a := 0) (b := U) with c | c
      · exact Rat.mul_nonneg c c
      · have := Rat.mul_nonneg (a := -U) (b := -U) (by grind) (by grind); grind
    have h1 : 0 ≤ (U - 1) * (U - 1) := by
      rcases Rat.le_total (a := 0) (b := U - 1) with c | c
      · exact Rat.mul_nonneg c c
      · have := Rat.mul_nonneg (a := -(U - 1)) (b := -(U - 1)) (by grind) (by grind); grind
    have h2 : 0 ≤ (U + 1) * (U + 1) := by
      rcases Rat.le_total (a := 0) (b := U + 1) with c | c
      · exact Rat.mul_nonneg c c
      · have := Rat.mul_nonneg (a := -(U + 1)) (b := -(U + 1)) (by grind) (by grind); grind
    constructor <;> grind)
  obtain ⟨a1, a2⟩ := hs
  obtain ⟨b1, b2⟩ := h1
  obtain ⟨c1, c2⟩ := h2
  obtain ⟨e1, e2⟩ := h3
  obtain ⟨f1, f2⟩ := h5
  have kp : 0 < k := by grind
  have g1 : d - U ≤ 12 / 50000000 := by
    refine Rat.le_of_mul_le_mul_right (c := k) ?_ kp
    have : (d - U) * k = d1 - k * U := by grind
    rw [this]
    grind
  have g2 : U - d ≤ 12 / 50000000 := by
    refine Rat.le_of_mul_le_mul_right (c := k) ?_ kp
    have : (U - d) * k = k * U - d1 := by grind
    rw [this]
    grind
  constructor <;> grind
/-- A row of the turning back: within 8 millionths. -/
theorem row_back {P1 P2 P3 U1 U2 U3 N T p1 p2 p3 w1 w2 w3 q1 q2 q3 s1 s2 n r d : Rat} (hid : P1 * U1 + P2 * U2 + P3 * U3 = N * T)
    (a1 : Nr (1 / 1000000000000000) p1 P1) (a2 : Nr (1 / 1000000000000000) p2 P2) (a3 : Nr (1 / 1000000000000000) p3 P3) (z1 : Sz 2 p1) (z2 : Sz 2 p2) (z3 : Sz 2 p3)
    (b1 : Nr (1 / 2000000) w1 U1) (b2 : Nr (1 / 2000000) w2 U2) (b3 : Nr (1 / 2000000) w3 U3) (u1 : Sz 110000000 U1) (u2 : Sz 110000000 U2) (u3 : Sz 110000000 U3)
    (c1 : Nr (1 / 10000000) q1 (p1 * w1)) (c2 : Nr (1 / 10000000) q2 (p2 * w2)) (c3 : Nr (1 / 10000000) q3 (p3 * w3)) (d1 : Nr (1 / 10000000) s1 (q1 + q2)) (d2 : Nr (1 / 10000000) s2 (s1 + q3))
    (hn : Nr (1 / 1000000000000000) n N) (n1 : 1 ≤ N) (hT : Sz 100000000 T) (hd : d * n = s2) (hr : Nr (1 / 2000000) r d) : Nr (8 / 1000000) r T := by
  have e1 := prod_near a1 b1 z1 u1
  have e2 := prod_near a2 b2 z2 u2
  have e3 := prod_near a3 b3 z3 u3
  have e4 := prod_le (show Sz (1 / 1000000000000000) (n - N) from ⟨by have := hn.2; grind, hn.1⟩) hT
  obtain ⟨e11, e12⟩ := e1
  obtain ⟨e21, e22⟩ := e2
  obtain ⟨e31, e32⟩ := e3
  obtain ⟨e41, e42⟩ := e4
  obtain ⟨c11, c12⟩ := c1
  obtain ⟨c21, c22⟩ := c2
  obtain ⟨c31, c32⟩ := c3
  obtain ⟨d11, d12⟩ := d1
  obtain ⟨d21, d22⟩ := d2
  obtain ⟨n2, n3⟩ := hn
  obtain ⟨r1, r2⟩ := hr
  generalize P1 * U1 = A1 at *
  generalize P2 * U2 = A2 at *
  generalize P3 * U3 = A3 at *
  generalize p1 * w1 = B1 at *
  generalize p2 * w2 = B2 at *
  generalize p3 * w3 = B3 at *
  have np : 0 < n := by grind
  have hs1 : s2 - N * T ≤ 5 / 1000000 := by grind
  have hs2 : N * T - s2 ≤ 5 / 1000000 := by grind
  have g1 : d - T ≤ 7 / 1000000 := by
    refine Rat.le_of_mul_le_mul_right (c := n) ?_ np
    have : (d - T) * n = (s2 - N * T) - (n - N) * T := by grind
    rw [this]
    grind
  have g2 : T - d ≤ 7 / 1000000 := by
    refine Rat.le_of_mul_le_mul_right (c := n) ?_ np
    have : (T - d) * n = (N * T - s2) + (n - N) * T := by grind
    rw [this]
    grind
  constructor <;> grind
end Go.Proofs.YtmiamfnnccjmeacDoor.FB
