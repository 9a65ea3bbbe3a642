/-
  The datum's words, there and back, together. No Go text is named here.
-/
import Derived.Test.YtmiamfnnccjmeacDoorDatZ
namespace Go.Proofs.YtmiamfnnccjmeacDoor.FB
open Ieee

theorem u_sz {a b c p q : Rat} (ha : Sz 100000000 a) (hb : Sz 100000000 b) (hc : Sz 100000000 c) (hp : Sz (1001 / 1000000) p) (hq : Sz (1001 / 1000000) q) : Sz 109000000 (a - p * b + q * c) ∧ Sz 109000000 (p * b + a - q * c) ∧ Sz 109000000 (p * b - q * c + a) := by
  obtain ⟨x1, x2⟩ := prod_le hp hb
  obtain ⟨y1, y2⟩ := prod_le hq hc
  obtain ⟨a1, a2⟩ := ha
  refine ⟨⟨by grind, by grind⟩, ⟨by grind, by grind⟩, ⟨by grind, by grind⟩⟩
theorem sq_nonneg (a : Rat) : 0 ≤ a * a := by
  rcases Rat.le_total (a := 0) (b := a) with c | c
  · exact Rat.mul_nonneg c c
  · have := Rat.mul_nonneg (a := -a) (b := -a) (by grind) (by grind); grind
/-- The words of To. -/
def t1D (k X C B x y z : Nat) : Nat := FA X (FM k (FA (FS x (FM C y)) (FM B z)))
def t2D (k Y C A x y z : Nat) : Nat := FA Y (FM k (FS (FA (FM C x) y) (FM A z)))
def t3D (k Z A B x y z : Nat) : Nat := FA Z (FM k (FA (FS (FM A y) (FM B x)) z))
/-- Ahead of the turning back. -/
def fD (X1 X k : Nat) : Nat := FD (FS X1 X) k
theorem back_ok {X Y Z A B C sc x y z X1 Y1 Z1 : Nat} (hX : Q 1040 100000 X) (hY : Q 1040 100000 Y) (hZ : Q 1040 100000 Z) (hA : Q 1014 (1001 / 1000000) A) (hB : Q 1014 (1001 / 1000000) B) (hC : Q 1014 (1001 / 1000000) C) (hs : Q 1033 1000 sc) (hx : Q 1050 100000000 x) (hy : Q 1050 100000000 y) (hz : Q 1050 100000000 z)
    (lX : Le 1060 X1) (eX : val X1 = val (t1D (kD sc) X C B x y z)) (lY : Le 1060 Y1) (eY : val Y1 = val (t2D (kD sc) Y C A x y z)) (lZ : Le 1060 Z1) (eZ : val Z1 = val (t3D (kD sc) Z A B x y z)) :
    (Le 1076 (rD (FA 4607182418800017408 (FM A A)) (FA C (FM A B)) (FS (FM A C) B) (fD X1 X (kD sc)) (fD Y1 Y (kD sc)) (fD Z1 Z (kD sc)) (nD A B C)) ∧ Nr (8 / 1000000) (val (rD (FA 4607182418800017408 (FM A A)) (FA C (FM A B)) (FS (FM A C) B) (fD X1 X (kD sc)) (fD Y1 Y (kD sc)) (fD Z1 Z (kD sc)) (nD A B C))) (val x)) ∧
    (Le 1076 (rD (FS (FM A B) C) (FA 4607182418800017408 (FM B B)) (FA A (FM B C)) (fD X1 X (kD sc)) (fD Y1 Y (kD sc)) (fD Z1 Z (kD sc)) (nD A B C)) ∧ Nr (8 / 1000000) (val (rD (FS (FM A B) C) (FA 4607182418800017408 (FM B B)) (FA A (FM B C)) (fD X1 X (kD sc)) (fD Y1 Y (kD sc)) (fD Z1 Z (kD sc)) (nD A B C))) (val y)) ∧
    (Le 1076 (rD (FA (FM A C) B) (FS (FM B C) A) (FA 4607182418800017408 (FM C C)) (fD X1 X (kD sc)) (fD Y1 Y (kD sc)) (fD Z1 Z (kD sc)) (nD A B C)) ∧ Nr (8 / 1000000) (val (rD (FA (FM A C) B) (FS (FM B C) A) (FA 4607182418800017408 (FM C C)) (fD X1 X (kD sc)) (fD Y1 Y (kD sc)) (fD Z1 Z (kD sc)) (nD A B C))) (val z)) := by
  obtain ⟨kq, kv⟩ := k_Q hs
  obtain ⟨r1, m1⟩ := row1 hx hy hz hC hB
  obtain ⟨r2, m2⟩ := row2 hx hy hz hC hA
  obtain ⟨r3, m3⟩ := row3 hx hy hz hA hB
  obtain ⟨_, w1⟩ := there kq kv r1 hX _ m1
  obtain ⟨_, w2⟩ := there kq kv r2 hY _ m2
  obtain ⟨_, w3⟩ := there kq kv r3 hZ _ m3
  obtain ⟨_, _, a1, b1⟩ := w1 X1 lX eX
  obtain ⟨_, _, a2, b2⟩ := w2 Y1 lY eY
  obtain ⟨_, _, a3, b3⟩ := w3 Z1 lZ eZ
  have u1 := (u_sz hx.sz hy.sz hz.sz hC.sz hB.sz).1
  have u2 := (u_sz hy.sz hx.sz hz.sz hC.sz hA.sz).2.1
  have u3 := (u_sz hz.sz hy.sz hx.sz hA.sz hB.sz).2.2
  obtain ⟨nq, nn, nv⟩ := nD_ok hA hB hC
  have n1 : (1 : Rat) ≤ 1 + val A * val A + val B * val B + val C * val C := by
    have s1 := sq_nonneg (val A)
    have s2 := sq_nonneg (val B)
    have s3 := sq_nonneg (val C)
    grind
  obtain ⟨pa, na⟩ := pd_ok hA
  obtain ⟨pb, nb⟩ := pd_ok hB
  obtain ⟨pc, nc⟩ := pd_ok hC
  obtain ⟨p12, n12⟩ := pc_ok hC hA hB
  obtain ⟨p13, n13⟩ := ps_ok (C := C) (A := A) (B := B) hC hA hB
  obtain ⟨p21, n21⟩ := ps_ok (C := B) (A := A) (B := C) hB hA hC
  obtain ⟨p23, n23⟩ := pc_ok (C := A) (A := B) (B := C) hA hB hC
  obtain ⟨p31, n31⟩ := pr_ok (C := C) (A := A) (B := B) hC hA hB
  obtain ⟨p32, n32⟩ := ps_ok (C := C) (A := B) (B := A) hC hB hA
  have up := fun {w : Nat} (h : Q 1016 (101 / 100) w) => h.up (show 1016 ≤ 1025 by decide)
  have R1 := rD_ok pa (up p12) (up p13) na n12 n13 a1 a2 a3 b1 b2 b3 u1 u2 u3 nq nn nv n1 hx.sz (by grind)
  have R2 := rD_ok (up p21) pb (up p23) n21 nb n23 a1 a2 a3 b1 b2 b3 u1 u2 u3 nq nn nv n1 hy.sz (by grind)
  have R3 := rD_ok (up p31) (up p32) pc n31 n32 nc a1 a2 a3 b1 b2 b3 u1 u2 u3 nq nn nv n1 hz.sz (by grind)
  exact ⟨⟨R1.2.1, R1.2.2.1⟩, ⟨R2.2.1, R2.2.2.1⟩, ⟨R3.2.1, R3.2.2.1⟩⟩
end Go.Proofs.YtmiamfnnccjmeacDoor.FB
