/-
  The datum's words, there and back: within what is told. No Go text is named here.
-/
import Derived.Test.YtmiamfnnccjmeacDoorDatX
namespace Go.Proofs.YtmiamfnnccjmeacDoor.FB
open Ieee

theorem row1 {x y z C B : Nat} (hx : Q 1050 100000000 x) (hy : Q 1050 100000000 y) (hz : Q 1050 100000000 z) (hC : Q 1014 (1001 / 1000000) C) (hB : Q 1014 (1001 / 1000000) B) : Q 1054 100300000 (FA (FS x (FM C y)) (FM B z)) ∧ Nr (4 / 50000000) (val (FA (FS x (FM C y)) (FM B z))) (val x - val C * val y + val B * val z) := by
  have hu := ulp_small
  obtain ⟨l1, n1⟩ := mulQ hC hy (by decide) (by decide) (by decide) (by decide) 1043 (by decide) (by decide) (by decide) (1 / 50000000) (by grind)
  have p1 := prod_le hC.sz hy.sz
  have q1 := Q.near l1 n1 p1 100101 (by grind)
  obtain ⟨l2, n2⟩ := subQ hx (q1.up (show 1043 ≤ 1050 by decide)) (by decide) (by decide) (1 / 50000000) (by grind)
  have q2 := Q.near l2 n2 (Sz.sub hx.sz q1.sz) 100100102 (by grind)
  obtain ⟨l3, n3⟩ := mulQ hB hz (by decide) (by decide) (by decide) (by decide) 1043 (by decide) (by decide) (by decide) (1 / 50000000) (by grind)
  have p3 := prod_le hB.sz hz.sz
  have q3 := Q.near l3 n3 p3 100101 (by grind)
  obtain ⟨l4, n4⟩ := addQ q2 (q3.up (show 1043 ≤ 1052 by decide)) (by decide) (by decide) (1 / 50000000) (by grind)
  have q4 := Q.near l4 n4 (Sz.add q2.sz q3.sz) 100300000 (by grind)
  refine ⟨q4, ?_⟩
  obtain ⟨a1, a2⟩ := n1
  obtain ⟨b1, b2⟩ := n2
  obtain ⟨c1, c2⟩ := n3
  obtain ⟨d1, d2⟩ := n4
  constructor <;> grind
theorem row2 {x y z C A : Nat} (hx : Q 1050 100000000 x) (hy : Q 1050 100000000 y) (hz : Q 1050 100000000 z) (hC : Q 1014 (1001 / 1000000) C) (hA : Q 1014 (1001 / 1000000) A) : Q 1054 100300000 (FS (FA (FM C x) y) (FM A z)) ∧ Nr (4 / 50000000) (val (FS (FA (FM C x) y) (FM A z))) (val C * val x + val y - val A * val z) := by
  have hu := ulp_small
  obtain ⟨l1, n1⟩ := mulQ hC hx (by decide) (by decide) (by decide) (by decide) 1043 (by decide) (by decide) (by decide) (1 / 50000000) (by grind)
  have p1 := prod_le hC.sz hx.sz
  have q1 := Q.near l1 n1 p1 100101 (by grind)
  obtain ⟨l2, n2⟩ := addQ (q1.up (show 1043 ≤ 1050 by decide)) hy (by decide) (by decide) (1 / 50000000) (by grind)
  have q2 := Q.near l2 n2 (Sz.add q1.sz hy.sz) 100100102 (by grind)
  obtain ⟨l3, n3⟩ := mulQ hA hz (by decide) (by decide) (by decide) (by decide) 1043 (by decide) (by decide) (by decide) (1 / 50000000) (by grind)
  have p3 := prod_le hA.sz hz.sz
  have q3 := Q.near l3 n3 p3 100101 (by grind)
  obtain ⟨l4, n4⟩ := subQ q2 (q3.up (show 1043 ≤ 1052 by decide)) (by decide) (by decide) (1 / 50000000) (by grind)
  have q4 := Q.near l4 n4 (Sz.sub q2.sz q3.sz) 100300000 (by grind)
  refine ⟨q4, ?_⟩
  obtain ⟨a1, a2⟩ := n1
  obtain ⟨b1, b2⟩ := n2
  obtain ⟨c1, c2⟩ := n3
  obtain ⟨d1, d2⟩ := n4
  constructor <;> grind
theorem row3 {x y z A B : Nat} (hx : Q 1050 100000000 x) (hy : Q 1050 100000000 y) (hz : Q 1050 100000000 z) (hA : Q 1014 (1001 / 1000000) A) (hB : Q 1014 (1001 / 1000000) B) : Q 1054 100300000 (FA (FS (FM A y) (FM B x)) z) ∧ Nr (4 / 50000000) (val (FA (FS (FM A y) (FM B x)) z)) (val A * val y - val B * val x + val z) := by
  have hu := ulp_small
  obtain ⟨l1, n1⟩ := mulQ hA hy (by decide) (by decide) (by decide) (by decide) 1043 (by decide) (by decide) (by decide) (1 / 50000000) (by grind)
  have p1 := prod_le hA.sz hy.sz
  have q1 := Q.near l1 n1 p1 100101 (by grind)
  obtain ⟨l3, n3⟩ := mulQ hB hx (by decide) (by decide) (by decide) (by decide) 1043 (by decide) (by decide) (by decide) (1 / 50000000) (by grind)
  have p3 := prod_le hB.sz hx.sz
  have q3 := Q.near l3 n3 p3 100101 (by grind)
  obtain ⟨l2, n2⟩ := subQ q1 q3 (by decide) (by decide) (1 / 50000000) (by grind)
  have q2 := Q.near l2 n2 (Sz.sub q1.sz q3.sz) 200203 (by grind)
  obtain ⟨l4, n4⟩ := addQ (q2.up (show 1045 ≤ 1052 by decide)) (hz.up (show 1050 ≤ 1052 by decide)) (by decide) (by decide) (1 / 50000000) (by grind)
  have q4 := Q.near l4 n4 (Sz.add q2.sz hz.sz) 100300000 (by grind)
  refine ⟨q4, ?_⟩
  obtain ⟨a1, a2⟩ := n1
  obtain ⟨b1, b2⟩ := n2
  obtain ⟨c1, c2⟩ := n3
  obtain ⟨d1, d2⟩ := n4
  constructor <;> grind
/-- There, and back as far as the turning. -/
theorem there {k u X : Nat} (hk : Q 1025 (101 / 100) k) (kv : 99 / 100 ≤ val k) (hq : Q 1054 100300000 u) (hX : Q 1040 100000 X) (U : Rat) (hU : Nr (4 / 50000000) (val u) U) :
    Q 1060 101500000 (FA X (FM k u)) ∧ ∀ X1, Le 1060 X1 → val X1 = val (FA X (FM k u)) → Le 1062 (FS X1 X) ∧ double.div (FS X1 X) k = some (FD (FS X1 X) k) ∧ Le 1065 (FD (FS X1 X) k) ∧ Nr (1 / 2000000) (val (FD (FS X1 X) k)) U := by
  have hu := ulp_small
  obtain ⟨l1, n1⟩ := mulQ hk hq (by decide) (by decide) (by decide) (by decide) 1058 (by decide) (by decide) (by decide) (1 / 50000000) (by grind)
  have p1 := prod_le hk.sz hq.sz
  have q1 := Q.near l1 n1 p1 101303001 (by grind)
  obtain ⟨l2, n2⟩ := addQ (hX.up (show 1040 ≤ 1058 by decide)) q1 (by decide) (by decide) (1 / 50000000) (by grind)
  have q2 := Q.near l2 n2 (Sz.add hX.sz q1.sz) 101500000 (by grind)
  refine ⟨q2, ?_⟩
  intro X1 lX eX
  have qX : Q 1060 101500000 X1 := ⟨lX, by rw [eX]; exact q2.sz⟩
  obtain ⟨l3, n3⟩ := subQ qX (hX.up (show 1040 ≤ 1060 by decide)) (by decide) (by decide) (1 / 50000000) (by grind)
  have q3 := Q.near l3 n3 (Sz.sub qX.sz hX.sz) 101600001 (by grind)
  obtain ⟨e4, l4, d, hd, n4, s4⟩ := divQ q3 (by decide) (by decide) hk.le (by decide) kv (3 / 50000000) (by grind)
  refine ⟨l3, e4, l4, ?_⟩
  rw [eX] at n3
  exact w_back kv (by have := hk.sz.2; grind) hU n1 n2 n3 hd n4
end Go.Proofs.YtmiamfnnccjmeacDoor.FB
