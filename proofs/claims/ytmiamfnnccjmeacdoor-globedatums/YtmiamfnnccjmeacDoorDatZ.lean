/-
  The datum's words, back: within what is told. No Go text is named here.
-/
import Derived.Test.YtmiamfnnccjmeacDoorDatY
namespace Go.Proofs.YtmiamfnnccjmeacDoor.FB
open Ieee

theorem sq_ok {A B : Nat} (hA : Q 1014 (1001 / 1000000) A) (hB : Q 1014 (1001 / 1000000) B) : Q 1007 (2 / 1000000) (FM A B) ∧ Nr (1 / 10000000000000000000) (val (FM A B)) (val A * val B) := by
  have hu := ulp_small
  obtain ⟨l1, n1⟩ := mulQ hA hB (by decide) (by decide) (by decide) (by decide) 1007 (by decide) (by decide) (by decide) (1 / 10000000000000000000) (by grind)
  exact ⟨Q.near l1 n1 (prod_le hA.sz hB.sz) _ (by grind), n1⟩
theorem pd_ok {A : Nat} (hA : Q 1014 (1001 / 1000000) A) : Q 1025 (101 / 100) (FA 4607182418800017408 (FM A A)) ∧ Nr (2 / 10000000000000000) (val (FA 4607182418800017408 (FM A A))) (1 + val A * val A) := by
  have hu := ulp_small
  have o := one_val
  obtain ⟨q1, n1⟩ := sq_ok hA hA
  obtain ⟨l2, n2⟩ := addQ one_Q (q1.up (show 1007 ≤ 1023 by decide)) (by decide) (by decide) (12 / 100000000000000000) (by grind)
  refine ⟨Q.near l2 n2 (Sz.add one_Q.sz q1.sz) _ (by grind), ?_⟩
  obtain ⟨a1, a2⟩ := n1
  obtain ⟨b1, b2⟩ := n2
  constructor <;> grind
theorem pc_ok {C A B : Nat} (hC : Q 1014 (1001 / 1000000) C) (hA : Q 1014 (1001 / 1000000) A) (hB : Q 1014 (1001 / 1000000) B) : Q 1016 (101 / 100) (FA C (FM A B)) ∧ Nr (2 / 10000000000000000) (val (FA C (FM A B))) (val C + val A * val B) := by
  have hu := ulp_small
  obtain ⟨q1, n1⟩ := sq_ok hA hB
  obtain ⟨l2, n2⟩ := addQ hC (q1.up (show 1007 ≤ 1014 by decide)) (by decide) (by decide) (12 / 100000000000000000) (by grind)
  refine ⟨Q.near l2 n2 (Sz.add hC.sz q1.sz) _ (by grind), ?_⟩
  obtain ⟨a1, a2⟩ := n1
  obtain ⟨b1, b2⟩ := n2
  constructor <;> grind
theorem pr_ok {C A B : Nat} (hC : Q 1014 (1001 / 1000000) C) (hA : Q 1014 (1001 / 1000000) A) (hB : Q 1014 (1001 / 1000000) B) : Q 1016 (101 / 100) (FA (FM A C) B) ∧ Nr (2 / 10000000000000000) (val (FA (FM A C) B)) (val A * val C + val B) := by
  have hu := ulp_small
  obtain ⟨q1, n1⟩ := sq_ok hA hC
  obtain ⟨l2, n2⟩ := addQ (q1.up (show 1007 ≤ 1014 by decide)) hB (by decide) (by decide) (12 / 100000000000000000) (by grind)
  refine ⟨Q.near l2 n2 (Sz.add q1.sz hB.sz) _ (by grind), ?_⟩
  obtain ⟨a1, a2⟩ := n1
  obtain ⟨b1, b2⟩ := n2
  constructor <;> grind
theorem ps_ok {C A B : Nat} (hC : Q 1014 (1001 / 1000000) C) (hA : Q 1014 (1001 / 1000000) A) (hB : Q 1014 (1001 / 1000000) B) : Q 1016 (101 / 100) (FS (FM A C) B) ∧ Nr (2 / 10000000000000000) (val (FS (FM A C) B)) (val A * val C - val B) := by
  have hu := ulp_small
  obtain ⟨q1, n1⟩ := sq_ok hA hC
  obtain ⟨l2, n2⟩ := subQ (q1.up (show 1007 ≤ 1014 by decide)) hB (by decide) (by decide) (12 / 100000000000000000) (by grind)
  refine ⟨Q.near l2 n2 (Sz.sub q1.sz hB.sz) _ (by grind), ?_⟩
  obtain ⟨a1, a2⟩ := n1
  obtain ⟨b1, b2⟩ := n2
  constructor <;> grind
/-- What the rows are divided by. -/
def nD (A B C : Nat) : Nat := FA (FA (FA 4607182418800017408 (FM A A)) (FM B B)) (FM C C)
theorem nD_ok {A B C : Nat} (hA : Q 1014 (1001 / 1000000) A) (hB : Q 1014 (1001 / 1000000) B) (hC : Q 1014 (1001 / 1000000) C) : Q 1029 (102 / 100) (nD A B C) ∧ Nr (1 / 1000000000000000) (val (nD A B C)) (1 + val A * val A + val B * val B + val C * val C) ∧ 99 / 100 ≤ val (nD A B C) := by
  have hu := ulp_small
  obtain ⟨q1, n1⟩ := pd_ok hA
  obtain ⟨q2, n2⟩ := sq_ok hB hB
  obtain ⟨q3, n3⟩ := sq_ok hC hC
  obtain ⟨l4, n4⟩ := addQ q1 (q2.up (show 1007 ≤ 1025 by decide)) (by decide) (by decide) (12 / 100000000000000000) (by grind)
  have q4 := Q.near l4 n4 (Sz.add q1.sz q2.sz) (1011 / 1000) (by grind)
  obtain ⟨l5, n5⟩ := addQ q4 (q3.up (show 1007 ≤ 1027 by decide)) (by decide) (by decide) (12 / 100000000000000000) (by grind)
  have q5 := Q.near l5 n5 (Sz.add q4.sz q3.sz) (102 / 100) (by grind)
  have pa := prod_le hA.sz hA.sz
  obtain ⟨a1, a2⟩ := n1
  obtain ⟨b1, b2⟩ := n2
  obtain ⟨c1, c2⟩ := n3
  obtain ⟨d1, d2⟩ := n4
  obtain ⟨e1, e2⟩ := n5
  obtain ⟨f1, f2⟩ := q2.sz
  obtain ⟨g1, g2⟩ := q3.sz
  obtain ⟨h1, h2⟩ := pa
  unfold nD
  refine ⟨q5, ⟨by grind, by grind⟩, ?_⟩
  grind
/-- A row of the turning back, its words. -/
def rD (p q r w1 w2 w3 n : Nat) : Nat := FD (FA (FA (FM p w1) (FM q w2)) (FM r w3)) n
theorem rD_ok {p q r w1 w2 w3 n : Nat} {P1 P2 P3 U1 U2 U3 N T : Rat} (hp : Q 1025 (101 / 100) p) (hq : Q 1025 (101 / 100) q) (hr : Q 1025 (101 / 100) r) (np : Nr (2 / 10000000000000000) (val p) P1) (nq : Nr (2 / 10000000000000000) (val q) P2) (nr : Nr (2 / 10000000000000000) (val r) P3)
    (l1 : Le 1065 w1) (l2 : Le 1065 w2) (l3 : Le 1065 w3) (b1 : Nr (1 / 2000000) (val w1) U1) (b2 : Nr (1 / 2000000) (val w2) U2) (b3 : Nr (1 / 2000000) (val w3) U3) (u1 : Sz 109000000 U1) (u2 : Sz 109000000 U2) (u3 : Sz 109000000 U3)
    (hn : Q 1029 (102 / 100) n) (nn : Nr (1 / 1000000000000000) (val n) N) (nv : 99 / 100 ≤ val n) (n1 : 1 ≤ N) (hT : Sz 100000000 T) (hid : P1 * U1 + P2 * U2 + P3 * U3 = N * T) :
    double.div (FA (FA (FM p w1) (FM q w2)) (FM r w3)) n = some (rD p q r w1 w2 w3 n) ∧ Le 1076 (rD p q r w1 w2 w3 n) ∧ Nr (8 / 1000000) (val (rD p q r w1 w2 w3 n)) T ∧ Le 1073 (FA (FA (FM p w1) (FM q w2)) (FM r w3)) := by
  have hu := ulp_small
  have q1 := Q.near l1 b1 u1 110000000 (by grind)
  have q2 := Q.near l2 b2 u2 110000000 (by grind)
  have q3 := Q.near l3 b3 u3 110000000 (by grind)
  obtain ⟨m1, c1⟩ := mulQ hp q1 (by decide) (by decide) (by decide) (by decide) 1069 (by decide) (by decide) (by decide) (1 / 10000000) (by grind)
  obtain ⟨m2, c2⟩ := mulQ hq q2 (by decide) (by decide) (by decide) (by decide) 1069 (by decide) (by decide) (by decide) (1 / 10000000) (by grind)
  obtain ⟨m3, c3⟩ := mulQ hr q3 (by decide) (by decide) (by decide) (by decide) 1069 (by decide) (by decide) (by decide) (1 / 10000000) (by grind)
  have v1 := Q.near m1 c1 (prod_le hp.sz q1.sz) 111200000 (by grind)
  have v2 := Q.near m2 c2 (prod_le hq.sz q2.sz) 111200000 (by grind)
  have v3 := Q.near m3 c3 (prod_le hr.sz q3.sz) 111200000 (by grind)
  obtain ⟨m4, c4⟩ := addQ v1 v2 (by decide) (by decide) (1 / 10000000) (by grind)
  have v4 := Q.near m4 c4 (Sz.add v1.sz v2.sz) 222500000 (by grind)
  obtain ⟨m5, c5⟩ := addQ v4 (v3.up (show 1069 ≤ 1071 by decide)) (by decide) (by decide) (1 / 10000000) (by grind)
  have v5 := Q.near m5 c5 (Sz.add v4.sz v3.sz) 334000000 (by grind)
  obtain ⟨e6, m6, d, hd, c6, s6⟩ := divQ v5 (by decide) (by decide) hn.le (by decide) nv (1 / 2000000) (by grind)
  refine ⟨e6, m6, ?_, m5⟩
  exact row_back hid (np.mono (by grind)) (nq.mono (by grind)) (nr.mono (by grind)) (hp.sz.mono (by grind)) (hq.sz.mono (by grind)) (hr.sz.mono (by grind)) b1 b2 b3 (u1.mono (by grind)) (u2.mono (by grind)) (u3.mono (by grind)) c1 c2 c3 c4 c5 nn n1 hT hd c6
/-- Within 1e-5, as the law asks. -/
theorem last_ok {k r x : Nat} (hr : Le k r) (hk : k ≤ 1100) (hx : Q 1050 100000000 x) (h : Nr (8 / 1000000) (val r) (val x)) : double.sub r x = some (FS r x) ∧ Le 1102 (FS r x) ∧ key (FS r x) ≤ key 4532020583610935537 ∧ key 13755392620465711345 ≤ key (FS r x) := by
  have hu := ulp_small
  have lr := hr.mono hk
  have qr : Q 1100 100000001 r := Q.near lr h hx.sz _ (by grind)
  obtain ⟨l1, n1⟩ := subQ qr (hx.up (show 1050 ≤ 1100 by decide)) (by decide) (by decide) (1 / 10000000) (by grind)
  refine ⟨sub_num (lr.num (by decide) (by decide)) ((hx.le.mono (show 1050 ≤ 1100 by decide)).num (by decide) (by decide)), l1, ?_, ?_⟩
  · have c := val_ge_of (w := 4532020583610935537) 99 10000000 (by decide) (by decide) (by decide +kernel)
    have : val (FS r x) < val 4532020583610935537 := by
      obtain ⟨a1, a2⟩ := n1
      obtain ⟨b1, b2⟩ := h
      grind
    exact Int.le_of_lt (val_lt this)
  · have c := val_ge_of (w := 4532020583610935537) 99 10000000 (by decide) (by decide) (by decide +kernel)
    have cn := val_neg_word (w := 4532020583610935537) (by decide)
    have : val (9223372036854775808 + 4532020583610935537) < val (FS r x) := by
      rw [cn]
      obtain ⟨a1, a2⟩ := n1
      obtain ⟨b1, b2⟩ := h
      grind
    exact Int.le_of_lt (val_lt this)
end Go.Proofs.YtmiamfnnccjmeacDoor.FB
