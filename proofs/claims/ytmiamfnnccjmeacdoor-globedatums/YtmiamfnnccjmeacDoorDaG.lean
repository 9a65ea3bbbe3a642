/-
  Datum.From: its words are numbers.
-/
import Derived.Test.YtmiamfnnccjmeacDoorDaF
namespace Go.Proofs.YtmiamfnnccjmeacDoor
open Go.RowKit FB

theorem dq {k l x q : Nat} (hx : Le k x) (hk1 : 1 ≤ k) (hk2 : k + 3 ≤ 2046) (hq : Le l q) (hl : l ≤ 2046) (hv : 99 / 100 ≤ val q) : Ieee.double.div x q = some (FD x q) ∧ Le (k + 3) (FD x q) := by
  obtain ⟨q0, q1⟩ := half_word hq hl hv
  obtain ⟨r, hr, hle⟩ := div_le3 hx hk1 hk2 q0 q1
  have e : FD x q = r := by unfold FD; rw [hr]; rfl
  rw [e]
  exact ⟨hr, hle⟩
theorem f_eqs {X k x : Nat} (hX : Le 1040 X) (hk : Le 1025 k) (kv : 99 / 100 ≤ val k) (hx : Le 1057 x) : Ieee.double.sub x X = some (FS x X) ∧ Ieee.double.div (FS x X) k = some (fD x X k) ∧ Le 1062 (fD x X k) := by
  obtain ⟨e1, l1⟩ := sq hx (hX.mono (show 1040 ≤ 1057 by decide)) (by decide) (by decide)
  obtain ⟨e2, l2⟩ := dq l1 (by decide) (by decide) hk (by decide) kv
  exact ⟨e1, e2, l2⟩
theorem r_eqs {p q r a b c n : Nat} (hp : Le 1026 p) (hq : Le 1026 q) (hr : Le 1026 r) (ha : Le 1062 a) (hb : Le 1062 b) (hc : Le 1062 c) (hn : Le 1029 n) (nv : 99 / 100 ≤ val n) : Ieee.double.mul p a = some (FM p a) ∧ Ieee.double.mul q b = some (FM q b) ∧ Ieee.double.add (FM p a) (FM q b) = some (FA (FM p a) (FM q b)) ∧ Ieee.double.mul r c = some (FM r c) ∧ Ieee.double.add (FA (FM p a) (FM q b)) (FM r c) = some (FA (FA (FM p a) (FM q b)) (FM r c)) ∧ Ieee.double.div (FA (FA (FM p a) (FM q b)) (FM r c)) n = some (rD p q r a b c n) := by
  obtain ⟨e1, l1⟩ := mq hp ha (by decide) (by decide) (by decide) (by decide) 1070 (by decide) (by decide) (by decide)
  obtain ⟨e2, l2⟩ := mq hq hb (by decide) (by decide) (by decide) (by decide) 1070 (by decide) (by decide) (by decide)
  obtain ⟨e3, l3⟩ := aq l1 l2 (by decide) (by decide)
  obtain ⟨e4, l4⟩ := mq hr hc (by decide) (by decide) (by decide) (by decide) 1070 (by decide) (by decide) (by decide)
  obtain ⟨e5, l5⟩ := aq l3 (l4.mono (show 1070 ≤ 1072 by decide)) (by decide) (by decide)
  exact ⟨e1, e2, e3, e4, e5, (dq l5 (by decide) (by decide) hn (by decide) nv).1⟩
/-- The product of two angles. -/
theorem p_eq {A B : Nat} (hA : Le 1014 A) (hB : Le 1014 B) : Ieee.double.mul A B = some (FM A B) ∧ Le 1014 (FM A B) := mq hA hB (by decide) (by decide) (by decide) (by decide) 1014 (by decide) (by decide) (by decide)
theorem o_eq {p : Nat} (hp : Le 1014 p) : Ieee.double.add 4607182418800017408 p = some (FA 4607182418800017408 p) ∧ Le 1026 (FA 4607182418800017408 p) := by
  obtain ⟨e, l⟩ := aq (one_Q.le.mono (show 1023 ≤ 1024 by decide)) (hp.mono (show 1014 ≤ 1024 by decide)) (by decide) (by decide)
  exact ⟨e, l⟩
theorem ds_eq {p q : Nat} (hp : Le 1014 p) (hq : Le 1014 q) : Ieee.double.add p q = some (FA p q) ∧ Ieee.double.sub p q = some (FS p q) ∧ Le 1026 (FA p q) ∧ Le 1026 (FS p q) := by
  obtain ⟨e1, l1⟩ := aq hp hq (by decide) (by decide)
  obtain ⟨e2, l2⟩ := sq hp hq (by decide) (by decide)
  exact ⟨e1, e2, l1.mono (by decide), l2.mono (by decide)⟩
theorem n_eqs {A B C : Nat} (hA : Le 1014 A) (hB : Le 1014 B) (hC : Le 1014 C) : Ieee.double.add (FA 4607182418800017408 (FM A A)) (FM B B) = some (FA (FA 4607182418800017408 (FM A A)) (FM B B)) ∧ Ieee.double.add (FA (FA 4607182418800017408 (FM A A)) (FM B B)) (FM C C) = some (nD A B C) := by
  obtain ⟨_, l1⟩ := p_eq hA hA
  obtain ⟨_, l2⟩ := p_eq hB hB
  obtain ⟨_, l3⟩ := p_eq hC hC
  obtain ⟨_, l4⟩ := o_eq l1
  obtain ⟨e5, l5⟩ := aq l4 (l2.mono (show 1014 ≤ 1026 by decide)) (by decide) (by decide)
  obtain ⟨e6, _⟩ := aq l5 (l3.mono (show 1014 ≤ 1028 by decide)) (by decide) (by decide)
  exact ⟨e5, e6⟩
end Go.Proofs.YtmiamfnnccjmeacDoor
