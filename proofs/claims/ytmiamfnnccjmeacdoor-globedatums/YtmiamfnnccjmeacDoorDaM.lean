/-
  Datums, there and back: what the law's end asks.
-/
import Derived.Test.YtmiamfnnccjmeacDoorDaK
namespace Go.Proofs.YtmiamfnnccjmeacDoor
open Go.RowKit FB

theorem val_uz {k w : Nat} (h : Le k w) (hk : k ≤ 2046) : val (uz w) = val w ∧ Le k (uz w) := by
  unfold uz
  split
  · rename_i he
    refine ⟨?_, ⟨by decide, Nat.zero_le _⟩⟩
    have hn : NN w := ⟨h.1, Nat.le_trans h.2 (by omega)⟩
    have e := order_key hn (⟨by decide, by decide⟩ : NN 0)
    rw [he] at e
    have e2 : compare (key w) (key 0) = .eq := (Option.some.inj e).symm
    rw [Int.compare_eq_eq] at e2
    unfold val
    rw [e2]
  · exact ⟨rfl, h⟩
theorem uz_Q {k w : Nat} {M : Rat} (h : Q k M w) (hk : k ≤ 2046) : Q k M (uz w) := by
  obtain ⟨e, l⟩ := val_uz h.le hk
  exact ⟨l, by rw [e]; exact h.sz⟩
theorem in_far {w : Nat} (h : Q 1060 101500000 w) : inB 13979912523730649088 4756540486875873280 w = true := by
  have c := val_ge_of (w := 4756540486875873280) 10000000000 1 (by decide) (by decide) (by decide +kernel)
  have cn : val 13979912523730649088 = -val 4756540486875873280 := val_neg_word (w := 4756540486875873280) (by decide)
  obtain ⟨s1, s2⟩ := h.sz
  have k1 : key w < key 4756540486875873280 := val_lt (by grind)
  have k2 : key 13979912523730649088 < key w := val_lt (by rw [cn]; grind)
  have hn : NN w := ⟨h.le.1, Nat.le_trans h.le.2 (by decide)⟩
  have o1 := order_key hn (⟨by decide, by decide⟩ : NN 4756540486875873280)
  have o2 := order_key hn (⟨by decide, by decide⟩ : NN 13979912523730649088)
  unfold inB leB geB
  show ((Ieee.double.order w 13979912523730649088 == some Ordering.gt || Ieee.double.order w 13979912523730649088 == some Ordering.eq) && (Ieee.double.order w 4756540486875873280 == some Ordering.lt || Ieee.double.order w 4756540486875873280 == some Ordering.eq)) = true
  rw [o1, o2, Int.compare_eq_lt.2 k1, Int.compare_eq_gt.2 k2]
  rfl
/-- The coordinates in the other frame, and back. -/
structure BK (X Y Z A B C S x y z X1 Y1 Z1 : Nat) : Prop where
  v : okV X1 Y1 Z1 = true
  q : DQ X Y Z A B C S X1 Y1 Z1
  s1 : Ieee.double.sub (uz (rD (FA 4607182418800017408 (FM A A)) (FA C (FM A B)) (FS (FM A C) B) (fD X1 X (kD S)) (fD Y1 Y (kD S)) (fD Z1 Z (kD S)) (nD A B C))) x = some (FS (uz (rD (FA 4607182418800017408 (FM A A)) (FA C (FM A B)) (FS (FM A C) B) (fD X1 X (kD S)) (fD Y1 Y (kD S)) (fD Z1 Z (kD S)) (nD A B C))) x)
  w1 : wiB 4532020583610935537 13755392620465711345 (FS (uz (rD (FA 4607182418800017408 (FM A A)) (FA C (FM A B)) (FS (FM A C) B) (fD X1 X (kD S)) (fD Y1 Y (kD S)) (fD Z1 Z (kD S)) (nD A B C))) x) = true
  s2 : Ieee.double.sub (uz (rD (FS (FM A B) C) (FA 4607182418800017408 (FM B B)) (FA A (FM B C)) (fD X1 X (kD S)) (fD Y1 Y (kD S)) (fD Z1 Z (kD S)) (nD A B C))) y = some (FS (uz (rD (FS (FM A B) C) (FA 4607182418800017408 (FM B B)) (FA A (FM B C)) (fD X1 X (kD S)) (fD Y1 Y (kD S)) (fD Z1 Z (kD S)) (nD A B C))) y)
  w2 : wiB 4532020583610935537 13755392620465711345 (FS (uz (rD (FS (FM A B) C) (FA 4607182418800017408 (FM B B)) (FA A (FM B C)) (fD X1 X (kD S)) (fD Y1 Y (kD S)) (fD Z1 Z (kD S)) (nD A B C))) y) = true
  s3 : Ieee.double.sub (uz (rD (FA (FM A C) B) (FS (FM B C) A) (FA 4607182418800017408 (FM C C)) (fD X1 X (kD S)) (fD Y1 Y (kD S)) (fD Z1 Z (kD S)) (nD A B C))) z = some (FS (uz (rD (FA (FM A C) B) (FS (FM B C) A) (FA 4607182418800017408 (FM C C)) (fD X1 X (kD S)) (fD Y1 Y (kD S)) (fD Z1 Z (kD S)) (nD A B C))) z)
  w3 : wiB 4532020583610935537 13755392620465711345 (FS (uz (rD (FA (FM A C) B) (FS (FM B C) A) (FA 4607182418800017408 (FM C C)) (fD X1 X (kD S)) (fD Y1 Y (kD S)) (fD Z1 Z (kD S)) (nD A B C))) z) = true
theorem bk_of {X Y Z A B C S x y z : Nat} (q : DQ X Y Z A B C S x y z) (hx : Q 1050 100000000 x) (hy : Q 1050 100000000 y) (hz : Q 1050 100000000 z) : BK X Y Z A B C S x y z (uz (t1D (kD S) X C B x y z)) (uz (t2D (kD S) Y C A x y z)) (uz (t3D (kD S) Z A B x y z)) := by
  obtain ⟨kq, kv⟩ := k_Q q.S
  obtain ⟨r1, m1⟩ := row1 hx hy hz q.C q.B
  obtain ⟨r2, m2⟩ := row2 hx hy hz q.C q.A
  obtain ⟨r3, m3⟩ := row3 hx hy hz q.A q.B
  have t1 : Q 1060 101500000 (t1D (kD S) X C B x y z) := (there kq kv r1 q.X _ m1).1
  have t2 : Q 1060 101500000 (t2D (kD S) Y C A x y z) := (there kq kv r2 q.Y _ m2).1
  have t3 : Q 1060 101500000 (t3D (kD S) Z A B x y z) := (there kq kv r3 q.Z _ m3).1
  have e1 := (val_uz t1.le (by decide)).1
  have e2 := (val_uz t2.le (by decide)).1
  have e3 := (val_uz t3.le (by decide)).1
  have u1 := uz_Q t1 (by decide)
  have u2 := uz_Q t2 (by decide)
  have u3 := uz_Q t3 (by decide)
  have i1 := in_far u1
  have i2 := in_far u2
  have i3 := in_far u3
  obtain ⟨⟨a1, b1⟩, ⟨a2, b2⟩, ⟨a3, b3⟩⟩ := back_ok q.X q.Y q.Z q.A q.B q.C q.S hx hy hz u1.le e1 u2.le e2 u3.le e3
  have f1 := val_uz a1 (by decide)
  have f2 := val_uz a2 (by decide)
  have f3 := val_uz a3 (by decide)
  have l1 := wi_last f1.2 (by decide) hx (by rw [f1.1]; exact b1)
  have l2 := wi_last f2.2 (by decide) hy (by rw [f2.1]; exact b2)
  have l3 := wi_last f3.2 (by decide) hz (by rw [f3.1]; exact b3)
  refine ⟨by unfold okV in3; rw [i1, i2, i3]; rfl, ⟨q.X, q.Y, q.Z, q.A, q.B, q.C, q.S, (v_Q u1.le.1 i1).le, (v_Q u2.le.1 i2).le, (v_Q u3.le.1 i3).le⟩, l1.1, l1.2, l2.1, l2.2, l3.1, l3.2⟩
theorem r_les {X Y Z A B C S x y z : Nat} (q : DQ X Y Z A B C S x y z) : Le 1077 (rD (FA 4607182418800017408 (FM A A)) (FA C (FM A B)) (FS (FM A C) B) (fD x X (kD S)) (fD y Y (kD S)) (fD z Z (kD S)) (nD A B C)) ∧ Le 1077 (rD (FS (FM A B) C) (FA 4607182418800017408 (FM B B)) (FA A (FM B C)) (fD x X (kD S)) (fD y Y (kD S)) (fD z Z (kD S)) (nD A B C)) ∧ Le 1077 (rD (FA (FM A C) B) (FS (FM B C) A) (FA 4607182418800017408 (FM C C)) (fD x X (kD S)) (fD y Y (kD S)) (fD z Z (kD S)) (nD A B C)) := by
  obtain ⟨kq, kv⟩ := k_Q q.S
  have kl := kq.le
  have l1 := (f_eqs q.X.le kl kv q.x).2.2
  have l2 := (f_eqs q.Y.le kl kv q.y).2.2
  have l3 := (f_eqs q.Z.le kl kv q.z).2.2
  have maa := (p_eq q.A.le q.A.le).2
  have mbb := (p_eq q.B.le q.B.le).2
  have mcc := (p_eq q.C.le q.C.le).2
  have mab := (p_eq q.A.le q.B.le).2
  have mac := (p_eq q.A.le q.C.le).2
  have mbc := (p_eq q.B.le q.C.le).2
  obtain ⟨nq, _, nv⟩ := nD_ok q.A q.B q.C
  have R : ∀ {p q r a b c n : Nat}, Le 1026 p → Le 1026 q → Le 1026 r → Le 1062 a → Le 1062 b → Le 1062 c → Le 1029 n → 99 / 100 ≤ val n → Le 1077 (rD p q r a b c n) := by
    intro p q r a b c n hp hq hr ha hb hc hn nv
    have m1 := (mq hp ha (by decide) (by decide) (by decide) (by decide) 1070 (by decide) (by decide) (by decide)).2
    have m2 := (mq hq hb (by decide) (by decide) (by decide) (by decide) 1070 (by decide) (by decide) (by decide)).2
    have m3 := (aq m1 m2 (by decide) (by decide)).2
    have m4 := (mq hr hc (by decide) (by decide) (by decide) (by decide) 1070 (by decide) (by decide) (by decide)).2
    have m5 := (aq m3 (m4.mono (show 1070 ≤ 1072 by decide)) (by decide) (by decide)).2
    have := (dq m5 (by decide) (by decide) hn (by decide) nv).2
    exact this
  exact ⟨R (o_eq maa).2 (ds_eq q.C.le mab).2.2.1 (ds_eq mac q.B.le).2.2.2 l1 l2 l3 nq.le nv, R (ds_eq mab q.C.le).2.2.2 (o_eq mbb).2 (ds_eq q.A.le mbc).2.2.1 l1 l2 l3 nq.le nv, R (ds_eq mac q.B.le).2.2.1 (ds_eq mbc q.A.le).2.2.2 (o_eq mcc).2 l1 l2 l3 nq.le nv⟩
end Go.Proofs.YtmiamfnnccjmeacDoor
