/-
  Datum.From.
-/
import Derived.Test.YtmiamfnnccjmeacDoorDaG
import Derived.Deep.QuietTactic
import Derived.BigQuiet
import Derived.Deep.DrawnRows
namespace Go.Proofs.YtmiamfnnccjmeacDoor
open Go.RowKit FB
attribute [local go_sem] run_store_float
attribute [local irreducible] FA FM FS FD rD fD nD kD uz
attribute [local go_sem ↓] Go.wp_at_zero Go.wp_at_succ

structure FF (W : World) (b c A B C p q r : Nat) : Prop where
  d3 : W.cell? ⟨b, 3, none⟩ = some (.float .f64 A)
  d4 : W.cell? ⟨b, 4, none⟩ = some (.float .f64 B)
  d5 : W.cell? ⟨b, 5, none⟩ = some (.float .f64 C)
  u0 : W.cell? ⟨c, 0, none⟩ = some (.float .f64 p)
  u1 : W.cell? ⟨c, 1, none⟩ = some (.float .f64 q)
  u2 : W.cell? ⟨c, 2, none⟩ = some (.float .f64 r)
  r0 : W.cell? ⟨b + 1 + 1, 0, none⟩ = some (.float .f64 0)
  r1 : W.cell? ⟨b + 1 + 1, 1, none⟩ = some (.float .f64 0)
  r2 : W.cell? ⟨b + 1 + 1, 2, none⟩ = some (.float .f64 0)
  t0 : W.frozen? ⟨b + 1 + 1, 0, none⟩ = false
  t1 : W.frozen? ⟨b + 1 + 1, 1, none⟩ = false
  t2 : W.frozen? ⟨b + 1 + 1, 2, none⟩ = false
  lt : b + 1 + 1 < W.heap.size
  lc : c < W.heap.size
theorem FF.below {W w' : World} {b c A B C p q r : Nat} (h : FF W b c A B C p q r) (hB : Below W.heap.size W w') : FF w' b c A B C p q r := by
  obtain ⟨c', q'⟩ := bcell hB
  have hl := h.lt
  have hc := h.lc
  exact ⟨by rw [c' _ _ (by omega)]; exact h.d3, by rw [c' _ _ (by omega)]; exact h.d4, by rw [c' _ _ (by omega)]; exact h.d5, by rw [c' _ _ (by omega)]; exact h.u0, by rw [c' _ _ (by omega)]; exact h.u1, by rw [c' _ _ (by omega)]; exact h.u2, by rw [c' _ _ (by omega)]; exact h.r0, by rw [c' _ _ (by omega)]; exact h.r1, by rw [c' _ _ (by omega)]; exact h.r2, by rw [q' _ _ hl]; exact h.t0, by rw [q' _ _ hl]; exact h.t1, by rw [q' _ _ hl]; exact h.t2, Nat.lt_of_lt_of_le hl hB.size, Nat.lt_of_lt_of_le hc hB.size⟩
theorem undrew {W w' : World} (h : Below W.drew.heap.size W.drew w') : Below W.heap.size W w' := ⟨h.1, h.2, h.3, h.4, h.5⟩
theorem FF.all {W : World} {b c A B C p q r : Nat} (h : FF W b c A B C p q r) : W.cell? ⟨b, 3, none⟩ = some (.float .f64 A) ∧ W.cell? ⟨b, 4, none⟩ = some (.float .f64 B) ∧ W.cell? ⟨b, 5, none⟩ = some (.float .f64 C) ∧ W.cell? ⟨c, 0, none⟩ = some (.float .f64 p) ∧ W.cell? ⟨c, 1, none⟩ = some (.float .f64 q) ∧ W.cell? ⟨c, 2, none⟩ = some (.float .f64 r) := ⟨h.d3, h.d4, h.d5, h.u0, h.u1, h.u2⟩
theorem FF.keep {W : World} {b c A B C p q r : Nat} (h : FF W b c A B C p q r) (hc : b + 1 + 1 < c) (x y z : Value) : (((W.setCell ⟨b + 1 + 1, 0, none⟩ x).setCell ⟨b + 1 + 1, 1, none⟩ y).setCell ⟨b + 1 + 1, 2, none⟩ z).cell? ⟨b, 3, none⟩ = some (.float .f64 A) ∧ (((W.setCell ⟨b + 1 + 1, 0, none⟩ x).setCell ⟨b + 1 + 1, 1, none⟩ y).setCell ⟨b + 1 + 1, 2, none⟩ z).cell? ⟨b, 4, none⟩ = some (.float .f64 B) ∧ (((W.setCell ⟨b + 1 + 1, 0, none⟩ x).setCell ⟨b + 1 + 1, 1, none⟩ y).setCell ⟨b + 1 + 1, 2, none⟩ z).cell? ⟨b, 5, none⟩ = some (.float .f64 C) ∧ (((W.setCell ⟨b + 1 + 1, 0, none⟩ x).setCell ⟨b + 1 + 1, 1, none⟩ y).setCell ⟨b + 1 + 1, 2, none⟩ z).cell? ⟨c, 0, none⟩ = some (.float .f64 p) ∧ (((W.setCell ⟨b + 1 + 1, 0, none⟩ x).setCell ⟨b + 1 + 1, 1, none⟩ y).setCell ⟨b + 1 + 1, 2, none⟩ z).cell? ⟨c, 1, none⟩ = some (.float .f64 q) ∧ (((W.setCell ⟨b + 1 + 1, 0, none⟩ x).setCell ⟨b + 1 + 1, 1, none⟩ y).setCell ⟨b + 1 + 1, 2, none⟩ z).cell? ⟨c, 2, none⟩ = some (.float .f64 r) := by
  have n1 : ¬ b + 1 + 1 = c := by omega
  have n2 : ¬ c = b + 1 + 1 := by omega
  exact ⟨by simp [go_sem, h.d3], by simp [go_sem, h.d4], by simp [go_sem, h.d5], by simp [go_sem, h.u0], by simp [go_sem, h.u1], by simp [go_sem, h.u2]⟩
set_option maxRecDepth 4000 in
set_option maxHeartbeats 4000000 in
theorem from_ok (g : Nat → Addr) (X Y Z A B C S x y z : Nat) (h : okD X Y Z A B C S = true) (hv : okV x y z = true) (q : DQ X Y Z A B C S x y z) (w : World) (hl : Laid w g) : Calls Tryd.prog 8 #[dV X Y Z A B C S, vV x y z] w fun e w' => e = .returned (.tuple #[.agg #[.float .f64 (uz (rD (FA 4607182418800017408 (FM A A)) (FA C (FM A B)) (FS (FM A C) B) (fD x X (kD S)) (fD y Y (kD S)) (fD z Z (kD S)) (nD A B C))), .float .f64 (uz (rD (FS (FM A B) C) (FA 4607182418800017408 (FM B B)) (FA A (FM B C)) (fD x X (kD S)) (fD y Y (kD S)) (fD z Z (kD S)) (nD A B C))), .float .f64 (uz (rD (FA (FM A C) B) (FS (FM B C) A) (FA 4607182418800017408 (FM C C)) (fD x X (kD S)) (fD y Y (kD S)) (fD z Z (kD S)) (nD A B C)))], .nilIface]) ∧ Below w.heap.size w w' := by
  have HT := hid (fun w hl => takes_ok g X Y Z A B C S x y z h hv w hl)
  have HK := hid (fun w => longer_any X Y Z A B C S q.S w)
  obtain ⟨kq, kv⟩ := k_Q q.S
  have kl := kq.le
  obtain ⟨a1, a2, l1⟩ := f_eqs q.X.le kl kv q.x
  obtain ⟨b1, b2, l2⟩ := f_eqs q.Y.le kl kv q.y
  obtain ⟨c1, c2, l3⟩ := f_eqs q.Z.le kl kv q.z
  obtain ⟨aa, maa⟩ := p_eq q.A.le q.A.le
  obtain ⟨bb, mbb⟩ := p_eq q.B.le q.B.le
  obtain ⟨cc, mcc⟩ := p_eq q.C.le q.C.le
  obtain ⟨ab, mab⟩ := p_eq q.A.le q.B.le
  obtain ⟨ac, mac⟩ := p_eq q.A.le q.C.le
  obtain ⟨bc, mbc⟩ := p_eq q.B.le q.C.le
  obtain ⟨oa, loa⟩ := o_eq maa
  obtain ⟨ob, lob⟩ := o_eq mbb
  obtain ⟨oc, loc⟩ := o_eq mcc
  obtain ⟨n1, n2⟩ := n_eqs q.A.le q.B.le q.C.le
  obtain ⟨nq, _, nv⟩ := nD_ok q.A q.B q.C
  obtain ⟨s12, _, l12, _⟩ := ds_eq q.C.le mab
  obtain ⟨_, s13, _, l13⟩ := ds_eq mac q.B.le
  obtain ⟨_, s21, _, l21⟩ := ds_eq mab q.C.le
  obtain ⟨s23, _, l23, _⟩ := ds_eq q.A.le mbc
  obtain ⟨s31, _, l31, _⟩ := ds_eq mac q.B.le
  obtain ⟨_, s32, _, l32⟩ := ds_eq mbc q.A.le
  obtain ⟨p1, p2, p3, p4, p5, p6⟩ := r_eqs loa l12 l13 l1 l2 l3 nq.le nv
  obtain ⟨q1, q2, q3, q4, q5, q6⟩ := r_eqs l21 lob l23 l1 l2 l3 nq.le nv
  obtain ⟨r1, r2, r3, r4, r5, r6⟩ := r_eqs l31 l32 loc l1 l2 l3 nq.le nv
  have D1 := hid (fun w => dot_any p1 p2 p3 p4 p5 w)
  have D2 := hid (fun w => dot_any q1 q2 q3 q4 q5 w)
  have D3 := hid (fun w => dot_any r1 r2 r3 r4 r5 w)
  have e1 := fun w => hsub a1 w
  have e2 := fun w => hquo a2 w
  have e3 := fun w => hsub b1 w
  have e4 := fun w => hquo b2 w
  have e5 := fun w => hsub c1 w
  have e6 := fun w => hquo c2 w
  have m1 := fun w => hmul aa w
  have m2 := fun w => hmul bb w
  have m3 := fun w => hmul cc w
  have m4 := fun w => hmul ab w
  have m5 := fun w => hmul ac w
  have m6 := fun w => hmul bc w
  have o1 := fun w => hadd oa w
  have o2 := fun w => hadd ob w
  have o3 := fun w => hadd oc w
  have o4 := fun w => hadd n1 w
  have o5 := fun w => hadd n2 w
  have k1 := fun w => hadd s12 w
  have k2 := fun w => hsub s13 w
  have k3 := fun w => hsub s21 w
  have k4 := fun w => hadd s23 w
  have k5 := fun w => hadd s31 w
  have k6 := fun w => hsub s32 w
  have z1 := fun w => hquo p6 w
  have z2 := fun w => hquo q6 w
  have z3 := fun w => hquo r6 w
  clear a1 a2 b1 b2 c1 c2 aa bb cc ab ac bc oa ob oc n1 n2 s12 s13 s21 s23 s31 s32 p1 p2 p3 p4 p5 p6 q1 q2 q3 q4 q5 q6 r1 r2 r3 r4 r5 r6 l1 l2 l3 l12 l13 l21 l23 l31 l32 loa lob loc maa mbb mcc mab mac mbc nq nv kl kq kv q h hv
  go_enter Tryd.func8, Tryd.ntmps8
  go_wp2_with fail
  refine (HT.out _ (((hl.alloc _).alloc _).alloc _)).mono ?_
  rintro e w1 ⟨rfl, hB⟩
  have VV := (TF.init w X Y Z A B C S x y z 30 26 26).below hB
  have HC := bt ((((Below.refl _ _).alloc (Nat.le_refl _) _).alloc (by simp) _).alloc (by simp; omega) _) hB
  clear hB hl HT
  obtain ⟨d0, d1, d2, d3, d4, d5, d6, v0, v1, v2, r0, r1, r2, t0, t1, t2, lt⟩ := VV
  go_wp2_with fail
  refine (HK.out _).mono ?_
  rintro e w2 ⟨rfl, hB⟩
  have VV := TF.below ⟨d0, d1, d2, d3, d4, d5, d6, v0, v1, v2, r0, r1, r2, t0, t1, t2, lt⟩ hB
  replace HC := bt HC hB
  clear hB d0 d1 d2 d3 d4 d5 d6 v0 v1 v2 r0 r1 r2 t0 t1 t2 lt
  obtain ⟨d0, d1, d2, d3, d4, d5, d6, v0, v1, v2, r0, r1, r2, t0, t1, t2, lt⟩ := VV
  go_wp2_with fail
  obtain ⟨w3, hw3⟩ : ∃ w3, w3 = w2.alloc (Obj.cells #[.float .f64 (fD x X (kD S)), .float .f64 (fD y Y (kD S)), .float .f64 (fD z Z (kD S))] 26) := ⟨_, rfl⟩
  have u0 : w3.cell? ⟨w2.heap.size, 0, none⟩ = some (.float .f64 (fD x X (kD S))) := by rw [hw3]; simp [go_sem]
  have u1 : w3.cell? ⟨w2.heap.size, 1, none⟩ = some (.float .f64 (fD y Y (kD S))) := by rw [hw3]; simp [go_sem]
  have u2 : w3.cell? ⟨w2.heap.size, 2, none⟩ = some (.float .f64 (fD z Z (kD S))) := by rw [hw3]; simp [go_sem]
  have hB : Below w2.heap.size w2 w3 := by rw [hw3]; exact (Below.refl _ _).alloc (Nat.le_refl _) _
  have hs : w2.heap.size < w3.heap.size := by rw [hw3]; simp
  have hbc : w.heap.size + 1 + 1 < w2.heap.size := lt
  rw [← hw3]
  clear hw3
  have VV := TF.below ⟨d0, d1, d2, d3, d4, d5, d6, v0, v1, v2, r0, r1, r2, t0, t1, t2, lt⟩ hB
  replace HC := bt HC hB
  clear hB d0 d1 d2 d3 d4 d5 d6 v0 v1 v2 r0 r1 r2 t0 t1 t2 lt
  obtain ⟨d0, d1, d2, d3, d4, d5, d6, v0, v1, v2, r0, r1, r2, t0, t1, t2, lt⟩ := VV
  go_quiet (fail)
  go_wp2_with fail
  go_quiet (fail)
  go_wp2_with fail
  generalize hw4 : World.drewN w3 _ = w4
  have hB : Below w3.heap.size w3 w4 := by rw [← hw4]; exact below_drewN (Below.refl _ _) _
  have VV := FF.below (c := w2.heap.size) ⟨d3, d4, d5, u0, u1, u2, r0, r1, r2, t0, t1, t2, lt, hs⟩ hB
  replace HC := bt HC hB
  clear hB hw4 d0 d1 d2 d3 d4 d5 d6 v0 v1 v2 r0 r1 r2 t0 t1 t2 lt u0 u1 u2 hs HK
  go_region_held (fun w' => w'.cell? ⟨w.heap.size, 3, none⟩ = some (.float .f64 A) ∧ w'.cell? ⟨w.heap.size, 4, none⟩ = some (.float .f64 B) ∧ w'.cell? ⟨w.heap.size, 5, none⟩ = some (.float .f64 C) ∧ w'.cell? ⟨w2.heap.size, 0, none⟩ = some (.float .f64 (fD x X (kD S))) ∧ w'.cell? ⟨w2.heap.size, 1, none⟩ = some (.float .f64 (fD y Y (kD S))) ∧ w'.cell? ⟨w2.heap.size, 2, none⟩ = some (.float .f64 (fD z Z (kD S))))
    (first | (with_reducible exact VV.all) | (with_reducible exact FF.keep VV (by omega) _ _ _) | exact VV.all)
    ((first
      | (go_at_call 29; (with_reducible first | refine (D1.out _).mono ?_ | refine (D2.out _).mono ?_ | refine (D3.out _).mono ?_); rintro e w5 ⟨rfl, hB5⟩; (with_reducible first | replace hB5 := undrew hB5 | skip); replace VV := VV.below hB5; replace HC := bt HC hB5; clear hB5)
      | (go_at_call 28; refine (unsigned_any _ _ _ _).mono ?_; rintro e w5 ⟨rfl, hB5⟩; (with_reducible first | replace hB5 := undrew hB5 | skip); replace VV := VV.below hB5; replace HC := bt HC hB5; clear hB5; obtain ⟨_, _, _, _, _, _, r0, r1, r2, t0, t1, t2, lt, _⟩ := id VV)))
  go_wp2
  exact bodyPost_ret (v := .tuple #[.agg #[.float .f64 (uz (rD (FA 4607182418800017408 (FM A A)) (FA C (FM A B)) (FS (FM A C) B) (fD x X (kD S)) (fD y Y (kD S)) (fD z Z (kD S)) (nD A B C))), .float .f64 (uz (rD (FS (FM A B) C) (FA 4607182418800017408 (FM B B)) (FA A (FM B C)) (fD x X (kD S)) (fD y Y (kD S)) (fD z Z (kD S)) (nD A B C))), .float .f64 (uz (rD (FA (FM A C) B) (FS (FM B C) A) (FA 4607182418800017408 (FM C C)) (fD x X (kD S)) (fD y Y (kD S)) (fD z Z (kD S)) (nD A B C)))], .nilIface]) (by simp [results, Tryd.results8, go_sem, r0, r1, r2]) rfl ⟨rfl, ((HC.setCell (by simp; omega) _).setCell (by simp; omega) _).setCell (by simp; omega) _⟩
end Go.Proofs.YtmiamfnnccjmeacDoor
