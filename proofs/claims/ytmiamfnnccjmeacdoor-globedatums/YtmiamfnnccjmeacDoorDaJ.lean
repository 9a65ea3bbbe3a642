/-
  mercatorref2.row, mercatorref2.FromOther.
-/
import Derived.Test.YtmiamfnnccjmeacDoorDaI
namespace Go.Proofs.YtmiamfnnccjmeacDoor
open Go.RowKit FB
attribute [local go_sem] run_store_float
attribute [local irreducible] FA FM FS FD rD fD nD kD uz
attribute [local go_sem ↓] Go.wp_at_zero Go.wp_at_succ

set_option maxHeartbeats 1000000 in
theorem row_any {p q r a b c n : Nat} (a1 : Ieee.double.mul p a = some (FM p a)) (a2 : Ieee.double.mul q b = some (FM q b)) (a3 : Ieee.double.add (FM p a) (FM q b) = some (FA (FM p a) (FM q b))) (a4 : Ieee.double.mul r c = some (FM r c)) (a5 : Ieee.double.add (FA (FM p a) (FM q b)) (FM r c) = some (FA (FA (FM p a) (FM q b)) (FM r c))) (a6 : Ieee.double.div (FA (FA (FM p a) (FM q b)) (FM r c)) n = some (rD p q r a b c n)) (w : World) : Calls Tryd.prog 35 #[.float .f64 p, .float .f64 q, .float .f64 r, vV a b c, .float .f64 n] w fun e w' => e = .returned (.float .f64 (rD p q r a b c n)) ∧ Below w.heap.size w w' := by
  have e1 := fun w => hmul a1 w
  have P2 := hid (fun w => dplus a2 a3 w)
  have P3 := hid (fun w => dplus a4 a5 w)
  have e6 := fun w => hquo a6 w
  clear a1 a2 a3 a4 a5 a6
  go_enter Tryd.func35, Tryd.ntmps35
  go_wp2_with fail
  refine (P2.out _).mono ?_
  rintro e w1 ⟨rfl, rfl⟩
  go_wp2_with fail
  refine (P3.out _).mono ?_
  rintro e w1 ⟨rfl, rfl⟩
  go_wp2
  go_ret
  exact ⟨rfl, (Below.refl _ _).alloc (Nat.le_refl _) _⟩
theorem FF.drewN {W : World} {b c A B C p q r : Nat} (h : FF W b c A B C p q r) (n : Nat) : FF (W.drewN n) b c A B C p q r := h.below (below_drewN (Below.refl _ _) _)
set_option maxRecDepth 4000 in
set_option maxHeartbeats 4000000 in
theorem fromOther_any (X Y Z A B C S x y z : Nat) (q : DQ X Y Z A B C S x y z) (w : World) : Calls Tryd.prog 15 #[dV X Y Z A B C S, vV x y z] w fun e w' => e = .returned (.agg #[.float .f64 (rD (FA 4607182418800017408 (FM A A)) (FA C (FM A B)) (FS (FM A C) B) (fD x X (kD S)) (fD y Y (kD S)) (fD z Z (kD S)) (nD A B C)), .float .f64 (rD (FS (FM A B) C) (FA 4607182418800017408 (FM B B)) (FA A (FM B C)) (fD x X (kD S)) (fD y Y (kD S)) (fD z Z (kD S)) (nD A B C)), .float .f64 (rD (FA (FM A C) B) (FS (FM B C) A) (FA 4607182418800017408 (FM C C)) (fD x X (kD S)) (fD y Y (kD S)) (fD z Z (kD S)) (nD A B C))]) ∧ Below w.heap.size w w' := by
  obtain ⟨kq, kv⟩ := k_Q q.S
  obtain ⟨k1, k2⟩ := k_eqs q.S
  have kl := kq.le
  obtain ⟨a1, a2, l1⟩ := f_eqs q.X.le kl kv q.x
  obtain ⟨b1, b2, l2⟩ := f_eqs q.Y.le kl kv q.y
  obtain ⟨c1, c2, l3⟩ := f_eqs q.Z.le kl kv q.z
  obtain ⟨aa, maa⟩ := p_eq q.A.le q.A.le
  obtain ⟨bb, mbb⟩ := p_eq q.B.le q.B.le
  obtain ⟨cc, mcc⟩ := p_eq q.C.le q.C.le
  obtain ⟨ab, mab⟩ := p_eq q.A.le q.B.le
  obtain ⟨ac, mac⟩ := p_eq q.A.le q.C.le
  obtain ⟨bc, mbc⟩ := p_eq q.B.le q.C.le
  obtain ⟨oa, loa⟩ := o_eq maa
  obtain ⟨ob, lob⟩ := o_eq mbb
  obtain ⟨oc, loc⟩ := o_eq mcc
  obtain ⟨n1, n2⟩ := n_eqs q.A.le q.B.le q.C.le
  obtain ⟨nq, _, nv⟩ := nD_ok q.A q.B q.C
  obtain ⟨s12, _, l12, _⟩ := ds_eq q.C.le mab
  obtain ⟨_, s13, _, l13⟩ := ds_eq mac q.B.le
  obtain ⟨_, s21, _, l21⟩ := ds_eq mab q.C.le
  obtain ⟨s23, _, l23, _⟩ := ds_eq q.A.le mbc
  obtain ⟨s31, _, l31, _⟩ := ds_eq mac q.B.le
  obtain ⟨_, s32, _, l32⟩ := ds_eq mbc q.A.le
  obtain ⟨p1, p2, p3, p4, p5, p6⟩ := r_eqs loa l12 l13 l1 l2 l3 nq.le nv
  obtain ⟨q1, q2, q3, q4, q5, q6⟩ := r_eqs l21 lob l23 l1 l2 l3 nq.le nv
  obtain ⟨r1, r2, r3, r4, r5, r6⟩ := r_eqs l31 l32 loc l1 l2 l3 nq.le nv
  have D1 := hid (fun w => row_any p1 p2 p3 p4 p5 p6 w)
  have D2 := hid (fun w => row_any q1 q2 q3 q4 q5 q6 w)
  have D3 := hid (fun w => row_any r1 r2 r3 r4 r5 r6 w)
  have e0 := fun w => hmul k1 w
  have e9 := fun w => hadd k2 w
  have e1 := fun w => hsub a1 w
  have e2 := fun w => hquo a2 w
  have e3 := fun w => hsub b1 w
  have e4 := fun w => hquo b2 w
  have e5 := fun w => hsub c1 w
  have e6 := fun w => hquo c2 w
  have m4 := fun w => hmul ab w
  have m5 := fun w => hmul ac w
  have m6 := fun w => hmul bc w
  have O1 := hid (fun w => dplus aa oa w)
  have O2 := hid (fun w => dplus bb n1 w)
  have O3 := hid (fun w => dplus cc n2 w)
  have O4 := hid (fun w => dplus bb ob w)
  have O5 := hid (fun w => dplus cc oc w)
  have g1 := fun w => hadd s12 w
  have g2 := fun w => hsub s13 w
  have g3 := fun w => hsub s21 w
  have g4 := fun w => hadd s23 w
  have g5 := fun w => hadd s31 w
  have g6 := fun w => hsub s32 w
  clear a1 a2 b1 b2 c1 c2 aa bb cc ab ac bc oa ob oc n1 n2 s12 s13 s21 s23 s31 s32 p1 p2 p3 p4 p5 p6 q1 q2 q3 q4 q5 q6 r1 r2 r3 r4 r5 r6 l1 l2 l3 l12 l13 l21 l23 l31 l32 loa lob loc maa mbb mcc mab mac mbc nq nv kl kq kv q k1 k2
  go_enter Tryd.func15, Tryd.ntmps15
  go_upto_region 1 with fail
  have VV := TF.init w X Y Z A B C S x y z 24 26 26
  have HC : Below w.heap.size w (((w.alloc (.cells #[.float .f64 X, .float .f64 Y, .float .f64 Z, .float .f64 A, .float .f64 B, .float .f64 C, .float .f64 S] 24)).alloc (.cells #[.float .f64 x, .float .f64 y, .float .f64 z] 26)).alloc (.cells #[.float .f64 0, .float .f64 0, .float .f64 0] 26)) := (((Below.refl _ _).alloc (Nat.le_refl _) _).alloc (by simp) _).alloc (by simp; omega) _
  generalize ((w.alloc (.cells #[.float .f64 X, .float .f64 Y, .float .f64 Z, .float .f64 A, .float .f64 B, .float .f64 C, .float .f64 S] 24)).alloc (.cells #[.float .f64 x, .float .f64 y, .float .f64 z] 26)).alloc (.cells #[.float .f64 0, .float .f64 0, .float .f64 0] 26) = w2 at *
  obtain ⟨d0, d1, d2, d3, d4, d5, d6, v0, v1, v2, r0, r1, r2, t0, t1, t2, lt⟩ := id VV
  go_upto_region 4 with fail
  obtain ⟨w3, hw3⟩ : ∃ w3, w3 = w2.alloc (Obj.cells #[.float .f64 (fD x X (kD S)), .float .f64 (fD y Y (kD S)), .float .f64 (fD z Z (kD S))] 26) := ⟨_, rfl⟩
  have u0 : w3.cell? ⟨w2.heap.size, 0, none⟩ = some (.float .f64 (fD x X (kD S))) := by rw [hw3]; simp [go_sem]
  have u1 : w3.cell? ⟨w2.heap.size, 1, none⟩ = some (.float .f64 (fD y Y (kD S))) := by rw [hw3]; simp [go_sem]
  have u2 : w3.cell? ⟨w2.heap.size, 2, none⟩ = some (.float .f64 (fD z Z (kD S))) := by rw [hw3]; simp [go_sem]
  have hB : Below w2.heap.size w2 w3 := by rw [hw3]; exact (Below.refl _ _).alloc (Nat.le_refl _) _
  have hs : w2.heap.size < w3.heap.size := by rw [hw3]; simp
  have hbc : w.heap.size + 1 + 1 < w2.heap.size := lt
  rw [← hw3]
  clear hw3
  replace VV := VV.below hB
  replace HC := bt HC hB
  clear hB d0 d1 d2 d3 d4 d5 d6 v0 v1 v2 r0 r1 r2 t0 t1 t2 lt
  obtain ⟨d0, d1, d2, d3, d4, d5, d6, v0, v1, v2, r0, r1, r2, t0, t1, t2, lt⟩ := VV
  have VV : FF w3 w.heap.size w2.heap.size A B C (fD x X (kD S)) (fD y Y (kD S)) (fD z Z (kD S)) := ⟨d3, d4, d5, u0, u1, u2, r0, r1, r2, t0, t1, t2, lt, hs⟩
  clear d0 d1 d2 d6 v0 v1 v2 r0 r1 r2 t0 t1 t2 lt u0 u1 u2 hs
  go_quiet ((go_at_call 33; (with_reducible first | exact Calls.quiet_of_same (O1.out _) | exact Calls.quiet_of_same (O2.out _) | exact Calls.quiet_of_same (O3.out _))))
  replace VV := VV.drewN nq
  replace HC : Below w.heap.size w (w3.drewN nq) := below_drewN HC _
  generalize w3.drewN nq = w4 at *
  clear d3 d4 d5
  obtain ⟨d3, d4, d5, _, _, _, _, _, _, _, _, _, _, _⟩ := id VV
  go_upto_region 8 with fail
  go_region_held (fun w' => w'.cell? ⟨w.heap.size, 3, none⟩ = some (.float .f64 A) ∧ w'.cell? ⟨w.heap.size, 4, none⟩ = some (.float .f64 B) ∧ w'.cell? ⟨w.heap.size, 5, none⟩ = some (.float .f64 C) ∧ w'.cell? ⟨w2.heap.size, 0, none⟩ = some (.float .f64 (fD x X (kD S))) ∧ w'.cell? ⟨w2.heap.size, 1, none⟩ = some (.float .f64 (fD y Y (kD S))) ∧ w'.cell? ⟨w2.heap.size, 2, none⟩ = some (.float .f64 (fD z Z (kD S))))
    (first | (with_reducible exact VV.all) | exact VV.all)
    ((first
      | (go_at_call 33; (with_reducible refine (O1.out _).mono ?_); rintro e w5 ⟨rfl, rfl⟩)
      | (go_at_call 35; (with_reducible refine (D1.out _).mono ?_); rintro e w5 ⟨rfl, hB5⟩; (with_reducible first | replace hB5 := undrew hB5 | skip); replace VV := VV.below hB5; replace HC := bt HC hB5; clear hB5)))
  clear d3 d4 d5
  obtain ⟨d3, d4, d5, _, _, _, _, _, _, _, _, _, _, _⟩ := id VV
  go_upto_region 9 with fail
  go_region_held (fun w' => w'.cell? ⟨w.heap.size, 3, none⟩ = some (.float .f64 A) ∧ w'.cell? ⟨w.heap.size, 4, none⟩ = some (.float .f64 B) ∧ w'.cell? ⟨w.heap.size, 5, none⟩ = some (.float .f64 C) ∧ w'.cell? ⟨w2.heap.size, 0, none⟩ = some (.float .f64 (fD x X (kD S))) ∧ w'.cell? ⟨w2.heap.size, 1, none⟩ = some (.float .f64 (fD y Y (kD S))) ∧ w'.cell? ⟨w2.heap.size, 2, none⟩ = some (.float .f64 (fD z Z (kD S))))
    (first | (with_reducible exact VV.all) | exact VV.all)
    ((first
      | (go_at_call 33; (with_reducible refine (O4.out _).mono ?_); rintro e w6 ⟨rfl, rfl⟩)
      | (go_at_call 35; (with_reducible refine (D2.out _).mono ?_); rintro e w6 ⟨rfl, hB5⟩; (with_reducible first | replace hB5 := undrew hB5 | skip); replace VV := VV.below hB5; replace HC := bt HC hB5; clear hB5)))
  clear d3 d4 d5
  obtain ⟨d3, d4, d5, _, _, _, _, _, _, _, _, _, _, _⟩ := id VV
  go_upto_region 10 with fail
  go_region_held (fun w' => w'.cell? ⟨w.heap.size, 3, none⟩ = some (.float .f64 A) ∧ w'.cell? ⟨w.heap.size, 4, none⟩ = some (.float .f64 B) ∧ w'.cell? ⟨w.heap.size, 5, none⟩ = some (.float .f64 C) ∧ w'.cell? ⟨w2.heap.size, 0, none⟩ = some (.float .f64 (fD x X (kD S))) ∧ w'.cell? ⟨w2.heap.size, 1, none⟩ = some (.float .f64 (fD y Y (kD S))) ∧ w'.cell? ⟨w2.heap.size, 2, none⟩ = some (.float .f64 (fD z Z (kD S))))
    (first | (with_reducible exact VV.all) | exact VV.all)
    ((first
      | (go_at_call 33; (with_reducible refine (O5.out _).mono ?_); rintro e w7 ⟨rfl, rfl⟩)
      | (go_at_call 35; (with_reducible refine (D3.out _).mono ?_); rintro e w7 ⟨rfl, hB5⟩; (with_reducible first | replace hB5 := undrew hB5 | skip); replace VV := VV.below hB5; replace HC := bt HC hB5; clear hB5)))
  obtain ⟨_, _, _, _, _, _, r0, r1, r2, t0, t1, t2, lt, _⟩ := id VV
  go_wp2
  exact bodyPost_ret (v := .agg #[.float .f64 (rD (FA 4607182418800017408 (FM A A)) (FA C (FM A B)) (FS (FM A C) B) (fD x X (kD S)) (fD y Y (kD S)) (fD z Z (kD S)) (nD A B C)), .float .f64 (rD (FS (FM A B) C) (FA 4607182418800017408 (FM B B)) (FA A (FM B C)) (fD x X (kD S)) (fD y Y (kD S)) (fD z Z (kD S)) (nD A B C)), .float .f64 (rD (FA (FM A C) B) (FS (FM B C) A) (FA 4607182418800017408 (FM C C)) (fD x X (kD S)) (fD y Y (kD S)) (fD z Z (kD S)) (nD A B C))]) (by simp [results, Tryd.results15, go_sem, r0, r1, r2]) rfl ⟨rfl, ((HC.setCell (by simp; omega) _).setCell (by simp; omega) _).setCell (by simp; omega) _⟩
end Go.Proofs.YtmiamfnnccjmeacDoor
