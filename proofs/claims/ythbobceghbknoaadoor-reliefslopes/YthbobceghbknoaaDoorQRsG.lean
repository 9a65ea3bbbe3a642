/-
  mercatorref3.IsShade of a shade that is right.
-/
import Derived.Test.YthbobceghbknoaaDoorQRsF
namespace Go.Proofs.YthbobceghbknoaaDoor
open Go.RowKit BG

theorem p50 {m : Nat} (h : m ≤ 340282366920938463463374607431768211456) : m < 1000000 ^ 50 := Nat.lt_of_le_of_lt h (by decide +kernel)
theorem l8 {m : Nat} (h : m ≤ 340282366920938463463374607431768211456) : m ≤ 8 * lid := Nat.le_trans h (by decide +kernel)
/-- What the reference asks, in whole numbers. -/
theorem sh_nat {a b x y z : Int} {v : Nat} {N Q D : Nat} (hS : ShOk a b 2048 x y z v) (hd : 0 < dotI a b 2048 x y z) (hN : (N : Int) = dotI a b 2048 a b 2048) (hQ : (Q : Int) = dotI x y z x y z) (hD : (D : Int) = 255 * dotI a b 2048 x y z) : v * v * (N * Q) ≤ D * D ∧ (v = 255 ∨ D * D < (v + 1) * (v + 1) * (N * Q)) := by
  have key : ∀ u : Nat, litP a b 2048 x y z u = decide (D * D < (u + 1) * (u + 1) * (N * Q)) := by
    intro u
    unfold litP
    rw [← hN, ← hQ, ← hD]
    apply decide_eq_decide.2
    have e1 : (N : Int) * (((u : Int) + 1) * ((u : Int) + 1) * (Q : Int)) = (((u + 1) * (u + 1) * (N * Q) : Nat) : Int) := by
      simp only [Int.natCast_mul, Int.natCast_add, Int.natCast_one]
      grind
    rw [e1, ← Int.natCast_mul]
    omega
  constructor
  · rcases hS.lo hd with h | h
    · subst h; simp
    · rw [key] at h
      have h1 := of_decide_eq_false h
      by_cases hv : v = 0
      · subst hv; simp
      · rw [show v - 1 + 1 = v by omega] at h1
        omega
  · rcases hS.hi hd with h | h
    · exact .inl h
    · rw [key] at h
      exact .inr (of_decide_eq_true h)
set_option maxRecDepth 4000 in
set_option maxHeartbeats 16000000 in
theorem isShade_any {pb po b o cap m n : Nat} {l : List Int} (i : Nat) (hi : i < l.length) (x y z : Int) (v : Nat) (w : World) (rp : PtR w pb po m n (.slice (some ⟨b, o, none⟩) l.length cap)) (rs : Rs w b o cap l) (ok : Ok l m n) (hs : liI x y z = true) (hS : ShOk (-(eaI l m n i)) (-(noI l m n i)) 2048 x y z v) : Calls Tryd.prog 12 #[.pointer (some ⟨pb, po, none⟩), .int .i64 (i : Int), .int .i64 x, .int .i64 y, .int .i64 z, .int .i64 (v : Int)] w fun e w' => e = .returned (.bool true) ∧ Gr w w' := by
  have hf := fl_of (i := i) (x := x) (y := y) (z := z) ok hs
  have C1 := hidb (fun W1 (hG : Gr w W1) => slopeOf_any i hi W1 (rp.below hG.out) (rs.below hG.out) ok)
  have hb := ea_bd (i := i) ok
  generalize eaI l m n i = ea at *
  generalize noI l m n i = no at *
  obtain ⟨⟨N0, N1⟩, ⟨Q0, Q1⟩, ⟨T0, T1⟩⟩ := hf.dots
  obtain ⟨hx1, hy1, hz1⟩ : (-1024 ≤ x ∧ x ≤ 1024) ∧ (-1024 ≤ y ∧ y ≤ 1024) ∧ (-1024 ≤ z ∧ z ≤ 1024) := ⟨hf.x1, hf.y1, hf.z1⟩
  have p1 := mul_bnd (x := -ea) (y := x) (p := 8388608) (q := 1024) (by omega) (by omega) (by decide)
  have p2 := mul_bnd (x := no) (y := y) (p := 8388608) (q := 1024) (by omega) (by omega) (by decide)
  rw [show (8388608 : Int) * 1024 = 8589934592 by decide] at p1 p2
  obtain ⟨ea', hea, e1⟩ : ∃ q : Int, q = -ea ∧ IntKind.i64.wrap (-ea) = q := ⟨_, rfl, wrap_in (by omega) (by omega)⟩
  rw [← hea] at p1
  obtain ⟨s1, hs1, e2⟩ : ∃ q : Int, q = ea' * x ∧ IntKind.i64.wrap (ea' * x) = q := ⟨_, rfl, wrap_in (by omega) (by omega)⟩
  obtain ⟨s2, hs2, e3⟩ : ∃ q : Int, q = no * y ∧ IntKind.i64.wrap (no * y) = q := ⟨_, rfl, wrap_in (by omega) (by omega)⟩
  rw [← hs1] at p1
  rw [← hs2] at p2
  obtain ⟨s3, hs3, e4⟩ : ∃ q : Int, q = s1 - s2 ∧ IntKind.i64.wrap (s1 - s2) = q := ⟨_, rfl, wrap_in (by omega) (by omega)⟩
  obtain ⟨s4, hs4, e5⟩ : ∃ q : Int, q = 2048 * z ∧ IntKind.i64.wrap (2048 * z) = q := ⟨_, rfl, wrap_in (by omega) (by omega)⟩
  obtain ⟨d, hd, e6⟩ : ∃ q : Int, q = s3 + s4 ∧ IntKind.i64.wrap (s3 + s4) = q := ⟨_, rfl, wrap_in (by omega) (by omega)⟩
  have hdT : dotI (-ea) (-no) 2048 x y z = d := by
    unfold dotI
    rw [hd, hs3, hs4, hs1, hs2, hea]
    grind
  by_cases hp : d ≤ 0
  · have hv0 : v = 0 := hS.no (by rw [hdT]; exact hp)
    subst hv0
    clear hf rp rs ok hs hS hb N0 N1 Q0 Q1 T0 T1 hx1 hy1 hz1 p1 p2 hea hs1 hs2 hs3 hs4 hd hdT hi
    go_enter Tryd.func12, Tryd.ntmps12
    go_wp2_with fail
    refine (C1.out _ (Gr.refl _)).mono ?_
    rintro e w1 ⟨rfl, hB⟩
    have HG := hidb hB
    clear hB
    go_wp2
    go_ret
    exact ⟨by simp, HG.out⟩
  · have n1 := mul_bnd (x := ea) (y := ea) (p := 8388608) (q := 8388608) (by omega) (by omega) (by decide)
    have n2 := mul_bnd (x := no) (y := no) (p := 8388608) (q := 8388608) (by omega) (by omega) (by decide)
    have n3 := mul_bnd hx1 hx1 (by decide)
    have n4 := mul_bnd hy1 hy1 (by decide)
    have n5 := mul_bnd hz1 hz1 (by decide)
    rw [show (8388608 : Int) * 8388608 = 70368744177664 by decide] at n1 n2
    rw [show (1024 : Int) * 1024 = 1048576 by decide] at n3 n4 n5
    have n6 := sq_nn ea
    have n7 := sq_nn no
    have n8 := sq_nn x
    have n9 := sq_nn y
    have n10 := sq_nn z
    obtain ⟨a1, ha1, f1⟩ : ∃ q : Int, q = ea * ea ∧ IntKind.i64.wrap (ea * ea) = q := ⟨_, rfl, wrap_in (by omega) (by omega)⟩
    obtain ⟨a2, ha2, f2⟩ : ∃ q : Int, q = no * no ∧ IntKind.i64.wrap (no * no) = q := ⟨_, rfl, wrap_in (by omega) (by omega)⟩
    obtain ⟨a3, ha3, f3⟩ : ∃ q : Int, q = x * x ∧ IntKind.i64.wrap (x * x) = q := ⟨_, rfl, wrap_in (by omega) (by omega)⟩
    obtain ⟨a4, ha4, f4⟩ : ∃ q : Int, q = y * y ∧ IntKind.i64.wrap (y * y) = q := ⟨_, rfl, wrap_in (by omega) (by omega)⟩
    obtain ⟨a5, ha5, f5⟩ : ∃ q : Int, q = z * z ∧ IntKind.i64.wrap (z * z) = q := ⟨_, rfl, wrap_in (by omega) (by omega)⟩
    rw [← ha1] at n1 n6
    rw [← ha2] at n2 n7
    rw [← ha3] at n3 n8
    rw [← ha4] at n4 n9
    rw [← ha5] at n5 n10
    obtain ⟨a6, ha6, f6⟩ : ∃ q : Int, q = a1 + a2 ∧ IntKind.i64.wrap (a1 + a2) = q := ⟨_, rfl, wrap_in (by omega) (by omega)⟩
    obtain ⟨N, hN⟩ : ∃ q : Nat, (q : Int) = a6 + 4194304 := ⟨(a6 + 4194304).toNat, by omega⟩
    have f7 : IntKind.i64.wrap (a6 + 4194304) = (N : Int) := by rw [hN]; exact wrap_in (by omega) (by omega)
    obtain ⟨a7, ha7, f8⟩ : ∃ q : Int, q = a3 + a4 ∧ IntKind.i64.wrap (a3 + a4) = q := ⟨_, rfl, wrap_in (by omega) (by omega)⟩
    obtain ⟨Q, hQ⟩ : ∃ q : Nat, (q : Int) = a7 + a5 := ⟨(a7 + a5).toNat, by omega⟩
    have f9 : IntKind.i64.wrap (a7 + a5) = (Q : Int) := by rw [hQ]; exact wrap_in (by omega) (by omega)
    obtain ⟨D, hD⟩ : ∃ q : Nat, (q : Int) = 255 * d := ⟨(255 * d).toNat, by omega⟩
    have f10 : IntKind.i64.wrap (255 * d) = (D : Int) := by rw [hD]; exact wrap_in (by omega) (by omega)
    have hv := hS.le
    obtain ⟨K1, K2⟩ := sh_nat (N := N) (Q := Q) (D := D) hS (by rw [hdT]; omega) (by unfold dotI; rw [hN, ha6, ha1, ha2]; grind) (by unfold dotI; rw [hQ, ha7, ha3, ha4, ha5]) (by rw [hdT, hD])
    have v3 : v * v ≤ 255 * 255 := Nat.mul_le_mul hv hv
    have v4 : (v + 1) * (v + 1) ≤ 256 * 256 := Nat.mul_le_mul (by omega) (by omega)
    obtain ⟨V, hV⟩ : ∃ q : Nat, q = v * v := ⟨_, rfl⟩
    obtain ⟨U, hU⟩ : ∃ q : Nat, q = (v + 1) * (v + 1) := ⟨_, rfl⟩
    rw [← hV] at v3 K1
    rw [← hU] at v4 K2
    have f11 : IntKind.i64.wrap ((v : Int) * (v : Int)) = (V : Int) := by rw [← Int.natCast_mul, ← hV]; exact wrap_in (by omega) (by omega)
    obtain ⟨u1, hu1, f12⟩ : ∃ q : Int, q = (v : Int) + 1 ∧ IntKind.i64.wrap ((v : Int) + 1) = q := ⟨_, rfl, wrap_in (by omega) (by omega)⟩
    have f13 : IntKind.i64.wrap (u1 * u1) = (U : Int) := by rw [hu1, show (v : Int) + 1 = ((v + 1 : Nat) : Int) by omega, ← Int.natCast_mul, ← hU]; exact wrap_in (by omega) (by omega)
    have b1 : N ≤ 140737492549632 := by omega
    have b2 : Q ≤ 3145728 := by omega
    have b3 : D ≤ 4381668802560 := by omega
    have b4 : N * Q ≤ 140737492549632 * 3145728 := Nat.mul_le_mul b1 b2
    have b5 : D * D ≤ 4381668802560 * 4381668802560 := Nat.mul_le_mul b3 b3
    have b6 : V * (N * Q) ≤ 65536 * (140737492549632 * 3145728) := Nat.mul_le_mul (by omega) b4
    have b7 : U * (N * Q) ≤ 65536 * (140737492549632 * 3145728) := Nat.mul_le_mul (by omega) b4
    have B1 := hidb (fun W => bigOf_any N (by omega) W)
    have B2 := hidb (fun W => bigOf_any Q (by omega) W)
    have B3 := hidb (fun W => bigOf_any D (by omega) W)
    have B4 := hidb (fun W => bigOf_any V (by omega) W)
    have B5 := hidb (fun W => bigOf_any U (by omega) W)
    have M1 := hidb (fun (W : World) (p q : Value) (h1 : Bg W p (dn N)) (h2 : Bg W q (dn Q)) => mul_dn (p50 (by omega)) (p50 (by omega)) h1 h2)
    have M2 := hidb (fun (W : World) (p q : Value) (h1 : Bg W p (dn D)) (h2 : Bg W q (dn D)) => mul_dn (p50 (by omega)) (p50 (by omega)) h1 h2)
    have M3 := hidb (fun (W : World) (p q : Value) (h1 : Bg W p (dn V)) (h2 : Bg W q (dn (N * Q))) => mul_dn (p50 (by omega)) (p50 (by omega)) h1 h2)
    have M4 := hidb (fun (W : World) (p q : Value) (h1 : Bg W p (dn U)) (h2 : Bg W q (dn (N * Q))) => mul_dn (p50 (by omega)) (p50 (by omega)) h1 h2)
    have X1 := hidb (fun (W : World) (p q : Value) (h1 : Bg W p (dn (V * (N * Q)))) (h2 : Bg W q (dn (D * D))) => cmp_dn (l8 (by omega)) (l8 (by omega)) h1 h2)
    have X2 := hidb (fun (W : World) (p q : Value) (h1 : Bg W p (dn (U * (N * Q)))) (h2 : Bg W q (dn (D * D))) => cmp_dn (l8 (by omega)) (l8 (by omega)) h1 h2)
    have c1 : ¬ 0 < cm (V * (N * Q)) (D * D) := cm_le K1
    have c2 : v = 255 ∨ 0 < cm (U * (N * Q)) (D * D) := K2.imp id (fun h => cm_gt h)
    generalize N * Q = NQ at *
    generalize D * D = DD at *
    generalize cm (V * NQ) DD = k1 at *
    generalize cm (U * NQ) DD = k2 at *
    have c1' : k1 ≤ 0 := by omega
    obtain ⟨vI, hvI⟩ : ∃ q : Int, q = (v : Int) := ⟨_, rfl⟩
    have g1 : 0 ≤ vI := by omega
    have g2 : vI ≤ 255 := by omega
    rw [← hvI] at f11 f12
    rw [← hvI]
    have hp' : ¬ d ≤ 0 := hp
    clear hf rp rs ok hs hS hb N0 N1 Q0 Q1 T0 T1 hx1 hy1 hz1 p1 p2 hea hs1 hs2 hs3 hs4 hd hdT hi n1 n2 n3 n4 n5 n6 n7 n8 n9 n10 ha1 ha2 ha3 ha4 ha5 ha6 ha7 hN hQ hD K1 K2 v3 v4 hV hU hu1 b1 b2 b3 b4 b5 b6 b7 c1 hp hv
    have HC2 := hidb (show vI = 255 ∨ (¬ vI = 255 ∧ ¬ k2 ≤ 0) by omega)
    clear c2 hvI
    all_goals
      go_enter Tryd.func12, Tryd.ntmps12
      go_wp2_with fail
      refine (C1.out _ (Gr.refl _)).mono ?_
      rintro e w1 ⟨rfl, hB⟩
      have HG := hidb hB
      clear hB
      go_wp2_with fail
      refine (B1.out _).mono ?_
      rintro e w2 ⟨t1, rfl, hb1, hB⟩
      replace HG := hidb (Gr.step HG.out hB)
      have K1 := hidb hb1
      clear hB hb1
      go_wp2_with fail
      refine (B2.out _).mono ?_
      rintro e w3 ⟨t2, rfl, hb2, hB⟩
      replace HG := hidb (Gr.step HG.out hB)
      replace K1 := hidb (K1.out.below hB)
      have K2 := hidb hb2
      clear hB hb2
      go_wp2_with fail
      refine (M1.out _ _ _ K1.out K2.out).mono ?_
      rintro e w4 ⟨t3, rfl, hb3, hB⟩
      replace HG := hidb (Gr.step HG.out hB)
      have K3 := hidb hb3
      clear hB hb3 K1 K2
      go_wp2_with fail
      refine (B3.out _).mono ?_
      rintro e w5 ⟨t4, rfl, hb4, hB⟩
      replace HG := hidb (Gr.step HG.out hB)
      replace K3 := hidb (K3.out.below hB)
      have K4 := hidb hb4
      clear hB hb4
      go_wp2_with fail
      refine (B3.out _).mono ?_
      rintro e w6 ⟨t5, rfl, hb5, hB⟩
      replace HG := hidb (Gr.step HG.out hB)
      replace K3 := hidb (K3.out.below hB)
      replace K4 := hidb (K4.out.below hB)
      have K5 := hidb hb5
      clear hB hb5
      go_wp2_with fail
      refine (M2.out _ _ _ K4.out K5.out).mono ?_
      rintro e w7 ⟨t6, rfl, hb6, hB⟩
      replace HG := hidb (Gr.step HG.out hB)
      replace K3 := hidb (K3.out.below hB)
      have K6 := hidb hb6
      clear hB hb6 K4 K5
      go_wp2_with fail
      refine (B4.out _).mono ?_
      rintro e w8 ⟨t7, rfl, hb7, hB⟩
      replace HG := hidb (Gr.step HG.out hB)
      replace K3 := hidb (K3.out.below hB)
      replace K6 := hidb (K6.out.below hB)
      have K7 := hidb hb7
      clear hB hb7
      go_wp2_with fail
      refine (M3.out _ _ _ K7.out K3.out).mono ?_
      rintro e w9 ⟨t8, rfl, hb8, hB⟩
      replace HG := hidb (Gr.step HG.out hB)
      replace K3 := hidb (K3.out.below hB)
      replace K6 := hidb (K6.out.below hB)
      have K8 := hidb hb8
      clear hB hb8 K7
      go_wp2_with fail
      refine (X1.out _ _ _ K8.out K6.out).mono ?_
      rintro e w10 ⟨rfl, hB⟩
      replace HG := hidb (Gr.step HG.out hB)
      replace K3 := hidb (K3.out.below hB)
      replace K6 := hidb (K6.out.below hB)
      clear hB K8
      go_wp2_with fail
      refine (B5.out _).mono ?_
      rintro e w11 ⟨t9, rfl, hb9, hB⟩
      replace HG := hidb (Gr.step HG.out hB)
      replace K3 := hidb (K3.out.below hB)
      replace K6 := hidb (K6.out.below hB)
      have K9 := hidb hb9
      clear hB hb9
      go_wp2_with fail
      refine (M4.out _ _ _ K9.out K3.out).mono ?_
      rintro e w12 ⟨t10, rfl, hb10, hB⟩
      replace HG := hidb (Gr.step HG.out hB)
      replace K6 := hidb (K6.out.below hB)
      have K10 := hidb hb10
      clear hB hb10 K9
      go_wp2_with fail
      refine (X2.out _ _ _ K10.out K6.out).mono ?_
      rintro e w13 ⟨rfl, hB⟩
      replace HG := hidb (Gr.step HG.out hB)
      clear hB K10 K6 K3
      rcases HC2.out with q1 | ⟨q1, q2⟩
      all_goals
        go_wp2
        go_ret
        exact ⟨by first | rfl | (simp; done) | (simp; omega), HG.out⟩
end Go.Proofs.YthbobceghbknoaaDoor
