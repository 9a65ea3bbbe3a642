/-
  mercatorref2.RefOfText.
-/
import Derived.Test.YtfahmaapodoaaaaGreatDoorQGfS
import Derived.Test.YtfahmaapodoaaaaGreatDoorQGfX
import Derived.Test.YtfahmaapodoaaaaGreatDoorQGqE
namespace Go.Proofs.YtfahmaapodoaaaaGreatDoor
open Go.RowKit GQ

theorem At.new6 (W : World) (a b c d e f : Value) (t : Nat) : At (W.alloc (.cells #[a, b, c, d, e, f] t)) W.heap.size [a, b, c, d, e, f] := At.newRow W [a, b, c, d, e, f] t
theorem six_at {W : World} {R : Nat} {a b c d e f : Int} (h : At W R [.int .i64 a, .int .i64 b, .int .i64 c, .int .i64 d, .int .i64 e, .int .i64 f]) (i : Nat) (hi : i < 6) : W.cell? ⟨R, i, none⟩ = some (.int .i64 ([a, b, c, d, e, f].getD i 0)) := by
  have := (h.1 i hi).1
  match i, hi with
  | 0, _ | 1, _ | 2, _ | 3, _ | 4, _ | 5, _ => exact this
theorem put6 {w W : World} {B : Nat} (hB : w.heap.size ≤ B) (RA : Has W B 4) (FA : Has W (B + 1) 2) (HC : Gr w W) (z b x y c p : Value) :
    At ((((((W.setCell ⟨B, 0, none⟩ z).setCell ⟨B, 1, none⟩ b).setCell ⟨B, 2, none⟩ x).setCell ⟨B, 3, none⟩ y).setCell ⟨B + 1, 0, none⟩ c).setCell ⟨B + 1, 1, none⟩ p) B [z, b, x, y] ∧
    At ((((((W.setCell ⟨B, 0, none⟩ z).setCell ⟨B, 1, none⟩ b).setCell ⟨B, 2, none⟩ x).setCell ⟨B, 3, none⟩ y).setCell ⟨B + 1, 0, none⟩ c).setCell ⟨B + 1, 1, none⟩ p) (B + 1) [c, p] ∧
    Gr w ((((((W.setCell ⟨B, 0, none⟩ z).setCell ⟨B, 1, none⟩ b).setCell ⟨B, 2, none⟩ x).setCell ⟨B, 3, none⟩ y).setCell ⟨B + 1, 0, none⟩ c).setCell ⟨B + 1, 1, none⟩ p) :=
  ⟨((At.fill4 RA z b x y).skip (by omega) _ _).skip (by omega) _ _, At.fill2 ((((FA.set _ _ _).set _ _ _).set _ _ _).set _ _ _) c p, (((((HC.set hB _ _).set hB _ _).set hB _ _).set hB _ _).set (by omega) _ _).set (by omega) _ _⟩
/-- What the six looks at a text have given. -/
structure Six (s : ByteArray) (n0 a b c n1 d e n2 f : Int) : Prop where
  d0 : ∀ w, Calls Tryz.prog 27 #[.string s, .int .i64 0, .int .i64 2] w fun e w' => e = .returned (.tuple #[.int .i64 n0, .int .i64 a]) ∧ w' = w
  b2 : ∀ w, Calls Tryz.prog 28 #[.string s, .int .i64 2, .int .u8 78, .int .u8 83] w fun e w' => e = .returned (.int .i64 b) ∧ w' = w
  b3 : ∀ w, Calls Tryz.prog 28 #[.string s, .int .i64 3, .int .u8 32, .int .u8 32] w fun e w' => e = .returned (.int .i64 c) ∧ w' = w
  d4 : ∀ w, Calls Tryz.prog 27 #[.string s, .int .i64 4, .int .i64 6] w fun e w' => e = .returned (.tuple #[.int .i64 n1, .int .i64 d]) ∧ w' = w
  b10 : ∀ w, Calls Tryz.prog 28 #[.string s, .int .i64 10, .int .u8 32, .int .u8 32] w fun x w' => x = .returned (.int .i64 e) ∧ w' = w
  d11 : ∀ w, Calls Tryz.prog 27 #[.string s, .int .i64 11, .int .i64 7] w fun e w' => e = .returned (.tuple #[.int .i64 n2, .int .i64 f]) ∧ w' = w
set_option maxHeartbeats 4000000 in
theorem refOf_core (s : ByteArray) (n0 a b c n1 d e n2 f q : Int) (hs : s.size ≤ 200) (h6 : Six s n0 a b c n1 d e n2 f)
    (rz rx ry fc fp : Int) (rb : Bool)
    (hix : 18 ≤ s.size → ∀ W, (Instr.index 9 (.string s) (.int .i64 2)).run Tryz.prog W = .ok (.int .u8 q) W)
    (hr : (∃ i, i < 6 ∧ (∀ j, j < i → [a, b, c, d, e, f].getD j 0 < 0) ∧ 0 ≤ [a, b, c, d, e, f].getD i 0 ∧ [a, b, c, d, e, f].getD i 0 ≤ (s.size : Int) ∧ rz = 0 ∧ rb = false ∧ rx = 0 ∧ ry = 0 ∧ fc = 1 ∧ fp = [a, b, c, d, e, f].getD i 0) ∨
      ((∀ j, j < 6 → [a, b, c, d, e, f].getD j 0 < 0) ∧ 18 ≤ s.size ∧ ((18 < s.size ∧ rz = 0 ∧ rb = false ∧ rx = 0 ∧ ry = 0 ∧ fc = 1 ∧ fp = 18) ∨
        (s.size = 18 ∧ ((¬ okRef n0 n1 n2 ∧ rz = 0 ∧ rb = false ∧ rx = 0 ∧ ry = 0 ∧ fc = 4 ∧ fp = 0) ∨ (okRef n0 n1 n2 ∧ rz = n0 ∧ rb = (q == 83) ∧ rx = n1 ∧ ry = n2 ∧ fc = 0 ∧ fp = -1)))))) (w : World) :
    Calls Tryz.prog 14 #[.string s] w fun x w' => x = .returned (.tuple #[rfV rz rb rx ry, faV fc fp]) ∧ Gr w w' := by
  have H := hidb h6
  have HR := hidb hr
  have HX := hidb hix
  clear h6 hr hix
  go_enter Tryz.func14, Tryz.ntmps14
  go_upto_region 1 with fail
  have RA : At ((w.alloc (.cells #[.int .i64 0, .bool false, .int .i64 0, .int .i64 0] 23)).alloc (.cells #[.int .i64 0, .int .i64 0] 41)) w.heap.size [.int .i64 0, .bool false, .int .i64 0, .int .i64 0] := (At.new4 w _ _ _ _ _).alloc _
  have FA : At ((w.alloc (.cells #[.int .i64 0, .bool false, .int .i64 0, .int .i64 0] 23)).alloc (.cells #[.int .i64 0, .int .i64 0] 41)) (w.heap.size + 1) [.int .i64 0, .int .i64 0] := At.nx2 _ _ _ _
  have HC : Gr w ((w.alloc (.cells #[.int .i64 0, .bool false, .int .i64 0, .int .i64 0] 23)).alloc (.cells #[.int .i64 0, .int .i64 0] 41)) := ((Gr.refl w).alloc _).alloc _
  generalize (w.alloc (.cells #[.int .i64 0, .bool false, .int .i64 0, .int .i64 0] 23)).alloc (.cells #[.int .i64 0, .int .i64 0] 41) = w1 at *
  go_wp2_with fail
  refine (H.out.d0 _).mono ?_
  rintro x w' ⟨rfl, rfl⟩
  go_wp2_with fail
  refine (H.out.b2 _).mono ?_
  rintro x w' ⟨rfl, rfl⟩
  go_wp2_with fail
  refine (H.out.b3 _).mono ?_
  rintro x w' ⟨rfl, rfl⟩
  go_wp2_with fail
  refine (H.out.d4 _).mono ?_
  rintro x w' ⟨rfl, rfl⟩
  go_wp2_with fail
  refine (H.out.b10 _).mono ?_
  rintro x w' ⟨rfl, rfl⟩
  go_wp2_with fail
  refine (H.out.d11 _).mono ?_
  rintro x w' ⟨rfl, rfl⟩
  clear H
  go_upto_region 8 with fail
  have SA := At.new6 w' (.int .i64 a) (.int .i64 b) (.int .i64 c) (.int .i64 d) (.int .i64 e) (.int .i64 f) 3
  replace RA := RA.alloc (.cells #[.int .i64 a, .int .i64 b, .int .i64 c, .int .i64 d, .int .i64 e, .int .i64 f] 3)
  replace FA := FA.alloc (.cells #[.int .i64 a, .int .i64 b, .int .i64 c, .int .i64 d, .int .i64 e, .int .i64 f] 3)
  replace HC := HC.alloc (.cells #[.int .i64 a, .int .i64 b, .int .i64 c, .int .i64 d, .int .i64 e, .int .i64 f] 3)
  generalize w'.heap.size = R at SA ⊢
  generalize w'.alloc (.cells #[.int .i64 a, .int .i64 b, .int .i64 c, .int .i64 d, .int .i64 e, .int .i64 f] 3) = w2 at *
  have HS := hidb (fun i hi => six_at SA i hi)
  clear SA
  obtain ⟨q0, q1, q2, q3⟩ := RA.c4
  obtain ⟨j0, j1, j2, j3⟩ := RA.f4
  obtain ⟨f0, f1⟩ := FA.c2
  obtain ⟨g0, g1⟩ := FA.f2
  go_wp2_with fail
  go_loop [14] (fun t => ∃ i : Nat, t = .int .i64 (i : Int) ∧ i ≤ 6 ∧ Hid (∀ j, j < i → [a, b, c, d, e, f].getD j 0 < 0)) (fun t => 6 - (intOf t).toNat)
  case atStart => exact ⟨0, rfl, by omega, fun j h => absurd h (by omega)⟩
  case round =>
    obtain ⟨i, rfl, hi, HN⟩ := hrel
    by_cases hi6 : i = 6
    · subst hi6
      clear hi HS
      obtain ⟨hz18, hcase⟩ : 18 ≤ s.size ∧ _ := by
        rcases HR.out with ⟨m, hm, -, h1, -⟩ | ⟨-, h18, h⟩
        · exact absurd h1 (by have := HN.out m hm; omega)
        · exact ⟨h18, h⟩
      clear HR HN
      have hx := HX.out hz18
      clear HX
      rcases hcase with ⟨h1, rfl, rfl, rfl, rfl, rfl, rfl⟩ | ⟨h1, hc⟩
      · have h1' : (18 : Int) < (s.size : Int) := by omega
        clear h1 hs hz18
        obtain ⟨TA, KA, GA⟩ := put6 (Nat.le_refl _) (RA.has rfl) (FA.has rfl) HC (.int .i64 0) (.bool false) (.int .i64 0) (.int .i64 0) (.int .i64 1) (.int .i64 18)
        go_wp2_with fail
        generalize World.setCell _ ⟨w.heap.size + 1, 1, none⟩ _ = W7 at TA KA GA ⊢
        clear q0 q1 q2 q3 j0 j1 j2 j3 f0 f1 g0 g1 HC RA FA
        obtain ⟨k0, k1, k2, k3⟩ := TA.c4
        obtain ⟨k4, k5⟩ := KA.c2
        refine bodyPost_ret (v := .tuple #[rfV 0 false 0 0, faV 1 18]) ?_ rfl ⟨rfl, GA⟩
        go_simp
        simp [results, Tryz.results14, go_sem, k0, k1, k2, k3, k4, k5]
      · have h1' : ¬ (18 : Int) < (s.size : Int) := by omega
        rcases hc with ⟨ho, rfl, rfl, rfl, rfl, rfl, rfl⟩ | ⟨ho, hz, hb, hxx, hy, hfc, hfp⟩
        · have HV := hidb (fun W => refError_no n0 (q == 83) n1 n2 ho W)
          clear h1 hs hz18 ho
          have HC2 : Gr w (w2.alloc (.cells #[.int .i64 n0, .bool (q == 83), .int .i64 n1, .int .i64 n2] 23)) := HC.alloc _
          have NA := At.new4 w2 (.int .i64 n0) (.bool (q == 83)) (.int .i64 n1) (.int .i64 n2) 23
          have RA2 := RA.alloc (.cells #[.int .i64 n0, .bool (q == 83), .int .i64 n1, .int .i64 n2] 23)
          have FA2 := FA.alloc (.cells #[.int .i64 n0, .bool (q == 83), .int .i64 n1, .int .i64 n2] 23)
          go_wp2_with fail
          generalize w2.alloc (.cells #[.int .i64 n0, .bool (q == 83), .int .i64 n1, .int .i64 n2] 23) = w4 at *
          generalize w2.heap.size = M at *
          clear RA FA HC
          have RA := RA2
          have FA := FA2
          have HC := HC2
          clear RA2 FA2 HC2
          refine (HV.out _).mono ?_
          rintro x w5 ⟨rfl, g5⟩
          replace RA := At.below g5 RA
          replace FA := At.below g5 FA
          replace HC := HC.step g5
          replace NA := At.below g5 NA
          clear g5 q0 q1 q2 q3 j0 j1 j2 j3 f0 f1 g0 g1
          obtain ⟨n0', n1', n2', n3'⟩ := NA.c4
          obtain ⟨q0, q1, q2, q3⟩ := RA.c4
          obtain ⟨j0, j1, j2, j3⟩ := RA.f4
          obtain ⟨f0, f1⟩ := FA.c2
          obtain ⟨g0, g1⟩ := FA.f2
          obtain ⟨TA, KA, GA⟩ := put6 (Nat.le_refl _) (RA.has rfl) (FA.has rfl) HC (.int .i64 0) (.bool false) (.int .i64 0) (.int .i64 0) (.int .i64 4) (.int .i64 0)
          go_wp2_with fail
          generalize World.setCell _ ⟨w.heap.size + 1, 1, none⟩ _ = W7 at TA KA GA ⊢
          clear q0 q1 q2 q3 j0 j1 j2 j3 f0 f1 g0 g1 HC RA FA NA n0' n1' n2' n3'
          obtain ⟨k0, k1, k2, k3⟩ := TA.c4
          obtain ⟨k4, k5⟩ := KA.c2
          refine bodyPost_ret (v := .tuple #[rfV 0 false 0 0, faV 4 0]) ?_ rfl ⟨rfl, GA⟩
          go_simp
          simp [results, Tryz.results14, go_sem, k0, k1, k2, k3, k4, k5]
        · have HV := hidb (fun W => refError_ok n0 (q == 83) n1 n2 ho W)
          have HE : Hid (rz = n0 ∧ rb = (q == 83) ∧ rx = n1 ∧ ry = n2 ∧ fc = 0 ∧ fp = -1) := ⟨hz, hb, hxx, hy, hfc, hfp⟩
          clear h1 hs hz18 ho hz hb hxx hy hfc hfp
          have HC2 : Gr w (w2.alloc (.cells #[.int .i64 n0, .bool (q == 83), .int .i64 n1, .int .i64 n2] 23)) := HC.alloc _
          have NA := At.new4 w2 (.int .i64 n0) (.bool (q == 83)) (.int .i64 n1) (.int .i64 n2) 23
          have RA2 := RA.alloc (.cells #[.int .i64 n0, .bool (q == 83), .int .i64 n1, .int .i64 n2] 23)
          have FA2 := FA.alloc (.cells #[.int .i64 n0, .bool (q == 83), .int .i64 n1, .int .i64 n2] 23)
          go_wp2_with fail
          generalize w2.alloc (.cells #[.int .i64 n0, .bool (q == 83), .int .i64 n1, .int .i64 n2] 23) = w4 at *
          generalize w2.heap.size = M at *
          clear RA FA HC
          have RA := RA2
          have FA := FA2
          have HC := HC2
          clear RA2 FA2 HC2
          refine (HV.out _).mono ?_
          rintro x w5 ⟨rfl, g5⟩
          replace RA := At.below g5 RA
          replace FA := At.below g5 FA
          replace HC := HC.step g5
          replace NA := At.below g5 NA
          clear g5 q0 q1 q2 q3 j0 j1 j2 j3 f0 f1 g0 g1
          obtain ⟨n0', n1', n2', n3'⟩ := NA.c4
          obtain ⟨q0, q1, q2, q3⟩ := RA.c4
          obtain ⟨j0, j1, j2, j3⟩ := RA.f4
          obtain ⟨f0, f1⟩ := FA.c2
          obtain ⟨g0, g1⟩ := FA.f2
          obtain ⟨TA, KA, GA⟩ := put6 (Nat.le_refl _) (RA.has rfl) (FA.has rfl) HC (.int .i64 n0) (.bool (q == 83)) (.int .i64 n1) (.int .i64 n2) (.int .i64 0) (.int .i64 (-1))
          go_wp2_with fail
          generalize World.setCell _ ⟨w.heap.size + 1, 1, none⟩ _ = W7 at TA KA GA ⊢
          clear q0 q1 q2 q3 j0 j1 j2 j3 f0 f1 g0 g1 HC RA FA NA n0' n1' n2' n3'
          obtain ⟨k0, k1, k2, k3⟩ := TA.c4
          obtain ⟨k4, k5⟩ := KA.c2
          refine bodyPost_ret (v := .tuple #[rfV n0 (q == 83) n1 n2, faV 0 (-1)]) ?_ rfl ⟨by rw [HE.out.1, HE.out.2.1, HE.out.2.2.1, HE.out.2.2.2.1, HE.out.2.2.2.2.1, HE.out.2.2.2.2.2], GA⟩
          go_simp
          simp [results, Tryz.results14, go_sem, k0, k1, k2, k3, k4, k5]
    · obtain ⟨p, hp⟩ : ∃ p, [a, b, c, d, e, f].getD i 0 = p := ⟨_, rfl⟩
      have hc := HS.out i (by omega)
      rw [hp] at hc
      have hi' : (i : Int) < 6 := by omega
      have ew : IntKind.i64.wrap ((i : Int) + 1) = i + 1 := wrq (by omega) (by omega)
      by_cases h0 : 0 ≤ p
      · obtain ⟨hle, rfl, rfl, rfl, rfl, rfl, rfl⟩ : p ≤ (s.size : Int) ∧ rz = 0 ∧ rb = false ∧ rx = 0 ∧ ry = 0 ∧ fc = 1 ∧ fp = p := by
          rcases HR.out with ⟨m, hm, h1, h2, h3, h4⟩ | ⟨h1, -⟩
          · rcases Nat.lt_trichotomy m i with k | k | k
            · exact absurd h2 (by have := HN.out m k; omega)
            · subst k; rw [hp] at h3 h4; exact ⟨h3, h4⟩
            · exact absurd h0 (by have := h1 i k; omega)
          · exact absurd h0 (by have := h1 i (by omega); omega)
        have hgt : ¬ (s.size : Int) < fp := by omega
        clear hle HR HN HS hp hi6 hi HX hs
        obtain ⟨TA, KA, GA⟩ := put6 (Nat.le_refl _) (RA.has rfl) (FA.has rfl) HC (.int .i64 0) (.bool false) (.int .i64 0) (.int .i64 0) (.int .i64 1) (.int .i64 fp)
        go_wp2_with fail
        generalize World.setCell _ ⟨w.heap.size + 1, 1, none⟩ _ = W7 at TA KA GA ⊢
        clear q0 q1 q2 q3 j0 j1 j2 j3 f0 f1 g0 g1 HC RA FA
        obtain ⟨k0, k1, k2, k3⟩ := TA.c4
        obtain ⟨k4, k5⟩ := KA.c2
        refine bodyPost_ret (v := .tuple #[rfV 0 false 0 0, faV 1 fp]) ?_ rfl ⟨rfl, GA⟩
        go_simp
        simp [results, Tryz.results14, go_sem, k0, k1, k2, k3, k4, k5]
      · have HN2 : Hid (∀ j, j < i + 1 → [a, b, c, d, e, f].getD j 0 < 0) := fun j hj => by
          by_cases k : j = i
          · rw [k, hp]; omega
          · exact HN.out j (by omega)
        have H6 := hidb hi6
        clear hp hi6 hs HX HR
        go_wp2_with fail
        go_round
        case rel => exact ⟨i + 1, by simp, by have := H6.out; omega, HN2⟩
        case measure => have := H6.out; simp [intOf]; omega
end Go.Proofs.YtfahmaapodoaaaaGreatDoor
