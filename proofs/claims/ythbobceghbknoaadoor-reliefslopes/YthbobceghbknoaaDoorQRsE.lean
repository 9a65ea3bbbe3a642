/-
  sort.Search with lit's own question; lit; Shade.
-/
import Derived.Test.YthbobceghbknoaaDoorQRsC
import Derived.Test.YthbobceghbknoaaDoorQRsD
namespace Go.Proofs.YthbobceghbknoaaDoor
open Go.RowKit

/-- lit's own question at a number: is the square of what comes of it too great? -/
def litP (a b c x y z : Int) (v : Nat) : Bool := decide ((255 * dotI a b c x y z) * (255 * dotI a b c x y z) < dotI a b c a b c * (((v : Int) + 1) * ((v : Int) + 1) * dotI x y z x y z))
/-- The bounds of a face and of a light. -/
structure FL (a b c x y z : Int) : Prop where
  a1 : -8388608 ≤ a ∧ a ≤ 8388608
  b1 : -8388608 ≤ b ∧ b ≤ 8388608
  c1 : c = 2048
  x1 : -1024 ≤ x ∧ x ≤ 1024
  y1 : -1024 ≤ y ∧ y ≤ 1024
  z1 : -1024 ≤ z ∧ z ≤ 1024
theorem sq_nn (x : Int) : 0 ≤ x * x := by
  rcases Int.le_total 0 x with h | h
  · exact Int.mul_nonneg h h
  · exact Int.mul_nonneg_of_nonpos_of_nonpos h h
theorem FL.dots {a b c x y z : Int} (h : FL a b c x y z) : (0 ≤ dotI a b c a b c ∧ dotI a b c a b c ≤ 140737492549632) ∧ (0 ≤ dotI x y z x y z ∧ dotI x y z x y z ≤ 3145728) ∧ (-17183014912 ≤ dotI a b c x y z ∧ dotI a b c x y z ≤ 17183014912) := by
  have p1 := mul_bnd h.a1 h.a1 (by decide)
  have p2 := mul_bnd h.b1 h.b1 (by decide)
  have p3 := mul_bnd h.x1 h.x1 (by decide)
  have p4 := mul_bnd h.y1 h.y1 (by decide)
  have p5 := mul_bnd h.z1 h.z1 (by decide)
  have p6 := mul_bnd h.a1 h.x1 (by decide)
  have p7 := mul_bnd h.b1 h.y1 (by decide)
  rw [show (8388608 : Int) * 8388608 = 70368744177664 by decide] at p1 p2
  rw [show (1024 : Int) * 1024 = 1048576 by decide] at p3 p4 p5
  rw [show (8388608 : Int) * 1024 = 8589934592 by decide] at p6 p7
  have q1 : 0 ≤ a * a := sq_nn a
  have q2 : 0 ≤ b * b := sq_nn b
  have q3 : 0 ≤ x * x := sq_nn x
  have q4 : 0 ≤ y * y := sq_nn y
  have q5 : 0 ≤ z * z := sq_nn z
  have z1 := h.z1
  have c1 := h.c1
  subst c1
  unfold dotI
  omega
/-- Three blocks that are read. -/
structure LK (w W : World) (B F L : Nat) (k0 k1 k2 : List Value) : Prop where
  b0 : At W B k0
  f0 : At W F k1
  l0 : At W L k2
  gr : Gr w W
theorem LK.below {w W w' : World} {B F L : Nat} {k0 k1 k2 : List Value} (h : LK w W B F L k0 k1 k2) (hB : Below W.heap.size W w') : LK w w' B F L k0 k1 k2 := ⟨h.b0.below hB, h.f0.below hB, h.l0.below hB, Gr.step h.gr hB⟩
theorem LK.drew {w W : World} {B F L : Nat} {k0 k1 k2 : List Value} (h : LK w W B F L k0 k1 k2) : LK w W.drew B F L k0 k1 k2 := ⟨h.b0, h.f0, h.l0, h.gr.drew⟩
theorem LK.all {w W : World} {B F L : Nat} {a b c d e f g i : Value} (h : LK w W B F L [a, b] [c, d, e] [f, g, i]) : (W.cell? ⟨B, 0, none⟩ = some a ∧ W.cell? ⟨B, 1, none⟩ = some b) ∧ (W.cell? ⟨F, 0, none⟩ = some c ∧ W.cell? ⟨F, 1, none⟩ = some d ∧ W.cell? ⟨F, 2, none⟩ = some e) ∧ (W.cell? ⟨L, 0, none⟩ = some f ∧ W.cell? ⟨L, 1, none⟩ = some g ∧ W.cell? ⟨L, 2, none⟩ = some i) := ⟨h.b0.c2, h.f0.c3, h.l0.c3⟩
set_option maxRecDepth 4000 in
set_option maxHeartbeats 8000000 in
theorem lit1_any {a b c x y z : Int} (h : FL a b c x y z) (B F L : Nat) (v : Nat) (hv : v < 255) (w : World) (hB : At w B [.int .u64 (hi2 ((255 * dotI a b c x y z) * (255 * dotI a b c x y z))), .int .u64 (lo2 ((255 * dotI a b c x y z) * (255 * dotI a b c x y z)))]) (hF : At w F [.int .i64 a, .int .i64 b, .int .i64 c]) (hL : At w L [.int .i64 x, .int .i64 y, .int .i64 z]) : Calls Tryd.prog 42 #[.int .i64 (v : Int), .pointer (some ⟨B, 0, none⟩), .pointer (some ⟨F, 0, none⟩), .pointer (some ⟨L, 0, none⟩)] w fun e w' => e = .returned (.bool (litP a b c x y z v)) ∧ Gr w w' := by
  obtain ⟨⟨n0, n1⟩, ⟨l0, l1⟩, ⟨t0, t1⟩⟩ := h.dots
  have C1 := hidb (fun W => dot_any a b c a b c h.a1 h.b1 (by rw [h.c1]; decide) h.a1 h.b1 (by rw [h.c1]; decide) W)
  have C2 := hidb (fun W => dot_any x y z x y z (by have := h.x1; omega) (by have := h.y1; omega) (by have := h.z1; omega) (by have := h.x1; omega) (by have := h.y1; omega) (by have := h.z1; omega) W)
  unfold litP
  generalize dotI a b c a b c = N at *
  generalize dotI x y z x y z = Q at *
  generalize dotI a b c x y z = T at *
  obtain ⟨v1, hv1, e1⟩ : ∃ q : Int, q = (v : Int) + 1 ∧ IntKind.i64.wrap ((v : Int) + 1) = q := ⟨_, rfl, wrap_in (by omega) (by omega)⟩
  rw [← hv1]
  have m1 := mul_bnd (x := v1) (y := v1) (p := 256) (q := 256) (by omega) (by omega) (by decide)
  rw [show (256 : Int) * 256 = 65536 by decide] at m1
  have m1' : 0 ≤ v1 * v1 := sq_nn v1
  obtain ⟨v2, hv2, e2⟩ : ∃ q : Int, q = v1 * v1 ∧ IntKind.i64.wrap (v1 * v1) = q := ⟨_, rfl, wrap_in (by omega) (by omega)⟩
  rw [← hv2] at m1 m1' ⊢
  have m2 := mul_bnd (x := v2) (y := Q) (p := 65536) (q := 3145728) (by omega) (by omega) (by decide)
  rw [show (65536 : Int) * 3145728 = 206158430208 by decide] at m2
  have m2' : 0 ≤ v2 * Q := Int.mul_nonneg m1' l0
  obtain ⟨v3, hv3, e3⟩ : ∃ q : Int, q = v2 * Q ∧ IntKind.i64.wrap (v2 * Q) = q := ⟨_, rfl, wrap_in (by omega) (by omega)⟩
  rw [← hv3] at m2 m2' ⊢
  have C3 : Hid (∀ W, Calls Tryd.prog 44 #[.int .i64 N, .int .i64 v3] W fun e w' => e = .returned (W2 (N * v3)) ∧ Gr W w') := fun W => by
    have := product_any N.toNat v3.toNat (by omega) (by omega) W
    rw [show ((N.toNat : Nat) : Int) = N by omega, show ((v3.toNat : Nat) : Int) = v3 by omega] at this
    exact this
  have m3 := mul_bnd (x := N) (y := v3) (p := 140737492549632) (q := 206158430208) (by omega) (by omega) (by decide)
  rw [show (140737492549632 : Int) * 206158430208 = 29014220535442228648083456 by decide] at m3
  have m3' : 0 ≤ N * v3 := Int.mul_nonneg n0 m2'
  have m4 := mul_bnd (x := 255 * T) (y := 255 * T) (p := 4381668802560) (q := 4381668802560) (by omega) (by omega) (by decide)
  rw [show (4381668802560 : Int) * 4381668802560 = 19199021495327584262553600 by decide] at m4
  have m4' : 0 ≤ 255 * T * (255 * T) := sq_nn _
  have C4 := hidb (fun W => dbelow_any (255 * T * (255 * T)) (N * v3) m4' (by omega) m3' (by omega) W)
  unfold W2 at C3 C4
  generalize hi2 (255 * T * (255 * T)) = mh at *
  generalize lo2 (255 * T * (255 * T)) = ml at *
  generalize hi2 (N * v3) = nh at *
  generalize lo2 (N * v3) = nl at *
  generalize decide (255 * T * (255 * T) < N * v3) = ans at *
  have E : LK w w B F L _ _ _ := ⟨hB, hF, hL, Gr.refl _⟩
  have HE := hidb E
  clear E hB hF hL h n0 n1 l0 l1 t0 t1 hv hv1 hv2 hv3 m1 m1' m2 m2' m3 m3' m4 m4'
  go_enter Tryd.func42, Tryd.ntmps42
  go_upto_region 2 with fail
  have E := HE.out
  clear HE
  go_region_held (fun w' => (w'.cell? ⟨B, 0, none⟩ = some (.int .u64 mh) ∧ w'.cell? ⟨B, 1, none⟩ = some (.int .u64 ml)) ∧ (w'.cell? ⟨F, 0, none⟩ = some (.int .i64 a) ∧ w'.cell? ⟨F, 1, none⟩ = some (.int .i64 b) ∧ w'.cell? ⟨F, 2, none⟩ = some (.int .i64 c)) ∧ (w'.cell? ⟨L, 0, none⟩ = some (.int .i64 x) ∧ w'.cell? ⟨L, 1, none⟩ = some (.int .i64 y) ∧ w'.cell? ⟨L, 2, none⟩ = some (.int .i64 z)))
    (first | (with_reducible exact E.all) | exact E.all)
    ((first
      | (go_at_call 39; with_reducible refine (C1.out _).mono ?_; rintro e w8 ⟨rfl, hB8⟩; (with_reducible first | replace E := E.below hB8.out | replace E := E.drew.below hB8.out); clear hB8)
      | (go_at_call 39; with_reducible refine (C2.out _).mono ?_; rintro e w8 ⟨rfl, hB8⟩; (with_reducible first | replace E := E.below hB8.out | replace E := E.drew.below hB8.out); clear hB8)
      | (go_at_call 44; with_reducible refine (C3.out _).mono ?_; rintro e w8 ⟨rfl, hB8⟩; (with_reducible first | replace E := E.below hB8.out | replace E := E.drew.below hB8.out); clear hB8)
      | (go_at_call 43; with_reducible refine (C4.out _).mono ?_; rintro e w8 ⟨rfl, hB8⟩; (with_reducible first | replace E := E.below hB8.out | replace E := E.drew.below hB8.out); clear hB8)))
  all_goals
    go_wp2
    go_ret
    first | exact ⟨rfl, E.gr⟩ | exact ⟨rfl, E.gr.drew⟩
set_option maxRecDepth 4000 in
set_option maxHeartbeats 4000000 in
theorem search_any (P : Nat → Bool) (B F L : Nat) (k0 k1 k2 : List Value) (w : World) (hE : LK w w B F L k0 k1 k2) (hP : ∀ v : Nat, v < 255 → ∀ W, LK w W B F L k0 k1 k2 → Calls Tryd.prog 42 #[.int .i64 (v : Int), .pointer (some ⟨B, 0, none⟩), .pointer (some ⟨F, 0, none⟩), .pointer (some ⟨L, 0, none⟩)] W fun e w' => e = .returned (.bool (P v)) ∧ Gr W w') : Calls Tryd.prog 41 #[.int .i64 255, .func (.func 42) #[] #[.pointer (some ⟨B, 0, none⟩), .pointer (some ⟨F, 0, none⟩), .pointer (some ⟨L, 0, none⟩)]] w fun e w' => ∃ v : Nat, e = .returned (.int .i64 (v : Int)) ∧ v ≤ 255 ∧ (v = 0 ∨ P (v - 1) = false) ∧ (v = 255 ∨ P v = true) ∧ Gr w w' := by
  have HP := hidb hP
  have HE := hidb hE
  clear hP hE
  go_enter Tryd.func41, Tryd.ntmps41
  go_wp2
  go_loopw [5, 6] (fun a b wr => ∃ i j : Nat, a = .int .i64 (i : Int) ∧ b = .int .i64 (j : Int) ∧ i ≤ j ∧ j ≤ 255 ∧ Hid (i = 0 ∨ P (i - 1) = false) ∧ Hid (j = 255 ∨ P j = true) ∧ Hid (LK w wr B F L k0 k1 k2)) (fun a b _ => (intOf b - intOf a).toNat)
  case atStart => exact ⟨0, 255, rfl, rfl, by omega, by omega, .inl rfl, .inl rfl, HE⟩
  case round =>
    clear HE
    obtain ⟨i, j, rfl, rfl, hij, hj, HI, HJ, HE⟩ := hrel
    by_cases h : i < j
    · have h' : (i : Int) < (j : Int) := by omega
      obtain ⟨s, hs, e1⟩ : ∃ q : Int, q = (i : Int) + (j : Int) ∧ IntKind.i64.wrap ((i : Int) + (j : Int)) = q := ⟨_, rfl, wrap_in (by omega) (by omega)⟩
      have e2 : IntKind.u64.wrap s = s := by rw [IntKind.wrap_u64]; omega
      obtain ⟨q, hq⟩ : ∃ q : Nat, q = (i + j) / 2 := ⟨_, rfl⟩
      have e3 : s / 2 = (q : Int) := by omega
      have e4 : IntKind.u64.wrap (q : Int) = (q : Int) := by rw [IntKind.wrap_u64]; omega
      have e5 : IntKind.i64.wrap (q : Int) = (q : Int) := wrap_in (by omega) (by omega)
      have e6 : IntKind.i64.wrap ((q : Int) + 1) = ((q + 1 : Nat) : Int) := wrap_in (by omega) (by omega)
      have KP := hidb (HP.out q (by omega))
      have HQ := hidb (show i ≤ q ∧ q < j by omega)
      clear hs hq
      go_wp2_with fail
      refine (KP.out _ HE.out).mono ?_
      rintro e w1 ⟨rfl, hB⟩
      replace HE := hidb (HE.out.below hB.out)
      clear hB KP
      obtain ⟨t, ht⟩ : ∃ t, P q = t := ⟨_, rfl⟩
      have HT := hidb ht
      rw [ht]
      clear ht
      cases t
      · go_wp2
        go_roundw
        case rel => exact ⟨q + 1, j, rfl, rfl, by have := HQ.out; omega, hj, .inr HT.out, HJ, HE⟩
        case measure => have := HQ.out; simp [intOf]; omega
      · go_wp2
        go_roundw
        case rel => exact ⟨i, q, rfl, rfl, by have := HQ.out; omega, by have := HQ.out; omega, HI, .inr HT.out, HE⟩
        case measure => have := HQ.out; simp [intOf]; omega
    · have h' : ¬ (i : Int) < (j : Int) := by omega
      have HIJ := hidb (show i = j by omega)
      go_wp2
      go_ret
      exact ⟨i, rfl, by omega, HI.out, by rw [HIJ.out]; exact HJ.out, HE.out.gr⟩
end Go.Proofs.YthbobceghbknoaaDoor
