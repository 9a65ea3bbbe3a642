/-
  shape.thinner.joined.
-/
import Derived.Test.YtnadgoomkaldkaaDoorQTk
import Derived.Test.YtnadgoomkaldkaaDoorQTgL
import Derived.Test.YtnadgoomkaldkaaDoorQJ5
namespace Go.Proofs.YtnadgoomkaldkaaDoor
open Go.RowKit
attribute [local go_sem ↓] Go.wp_at_zero Go.wp_at_succ

/-- An arc of two points, the same piece as a given one. -/
def jnA (S : List Sp) (A : List (List Nat)) (p : Pc) (j : Nat) : Prop := (ax A j).length = 2 ∧ twP p (sx S (nn A j 0), sx S (nn A j 1))
instance (S : List Sp) (A : List (List Nat)) (p : Pc) (j : Nat) : Decidable (jnA S A p j) := by unfold jnA; exact inferInstance
theorem jn_iff {S : List Sp} {A : List (List Nat)} {p : Pc} : jnP (lsA S A) p ↔ ∃ j, j < A.length ∧ jnA S A p j := by
  unfold jnP jnA
  rw [ls_len]
  constructor
  · rintro ⟨j, hj, h1, h2⟩
    rw [lx_lsl hj] at h1
    rw [sx_ls hj (by omega), sx_ls hj (by omega)] at h2
    exact ⟨j, hj, h1, h2⟩
  · rintro ⟨j, hj, h1, h2⟩
    refine ⟨j, hj, by rw [lx_lsl hj]; exact h1, ?_⟩
    rw [sx_ls hj (by omega), sx_ls hj (by omega)]
    exact h2
noncomputable def jnB (S : List Sp) (A : List (List Nat)) (p : Pc) : Bool := @decide (jnP (lsA S A) p) (Classical.propDecidable _)
theorem jnB_t {S : List Sp} {A : List (List Nat)} {p : Pc} (h : jnP (lsA S A) p) : jnB S A p = true := by unfold jnB; exact @decide_eq_true _ (Classical.propDecidable _) h
theorem jnB_f {S : List Sp} {A : List (List Nat)} {p : Pc} (h : ¬ jnP (lsA S A) p) : jnB S A p = false := by unfold jnB; exact @decide_eq_false _ (Classical.propDecidable _) h
section
variable {w W : World} {T SP cS GO CL AR cA : Nat} {B cp : Nat → Nat} {most : Int} {S : List Sp} {A : List (List Nat)} {G : List Bool} {C : List Nat}
set_option maxRecDepth 4000 in
set_option maxHeartbeats 8000000 in
theorem jclos_any (h : TH w W T SP cS GO CL AR cA B cp most S A G C) (hN : NI S A G C) (_hS : ∀ y, y < S.length → okS (sx S y)) {p : Pc} {PB TB j : Nat} (_hp : okP p) (hj : j < A.length) (hP : At W PB [.int .i64 p.1.1, .int .i64 p.1.2, .int .i64 p.2.1, .int .i64 p.2.2]) (hT : At W TB [.pointer (some ⟨T, 0, none⟩)]) : Calls Tryd.prog 81 #[.slice (some ⟨B j, 0, none⟩) (ax A j).length (cp j), .pointer (some ⟨PB, 0, none⟩), .pointer (some ⟨TB, 0, none⟩)] W fun e w' => e = .returned (.bool (decide (jnA S A p j))) ∧ Gr W w' := by
  generalize hr : decide (jnA S A p j) = res
  by_cases h2 : (ax A j).length = 2
  · have y0 := hN.lt j hj 0 (by omega)
    have y1 := hN.lt j hj 1 (by omega)
    have HTw := hidb (fun W => twin_any p (sx S (nn A j 0), sx S (nn A j 1)) W)
    have hres : decide (twP p (sx S (nn A j 0), sx S (nn A j 1))) = res := by rw [← hr]; simp [jnA, h2]
    rw [hres] at HTw
    have HC : Hid (∀ W', Gr W W' → ((W'.cell? ⟨PB, 0, none⟩ = some (.int .i64 p.1.1) ∧ W'.cell? ⟨PB, 1, none⟩ = some (.int .i64 p.1.2) ∧ W'.cell? ⟨PB, 2, none⟩ = some (.int .i64 p.2.1) ∧ W'.cell? ⟨PB, 3, none⟩ = some (.int .i64 p.2.2)) ∧ W'.cell? ⟨TB, 0, none⟩ = some (.pointer (some ⟨T, 0, none⟩)) ∧ W'.cell? ⟨T, 1, none⟩ = some (.slice (some ⟨SP, 0, none⟩) S.length cS) ∧ (W'.cell? ⟨B j, 0, none⟩ = some (.int .i64 ((nn A j 0 : Nat) : Int)) ∧ W'.cell? ⟨B j, 1, none⟩ = some (.int .i64 ((nn A j 1 : Nat) : Int))) ∧ (W'.cell? ⟨SP, nn A j 0 * 2, none⟩ = some (.int .i64 (sx S (nn A j 0)).1) ∧ W'.cell? ⟨SP, nn A j 0 * 2 + 1, none⟩ = some (.int .i64 (sx S (nn A j 0)).2)) ∧ (W'.cell? ⟨SP, nn A j 1 * 2, none⟩ = some (.int .i64 (sx S (nn A j 1)).1) ∧ W'.cell? ⟨SP, nn A j 1 * 2 + 1, none⟩ = some (.int .i64 (sx S (nn A j 1)).2)))) := fun W' hG => by
      have h' := h.below hG.out
      exact ⟨(At.below hG.out hP).c4, (At.below hG.out hT).c1, (at5 h'.t).2.1, ⟨(h'.num hj (by omega)).1, (h'.num hj (by omega)).1⟩, h'.pt y0, h'.pt y1⟩
    have i0 := fun w => iindex0 (B j) 2 (cp j) 0 (by decide) w
    have i1 := fun w => iindex0 (B j) 2 (cp j) 1 (by decide) w
    have s0 := fun w => sindex0 SP S.length cS _ y0 w
    have s1 := fun w => sindex0 SP S.length cS _ y1 w
    push_cast at i0 i1
    rw [h2]
    have GG := hidb (Gr.refl W)
    generalize nn A j 0 = x0 at *
    generalize nn A j 1 = x1 at *
    generalize sx S x0 = P0 at *
    generalize sx S x1 = P1 at *
    generalize x0 * 2 = u0 at *
    generalize x1 * 2 = u1 at *
    generalize S.length = n at *
    generalize B j = Bj at *
    generalize cp j = cj at *
    clear hr hres h hN _hS _hp hj hP hT h2 y0 y1
    go_enter Tryd.func81, Tryd.ntmps81
    go_upto_region 1 with fail
    refine wp_region_held_drew (S := (fun w' => (w'.cell? ⟨PB, 0, none⟩ = some (.int .i64 p.1.1) ∧ w'.cell? ⟨PB, 1, none⟩ = some (.int .i64 p.1.2) ∧ w'.cell? ⟨PB, 2, none⟩ = some (.int .i64 p.2.1) ∧ w'.cell? ⟨PB, 3, none⟩ = some (.int .i64 p.2.2)) ∧ w'.cell? ⟨TB, 0, none⟩ = some (.pointer (some ⟨T, 0, none⟩)) ∧ w'.cell? ⟨T, 1, none⟩ = some (.slice (some ⟨SP, 0, none⟩) n cS) ∧ (w'.cell? ⟨Bj, 0, none⟩ = some (.int .i64 (x0 : Int)) ∧ w'.cell? ⟨Bj, 1, none⟩ = some (.int .i64 (x1 : Int))) ∧ (w'.cell? ⟨SP, u0, none⟩ = some (.int .i64 P0.1) ∧ w'.cell? ⟨SP, u0 + 1, none⟩ = some (.int .i64 P0.2)) ∧ (w'.cell? ⟨SP, u1, none⟩ = some (.int .i64 P1.1) ∧ w'.cell? ⟨SP, u1 + 1, none⟩ = some (.int .i64 P1.2)))) (by kernel_rfl) ?_ (fun hHeld => ?_)
    · (try dsimp only); exact HC.out _ GG.out.drew
    replace GG := hidb GG.out.drew
    generalize W.drew = V0 at *
    refine wt (i := 0) (v := ?vj1q0x4) rfl ?hj1q0x4 ?rj1q0x4
    case hj1q0x4 => (intro w hSw; (try dsimp only at hSw); obtain ⟨⟨z0, z1, z2, z3⟩, z4, z5, ⟨z6, z7⟩, ⟨z8, z9⟩, z10, z11⟩ := hSw; go_simp; try with_reducible rfl)
    (try simp only [Act.put, lq1, lq2, lq4, lq5, lq6])
    refine wt (i := 1) (v := ?vj1q1x7) rfl ?hj1q1x7 ?rj1q1x7
    case hj1q1x7 => (intro w hSw; (try dsimp only at hSw); obtain ⟨⟨z0, z1, z2, z3⟩, z4, z5, ⟨z6, z7⟩, ⟨z8, z9⟩, z10, z11⟩ := hSw; go_simp; try with_reducible rfl)
    (try simp only [Act.put, lq1, lq2, lq3, lq4, lq5, lq6])
    refine wt (i := 2) (v := ?vj1q2x10) rfl ?hj1q2x10 ?rj1q2x10
    case hj1q2x10 => (intro w hSw; (try dsimp only at hSw); obtain ⟨⟨z0, z1, z2, z3⟩, z4, z5, ⟨z6, z7⟩, ⟨z8, z9⟩, z10, z11⟩ := hSw; go_simp; try with_reducible rfl)
    (try simp only [Act.put, lq1, lq2, lq3, lq4, lq5, lq6])
    refine wt (i := 3) (v := ?vj1q3x13) rfl ?hj1q3x13 ?rj1q3x13
    case hj1q3x13 => (intro w hSw; (try dsimp only at hSw); obtain ⟨⟨z0, z1, z2, z3⟩, z4, z5, ⟨z6, z7⟩, ⟨z8, z9⟩, z10, z11⟩ := hSw; go_simp; try with_reducible rfl)
    (try simp only [Act.put, lq1, lq2, lq3, lq4, lq5, lq6])
    refine wt (i := 4) (v := ?vj1q4x16) rfl ?hj1q4x16 ?rj1q4x16
    case hj1q4x16 => (intro w hSw; (try dsimp only at hSw); obtain ⟨⟨z0, z1, z2, z3⟩, z4, z5, ⟨z6, z7⟩, ⟨z8, z9⟩, z10, z11⟩ := hSw; go_simp; try with_reducible rfl)
    (try simp only [Act.put, lq1, lq2, lq3, lq4, lq5, lq6])
    refine wt (i := 5) (v := ?vj1q5x19) rfl ?hj1q5x19 ?rj1q5x19
    case hj1q5x19 => (intro w hSw; (try dsimp only at hSw); obtain ⟨⟨z0, z1, z2, z3⟩, z4, z5, ⟨z6, z7⟩, ⟨z8, z9⟩, z10, z11⟩ := hSw; go_simp; try with_reducible rfl)
    (try simp only [Act.put, lq1, lq2, lq3, lq4, lq5, lq6])
    refine wt (i := 6) (v := ?vj1q6x22) rfl ?hj1q6x22 ?rj1q6x22
    case hj1q6x22 => (intro w hSw; (try dsimp only at hSw); obtain ⟨⟨z0, z1, z2, z3⟩, z4, z5, ⟨z6, z7⟩, ⟨z8, z9⟩, z10, z11⟩ := hSw; go_simp; try with_reducible rfl)
    (try simp only [Act.put, lq1, lq2, lq3, lq4, lq5, lq6])
    refine wt (i := 7) (v := ?vj1q7x25) rfl ?hj1q7x25 ?rj1q7x25
    case hj1q7x25 => (intro w hSw; (try dsimp only at hSw); obtain ⟨⟨z0, z1, z2, z3⟩, z4, z5, ⟨z6, z7⟩, ⟨z8, z9⟩, z10, z11⟩ := hSw; go_simp; try with_reducible rfl)
    (try simp only [Act.put, lq1, lq2, lq3, lq4, lq5, lq6])
    refine wt (i := 8) (v := ?vj1q8x28) rfl ?hj1q8x28 ?rj1q8x28
    case hj1q8x28 => (intro w hSw; (try dsimp only at hSw); obtain ⟨⟨z0, z1, z2, z3⟩, z4, z5, ⟨z6, z7⟩, ⟨z8, z9⟩, z10, z11⟩ := hSw; go_simp; try with_reducible rfl)
    (try simp only [Act.put, lq1, lq2, lq3, lq4, lq5, lq6])
    refine wt (i := 9) (v := ?vj1q9x31) rfl ?hj1q9x31 ?rj1q9x31
    case hj1q9x31 => (intro w hSw; (try dsimp only at hSw); obtain ⟨⟨z0, z1, z2, z3⟩, z4, z5, ⟨z6, z7⟩, ⟨z8, z9⟩, z10, z11⟩ := hSw; go_simp; try with_reducible rfl)
    (try simp only [Act.put, lq1, lq2, lq3, lq4, lq5, lq6])
    refine wt (i := 10) (v := ?vj1q10x34) rfl ?hj1q10x34 ?rj1q10x34
    case hj1q10x34 => (intro w hSw; (try dsimp only at hSw); obtain ⟨⟨z0, z1, z2, z3⟩, z4, z5, ⟨z6, z7⟩, ⟨z8, z9⟩, z10, z11⟩ := hSw; go_simp; try with_reducible rfl)
    (try simp only [Act.put, lq1, lq2, lq3, lq4, lq5, lq6])
    refine wt (i := 11) (v := ?vj1q11x37) rfl ?hj1q11x37 ?rj1q11x37
    case hj1q11x37 => (intro w hSw; (try dsimp only at hSw); obtain ⟨⟨z0, z1, z2, z3⟩, z4, z5, ⟨z6, z7⟩, ⟨z8, z9⟩, z10, z11⟩ := hSw; go_simp; try with_reducible rfl)
    (try simp only [Act.put, lq1, lq2, lq3, lq4, lq5, lq6])
    refine wt (i := 12) (v := ?vj1q12x40) rfl ?hj1q12x40 ?rj1q12x40
    case hj1q12x40 => (intro w hSw; (try dsimp only at hSw); obtain ⟨⟨z0, z1, z2, z3⟩, z4, z5, ⟨z6, z7⟩, ⟨z8, z9⟩, z10, z11⟩ := hSw; go_simp; try with_reducible rfl)
    (try simp only [Act.put, lq1, lq2, lq3, lq4, lq5, lq6])
    refine wt (i := 13) (v := ?vj1q13x43) rfl ?hj1q13x43 ?rj1q13x43
    case hj1q13x43 => (intro w hSw; (try dsimp only at hSw); obtain ⟨⟨z0, z1, z2, z3⟩, z4, z5, ⟨z6, z7⟩, ⟨z8, z9⟩, z10, z11⟩ := hSw; go_simp; try with_reducible rfl)
    (try simp only [Act.put, lq1, lq2, lq3, lq4, lq5, lq6])
    refine wt (i := 14) (v := ?vj1q14x46) rfl ?hj1q14x46 ?rj1q14x46
    case hj1q14x46 => (intro w hSw; (try dsimp only at hSw); obtain ⟨⟨z0, z1, z2, z3⟩, z4, z5, ⟨z6, z7⟩, ⟨z8, z9⟩, z10, z11⟩ := hSw; go_simp; try with_reducible rfl)
    (try simp only [Act.put, lq1, lq2, lq3, lq4, lq5, lq6])
    refine wt (i := 15) (v := ?vj1q15x49) rfl ?hj1q15x49 ?rj1q15x49
    case hj1q15x49 => (intro w hSw; (try dsimp only at hSw); obtain ⟨⟨z0, z1, z2, z3⟩, z4, z5, ⟨z6, z7⟩, ⟨z8, z9⟩, z10, z11⟩ := hSw; go_simp; try with_reducible rfl)
    (try simp only [Act.put, lq1, lq2, lq3, lq4, lq5, lq6])
    refine wt (i := 16) (v := ?vj1q16x52) rfl ?hj1q16x52 ?rj1q16x52
    case hj1q16x52 => (intro w hSw; (try dsimp only at hSw); obtain ⟨⟨z0, z1, z2, z3⟩, z4, z5, ⟨z6, z7⟩, ⟨z8, z9⟩, z10, z11⟩ := hSw; go_simp; try with_reducible rfl)
    (try simp only [Act.put, lq1, lq2, lq3, lq4, lq5, lq6])
    refine wt (i := 17) (v := ?vj1q17x55) rfl ?hj1q17x55 ?rj1q17x55
    case hj1q17x55 => (intro w hSw; (try dsimp only at hSw); obtain ⟨⟨z0, z1, z2, z3⟩, z4, z5, ⟨z6, z7⟩, ⟨z8, z9⟩, z10, z11⟩ := hSw; go_simp; try with_reducible rfl)
    (try simp only [Act.put, lq1, lq2, lq3, lq4, lq5, lq6])
    refine wt (i := 18) (v := ?vj1q18x58) rfl ?hj1q18x58 ?rj1q18x58
    case hj1q18x58 => (intro w hSw; (try dsimp only at hSw); obtain ⟨⟨z0, z1, z2, z3⟩, z4, z5, ⟨z6, z7⟩, ⟨z8, z9⟩, z10, z11⟩ := hSw; go_simp; try with_reducible rfl)
    (try simp only [Act.put, lq1, lq2, lq3, lq4, lq5, lq6])
    refine wt (i := 19) (v := ?vj1q19x61) rfl ?hj1q19x61 ?rj1q19x61
    case hj1q19x61 => (intro w hSw; (try dsimp only at hSw); obtain ⟨⟨z0, z1, z2, z3⟩, z4, z5, ⟨z6, z7⟩, ⟨z8, z9⟩, z10, z11⟩ := hSw; go_simp; try with_reducible rfl)
    (try simp only [Act.put, lq1, lq2, lq3, lq4, lq5, lq6])
    refine wt (i := 20) (v := ?vj1q20x64) rfl ?hj1q20x64 ?rj1q20x64
    case hj1q20x64 => (intro w hSw; (try dsimp only at hSw); obtain ⟨⟨z0, z1, z2, z3⟩, z4, z5, ⟨z6, z7⟩, ⟨z8, z9⟩, z10, z11⟩ := hSw; go_simp; try with_reducible rfl)
    (try simp only [Act.put, lq1, lq2, lq3, lq4, lq5, lq6])
    refine wt (i := 21) (v := ?vj1q21x67) rfl ?hj1q21x67 ?rj1q21x67
    case hj1q21x67 => (intro w hSw; (try dsimp only at hSw); obtain ⟨⟨z0, z1, z2, z3⟩, z4, z5, ⟨z6, z7⟩, ⟨z8, z9⟩, z10, z11⟩ := hSw; go_simp; try with_reducible rfl)
    (try simp only [Act.put, lq1, lq2, lq3, lq4, lq5, lq6])
    refine wt (i := 22) (v := ?vj1q22x70) rfl ?hj1q22x70 ?rj1q22x70
    case hj1q22x70 => (intro w hSw; (try dsimp only at hSw); obtain ⟨⟨z0, z1, z2, z3⟩, z4, z5, ⟨z6, z7⟩, ⟨z8, z9⟩, z10, z11⟩ := hSw; go_simp; try with_reducible rfl)
    (try simp only [Act.put, lq1, lq2, lq3, lq4, lq5, lq6])
    refine wt (i := 23) (v := ?vj1q23x73) rfl ?hj1q23x73 ?rj1q23x73
    case hj1q23x73 => (intro w hSw; (try dsimp only at hSw); obtain ⟨⟨z0, z1, z2, z3⟩, z4, z5, ⟨z6, z7⟩, ⟨z8, z9⟩, z10, z11⟩ := hSw; go_simp; try with_reducible rfl)
    (try simp only [Act.put, lq1, lq2, lq3, lq4, lq5, lq6])
    refine wpAnyH_ready (rs := [24]) (by kernel_rfl) (by simp) ?_
    refine AllReadyH.cons rfl (fun K hK => ?_) AllReadyH.nil
    go_simp
    go_wp2_with (go_at_call 65; refine (HTw.out _).mono ?_; rintro e V1 ⟨rfl, hB⟩)
    refine hK.out _ _ ?_ (fun hHeld => ?_)
    · (try dsimp only); exact HC.out _ (Gr.step GG.out hB.out)
    clear hK K
    replace GG := hidb (Gr.step GG.out hB.out)
    clear hB
    refine wt (i := 25) (v := ?vj1q25x85) rfl ?hj1q25x85 ?rj1q25x85
    case hj1q25x85 => (intro w hSw; (try dsimp only at hSw); obtain ⟨⟨z0, z1, z2, z3⟩, z4, z5, ⟨z6, z7⟩, ⟨z8, z9⟩, z10, z11⟩ := hSw; go_simp; try with_reducible rfl)
    (try simp only [Act.put, lq1, lq2, lq3, lq4, lq5, lq6])
    refine wt (i := 26) (v := ?vj1q26x88) rfl ?hj1q26x88 ?rj1q26x88
    case hj1q26x88 => (intro w hSw; (try dsimp only at hSw); obtain ⟨⟨z0, z1, z2, z3⟩, z4, z5, ⟨z6, z7⟩, ⟨z8, z9⟩, z10, z11⟩ := hSw; go_simp; try with_reducible rfl)
    (try simp only [Act.put, lq1, lq2, lq3, lq4, lq5, lq6])
    refine wpAnyH_done (by kernel_rfl) ?_ _
    go_wp2
    go_ret
    exact ⟨rfl, GG.out⟩
  · have hres : res = false := by rw [← hr]; exact decide_eq_false (fun z => h2 z.1)
    subst hres
    have q : (((ax A j).length : Int) == 2) = false := by simp; omega
    have GG := hidb (Gr.refl W)
    generalize (ax A j).length = L at *
    clear hr h hN _hS _hp hj hP hT h2
    go_enter Tryd.func81, Tryd.ntmps81
    go_upto_region 1 with fail
    refine wp_region_held_drew (S := (fun _ => True)) (by kernel_rfl) ?_ (fun hHeld => ?_)
    · (try dsimp only); (try exact trivial)
    replace GG := hidb GG.out.drew
    refine wt (i := 0) (v := ?vj2q0x3) rfl ?hj2q0x3 ?rj2q0x3
    case hj2q0x3 => (intro w hSw; (try dsimp only at hSw); go_simp; try with_reducible rfl)
    (try simp only [Act.put, lq1, lq2, lq4, lq5, lq6])
    refine wt (i := 1) (v := ?vj2q1x6) rfl ?hj2q1x6 ?rj2q1x6
    case hj2q1x6 => (intro w hSw; (try dsimp only at hSw); go_simp; try with_reducible rfl)
    (try simp only [Act.put, lq1, lq2, lq3, lq4, lq5, lq6])
    refine wt (i := 2) (v := ?vj2q2x9) rfl ?hj2q2x9 ?rj2q2x9
    case hj2q2x9 => (intro w hSw; (try dsimp only at hSw); go_simp; try with_reducible rfl)
    (try simp only [Act.put, lq1, lq2, lq3, lq4, lq5, lq6])
    refine wt (i := 3) (v := ?vj2q3x12) rfl ?hj2q3x12 ?rj2q3x12
    case hj2q3x12 => (intro w hSw; (try dsimp only at hSw); go_simp; try with_reducible rfl)
    (try simp only [Act.put, lq1, lq2, lq3, lq4, lq5, lq6])
    refine wu (i := 4) rfl ?_
    (try simp only [Act.put, lq1, lq2, lq3, lq4, lq5, lq6])
    refine wu (i := 5) rfl ?_
    (try simp only [Act.put, lq1, lq2, lq3, lq4, lq5, lq6])
    refine wu (i := 6) rfl ?_
    (try simp only [Act.put, lq1, lq2, lq3, lq4, lq5, lq6])
    refine wu (i := 7) rfl ?_
    (try simp only [Act.put, lq1, lq2, lq3, lq4, lq5, lq6])
    refine wu (i := 8) rfl ?_
    (try simp only [Act.put, lq1, lq2, lq3, lq4, lq5, lq6])
    refine wu (i := 9) rfl ?_
    (try simp only [Act.put, lq1, lq2, lq3, lq4, lq5, lq6])
    refine wu (i := 10) rfl ?_
    (try simp only [Act.put, lq1, lq2, lq3, lq4, lq5, lq6])
    refine wu (i := 11) rfl ?_
    (try simp only [Act.put, lq1, lq2, lq3, lq4, lq5, lq6])
    refine wu (i := 12) rfl ?_
    (try simp only [Act.put, lq1, lq2, lq3, lq4, lq5, lq6])
    refine wu (i := 13) rfl ?_
    (try simp only [Act.put, lq1, lq2, lq3, lq4, lq5, lq6])
    refine wu (i := 14) rfl ?_
    (try simp only [Act.put, lq1, lq2, lq3, lq4, lq5, lq6])
    refine wu (i := 15) rfl ?_
    (try simp only [Act.put, lq1, lq2, lq3, lq4, lq5, lq6])
    refine wu (i := 16) rfl ?_
    (try simp only [Act.put, lq1, lq2, lq3, lq4, lq5, lq6])
    refine wu (i := 17) rfl ?_
    (try simp only [Act.put, lq1, lq2, lq3, lq4, lq5, lq6])
    refine wu (i := 18) rfl ?_
    (try simp only [Act.put, lq1, lq2, lq3, lq4, lq5, lq6])
    refine wu (i := 19) rfl ?_
    (try simp only [Act.put, lq1, lq2, lq3, lq4, lq5, lq6])
    refine wu (i := 20) rfl ?_
    (try simp only [Act.put, lq1, lq2, lq3, lq4, lq5, lq6])
    refine wu (i := 21) rfl ?_
    (try simp only [Act.put, lq1, lq2, lq3, lq4, lq5, lq6])
    refine wu (i := 22) rfl ?_
    (try simp only [Act.put, lq1, lq2, lq3, lq4, lq5, lq6])
    refine wu (i := 23) rfl ?_
    (try simp only [Act.put, lq1, lq2, lq3, lq4, lq5, lq6])
    refine wu (i := 24) rfl ?_
    (try simp only [Act.put, lq1, lq2, lq3, lq4, lq5, lq6])
    refine wt (i := 25) (v := ?vj2q25x57) rfl ?hj2q25x57 ?rj2q25x57
    case hj2q25x57 => (intro w hSw; (try dsimp only at hSw); go_simp; try with_reducible rfl)
    (try simp only [Act.put, lq1, lq2, lq3, lq4, lq5, lq6])
    refine wt (i := 26) (v := ?vj2q26x60) rfl ?hj2q26x60 ?rj2q26x60
    case hj2q26x60 => (intro w hSw; (try dsimp only at hSw); go_simp; try with_reducible rfl)
    (try simp only [Act.put, lq1, lq2, lq3, lq4, lq5, lq6])
    refine wpAnyH_done (by kernel_rfl) ?_ _
    go_wp2
    go_ret
    exact ⟨rfl, GG.out⟩
set_option maxRecDepth 4000 in
set_option maxHeartbeats 8000000 in
theorem jindex_any (h : TH w W T SP cS GO CL AR cA B cp most S A G C) (hN : NI S A G C) (hS : ∀ y, y < S.length → okS (sx S y)) (hAl : A.length ≤ 5000) {p : Pc} {PB TB : Nat} (hp : okP p) (hP : At W PB [.int .i64 p.1.1, .int .i64 p.1.2, .int .i64 p.2.1, .int .i64 p.2.2]) (hT : At W TB [.pointer (some ⟨T, 0, none⟩)]) : Calls Tryd.prog 82 #[.slice (some ⟨AR, 0, none⟩) A.length cA, .func (.func 81) #[] #[.pointer (some ⟨PB, 0, none⟩), .pointer (some ⟨TB, 0, none⟩)]] W fun e w' => ∃ z, e = .returned (.int .i64 z) ∧ decide (0 ≤ z) = jnB S A p ∧ Gr W w' := by
  have HC := hidb (fun j (hj : j < A.length) W' (hG : Gr W W') => ((h.below hG.out).arc hj).1)
  have HK := hidb (fun j (hj : j < A.length) W' (hG : Gr W W') => jclos_any (h.below hG.out) hN hS hp hj (At.below hG.out hP) (At.below hG.out hT))
  have HI := hidb (fun j (hj : j < A.length) w => tindex AR A.length cA j hj w)
  have HJ := hidb (jn_iff (S := S) (A := A) (p := p))
  have HB : Hid ((jnP (lsA S A) p → jnB S A p = true) ∧ (¬ jnP (lsA S A) p → jnB S A p = false)) := ⟨jnB_t, jnB_f⟩
  obtain ⟨K, hK⟩ : ∃ K, K = A.length := ⟨_, rfl⟩
  rw [← hK] at HC HK HI HJ hAl ⊢
  have HAl := hidb hAl
  clear h hN hS hp hP hT hK hAl
  go_enter Tryd.func82, Tryd.ntmps82
  go_wp2
  go_loopw [8] (fun t wr => ∃ (k : Nat), k ≤ K ∧ t = .int .i64 k ∧ Hid (Gr W wr ∧ ∀ j, j < k → ¬ jnA S A p j)) (fun t _ => K - (intOf t).toNat)
  case atStart => exact ⟨0, by omega, rfl, hidb ⟨Gr.refl _, fun j hj => by omega⟩⟩
  case round =>
    obtain ⟨k, hk, rfl, E⟩ := hrel
    by_cases h1 : ¬ k < K
    · have h1' : ¬ (k : Int) < (K : Int) := by omega
      have HM : Hid (¬ jnP (lsA S A) p) := fun hm => by
        obtain ⟨j, hj, e⟩ := HJ.out.1 hm
        exact E.out.2 j (by omega) e
      have HG := hidb E.out.1
      clear h1 E
      go_wp2
      go_ret
      exact ⟨_, rfl, by rw [HB.out.2 HM.out]; first | done | rfl, HG.out⟩
    · have h1' : (k : Int) < (K : Int) := by omega
      have H1 := hidb (show k < K by omega)
      have e5 : IntKind.i64.wrap ((k : Int) + 1) = ((k + 1 : Nat) : Int) := by rw [show (k : Int) + 1 = ((k + 1 : Nat) : Int) by omega]; exact wr_in (by omega) (by have := HAl.out; omega)
      have ix := HI.out k H1.out
      rw [Nat.zero_add] at ix
      have cx := HC.out k H1.out wr E.out.1
      have HCl := hidb (HK.out k H1.out wr E.out.1)
      have HE := hidb E.out
      generalize (ax A k).length = L at *
      by_cases hh : jnA S A p k
      · rw [decide_eq_true hh] at HCl
        have HM := hidb (HB.out.1 (HJ.out.2 ⟨k, H1.out, hh⟩))
        clear hh h1 E
        go_wp2_with fail
        refine HCl.out.mono ?_
        rintro e w1 ⟨rfl, hB⟩
        have G2 := hidb (Gr.step HE.out.1 hB.out)
        clear hB cx
        go_wp2
        go_ret
        exact ⟨_, rfl, by rw [HM.out]; simp, G2.out⟩
      · rw [decide_eq_false hh] at HCl
        have HT2 : Hid (∀ j, j < k + 1 → ¬ jnA S A p j) := fun j hj => by
          by_cases e : j = k
          · rw [e]; exact hh
          · exact HE.out.2 j (by omega)
        clear hh h1 E
        go_wp2_with fail
        refine HCl.out.mono ?_
        rintro e w1 ⟨rfl, hB⟩
        have G2 := hidb (Gr.step HE.out.1 hB.out)
        clear hB cx
        go_wp2
        go_roundw
        case rel => exact ⟨k + 1, H1.out, by go_num, hidb ⟨G2.out, HT2.out⟩⟩
        case measure => have := H1.out; simp [intOf]; omega
theorem jcontains_any (h : TH w W T SP cS GO CL AR cA B cp most S A G C) (hN : NI S A G C) (hS : ∀ y, y < S.length → okS (sx S y)) (hAl : A.length ≤ 5000) {p : Pc} {PB TB : Nat} (hp : okP p) (hP : At W PB [.int .i64 p.1.1, .int .i64 p.1.2, .int .i64 p.2.1, .int .i64 p.2.2]) (hT : At W TB [.pointer (some ⟨T, 0, none⟩)]) : Calls Tryd.prog 80 #[.slice (some ⟨AR, 0, none⟩) A.length cA, .func (.func 81) #[] #[.pointer (some ⟨PB, 0, none⟩), .pointer (some ⟨TB, 0, none⟩)]] W fun e w' => e = .returned (.bool (jnB S A p)) ∧ Gr W w' := by
  have Cc := hidb (jindex_any h hN hS hAl hp hP hT)
  generalize jnB S A p = bb at *
  generalize A.length = N at *
  clear h hN hS hAl hp hP hT
  go_enter Tryd.func80, Tryd.ntmps80
  go_wp2_with fail
  refine Cc.out.mono ?_
  rintro e w1 ⟨z, rfl, hz, hB⟩
  have G := hidb (show decide (0 ≤ z) = bb ∧ Gr W w1 from ⟨hz, hB⟩)
  clear hz hB
  go_wp2
  go_ret
  exact ⟨by have h := G.out.1; subst h; rfl, G.out.2⟩
set_option maxRecDepth 4000 in
theorem joined_any (h : TH w W T SP cS GO CL AR cA B cp most S A G C) (hN : NI S A G C) (hS : ∀ y, y < S.length → okS (sx S y)) (hAl : A.length ≤ 5000) {p : Pc} (hp : okP p) : Calls Tryd.prog 72 #[.pointer (some ⟨T, 0, none⟩), pv p] W fun e w' => e = .returned (.bool (jnB S A p)) ∧ Gr W w' := by
  have E : Hid (Gr W ((W.alloc (.cells #[.pointer (some ⟨T, 0, none⟩)] 68)).alloc (.cells #[.int .i64 p.1.1, .int .i64 p.1.2, .int .i64 p.2.1, .int .i64 p.2.2] 84)) ∧ At ((W.alloc (.cells #[.pointer (some ⟨T, 0, none⟩)] 68)).alloc (.cells #[.int .i64 p.1.1, .int .i64 p.1.2, .int .i64 p.2.1, .int .i64 p.2.2] 84)) W.heap.size [.pointer (some ⟨T, 0, none⟩)] ∧ At ((W.alloc (.cells #[.pointer (some ⟨T, 0, none⟩)] 68)).alloc (.cells #[.int .i64 p.1.1, .int .i64 p.1.2, .int .i64 p.2.1, .int .i64 p.2.2] 84)) (W.heap.size + 1) [.int .i64 p.1.1, .int .i64 p.1.2, .int .i64 p.2.1, .int .i64 p.2.2]) :=
    ⟨((Gr.refl W).alloc _).alloc _, (At.new1 _ _ _).alloc _, by have := At.new4 (W.alloc (.cells #[.pointer (some ⟨T, 0, none⟩)] 68)) (.int .i64 p.1.1) (.int .i64 p.1.2) (.int .i64 p.2.1) (.int .i64 p.2.2) 84; simpa using this⟩
  have HC := hidb (jcontains_any (h.below E.out.1.out) hN hS hAl hp E.out.2.2 E.out.2.1)
  have HTc := hidb (at5 (At.below E.out.1.out h.t))
  have HG := hidb E.out.1
  obtain ⟨-, -, -, -, t4⟩ := HTc.out
  have z0 := E.out.2.1.c1
  obtain ⟨⟨a, b⟩, c, d⟩ := p
  generalize jnB S A ((a, b), c, d) = bb at *
  generalize A.length = N at *
  clear h hN hS hAl hp HTc E
  go_enter Tryd.func72, Tryd.ntmps72
  go_wp2_with (go_at_call 80; refine HC.out.mono ?_; rintro e w1 ⟨rfl, hB⟩)
  have HG2 := hidb (Gr.step HG.out hB.out)
  clear hB
  go_ret
  exact ⟨rfl, HG2.out⟩
end
end Go.Proofs.YtnadgoomkaldkaaDoor
