/-
  wave: halves, times, unsigned, Sine, Cosine, hypotenuse, unroll; grain.Polynomial of chains; mercatorref2: horner, SineOf, plus, sinhBack.
-/
import Derived.Test.YtinopkmcddjgdaaGreatDoorQFtG
import Derived.Test.YtinopkmcddjgdaaGreatDoorQLnW
namespace Go.Proofs.YtinopkmcddjgdaaGreatDoor
open Go.RowKit FB
attribute [local go_sem] run_store_float

/-- The power of one number, by its word: the law's own trial asks for it. -/
def x45 : Nat := 4606113927061427239
def e45 : Nat := 4612618744449965542
theorem exp45_p : eP 4606113927061427239 = 4608115144822595046 ∧ eN 4606113927061427239 = 1 := by decide +kernel
set_option maxHeartbeats 1000000 in
theorem ldexp45' (w : World) : Calls Tryz.prog 101 #[.float .f64 4608115144822595046, .int .i64 1] w fun e w' => e = .returned (.float .f64 4612618744449965542) ∧ w' = w := by
  have hz : (FloatKind.f64.format.order 4608115144822595046 0 == some Ordering.eq) = false := by decide +kernel
  have HI := hid (fun w => isInf_any 4608115144822595046 (by decide) false (by decide +kernel) w)
  have HJ := hid (fun w => isNaN_any 4608115144822595046 false (by decide +kernel) w)
  have HN := hid (fun w => norm_big 4608115144822595046 (by decide) (by decide) w)
  have hb : ∀ w, (callFunc 97 #[.float .f64 4608115144822595046]).run Tryz.prog w = .ok (.value (.int .u64 4608115144822595046)) w := fun w => call_bits 4608115144822595046 w
  have hf : ∀ w, (callFunc 96 #[.int .u64 4612618744449965542]).run Tryz.prog w = .ok (.value (.float .f64 4612618744449965542)) w := fun w => call_from 4612618744449965542 w
  have m1 : bits .and .i64 1023 2047 = 1023 := by decide +kernel
  have m2 : bits .andNot .u64 4608115144822595046 9218868437227405312 = 932726022577638 := by decide +kernel
  have m3 : bits .or .u64 932726022577638 4611686018427387904 = 4612618744449965542 := by decide +kernel
  have hmm := fun w => hmul (show Ieee.double.mul 4607182418800017408 4612618744449965542 = some 4612618744449965542 by decide +kernel) w
  go_enter Tryz.func101, Tryz.ntmps101
  go_wp2_with fail
  refine (HI.out _).mono ?_
  rintro e w1 ⟨rfl, rfl⟩
  go_wp2_with fail
  refine (HJ.out _).mono ?_
  rintro e w2 ⟨rfl, rfl⟩
  go_wp2_with fail
  refine (HN.out _).mono ?_
  rintro e w3 ⟨rfl, rfl⟩
  go_wp2
  go_ret
  exact ⟨rfl, rfl⟩
theorem ldexp45 (w : World) : Calls Tryz.prog 71 #[.float .f64 (eP x45), .int .i64 (eN x45)] w fun e w' => e = .returned (.float .f64 e45) ∧ w' = w := by
  unfold x45 e45
  rw [exp45_p.1, exp45_p.2]
  go_enter Tryz.func71, Tryz.ntmps71
  go_wp2_with (go_at_call 101; refine (ldexp45' _).mono ?_; rintro e w' ⟨rfl, rfl⟩)
  go_ret
  exact ⟨rfl, rfl⟩
noncomputable def expW (x : Nat) : Option Nat := if x = x45 then some e45 else expO x
noncomputable def oXw (o : Option Nat) : Option Nat := o.bind expW
theorem expPw (o : Option Nat) (x : Nat) (h : GW o x) (w : World) : Calls Tryz.prog 81 #[.float .f64 x] w fun e w' => ∃ r, e = .returned (.float .f64 r) ∧ Got (oXw o) r ∧ Below w.heap.size w w' := by
  cases o with
  | none => exact expP none x h w
  | some q =>
    obtain ⟨h1, h2⟩ := h
    obtain rfl : x = q := h1
    by_cases hx : x = x45
    · subst hx
      refine (exp_mid x45 e45 (exp_ok x45 ⟨by decide, by decide⟩) ldexp45 (by decide +kernel) (by decide +kernel) (by decide +kernel) w).mono ?_
      rintro e w' ⟨rfl, hB⟩
      exact ⟨_, rfl, by show Got (expW x45) e45; unfold expW; rw [if_pos rfl]; rfl, hB⟩
    · refine (expP (some x) x ⟨rfl, h2⟩ w).mono ?_
      rintro e w' ⟨r, rfl, hr, hB⟩
      exact ⟨r, rfl, by show Got (expW x) r; unfold expW; rw [if_neg hx]; exact hr, hB⟩
theorem expRw (o : Option Nat) (x : Nat) (h : GW o x) (w : World) : Calls Tryz.prog 37 #[.float .f64 x] w fun e w' => ∃ r, e = .returned (.float .f64 r) ∧ Got (oXw o) r ∧ Below w.heap.size w w' := by
  cases o with
  | none => exact expR none x h w
  | some q =>
    obtain ⟨h1, h2⟩ := h
    obtain rfl : x = q := h1
    by_cases hx : x = x45
    · subst hx
      refine (expOf_mid x45 e45 (exp_ok x45 ⟨by decide, by decide⟩) ldexp45 (by decide +kernel) (by decide +kernel) (by decide +kernel) w).mono ?_
      rintro e w' ⟨rfl, rfl⟩
      exact ⟨_, rfl, by show Got (expW x45) e45; unfold expW; rw [if_pos rfl]; rfl, Below.refl _ _⟩
    · refine (expR (some x) x ⟨rfl, h2⟩ w).mono ?_
      rintro e w' ⟨r, rfl, hr, hB⟩
      exact ⟨r, rfl, by show Got (expW x) r; unfold expW; rw [if_neg hx]; exact hr, hB⟩
abbrev cV (x y : Nat) : Value := .complex .f64 x y
/-- Half of the sum, and of the difference, of a power and its opposite. -/
noncomputable def hO (o : Option Nat) : Option Nat := oD (oA (oXw o) (oD (some oneW) (oXw o))) (some twoW)
noncomputable def kO (o : Option Nat) : Option Nat := oD (oS (oXw o) (oD (some oneW) (oXw o))) (some twoW)
/-- Sums of complex numbers, under names. -/
theorem cadd : ∃ (cR cI : Nat → Nat → Nat → Nat → World → Nat) (cD : Nat → Nat → Nat → Nat → Nat),
    (∀ a b c d w, (binOp .add 72 (cV a b) (cV c d)).run Tryz.prog w = .ok (cV (cR a b c d w) (cI a b c d w)) (w.drewN (cD a b c d))) ∧
    (∀ o p o' p' a b c d w, Got o a → Got p b → Got o' c → Got p' d → GW (oA o o') (cR a b c d w) ∧ GW (oA p p') (cI a b c d w)) := by
  obtain ⟨mF, aF, sF, qF, mD, aD, sD, qD, hm, ha, hss, hq, gm, ga, gs, gq⟩ := ops
  refine ⟨fun a b c d w => aF a c w, fun a b c d w => aF b d (w.drewN (aD a c)), fun a b c d => aD a c + aD b d, ?_, fun o p o' p' a b c d w h1 h2 h3 h4 => ⟨ga _ _ _ _ _ h1 h3, ga _ _ _ _ _ h2 h4⟩⟩
  have hA : ∀ x y w, (Op.floatArith .add .f64 x y).run Tryz.prog w = .ok (.float .f64 (aF x y w)) (w.drewN (aD x y)) := by
    intro x y w
    have := ha x y w
    simpa [binOp] using this
  intro a b c d w
  simp [binOp, Op.complexOp, Op.Complex.arith, hA]
theorem halves_any (o : Option Nat) (v : Nat) (hv : GW o v) (w : World) : Calls Tryz.prog 50 #[.float .f64 v] w fun e w' => ∃ h k, e = .returned (.tuple #[.float .f64 h, .float .f64 k]) ∧ GW (hO o) h ∧ GW (kO o) k ∧ Gr w w' := by
  obtain ⟨mF, aF, sF, qF, mD, aD, sD, qD, hm, ha, hss, hq, gm, ga, gs, gq⟩ := ops
  go_enter Tryz.func50, Tryz.ntmps50
  go_wp2_with fail
  refine (expPw o v hv _).mono ?_
  rintro e w1 ⟨p, rfl, hp, hB⟩
  have HC : Gr w w1 := Gr.step (by ((with_reducible repeat' (first | assumption | refine Gr.drewN ?_ _ | refine Gr.drew ?_ | refine Gr.alloc ?_ _ | exact Gr.refl _)); done)) hB
  go_wp2
  go_ret2
  exact ⟨_, _, rfl, gq _ _ _ _ _ (ga _ _ _ _ _ hp (gq _ _ _ _ _ (gsm _) hp).1).1 (gsm _), gq _ _ _ _ _ (gs _ _ _ _ _ hp (gq _ _ _ _ _ (gsm _) hp).1).1 (gsm _), by ((with_reducible repeat' (first | assumption | refine Gr.drewN ?_ _ | refine Gr.drew ?_ | refine Gr.alloc ?_ _ | exact Gr.refl _)); done)⟩
theorem times_any (o p q : Option Nat) (x a b : Nat) (hx : Got o x) (ha' : Got p a) (hb' : Got q b) (w : World) : Calls Tryz.prog 62 #[.float .f64 x, cV a b] w fun e w' => ∃ r i, e = .returned (cV r i) ∧ GW (oM o p) r ∧ GW (oM o q) i ∧ Gr w w' := by
  obtain ⟨mF, aF, sF, qF, mD, aD, sD, qD, hm, ha, hss, hq, gm, ga, gs, gq⟩ := ops
  go_enter Tryz.func62, Tryz.ntmps62
  go_wp2
  go_ret
  exact ⟨_, _, rfl, gm _ _ _ _ _ hx ha', gm _ _ _ _ _ hx hb', by ((with_reducible repeat' (first | assumption | refine Gr.drewN ?_ _ | refine Gr.drew ?_ | refine Gr.alloc ?_ _ | exact Gr.refl _)); done)⟩
theorem unsigned_any (a b : Nat) (w : World) : Calls Tryz.prog 63 #[.float .f64 a, .float .f64 b] w fun e w' => e = .returned (cV (uz a) (uz b)) ∧ w' = w := by
  go_enter Tryz.func63, Tryz.ntmps63
  go_wp2_with (go_at_call 28; refine (uz_any _ _).mono ?_; rintro e w' ⟨rfl, rfl⟩)
  go_ret
  exact ⟨rfl, rfl⟩
noncomputable def snR (u : Int) (o : Option Nat) : Option Nat := uzO (oM (some (uz (sinV (nrm u)))) (hO o))
noncomputable def snI (u : Int) (o : Option Nat) : Option Nat := uzO (oM (some (uz (cosV (nrm u)))) (kO o))
noncomputable def csR (u : Int) (o : Option Nat) : Option Nat := uzO (oM (some (uz (cosV (nrm u)))) (hO o))
noncomputable def csI (u : Int) (o : Option Nat) : Option Nat := uzO (oN (oM (some (uz (sinV (nrm u)))) (kO o)))
theorem sine_any (u : Int) (o : Option Nat) (v : Nat) (hv : GW o v) (w : World) : Calls Tryz.prog 27 #[.int .i64 u, .float .f64 v] w fun e w' => ∃ r i, e = .returned (cV r i) ∧ GW (snR u o) r ∧ GW (snI u o) i ∧ Gr w w' := by
  obtain ⟨mF, aF, sF, qF, mD, aD, sD, qD, hm, ha, hss, hq, gm, ga, gs, gq⟩ := ops
  go_enter Tryz.func27, Tryz.ntmps27
  go_wp2_with fail
  refine (halves_any o v hv _).mono ?_
  rintro e w1 ⟨h, k, rfl, hh, hk, HC⟩
  go_wp2_with fail
  refine (sin_any _ _).mono ?_
  rintro e w2 ⟨rfl, hB⟩
  replace HC : Gr w w2 := Gr.step HC hB
  clear hB
  obtain ⟨s, hs⟩ : ∃ s, uz (sinV (nrm u)) = s := ⟨_, rfl⟩
  rw [hs]
  have HS := hid hs
  clear hs
  go_wp2_with fail
  refine (cos_any _ _).mono ?_
  rintro e w3 ⟨rfl, hB⟩
  obtain ⟨c, hc⟩ : ∃ s, uz (cosV (nrm u)) = s := ⟨_, rfl⟩
  rw [hc]
  have HN := hid hc
  clear hc
  have g1 := gm _ _ _ _ w2 (gsm s) hh.1
  generalize mF s h w2 = r1 at g1 ⊢
  replace HC : Gr w w3 := Gr.step (by ((with_reducible repeat' (first | assumption | refine Gr.drewN ?_ _ | refine Gr.drew ?_ | refine Gr.alloc ?_ _ | exact Gr.refl _)); done)) hB
  clear hB
  go_wp2_with fail
  refine (unsigned_any _ _ _).mono ?_
  rintro e w4 ⟨rfl, rfl⟩
  go_wp2
  go_ret
  refine ⟨_, _, rfl, ?_, ?_, by ((with_reducible repeat' (first | assumption | refine Gr.drewN ?_ _ | refine Gr.drew ?_ | refine Gr.alloc ?_ _ | exact Gr.refl _)); done)⟩
  · unfold snR; rw [HS.out]; exact got_uz g1
  · unfold snI; rw [HN.out]; exact got_uz (gm _ _ _ _ _ (gsm c) hk.1)
theorem cosine_any (u : Int) (o : Option Nat) (v : Nat) (hv : GW o v) (w : World) : Calls Tryz.prog 29 #[.int .i64 u, .float .f64 v] w fun e w' => ∃ r i, e = .returned (cV r i) ∧ GW (csR u o) r ∧ GW (csI u o) i ∧ Gr w w' := by
  obtain ⟨mF, aF, sF, qF, mD, aD, sD, qD, hm, ha, hss, hq, gm, ga, gs, gq⟩ := ops
  have hng := hnegA
  go_enter Tryz.func29, Tryz.ntmps29
  go_wp2_with fail
  refine (halves_any o v hv _).mono ?_
  rintro e w1 ⟨h, k, rfl, hh, hk, HC⟩
  go_wp2_with fail
  refine (cos_any _ _).mono ?_
  rintro e w2 ⟨rfl, hB⟩
  replace HC : Gr w w2 := Gr.step HC hB
  clear hB
  obtain ⟨s, hs⟩ : ∃ s, uz (cosV (nrm u)) = s := ⟨_, rfl⟩
  rw [hs]
  have HS := hid hs
  clear hs
  go_wp2_with fail
  refine (sin_any _ _).mono ?_
  rintro e w3 ⟨rfl, hB⟩
  obtain ⟨c, hc⟩ : ∃ s, uz (sinV (nrm u)) = s := ⟨_, rfl⟩
  rw [hc]
  have HN := hid hc
  clear hc
  have g1 := gm _ _ _ _ w2 (gsm s) hh.1
  generalize mF s h w2 = r1 at g1 ⊢
  replace HC : Gr w w3 := Gr.step (by ((with_reducible repeat' (first | assumption | refine Gr.drewN ?_ _ | refine Gr.drew ?_ | refine Gr.alloc ?_ _ | exact Gr.refl _)); done)) hB
  clear hB
  go_wp2_with fail
  refine (unsigned_any _ _ _).mono ?_
  rintro e w4 ⟨rfl, rfl⟩
  go_wp2
  go_ret
  refine ⟨_, _, rfl, ?_, ?_, by ((with_reducible repeat' (first | assumption | refine Gr.drewN ?_ _ | refine Gr.drew ?_ | refine Gr.alloc ?_ _ | exact Gr.refl _)); done)⟩
  · unfold csR; rw [HS.out]; exact got_uz g1
  · unfold csI; rw [HN.out]; exact got_uz (got_neg (gm _ _ _ _ _ (gsm c) hk.1))
def hyO (o p : Option Nat) : Option Nat := oQ (oA (oM o o) (oM p p))
theorem hyp_any (o p : Option Nat) (x y : Nat) (hx : Got o x) (hy : Got p y) (w : World) : Calls Tryz.prog 30 #[.float .f64 x, .float .f64 y] w fun e w' => ∃ r, e = .returned (.float .f64 r) ∧ GW (hyO o p) r ∧ Gr w w' := by
  obtain ⟨mF, aF, sF, qF, mD, aD, sD, qD, hm, ha, hss, hq, gm, ga, gs, gq⟩ := ops
  go_enter Tryz.func30, Tryz.ntmps30
  go_wp2_with fail
  refine (sqrtO (oA (oM o o) (oM p p)) _ (ga _ _ _ _ _ (gm _ _ _ _ _ hx hx).1 (gm _ _ _ _ _ hy hy).1).1 _).mono ?_
  rintro e w1 ⟨r, k, rfl, hr, rfl⟩
  go_wp2
  go_ret
  exact ⟨r, rfl, hr, by ((with_reducible repeat' (first | assumption | refine Gr.drewN ?_ _ | refine Gr.drew ?_ | refine Gr.alloc ?_ _ | exact Gr.refl _)); done)⟩
end Go.Proofs.YtinopkmcddjgdaaGreatDoor
