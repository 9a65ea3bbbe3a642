/-
  flat: lean, thin, radius, Iso, squeeze; mercatorref2: tanhBack, IsoOf, poleOf.
-/
import Derived.Test.YtinopkmcddjgdaaGreatDoorQFtA
import Derived.Test.YtinopkmcddjgdaaGreatDoorQMem
namespace Go.Proofs.YtinopkmcddjgdaaGreatDoor
open Go.RowKit FB
attribute [local go_sem] run_store_float

abbrev oneW : Nat := 4607182418800017408
abbrev twoW : Nat := 4611686018427387904
theorem gsm (x : Nat) : Got (some x) x := rfl
/-- The root of the eccentricity's square. -/
def rtO (f : Nat) : Option Nat := oQ (some (eOf f))
/-- The isometric latitude. -/
def isS (f s : Nat) : Option Nat := oD (oS (tbO (some s)) (oM (rtO f) (tbO (oM (rtO f) (some s))))) (some twoW)
def isO (f : Nat) (n : Int) : Option Nat := isS f (sinV (nrm n))
theorem sim_z {u v : Nat} (h : SameZ u v) : Sim (some u) (some v) := .inr ⟨u, v, rfl, rfl, h⟩
theorem uz_sin (n : Int) : SameZ (uz (sinV (nrm n))) (sinV (nrm n)) := by
  obtain ⟨h0, h1⟩ := nrm_lt n
  exact uz_z (sinV_le (nrm n) h0 h1).1 (by decide)
theorem uz_cos (n : Int) : SameZ (uz (cosV (nrm n))) (cosV (nrm n)) := by
  obtain ⟨h0, h1⟩ := nrm_lt n
  exact uz_z (sinV_le (nrm n) h0 h1).2 (by decide)
theorem isS_sim {f u v : Nat} (h : SameZ u v) : isS f u = isS f v := by
  unfold isS
  rw [tbO_sim (sim_z h), tbO_sim (oM_sim (Sim.refl (rtO f)) (sim_z h))]

theorem lean_any (o p : Option Nat) (e s : Nat) (he : Got o e) (hs : Got p s) (w : World) : Calls Tryz.prog 92 #[.float .f64 e, .float .f64 s] w fun x w' => ∃ r, x = .returned (.float .f64 r) ∧ Got (tbO (oM o p)) r ∧ Gr w w' := by
  obtain ⟨mF, aF, sF, qF, mD, aD, sD, qD, hm, ha, hss, hq, gm, ga, gs, gq⟩ := ops
  go_enter Tryz.func92, Tryz.ntmps92
  go_wp2_with fail
  refine (lnP (oD (oA (some oneW) (oM o p)) (oS (some oneW) (oM o p))) _ (gq _ _ _ _ _ (ga _ _ _ _ _ (gsm _) (gm _ _ _ _ _ he hs).1).1 (gs _ _ _ _ _ (gsm _) (gm _ _ _ _ _ he hs).1).1) _).mono ?_
  rintro e w1 ⟨r, rfl, hr, hB⟩
  go_wp2
  go_ret
  exact ⟨r, rfl, hr, Gr.step (by ((with_reducible repeat' (first | assumption | refine Gr.drewN ?_ _ | refine Gr.drew ?_ | refine Gr.alloc ?_ _ | exact Gr.refl _)); done)) hB⟩
theorem tanhBack_any (o : Option Nat) (x : Nat) (hx : Got o x) (w : World) : Calls Tryz.prog 74 #[.float .f64 x] w fun x w' => ∃ r, x = .returned (.float .f64 r) ∧ Got (tbO o) r ∧ Gr w w' := by
  obtain ⟨mF, aF, sF, qF, mD, aD, sD, qD, hm, ha, hss, hq, gm, ga, gs, gq⟩ := ops
  go_enter Tryz.func74, Tryz.ntmps74
  go_wp2_with fail
  refine (lnR (oD (oA (some oneW) o) (oS (some oneW) o)) _ (gq _ _ _ _ _ (ga _ _ _ _ _ (gsm _) hx).1 (gs _ _ _ _ _ (gsm _) hx).1) _).mono ?_
  rintro e w1 ⟨r, rfl, hr, hB⟩
  go_wp2
  go_ret
  exact ⟨r, rfl, hr, Gr.step (by ((with_reducible repeat' (first | assumption | refine Gr.drewN ?_ _ | refine Gr.drew ?_ | refine Gr.alloc ?_ _ | exact Gr.refl _)); done)) hB⟩
theorem less_any (o p q : Option Nat) (s a b : Nat) (h1 : Got o s) (h2 : Got p a) (h3 : Got q b) (w : World) : Calls Tryz.prog 73 #[.float .f64 s, .float .f64 a, .float .f64 b] w fun x w' => ∃ r, x = .returned (.float .f64 r) ∧ GW (oS o (oM p q)) r ∧ Gr w w' := by
  obtain ⟨mF, aF, sF, qF, mD, aD, sD, qD, hm, ha, hss, hq, gm, ga, gs, gq⟩ := ops
  go_enter Tryz.func73, Tryz.ntmps73
  go_wp2
  go_ret
  exact ⟨_, rfl, gs _ _ _ _ _ h1 (gm _ _ _ _ _ h2 h3).1, by ((with_reducible repeat' (first | assumption | refine Gr.drewN ?_ _ | refine Gr.drew ?_ | refine Gr.alloc ?_ _ | exact Gr.refl _)); done)⟩
theorem plusO (o p q : Option Nat) (s a b : Nat) (h1 : Got o s) (h2 : Got p a) (h3 : Got q b) (w : World) : Calls Tryz.prog 41 #[.float .f64 s, .float .f64 a, .float .f64 b] w fun x w' => ∃ r, x = .returned (.float .f64 r) ∧ GW (oA o (oM p q)) r ∧ Gr w w' := by
  obtain ⟨mF, aF, sF, qF, mD, aD, sD, qD, hm, ha, hss, hq, gm, ga, gs, gq⟩ := ops
  go_enter Tryz.func41, Tryz.ntmps41
  go_wp2
  go_ret
  exact ⟨_, rfl, ga _ _ _ _ _ h1 (gm _ _ _ _ _ h2 h3).1, by ((with_reducible repeat' (first | assumption | refine Gr.drewN ?_ _ | refine Gr.drew ?_ | refine Gr.alloc ?_ _ | exact Gr.refl _)); done)⟩

theorem iso_any (a f : Nat) (n : Int) (hf : Le 1021 f) (w : World) : Calls Tryz.prog 60 #[.agg #[.float .f64 a, .float .f64 f], .int .i64 n] w fun x w' => ∃ r, x = .returned (.float .f64 (uz r)) ∧ GW (isO f n) r ∧ Gr w w' := by
  obtain ⟨mF, aF, sF, qF, mD, aD, sD, qD, hm, ha, hss, hq, gm, ga, gs, gq⟩ := ops
  go_enter Tryz.func60, Tryz.ntmps60
  go_wp2_with fail
  refine (bulge_any a f hf _).mono ?_
  rintro x w1 ⟨rfl, hB⟩
  have HC : Gr w w1 := Gr.step (by ((with_reducible repeat' (first | assumption | refine Gr.drewN ?_ _ | refine Gr.drew ?_ | refine Gr.alloc ?_ _ | exact Gr.refl _)); done)) hB
  clear hB
  go_wp2_with fail
  refine (sqrtO (some (eOf f)) _ rfl _).mono ?_
  rintro x w2 ⟨e, k, rfl, he, rfl⟩
  replace HC := HC.drewN k
  generalize w1.drewN k = w2 at HC ⊢
  clear w1
  go_wp2_with fail
  refine (sin_any _ _).mono ?_
  rintro x w3 ⟨rfl, hB⟩
  replace HC : Gr w w3 := Gr.step HC hB
  clear hB
  obtain ⟨s, hs⟩ : ∃ s, uz (sinV (nrm n)) = s := ⟨_, rfl⟩
  rw [hs]
  go_wp2_with fail
  refine (lnP (oD (oA (some oneW) (some s)) (oS (some oneW) (some s))) _ (gq _ _ _ _ _ (ga _ _ _ _ _ (gsm _) (gsm _)).1 (gs _ _ _ _ _ (gsm _) (gsm _)).1) _).mono ?_
  rintro x w4 ⟨l1, rfl, h1, hB⟩
  replace HC : Gr w w4 := Gr.step (by ((with_reducible repeat' (first | assumption | refine Gr.drewN ?_ _ | refine Gr.drew ?_ | refine Gr.alloc ?_ _ | exact Gr.refl _)); done)) hB
  clear hB
  go_wp2_with fail
  refine (lean_any (rtO f) (some s) _ _ he.1 (gsm _) _).mono ?_
  rintro x w5 ⟨l2, rfl, h2, hB⟩
  replace HC : Gr w w5 := Gr.step HC hB
  clear hB
  go_wp2_with fail
  refine (uz_any _ _).mono ?_
  rintro x w6 ⟨rfl, rfl⟩
  go_wp2
  go_ret
  refine ⟨_, rfl, ?_, by ((with_reducible repeat' (first | assumption | refine Gr.drewN ?_ _ | refine Gr.drew ?_ | refine Gr.alloc ?_ _ | exact Gr.refl _)); done)⟩
  unfold isO
  rw [← isS_sim (uz_sin n), hs]
  exact gq _ _ _ _ _ (gs _ _ _ _ _ h1 (gm _ _ _ _ _ he.1 h2).1).1 (gsm _)
theorem isoOf_any (a f : Nat) (n : Int) (hf : Le 1021 f) (w : World) : Calls Tryz.prog 38 #[.agg #[.float .f64 a, .float .f64 f], .int .i64 n] w fun x w' => ∃ r, x = .returned (.float .f64 r) ∧ GW (isO f n) r ∧ Gr w w' := by
  obtain ⟨mF, aF, sF, qF, mD, aD, sD, qD, hm, ha, hss, hq, gm, ga, gs, gq⟩ := ops
  go_enter Tryz.func38, Tryz.ntmps38
  go_wp2_with fail
  refine (sinCos_any _ _).mono ?_
  rintro x w3 ⟨rfl, rfl⟩
  obtain ⟨s, hs⟩ : ∃ s, sinV (nrm n) = s := ⟨_, rfl⟩
  obtain ⟨c, hc⟩ : ∃ s, cosV (nrm n) = s := ⟨_, rfl⟩
  rw [hs, hc]
  have HS := hid hs
  clear hs hc
  go_wp2_with fail
  refine (squareOf_any a f hf _).mono ?_
  rintro x w1 ⟨rfl, hB⟩
  have HC : Gr w w1 := Gr.step (by ((with_reducible repeat' (first | assumption | refine Gr.drewN ?_ _ | refine Gr.drew ?_ | refine Gr.alloc ?_ _ | exact Gr.refl _)); done)) hB
  clear hB
  go_wp2_with fail
  refine (sqrtO (some (eOf f)) _ rfl _).mono ?_
  rintro x w2 ⟨e, k, rfl, he, rfl⟩
  replace HC := HC.drewN k
  generalize w1.drewN k = w2 at HC ⊢
  clear w1
  go_wp2_with fail
  refine (tanhBack_any (some s) _ rfl _).mono ?_
  rintro x w4 ⟨l1, rfl, h1, hB⟩
  replace HC : Gr w w4 := Gr.step (by ((with_reducible repeat' (first | assumption | refine Gr.drewN ?_ _ | refine Gr.drew ?_ | refine Gr.alloc ?_ _ | exact Gr.refl _)); done)) hB
  clear hB
  go_wp2_with fail
  refine (tanhBack_any (oM (rtO f) (some s)) _ (gm _ _ _ _ _ he.1 (gsm _)).1 _).mono ?_
  rintro x w5 ⟨l2, rfl, h2, hB⟩
  replace HC : Gr w w5 := Gr.step (by ((with_reducible repeat' (first | assumption | refine Gr.drewN ?_ _ | refine Gr.drew ?_ | refine Gr.alloc ?_ _ | exact Gr.refl _)); done)) hB
  clear hB
  go_wp2_with fail
  refine (less_any _ _ _ _ _ _ h1 he.1 h2 _).mono ?_
  rintro x w6 ⟨l3, rfl, h3, hB⟩
  replace HC : Gr w w6 := Gr.step HC hB
  clear hB
  go_wp2
  go_ret
  refine ⟨_, rfl, ?_, by ((with_reducible repeat' (first | assumption | refine Gr.drewN ?_ _ | refine Gr.drew ?_ | refine Gr.alloc ?_ _ | exact Gr.refl _)); done)⟩
  unfold isO
  rw [HS.out]
  exact gq _ _ _ _ _ h3.1 (gsm _)

/-- By what distances from the pole are divided. -/
noncomputable def poO (f : Nat) : Option Nat := oX (oD (oA (oM (oA (some oneW) (rtO f)) (oL (oA (some oneW) (rtO f)))) (oM (oS (some oneW) (rtO f)) (oL (oS (some oneW) (rtO f))))) (some twoW))
end Go.Proofs.YtinopkmcddjgdaaGreatDoor
