/-
  wave: chains of both sides are the same but for a nothing's sign. No Go text is named here.
-/
import Derived.Test.YtinopkmcddjgdaaGreatDoorQWvI
import Derived.Test.YtinopkmcddjgdaaGreatDoorQFtU
import Derived.Test.YtinopkmcddjgdaaGreatDoorQJ6
import Derived.Test.YtinopkmcddjgdaaGreatDoorQFfA
import Derived.Test.YtinopkmcddjgdaaGreatDoorQJ5
namespace Go.Proofs.YtinopkmcddjgdaaGreatDoor
open Go.RowKit FB

theorem SameZ.trans {a b c : Nat} (h : SameZ a b) (k : SameZ b c) : SameZ a c := by
  rcases h with rfl | ⟨h1, h2⟩
  · exact k
  · rcases k with rfl | ⟨k1, k2⟩
    · exact .inr ⟨h1, h2⟩
    · exact .inr ⟨h1, k2⟩
theorem SameZ.symm {a b : Nat} (h : SameZ a b) : SameZ b a := by
  rcases h with rfl | ⟨h1, h2⟩
  · exact .inl rfl
  · exact .inr ⟨h2, h1⟩
theorem Sim.trans {o p q : Option Nat} (h : Sim o p) (k : Sim p q) : Sim o q := by
  rcases h with ⟨rfl, rfl⟩ | ⟨r, s, rfl, rfl, h⟩
  · exact k
  · rcases k with ⟨h1, _⟩ | ⟨r', s', h1, rfl, k⟩
    · cases h1
    · cases h1; exact .inr ⟨_, _, rfl, rfl, h.trans k⟩
theorem Sim.symm {o p : Option Nat} (h : Sim o p) : Sim p o := by
  rcases h with ⟨rfl, rfl⟩ | ⟨r, s, rfl, rfl, h⟩
  · exact .inl ⟨rfl, rfl⟩
  · exact .inr ⟨_, _, rfl, rfl, h.symm⟩
theorem oA_sim2 {o o' p p' : Option Nat} (h : Sim o o') (k : Sim p p') : Sim (oA o p) (oA o' p') := by
  refine Sim.trans (oA_sim h) ?_
  rw [oA_swap o' p, oA_swap o' p']
  exact oA_sim k
theorem oM_lt {o p : Option Nat} {r : Nat} (h : oM o p = some r) : r < 18446744073709551616 := by
  unfold oM at h
  cases o with
  | none => cases h
  | some a =>
    cases p with
    | none => cases h
    | some b => exact mul_lt h
theorem oN_lt {o : Option Nat} {r : Nat} (k : ∀ r, o = some r → r < 18446744073709551616) (h : oN o = some r) : r < 18446744073709551616 := by
  cases o with
  | none => cases h
  | some a => cases h; exact (neg_abs _ (k a rfl)).2
/-- Powers, halves, sines beside a number. -/
theorem expW_zr {x : Nat} (h : Zr x) : expW x = some oneW := by
  have hz : isZ x = true := by rcases h with rfl | rfl <;> decide +kernel
  have hn : x ≠ x45 := by rcases h with rfl | rfl <;> decide
  unfold expW
  rw [if_neg hn]
  unfold expO
  rw [if_pos hz]
  first | done | rfl
theorem oXw_sim {o p : Option Nat} (h : Sim o p) : oXw o = oXw p := by
  rcases h with ⟨rfl, rfl⟩ | ⟨r, q, rfl, rfl, h⟩
  · rfl
  · show expW r = expW q
    rcases h with rfl | ⟨h1, h2⟩
    · rfl
    · rw [expW_zr h1, expW_zr h2]
theorem hO_sim {o p : Option Nat} (h : Sim o p) : hO o = hO p := by unfold hO; rw [oXw_sim h]
theorem kO_sim {o p : Option Nat} (h : Sim o p) : kO o = kO p := by unfold kO; rw [oXw_sim h]
theorem mul_self {u v : Nat} (h : SameZ u v) : Ieee.double.mul u u = Ieee.double.mul v v := by
  rcases h with rfl | ⟨rfl | rfl, rfl | rfl⟩ <;> first | rfl | decide +kernel
theorem oM_self {o p : Option Nat} (h : Sim o p) : oM o o = oM p p := by
  rcases h with ⟨rfl, rfl⟩ | ⟨r, q, rfl, rfl, h⟩
  · rfl
  · exact mul_self h
theorem hyO_sim {o p o' p' : Option Nat} (h : Sim o o') (k : Sim p p') : hyO o p = hyO o' p' := by
  unfold hyO; rw [oM_self h, oM_self k]
theorem un_zr {z : Nat} (h : Zr z) : unO (some z) = oL (some oneW) := by
  have h1 : ltO (some z) = false := by rcases h with rfl | rfl <;> decide +kernel
  have h2 : oA (some z) (hyO (some z) (some oneW)) = some oneW := by rcases h with rfl | rfl <;> decide +kernel
  unfold unO
  rw [if_neg (by rw [h1]; decide)]
  unfold unP
  rw [h2]
theorem unO_sim {o p : Option Nat} (h : Sim o p) : unO o = unO p := by
  rcases h with ⟨rfl, rfl⟩ | ⟨r, q, rfl, rfl, h⟩
  · rfl
  · rcases h with rfl | ⟨h1, h2⟩
    · rfl
    · rw [un_zr h1, un_zr h2]
theorem snR_sim (u : Int) (o : Option Nat) : Sim (snR u o) (rsR u o) := (uzO_sim fun _ h => oM_lt h).trans (oM_sim (sim_z (uz_sin u)) (Sim.refl _))
theorem snI_sim (u : Int) (o : Option Nat) : Sim (snI u o) (rsI u o) := (uzO_sim fun _ h => oM_lt h).trans (oM_sim (sim_z (uz_cos u)) (Sim.refl _))
theorem csR_sim (u : Int) (o : Option Nat) : Sim (csR u o) (rcR u o) := (uzO_sim fun _ h => oM_lt h).trans (oM_sim (sim_z (uz_cos u)) (Sim.refl _))
theorem csI_sim (u : Int) (o : Option Nat) : Sim (csI u o) (rcI u o) := (uzO_sim fun _ h => oN_lt (fun _ h => oM_lt h) h).trans (oN_sim (oM_sim (sim_z (uz_sin u)) (Sim.refl _)))
/-- Rows of four. -/
structure S4 (s s' : Four) : Prop where
  a : Sim s.a s'.a
  b : Sim s.b s'.b
  c : Sim s.c s'.c
  d : Sim s.d s'.d
theorem ripO_sim {w w' : Int → Option Nat → Option Nat} (hw : ∀ u o, Sim (w u o) (w' u o)) {z z' v v' : Option Nat} {s s' : Four} (hz : Sim z z') (hs : S4 s s') (hv : v = v') (u : Int) : Sim (ripO w z u v s) (ripO w' z' u v' s') := by
  subst hv
  unfold ripO
  exact oA_sim2 (oA_sim2 (oA_sim2 (oA_sim2 hz (oM_sim hs.a (hw _ _))) (oM_sim hs.b (hw _ _))) (oM_sim hs.c (hw _ _))) (oM_sim hs.d (hw _ _))
def zO (o : Option Nat) : Bool := o == some 0 || o == some 9223372036854775808
theorem zO_sim {o p : Option Nat} (h : zO o = true) (k : zO p = true) : Sim o p := by
  have z : ∀ q, zO q = true → ∃ r, q = some r ∧ Zr r := by
    intro q hq
    unfold zO at hq
    rw [Bool.or_eq_true] at hq
    rcases hq with hq | hq
    · exact ⟨0, by simpa using hq, .inl rfl⟩
    · exact ⟨_, by simpa using hq, .inr rfl⟩
  obtain ⟨r, rfl, hr⟩ := z o h
  obtain ⟨s, rfl, hs⟩ := z p k
  exact .inr ⟨r, s, rfl, rfl, .inr ⟨hr, hs⟩⟩
theorem hor_one {n c : Nat} (hn : Num n) (h0 : Ieee.double.add c 0 = some c) (h1 : Ieee.double.add c 9223372036854775808 = some c) : horO [c] (some n) = some c := by
  show oA (some c) (oM (some n) (some 0)) = some c
  show (Ieee.double.mul n 0).bind (fun b => Ieee.double.add c b) = some c
  rcases mul_zr_r (u := n) (v := 0) (.inl rfl) with ⟨h, _⟩ | h
  · rw [mul_num hn ⟨false, 0, -1074, by decide +kernel⟩] at h; cases h
  · obtain ⟨r, e, hr⟩ := h 0 (.inl rfl)
    rw [e]
    rcases hr with rfl | rfl
    · exact h0
    · exact h1
theorem uz_isZ {n : Nat} (h : isZ n = true) : uz n = 0 := by
  unfold uz
  have h' : (Ieee.double.order n 0 == some Ordering.eq) = true := h
  rw [if_pos (by simpa using h')]
theorem uz_not {n : Nat} (h : ¬ isZ n = true) : uz n = n := by
  unfold uz
  rw [if_neg]
  intro he
  apply h
  show (Ieee.double.order n 0 == some Ordering.eq) = true
  rw [he]; rfl
theorem aS_zero {z : Nat} (h : Zr z) : S4 (aS 0) (rA z) := by
  have : (zO (aS 0).a && zO (aS 0).b && zO (aS 0).c && zO (aS 0).d && (zO (rA 0).a && zO (rA 0).b && zO (rA 0).c && zO (rA 0).d) && (zO (rA 9223372036854775808).a && zO (rA 9223372036854775808).b && zO (rA 9223372036854775808).c && zO (rA 9223372036854775808).d)) = true := by decide +kernel
  simp only [Bool.and_eq_true] at this
  obtain ⟨⟨⟨⟨⟨a1, a2⟩, a3⟩, a4⟩, ⟨⟨b1, b2⟩, b3⟩, b4⟩, ⟨⟨c1, c2⟩, c3⟩, c4⟩ := this
  rcases h with rfl | rfl
  · exact ⟨zO_sim a1 b1, zO_sim a2 b2, zO_sim a3 b3, zO_sim a4 b4⟩
  · exact ⟨zO_sim a1 c1, zO_sim a2 c2, zO_sim a3 c3, zO_sim a4 c4⟩
theorem bS_zero {z : Nat} (h : Zr z) : S4 (bS 0) (rB z) := by
  have : (zO (bS 0).a && zO (bS 0).b && zO (bS 0).c && zO (bS 0).d && (zO (rB 0).a && zO (rB 0).b && zO (rB 0).c && zO (rB 0).d) && (zO (rB 9223372036854775808).a && zO (rB 9223372036854775808).b && zO (rB 9223372036854775808).c && zO (rB 9223372036854775808).d)) = true := by decide +kernel
  simp only [Bool.and_eq_true] at this
  obtain ⟨⟨⟨⟨⟨a1, a2⟩, a3⟩, a4⟩, ⟨⟨b1, b2⟩, b3⟩, b4⟩, ⟨⟨c1, c2⟩, c3⟩, c4⟩ := this
  rcases h with rfl | rfl
  · exact ⟨zO_sim a1 b1, zO_sim a2 b2, zO_sim a3 b3, zO_sim a4 b4⟩
  · exact ⟨zO_sim a1 c1, zO_sim a2 c2, zO_sim a3 c3, zO_sim a4 c4⟩
theorem aS_sim {n : Nat} (hn : Num n) (hl : n < 18446744073709551616) : S4 (aS (uz n)) (rA n) := by
  by_cases hz : isZ n = true
  · rw [uz_isZ hz]; exact aS_zero (zr_of hl hz)
  · rw [uz_not hz]
    refine ⟨Sim.refl _, Sim.refl _, Sim.refl _, ?_⟩
    show Sim (oM (n4O n) (horO lA4 (some n))) (oM (n4O n) _)
    unfold lA4
    rw [hor_one hn (by decide +kernel) (by decide +kernel)]
    exact Sim.refl _
theorem bS_sim {n : Nat} (hn : Num n) (hl : n < 18446744073709551616) : S4 (bS (uz n)) (rB n) := by
  by_cases hz : isZ n = true
  · rw [uz_isZ hz]; exact bS_zero (zr_of hl hz)
  · rw [uz_not hz]
    refine ⟨Sim.refl _, Sim.refl _, Sim.refl _, ?_⟩
    show Sim (oM (n4O n) (horO lB4 (some n))) (oM (n4O n) _)
    unfold lB4
    rw [hor_one hn (by decide +kernel) (by decide +kernel)]
    exact Sim.refl _
theorem raS_uz {a n : Nat} (hl : n < 18446744073709551616) : raS a (uz n) = raS a n := by
  have hs : SameZ (uz n) n := uz_sameZ hl
  have h2 : n2O (uz n) = n2O n := mul_self hs
  have h4 : n4O (uz n) = n4O n := by unfold n4O; rw [h2]
  have h1 : oA (some oneW) (some (uz n)) = oA (some oneW) (some n) := one_add hs
  unfold raS
  rw [h1, h2, h4]
/-- The angle of a point, of chains that are the same but for a nothing's sign. -/
theorem ang_nan_y {y : Nat} (h : Nan y) (x : Nat) : angV y x = (0, false) := by
  obtain ⟨s, f, h⟩ := h
  have : finV y = false := by unfold finV; rw [h]
  unfold angV; rw [this]; rfl
theorem ang_nan_x {x : Nat} (h : Nan x) (y : Nat) : angV y x = (0, false) := by
  obtain ⟨s, f, h⟩ := h
  have : finV x = false := by unfold finV; rw [h]
  unfold angV; rw [this]; simp
theorem ang_sim {o o' p p' : Option Nat} {y y' x x' : Nat} (h : Sim o o') (k : Sim p p') (hy : Got o y) (hy' : Got o' y') (hx : Got p x) (hx' : Got p' x') : angV y x = angV y' x' := by
  rcases h with ⟨rfl, rfl⟩ | ⟨r, q, rfl, rfl, h⟩
  · rw [ang_nan_y hy, ang_nan_y hy']
  · rcases k with ⟨rfl, rfl⟩ | ⟨r', q', rfl, rfl, k⟩
    · rw [ang_nan_x hx, ang_nan_x hx']
    · obtain rfl : y = r := hy
      obtain rfl : y' = q := hy'
      obtain rfl : x = r' := hx
      obtain rfl : x' = q' := hx'
      exact angV_zz h k
/-- The angle of a point, of chains. -/
def angC (o p : Option Nat) : Int := match o, p with | some y, some x => (angV y x).1 | _, _ => 0
theorem angC_bd (o p : Option Nat) : 0 ≤ angC o p ∧ angC o p ≤ 360000000000 := by
  unfold angC
  split
  · exact ang_bd _ _
  · exact ⟨by decide, by decide⟩
theorem angC_got {o p : Option Nat} {y x : Nat} (hy : Got o y) (hx : Got p x) : (angV y x).1 = angC o p := by
  cases o with
  | none => rw [ang_nan_y hy]; rfl
  | some r =>
    cases p with
    | none => rw [ang_nan_x hx]; rfl
    | some q =>
      obtain rfl : y = r := hy
      obtain rfl : x = q := hx
      rfl
theorem angC_sim {o p o' p' : Option Nat} (h : Sim o o') (k : Sim p p') : angC o p = angC o' p' := by
  rcases h with ⟨rfl, rfl⟩ | ⟨r, q, rfl, rfl, h⟩
  · rfl
  · rcases k with ⟨rfl, rfl⟩ | ⟨r', q', rfl, rfl, k⟩
    · rfl
    · show (angV r r').1 = (angV q q').1
      rw [angV_zz h k]
/-- The cast of a place, without its nothings' signs. -/
noncomputable def tRf (f : Nat) (lat : Int) : Option Nat := kO (isO f lat)
noncomputable def rRf (f : Nat) (lat d : Int) : Option Nat := hyO (tRf f lat) (some (cosV (nrm d)))
noncomputable def vRf (f : Nat) (lat d : Int) : Option Nat := unO (oD (some (sinV (nrm d))) (rRf f lat d))
theorem tn_eq (f : Nat) (lat : Int) : tnO f lat = tRf f lat := kO_sim (uzO_sim fun _ h => oD_lt h)
theorem rt_eq (f : Nat) (lat d : Int) : rtC f lat d = rRf f lat d := by
  unfold rtC rRf; rw [tn_eq]; exact hyO_sim (Sim.refl _) (sim_z (uz_cos d))
theorem vv_eq (f : Nat) (lat d : Int) : vvO f lat d = vRf f lat d := by
  unfold vvO vRf; rw [rt_eq]; exact unO_sim (oD_sim (sim_z (uz_sin d)))
/-- How far a place is along the middle meridian. -/
noncomputable def uI (f : Nat) (lat d : Int) : Int := sgn (angC (tRf f lat) (some (cosV (nrm d))))
theorem uI_got {f : Nat} {lat d : Int} {t c : Nat} (h : Got (tRf f lat) t) (hc : SameZ c (cosV (nrm d))) : sgn (angV t c).1 = uI f lat d := by
  unfold uI
  rw [angC_got h (show Got (some c) c from rfl), angC_sim (Sim.refl _) (sim_z hc)]
end Go.Proofs.YtinopkmcddjgdaaGreatDoor
