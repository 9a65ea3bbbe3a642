/-
  flat: radius, thin, belt, even, aside, fromPole; mercatorref2: upOf, downOf.
-/
import Derived.Test.YtkebgnemccaimaaGreatDoorQFtB
import Derived.Deep.RegionHeld3
import Derived.Deep.CutRange
namespace Go.Proofs.YtkebgnemccaimaaGreatDoor
open Go.RowKit FB
attribute [local go_sem] run_store_float

theorem At.new5 (W : World) (a b c d e : Value) (t : Nat) : At (W.alloc (.cells #[a, b, c, d, e] t)) W.heap.size [a, b, c, d, e] := by
  refine ⟨fun i hi => ?_, by simp⟩
  match i, hi with
  | 0, _ => exact ⟨by simp [go_sem], by simp [go_sem]⟩
  | 1, _ => exact ⟨by simp [go_sem], by simp [go_sem]⟩
  | 2, _ => exact ⟨by simp [go_sem], by simp [go_sem]⟩
  | 3, _ => exact ⟨by simp [go_sem], by simp [go_sem]⟩
  | 4, _ => exact ⟨by simp [go_sem], by simp [go_sem]⟩
theorem At.c5 {W : World} {B : Nat} {a b c d e : Value} (h : At W B [a, b, c, d, e]) : W.cell? ⟨B, 0, none⟩ = some a ∧ W.cell? ⟨B, 1, none⟩ = some b ∧ W.cell? ⟨B, 2, none⟩ = some c ∧ W.cell? ⟨B, 3, none⟩ = some d ∧ W.cell? ⟨B, 4, none⟩ = some e := ⟨(h.1 0 (by simp)).1, (h.1 1 (by simp)).1, (h.1 2 (by simp)).1, (h.1 3 (by simp)).1, (h.1 4 (by simp)).1⟩
/-- A paper's values. -/
abbrev pL (a f : Nat) (k : ByteArray) (mid : Int) (m : Nat) : List Value := [.float .f64 a, .float .f64 f, .string k, .int .i64 mid, .float .f64 m]
abbrev pV (a f : Nat) (k : ByteArray) (mid : Int) (m : Nat) : Value := .agg #[.float .f64 a, .float .f64 f, .string k, .int .i64 mid, .float .f64 m]

/-- A chain whose answer is nothing. -/
def isZO : Option Nat → Bool | some r => isZ r | none => false
theorem isZ_got {o : Option Nat} {r : Nat} (h : Got o r) : isZ r = isZO o := by
  cases o with
  | none => obtain ⟨s, f, h⟩ := h; show (Ieee.double.order r 0 == _) = false; rw [order_nan h]; rfl
  | some q => obtain rfl : r = q := h; rfl
def thS (f s : Nat) : Option Nat := oS (some oneW) (oM (oM (some (eOf f)) (some s)) (some s))
def beS (f s : Nat) : Option Nat := if isZO (rtO f) = true then oM (some twoW) (some s) else oM (oS (some oneW) (some (eOf f))) (oA (oD (some s) (thS f s)) (oD (tbO (oM (rtO f) (some s))) (oM (some twoW) (rtO f))))
def upS (a m f s : Nat) : Option Nat := oD (oM (oD (some a) (some m)) (beS f s)) (some twoW)
def raO (a m : Nat) : Option Nat := oM (some a) (some m)

/-- Nothings in quotients and sums. -/
theorem div_zr {u v t : Nat} (hu : Zr u) (hv : Zr v) : Sim (Ieee.double.div u t) (Ieee.double.div v t) := by
  obtain ⟨s, hs⟩ := read_zr hu
  obtain ⟨s', hs'⟩ := read_zr hv
  unfold Ieee.Format.div
  rw [hs, hs']
  cases ht : Ieee.double.read t with
  | nan x y => exact .inl ⟨rfl, rfl⟩
  | infinity x =>
    refine .inr ⟨_, _, rfl, rfl, .inr ⟨?_, ?_⟩⟩
    · exact near_zr _ _
    · exact near_zr _ _
  | number x n j =>
    simp only [Ieee.Datum.quotient]
    by_cases hn : n = 0
    · rw [if_pos hn, if_pos hn]; exact .inl ⟨rfl, rfl⟩
    · rw [if_neg hn, if_neg hn]
      have hz : ∀ k : Nat, 2 * ((0 <<< k) / n) + ((0 <<< k) % n != 0).toNat = 0 := by
        intro k; rw [Nat.zero_shiftLeft, Nat.zero_div, Nat.zero_mod]; rfl
      rw [hz]
      refine .inr ⟨_, _, rfl, rfl, .inr ⟨?_, ?_⟩⟩
      · exact near_zr _ _
      · exact near_zr _ _
theorem signed_zero (s : Bool) (k : Nat) : Ieee.signed s 0 k = 0 := by unfold Ieee.signed; rw [Nat.zero_shiftLeft]; cases s <;> rfl
theorem add_zr {u v t : Nat} (hu : Zr u) (hv : Zr v) : Sim (Ieee.double.add u t) (Ieee.double.add v t) := by
  obtain ⟨s, hs⟩ := read_zr hu
  obtain ⟨s', hs'⟩ := read_zr hv
  unfold Ieee.Format.add
  rw [hs, hs']
  cases ht : Ieee.double.read t with
  | nan x y => exact .inl ⟨rfl, rfl⟩
  | infinity x => exact Sim.refl _
  | number x n j =>
    simp only [Ieee.Datum.sum]
    rw [signed_zero, signed_zero, Int.zero_add]
    by_cases hn : Ieee.signed x n (j - min (-1074) j).toNat = 0
    · rw [if_pos hn, if_pos hn, hn]
      refine .inr ⟨_, _, rfl, rfl, .inr ⟨?_, ?_⟩⟩
      · exact near_zr _ _
      · exact near_zr _ _
    · rw [if_neg hn, if_neg hn]; exact Sim.refl _
theorem oD_sim {o o' t : Option Nat} (h : Sim o o') : Sim (oD o t) (oD o' t) := by
  rcases h with ⟨rfl, rfl⟩ | ⟨r, q, rfl, rfl, rfl | ⟨h1, h2⟩⟩
  · exact .inl ⟨rfl, rfl⟩
  · exact Sim.refl _
  · cases t with
    | none => exact .inl ⟨rfl, rfl⟩
    | some t => exact div_zr h1 h2
theorem oA_sim {o o' t : Option Nat} (h : Sim o o') : Sim (oA o t) (oA o' t) := by
  rcases h with ⟨rfl, rfl⟩ | ⟨r, q, rfl, rfl, rfl | ⟨h1, h2⟩⟩
  · exact .inl ⟨rfl, rfl⟩
  · exact Sim.refl _
  · cases t with
    | none => exact .inl ⟨rfl, rfl⟩
    | some t => exact add_zr h1 h2
theorem oneS_sim {o p : Option Nat} (h : Sim o p) : oS (some oneW) o = oS (some oneW) p := by
  rcases h with ⟨rfl, rfl⟩ | ⟨r, q, rfl, rfl, h⟩
  · rfl
  · exact one_sub h
theorem upS_sim {a m f u v : Nat} (h : SameZ u v) : Sim (upS a m f u) (upS a m f v) := by
  have hs := sim_z h
  unfold upS
  refine oD_sim (oM_sim (Sim.refl _) ?_)
  unfold beS
  split
  · exact oM_sim (Sim.refl _) hs
  · refine oM_sim (Sim.refl _) ?_
    have e1 : thS f u = thS f v := oneS_sim (oM_sim (oM_sim (Sim.refl _) hs) hs)
    rw [e1, tbO_sim (oM_sim (Sim.refl (rtO f)) hs)]
    exact oA_sim (oD_sim hs)

theorem radius_any (a f m : Nat) (k : ByteArray) (mid : Int) (w : World) : Calls Tryz.prog 45 #[pV a f k mid m] w fun x w' => ∃ r, x = .returned (.float .f64 r) ∧ GW (raO a m) r ∧ Gr w w' := by
  obtain ⟨mF, aF, sF, qF, mD, aD, sD, qD, hm, ha, hss, hq, gm, ga, gs, gq⟩ := ops
  go_enter Tryz.func45, Tryz.ntmps45
  go_wp2
  go_ret
  exact ⟨_, rfl, gm _ _ _ _ _ (gsm _) (gsm _), by ((with_reducible repeat' (first | assumption | refine Gr.drewN ?_ _ | refine Gr.drew ?_ | refine Gr.alloc ?_ _ | exact Gr.refl _)); done)⟩
theorem thin_any (f s : Nat) (w : World) : Calls Tryz.prog 78 #[.float .f64 (eOf f), .float .f64 s] w fun x w' => ∃ r, x = .returned (.float .f64 r) ∧ GW (thS f s) r ∧ Gr w w' := by
  obtain ⟨mF, aF, sF, qF, mD, aD, sD, qD, hm, ha, hss, hq, gm, ga, gs, gq⟩ := ops
  go_enter Tryz.func78, Tryz.ntmps78
  go_wp2
  go_ret
  exact ⟨_, rfl, gs _ _ _ _ _ (gsm _) (gm _ _ _ _ _ (gm _ _ _ _ _ (gsm _) (gsm _)).1 (gsm _)).1, by ((with_reducible repeat' (first | assumption | refine Gr.drewN ?_ _ | refine Gr.drew ?_ | refine Gr.alloc ?_ _ | exact Gr.refl _)); done)⟩
theorem belt_any (a f s : Nat) (hf : Le 1021 f) (w : World) : Calls Tryz.prog 97 #[.agg #[.float .f64 a, .float .f64 f], .float .f64 s] w fun x w' => ∃ r, x = .returned (.float .f64 r) ∧ GW (beS f s) r ∧ Gr w w' := by
  obtain ⟨mF, aF, sF, qF, mD, aD, sD, qD, hm, ha, hss, hq, gm, ga, gs, gq⟩ := ops
  go_enter Tryz.func97, Tryz.ntmps97
  go_wp2_with fail
  refine (bulge_any a f hf _).mono ?_
  rintro x w1 ⟨rfl, hB⟩
  have HC : Gr w w1 := Gr.step (by ((with_reducible repeat' (first | assumption | refine Gr.drewN ?_ _ | refine Gr.drew ?_ | refine Gr.alloc ?_ _ | exact Gr.refl _)); done)) hB
  clear hB
  go_wp2_with fail
  refine (sqrtO (some (eOf f)) _ rfl _).mono ?_
  rintro x w2 ⟨e, k, rfl, he, rfl⟩
  replace HC := HC.drewN k
  generalize w1.drewN k = w2 at HC ⊢
  clear w1
  have HZ := hid (isZ_got he.1)
  cases hz : (FloatKind.f64.format.order e 0 == some Ordering.eq) with
  | true =>
    go_wp2
    go_ret
    refine ⟨_, rfl, ?_, by ((with_reducible repeat' (first | assumption | refine Gr.drewN ?_ _ | refine Gr.drew ?_ | refine Gr.alloc ?_ _ | exact Gr.refl _)); done)⟩
    unfold beS
    rw [if_pos (show isZO (rtO f) = true from HZ.out.symm.trans hz)]
    exact gm _ _ _ _ _ (gsm _) (gsm _)
  | false =>
    go_wp2_with fail
    refine (thin_any f s _).mono ?_
    rintro x w3 ⟨t, rfl, ht, hB⟩
    replace HC : Gr w w3 := Gr.step (by ((with_reducible repeat' (first | assumption | refine Gr.drewN ?_ _ | refine Gr.drew ?_ | refine Gr.alloc ?_ _ | exact Gr.refl _)); done)) hB
    clear hB
    go_wp2_with fail
    refine (lean_any (rtO f) (some s) _ _ he.1 (gsm _) _).mono ?_
    rintro x w4 ⟨l, rfl, h1, hB⟩
    replace HC : Gr w w4 := Gr.step (by ((with_reducible repeat' (first | assumption | refine Gr.drewN ?_ _ | refine Gr.drew ?_ | refine Gr.alloc ?_ _ | exact Gr.refl _)); done)) hB
    clear hB
    go_wp2
    go_ret
    refine ⟨_, rfl, ?_, by ((with_reducible repeat' (first | assumption | refine Gr.drewN ?_ _ | refine Gr.drew ?_ | refine Gr.alloc ?_ _ | exact Gr.refl _)); done)⟩
    unfold beS
    rw [if_neg (show ¬ isZO (rtO f) = true by rw [show isZO (rtO f) = false from HZ.out.symm.trans hz]; decide)]
    exact gm _ _ _ _ _ (gs _ _ _ _ _ (gsm _) (gsm _)).1 (ga _ _ _ _ _ (gq _ _ _ _ _ (gsm _) ht.1).1 (gq _ _ _ _ _ h1 (gm _ _ _ _ _ (gsm _) he.1).1).1).1
set_option maxHeartbeats 1000000 in
theorem even_any (a f m : Nat) (k : ByteArray) (mid n : Int) (hf : Le 1021 f) (w : World) : Calls Tryz.prog 46 #[pV a f k mid m, .int .i64 n] w fun x w' => ∃ r, x = .returned (.float .f64 r) ∧ GW (upS a m f (uz (sinV (nrm n)))) r ∧ Gr w w' := by
  obtain ⟨mF, aF, sF, qF, mD, aD, sD, qD, hm, ha, hss, hq, gm, ga, gs, gq⟩ := ops
  go_enter Tryz.func46, Tryz.ntmps46
  go_upto_region 1 with fail
  have PA : At (w.alloc (.cells #[.float .f64 a, .float .f64 f, .string k, .int .i64 mid, .float .f64 m] 35)) w.heap.size (pL a f k mid m) := At.new5 w _ _ _ _ _ _
  have HC : Gr w (w.alloc (.cells #[.float .f64 a, .float .f64 f, .string k, .int .i64 mid, .float .f64 m] 35)) := (Gr.refl w).alloc _
  generalize w.alloc (.cells #[.float .f64 a, .float .f64 f, .string k, .int .i64 mid, .float .f64 m] 35) = w1 at *
  go_region_held (fun w' => w'.cell? ⟨w.heap.size, 0, none⟩ = some (.float .f64 a) ∧ w'.cell? ⟨w.heap.size, 1, none⟩ = some (.float .f64 f) ∧ w'.cell? ⟨w.heap.size, 2, none⟩ = some (.string k) ∧ w'.cell? ⟨w.heap.size, 3, none⟩ = some (.int .i64 mid) ∧ w'.cell? ⟨w.heap.size, 4, none⟩ = some (.float .f64 m))
    (exact PA.c5)
    ((first
      | (go_at_call 48; refine (sin_any _ _).mono ?_; rintro x w3 ⟨rfl, hB3⟩; replace HC : Gr w w3 := Gr.step (by ((with_reducible repeat' (first | assumption | refine Gr.drewN ?_ _ | refine Gr.drew ?_ | refine Gr.alloc ?_ _ | exact Gr.refl _)); done)) hB3; replace PA : At w3 w.heap.size (pL a f k mid m) := At.below hB3 PA; clear hB3)
      | (go_at_call 97; refine (belt_any _ _ _ hf _).mono ?_; rintro x w4 ⟨b, rfl, hb, hB4⟩; replace HC : Gr w w4 := Gr.step (by ((with_reducible repeat' (first | assumption | refine Gr.drewN ?_ _ | refine Gr.drew ?_ | refine Gr.alloc ?_ _ | exact Gr.refl _)); done)) hB4; replace PA : At w4 w.heap.size (pL a f k mid m) := At.below hB4 PA; clear hB4)))
  all_goals
    go_wp2
    go_ret
    exact ⟨_, rfl, gq _ _ _ _ _ (gm _ _ _ _ _ (gq _ _ _ _ _ (gsm _) (gsm _)).1 hb.1).1 (gsm _), by ((with_reducible repeat' (first | assumption | refine Gr.drewN ?_ _ | refine Gr.drew ?_ | refine Gr.alloc ?_ _ | exact Gr.refl _)); done)⟩
end Go.Proofs.YtkebgnemccaimaaGreatDoor
