/-
  flat: aside, fromPole; mercatorref2: upOf, downOf.
-/
import Derived.Test.YtinopkmcddjgdaaGreatDoorQFtC
namespace Go.Proofs.YtinopkmcddjgdaaGreatDoor
open Go.RowKit FB
attribute [local go_sem] run_store_float

theorem hnegA (x : Nat) (w : World) : (Op.unary .neg (.float .f64 x)).run Tryz.prog w = .ok (.float .f64 (Op.negFloat .f64 x)) w := rfl
def liO (n : Int) : Option Nat := oM (some (floatOfInt .f64 (sgn n))) (some 4445950764994258515)
def asO (a m : Nat) (n : Int) : Option Nat := oM (raO a m) (liO n)
noncomputable def dnO (a m f : Nat) (n : Int) : Option Nat := oD (oM (oM (some twoW) (raO a m)) (oX (oN (isO f n)))) (poO f)
theorem upOf_any (a f m : Nat) (k : ByteArray) (mid n : Int) (hf : Le 1021 f) (w : World) : Calls Tryz.prog 105 #[pV a f k mid m, .int .i64 n] w fun x w' => ∃ r, x = .returned (.float .f64 r) ∧ GW (upS a m f (sinV (nrm n))) r ∧ Gr w w' := by
  obtain ⟨mF, aF, sF, qF, mD, aD, sD, qD, hm, ha, hss, hq, gm, ga, gs, gq⟩ := ops
  go_enter Tryz.func105, Tryz.ntmps105
  go_upto_region 1 with fail
  have PA : At (w.alloc (.cells #[.float .f64 a, .float .f64 f, .string k, .int .i64 mid, .float .f64 m] 120)) w.heap.size (pL a f k mid m) := At.new5 w _ _ _ _ _ _
  have HC : Gr w (w.alloc (.cells #[.float .f64 a, .float .f64 f, .string k, .int .i64 mid, .float .f64 m] 120)) := (Gr.refl w).alloc _
  generalize w.alloc (.cells #[.float .f64 a, .float .f64 f, .string k, .int .i64 mid, .float .f64 m] 120) = w1 at *
  go_wp2_with fail
  refine (sinCos_any _ _).mono ?_
  rintro x w3 ⟨rfl, rfl⟩
  obtain ⟨s, hs⟩ : ∃ s, sinV (nrm n) = s := ⟨_, rfl⟩
  obtain ⟨c, hc⟩ : ∃ s, cosV (nrm n) = s := ⟨_, rfl⟩
  rw [hs, hc]
  have HS := hid hs
  clear hs hc
  obtain ⟨c0, c1, c2, c3, c4⟩ := PA.c5
  go_wp2_with fail
  refine (squareOf_any a f hf _).mono ?_
  rintro x w2 ⟨rfl, hB⟩
  replace HC : Gr w w2 := Gr.step (by ((with_reducible repeat' (first | assumption | refine Gr.drewN ?_ _ | refine Gr.drew ?_ | refine Gr.alloc ?_ _ | exact Gr.refl _)); done)) hB
  replace PA : At w2 w.heap.size (pL a f k mid m) := At.below hB PA
  clear hB c0 c1 c2 c3 c4
  go_wp2_with fail
  refine (sqrtO (some (eOf f)) _ rfl _).mono ?_
  rintro x w4 ⟨e, d, rfl, he, rfl⟩
  replace HC := HC.drewN d
  replace PA := PA.drewN d
  generalize w2.drewN d = w4 at HC PA ⊢
  clear w2
  obtain ⟨c0, c1, c2, c3, c4⟩ := PA.c5
  have HZ := hid (isZ_got he.1)
  cases hz : (FloatKind.f64.format.order e 0 != some Ordering.eq) with
  | false =>
    go_wp2
    go_ret
    refine ⟨_, rfl, ?_, by ((with_reducible repeat' (first | assumption | refine Gr.drewN ?_ _ | refine Gr.drew ?_ | refine Gr.alloc ?_ _ | exact Gr.refl _)); done)⟩
    have hz' : isZ e = true := by
      unfold isZ
      cases h : (FloatKind.f64.format.order e 0 == some Ordering.eq) with
      | true => rfl
      | false => rw [bne, h] at hz; cases hz
    unfold upS beS
    rw [HS.out, if_pos (show isZO (rtO f) = true from HZ.out.symm.trans hz')]
    exact gq _ _ _ _ _ (gm _ _ _ _ _ (gq _ _ _ _ _ (gsm _) (gsm _)).1 (gm _ _ _ _ _ (gsm _) (gsm _)).1).1 (gsm _)
  | true =>
    have hz' : isZ e = false := by
      unfold isZ
      cases h : (FloatKind.f64.format.order e 0 == some Ordering.eq) with
      | false => rfl
      | true => rw [bne, h] at hz; cases hz
    have HZ' := hid hz'
    clear hz'
    go_wp2_with fail
    refine (less_any (some oneW) (oM (some (eOf f)) (some s)) (some s) _ _ _ (gsm _) (gm _ _ _ _ _ (gsm _) (gsm _)).1 (gsm _) _).mono ?_
    rintro x w5 ⟨t, rfl, ht, hB⟩
    replace HC : Gr w w5 := Gr.step (by ((with_reducible repeat' (first | assumption | refine Gr.drewN ?_ _ | refine Gr.drew ?_ | refine Gr.alloc ?_ _ | exact Gr.refl _)); done)) hB
    replace PA : At w5 w.heap.size (pL a f k mid m) := At.below hB PA
    clear hB c0 c1 c2 c3 c4
    go_wp2_with fail
    refine (tanhBack_any (oM (rtO f) (some s)) _ (gm _ _ _ _ _ he.1 (gsm _)).1 _).mono ?_
    rintro x w6 ⟨l, rfl, hl, hB⟩
    replace HC : Gr w w6 := Gr.step (by ((with_reducible repeat' (first | assumption | refine Gr.drewN ?_ _ | refine Gr.drew ?_ | refine Gr.alloc ?_ _ | exact Gr.refl _)); done)) hB
    replace PA : At w6 w.heap.size (pL a f k mid m) := At.below hB PA
    clear hB
    obtain ⟨c0, c1, c2, c3, c4⟩ := PA.c5
    go_wp2
    go_ret
    refine ⟨_, rfl, ?_, by ((with_reducible repeat' (first | assumption | refine Gr.drewN ?_ _ | refine Gr.drew ?_ | refine Gr.alloc ?_ _ | exact Gr.refl _)); done)⟩
    unfold upS beS
    rw [HS.out, if_neg (show ¬ isZO (rtO f) = true by rw [show isZO (rtO f) = false from HZ.out.symm.trans HZ'.out]; decide)]
    exact gq _ _ _ _ _ (gm _ _ _ _ _ (gq _ _ _ _ _ (gsm _) (gsm _)).1 (gm _ _ _ _ _ (gs _ _ _ _ _ (gsm _) (gsm _)).1 (ga _ _ _ _ _ (gq _ _ _ _ _ (gsm _) ht.1).1 (gq _ _ _ _ _ hl (gm _ _ _ _ _ (gsm _) he.1).1).1).1).1).1 (gsm _)
end Go.Proofs.YtinopkmcddjgdaaGreatDoor
