/-
  flat: aside, fromPole; mercatorref2: upOf, downOf.
-/
import Derived.Test.YtkebgnemccaimaaGreatDoorQFtC
namespace Go.Proofs.YtkebgnemccaimaaGreatDoor
open Go.RowKit FB
attribute [local go_sem] run_store_float

theorem hnegA (x : Nat) (w : World) : (Op.unary .neg (.float .f64 x)).run Tryz.prog w = .ok (.float .f64 (Op.negFloat .f64 x)) w := rfl
def liO (n : Int) : Option Nat := oM (some (floatOfInt .f64 (sgn n))) (some 4445950764994258515)
def asO (a m : Nat) (n : Int) : Option Nat := oM (raO a m) (liO n)
noncomputable def dnO (a m f : Nat) (n : Int) : Option Nat := oD (oM (oM (some twoW) (raO a m)) (oX (oN (isO f n)))) (poO f)
theorem aside_any (a f m : Nat) (k : ByteArray) (mid n : Int) (w : World) : Calls Tryz.prog 44 #[pV a f k mid m, .int .i64 n] w fun x w' => ∃ r, x = .returned (.float .f64 r) ∧ GW (asO a m n) r ∧ Gr w w' := by
  obtain ⟨mF, aF, sF, qF, mD, aD, sD, qD, hm, ha, hss, hq, gm, ga, gs, gq⟩ := ops
  go_enter Tryz.func44, Tryz.ntmps44
  go_wp2_with fail
  refine (radius_any _ _ _ _ _ _).mono ?_
  rintro x w1 ⟨r, rfl, hr, hB⟩
  have HC : Gr w w1 := Gr.step (by ((with_reducible repeat' (first | assumption | refine Gr.drewN ?_ _ | refine Gr.drew ?_ | refine Gr.alloc ?_ _ | exact Gr.refl _)); done)) hB
  clear hB
  go_wp2_with fail
  refine (signed_any _ _).mono ?_
  rintro x w2 ⟨rfl, rfl⟩
  obtain ⟨t, ht⟩ : ∃ t, sgn n = t := ⟨_, rfl⟩
  rw [ht]
  have HT := hid ht
  clear ht
  go_wp2
  go_ret
  refine ⟨_, rfl, ?_, by ((with_reducible repeat' (first | assumption | refine Gr.drewN ?_ _ | refine Gr.drew ?_ | refine Gr.alloc ?_ _ | exact Gr.refl _)); done)⟩
  unfold asO liO
  rw [HT.out]
  exact gm _ _ _ _ _ hr.1 (gm _ _ _ _ _ (gsm _) (gsm _)).1
set_option maxHeartbeats 2000000 in
theorem fromPole_any (a f m : Nat) (k : ByteArray) (mid n : Int) (hf : Le 1021 f) (w : World) : Calls Tryz.prog 47 #[pV a f k mid m, .int .i64 n] w fun x w' => ∃ r, x = .returned (.float .f64 r) ∧ GW (dnO a m f n) r ∧ Gr w w' := by
  obtain ⟨mF, aF, sF, qF, mD, aD, sD, qD, hm, ha, hss, hq, gm, ga, gs, gq⟩ := ops
  have hng := hnegA
  go_enter Tryz.func47, Tryz.ntmps47
  go_upto_region 1 with fail
  have PA : At (w.alloc (.cells #[.float .f64 a, .float .f64 f, .string k, .int .i64 mid, .float .f64 m] 35)) w.heap.size (pL a f k mid m) := At.new5 w _ _ _ _ _ _
  have HC : Gr w (w.alloc (.cells #[.float .f64 a, .float .f64 f, .string k, .int .i64 mid, .float .f64 m] 35)) := (Gr.refl w).alloc _
  generalize w.alloc (.cells #[.float .f64 a, .float .f64 f, .string k, .int .i64 mid, .float .f64 m] 35) = w1 at *
  go_region_held (fun w' => w'.cell? ⟨w.heap.size, 0, none⟩ = some (.float .f64 a) ∧ w'.cell? ⟨w.heap.size, 1, none⟩ = some (.float .f64 f) ∧ w'.cell? ⟨w.heap.size, 2, none⟩ = some (.string k) ∧ w'.cell? ⟨w.heap.size, 3, none⟩ = some (.int .i64 mid) ∧ w'.cell? ⟨w.heap.size, 4, none⟩ = some (.float .f64 m))
    (exact PA.c5)
    ((first
      | (go_at_call 45; refine (radius_any _ _ _ _ _ _).mono ?_; rintro x w3 ⟨r, rfl, hr, hB3⟩; replace HC : Gr w w3 := Gr.step (by ((with_reducible repeat' (first | assumption | refine Gr.drewN ?_ _ | refine Gr.drew ?_ | refine Gr.alloc ?_ _ | exact Gr.refl _)); done)) hB3; replace PA : At w3 w.heap.size (pL a f k mid m) := At.below hB3 PA; clear hB3)
      | (go_at_call 20; refine (iso_any _ _ _ hf _).mono ?_; rintro x w4 ⟨i, rfl, hi, hB4⟩; replace HC : Gr w w4 := Gr.step (by ((with_reducible repeat' (first | assumption | refine Gr.drewN ?_ _ | refine Gr.drew ?_ | refine Gr.alloc ?_ _ | exact Gr.refl _)); done)) hB4; replace PA : At w4 w.heap.size (pL a f k mid m) := At.below hB4 PA; clear hB4)
      | (go_at_call 98; refine (expNP _ _ hi _).mono ?_; rintro x w5 ⟨b, rfl, hb, hB5⟩; replace HC : Gr w w5 := Gr.step (by ((with_reducible repeat' (first | assumption | refine Gr.drewN ?_ _ | refine Gr.drew ?_ | refine Gr.alloc ?_ _ | exact Gr.refl _)); done)) hB5; replace PA : At w5 w.heap.size (pL a f k mid m) := At.below hB5 PA; clear hB5)
      | (go_at_call 63; refine (squeeze_any _ _ _ _ _ hf _).mono ?_; rintro x w6 ⟨q, rfl, hp, hB6⟩; replace HC : Gr w w6 := Gr.step (by ((with_reducible repeat' (first | assumption | refine Gr.drewN ?_ _ | refine Gr.drew ?_ | refine Gr.alloc ?_ _ | exact Gr.refl _)); done)) hB6; replace PA : At w6 w.heap.size (pL a f k mid m) := At.below hB6 PA; clear hB6)))
  all_goals
    go_wp2
    go_ret
    exact ⟨_, rfl, gq _ _ _ _ _ (gm _ _ _ _ _ (gm _ _ _ _ _ (gsm _) hr.1).1 hb).1 hp, by ((with_reducible repeat' (first | assumption | refine Gr.drewN ?_ _ | refine Gr.drew ?_ | refine Gr.alloc ?_ _ | exact Gr.refl _)); done)⟩
set_option maxHeartbeats 2000000 in
theorem downOf_any (a f m : Nat) (k : ByteArray) (mid n : Int) (hf : Le 1021 f) (w : World) : Calls Tryz.prog 52 #[pV a f k mid m, .int .i64 n] w fun x w' => ∃ r, x = .returned (.float .f64 r) ∧ GW (dnO a m f n) r ∧ Gr w w' := by
  obtain ⟨mF, aF, sF, qF, mD, aD, sD, qD, hm, ha, hss, hq, gm, ga, gs, gq⟩ := ops
  have hng := hnegA
  go_enter Tryz.func52, Tryz.ntmps52
  go_upto_region 1 with fail
  have PA : At (w.alloc (.cells #[.float .f64 a, .float .f64 f, .string k, .int .i64 mid, .float .f64 m] 26)) w.heap.size (pL a f k mid m) := At.new5 w _ _ _ _ _ _
  have HC : Gr w (w.alloc (.cells #[.float .f64 a, .float .f64 f, .string k, .int .i64 mid, .float .f64 m] 26)) := (Gr.refl w).alloc _
  generalize w.alloc (.cells #[.float .f64 a, .float .f64 f, .string k, .int .i64 mid, .float .f64 m] 26) = w1 at *
  obtain ⟨c0, c1, c2, c3, c4⟩ := PA.c5
  go_upto_region 3 with fail
  have g1 : Got (oM (some twoW) (raO a m)) (mF twoW (mF a m w1) (w1.drewN (mD a m))) := (gm _ _ _ _ _ (gsm _) (gm _ _ _ _ _ (gsm _) (gsm _)).1).1
  generalize mF twoW (mF a m w1) (w1.drewN (mD a m)) = z at g1 ⊢
  generalize hw2 : World.drewN w1 _ = w2
  replace HC : Gr w w2 := by rw [← hw2]; exact HC.drewN _
  replace PA : At w2 w.heap.size (pL a f k mid m) := by rw [← hw2]; exact PA.drewN _
  clear hw2 c0 c1 c2 c3 c4
  go_region_held (fun w' => w'.cell? ⟨w.heap.size, 0, none⟩ = some (.float .f64 a) ∧ w'.cell? ⟨w.heap.size, 1, none⟩ = some (.float .f64 f) ∧ w'.cell? ⟨w.heap.size, 2, none⟩ = some (.string k) ∧ w'.cell? ⟨w.heap.size, 3, none⟩ = some (.int .i64 mid) ∧ w'.cell? ⟨w.heap.size, 4, none⟩ = some (.float .f64 m))
    (exact PA.c5)
    ((first
      | (go_at_call 23; refine (isoOf_any _ _ _ hf _).mono ?_; rintro x w4 ⟨i, rfl, hi, hB4⟩; replace HC : Gr w w4 := Gr.step (by ((with_reducible repeat' (first | assumption | refine Gr.drewN ?_ _ | refine Gr.drew ?_ | refine Gr.alloc ?_ _ | exact Gr.refl _)); done)) hB4; replace PA : At w4 w.heap.size (pL a f k mid m) := At.below hB4 PA; clear hB4)
      | (go_at_call 86; refine (expR _ _ (got_neg hi) _).mono ?_; rintro x w5 ⟨b, rfl, hb, hB5⟩; replace HC : Gr w w5 := Gr.step (by ((with_reducible repeat' (first | assumption | refine Gr.drewN ?_ _ | refine Gr.drew ?_ | refine Gr.alloc ?_ _ | exact Gr.refl _)); done)) hB5; replace PA : At w5 w.heap.size (pL a f k mid m) := At.below hB5 PA; clear hB5)
      | (go_at_call 66; refine (poleOf_any _ _ hf _).mono ?_; rintro x w6 ⟨q, rfl, hp, hB6⟩; replace HC : Gr w w6 := Gr.step (by ((with_reducible repeat' (first | assumption | refine Gr.drewN ?_ _ | refine Gr.drew ?_ | refine Gr.alloc ?_ _ | exact Gr.refl _)); done)) hB6; replace PA : At w6 w.heap.size (pL a f k mid m) := At.below hB6 PA; clear hB6)))
  all_goals
    go_wp2
    go_ret
    exact ⟨_, rfl, gq _ _ _ _ _ (gm _ _ _ _ _ g1 hb).1 hp, by ((with_reducible repeat' (first | assumption | refine Gr.drewN ?_ _ | refine Gr.drew ?_ | refine Gr.alloc ?_ _ | exact Gr.refl _)); done)⟩
theorem upOf_any (a f m : Nat) (k : ByteArray) (mid n : Int) (hf : Le 1021 f) (w : World) : Calls Tryz.prog 55 #[pV a f k mid m, .int .i64 n] w fun x w' => ∃ r, x = .returned (.float .f64 r) ∧ GW (upS a m f (sinV (nrm n))) r ∧ Gr w w' := by
  obtain ⟨mF, aF, sF, qF, mD, aD, sD, qD, hm, ha, hss, hq, gm, ga, gs, gq⟩ := ops
  go_enter Tryz.func55, Tryz.ntmps55
  go_upto_region 1 with fail
  have PA : At (w.alloc (.cells #[.float .f64 a, .float .f64 f, .string k, .int .i64 mid, .float .f64 m] 26)) w.heap.size (pL a f k mid m) := At.new5 w _ _ _ _ _ _
  have HC : Gr w (w.alloc (.cells #[.float .f64 a, .float .f64 f, .string k, .int .i64 mid, .float .f64 m] 26)) := (Gr.refl w).alloc _
  generalize w.alloc (.cells #[.float .f64 a, .float .f64 f, .string k, .int .i64 mid, .float .f64 m] 26) = w1 at *
  go_wp2_with fail
  refine (sinCos_any _ _).mono ?_
  rintro x w3 ⟨rfl, rfl⟩
  obtain ⟨s, hs⟩ : ∃ s, sinV (nrm n) = s := ⟨_, rfl⟩
  obtain ⟨c, hc⟩ : ∃ s, cosV (nrm n) = s := ⟨_, rfl⟩
  rw [hs, hc]
  have HS := hid hs
  clear hs hc
  obtain ⟨c0, c1, c2, c3, c4⟩ := PA.c5
  go_wp2_with fail
  refine (squareOf_any a f hf _).mono ?_
  rintro x w2 ⟨rfl, hB⟩
  replace HC : Gr w w2 := Gr.step (by ((with_reducible repeat' (first | assumption | refine Gr.drewN ?_ _ | refine Gr.drew ?_ | refine Gr.alloc ?_ _ | exact Gr.refl _)); done)) hB
  replace PA : At w2 w.heap.size (pL a f k mid m) := At.below hB PA
  clear hB c0 c1 c2 c3 c4
  go_wp2_with fail
  refine (sqrtO (some (eOf f)) _ rfl _).mono ?_
  rintro x w4 ⟨e, d, rfl, he, rfl⟩
  replace HC := HC.drewN d
  replace PA := PA.drewN d
  generalize w2.drewN d = w4 at HC PA ⊢
  clear w2
  obtain ⟨c0, c1, c2, c3, c4⟩ := PA.c5
  have HZ := hid (isZ_got he.1)
  cases hz : (FloatKind.f64.format.order e 0 != some Ordering.eq) with
  | false =>
    go_wp2
    go_ret
    refine ⟨_, rfl, ?_, by ((with_reducible repeat' (first | assumption | refine Gr.drewN ?_ _ | refine Gr.drew ?_ | refine Gr.alloc ?_ _ | exact Gr.refl _)); done)⟩
    have hz' : isZ e = true := by
      unfold isZ
      cases h : (FloatKind.f64.format.order e 0 == some Ordering.eq) with
      | true => rfl
      | false => rw [bne, h] at hz; cases hz
    unfold upS beS
    rw [HS.out, if_pos (show isZO (rtO f) = true from HZ.out.symm.trans hz')]
    exact gq _ _ _ _ _ (gm _ _ _ _ _ (gq _ _ _ _ _ (gsm _) (gsm _)).1 (gm _ _ _ _ _ (gsm _) (gsm _)).1).1 (gsm _)
  | true =>
    have hz' : isZ e = false := by
      unfold isZ
      cases h : (FloatKind.f64.format.order e 0 == some Ordering.eq) with
      | false => rfl
      | true => rw [bne, h] at hz; cases hz
    have HZ' := hid hz'
    clear hz'
    go_wp2_with fail
    refine (less_any (some oneW) (oM (some (eOf f)) (some s)) (some s) _ _ _ (gsm _) (gm _ _ _ _ _ (gsm _) (gsm _)).1 (gsm _) _).mono ?_
    rintro x w5 ⟨t, rfl, ht, hB⟩
    replace HC : Gr w w5 := Gr.step (by ((with_reducible repeat' (first | assumption | refine Gr.drewN ?_ _ | refine Gr.drew ?_ | refine Gr.alloc ?_ _ | exact Gr.refl _)); done)) hB
    replace PA : At w5 w.heap.size (pL a f k mid m) := At.below hB PA
    clear hB c0 c1 c2 c3 c4
    go_wp2_with fail
    refine (tanhBack_any (oM (rtO f) (some s)) _ (gm _ _ _ _ _ he.1 (gsm _)).1 _).mono ?_
    rintro x w6 ⟨l, rfl, hl, hB⟩
    replace HC : Gr w w6 := Gr.step (by ((with_reducible repeat' (first | assumption | refine Gr.drewN ?_ _ | refine Gr.drew ?_ | refine Gr.alloc ?_ _ | exact Gr.refl _)); done)) hB
    replace PA : At w6 w.heap.size (pL a f k mid m) := At.below hB PA
    clear hB
    obtain ⟨c0, c1, c2, c3, c4⟩ := PA.c5
    go_wp2
    go_ret
    refine ⟨_, rfl, ?_, by ((with_reducible repeat' (first | assumption | refine Gr.drewN ?_ _ | refine Gr.drew ?_ | refine Gr.alloc ?_ _ | exact Gr.refl _)); done)⟩
    unfold upS beS
    rw [HS.out, if_neg (show ¬ isZO (rtO f) = true by rw [show isZO (rtO f) = false from HZ.out.symm.trans HZ'.out]; decide)]
    exact gq _ _ _ _ _ (gm _ _ _ _ _ (gq _ _ _ _ _ (gsm _) (gsm _)).1 (gm _ _ _ _ _ (gs _ _ _ _ _ (gsm _) (gsm _)).1 (ga _ _ _ _ _ (gq _ _ _ _ _ (gsm _) ht.1).1 (gq _ _ _ _ _ hl (gm _ _ _ _ _ (gsm _) he.1).1).1).1).1).1 (gsm _)
end Go.Proofs.YtkebgnemccaimaaGreatDoor
