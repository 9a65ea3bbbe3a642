/-
  flat: From.
-/
import Derived.Test.YtkebgnemccaimaaGreatDoorQFfC
namespace Go.Proofs.YtkebgnemccaimaaGreatDoor
open Go.RowKit FB
attribute [local go_sem] run_store_float

theorem ang_bd (y x : Nat) : 0 ≤ (angV y x).1 ∧ (angV y x).1 ≤ 360000000000 := by
  have h := quarter_bd (absB y) (absB x)
  unfold angV
  generalize quarter (absB y) (absB x) = q at h ⊢
  have h2 := nrm_lt (360000000000 - q)
  generalize nrm (360000000000 - q) = r at h2 ⊢
  split
  · simp only; omega
  · split
    · simp only; omega
    · split
      · simp only; omega
      · split
        · simp only; omega
        · simp only; omega
theorem whole_bd2 (x : Nat) : -9000000000000000000 ≤ whole x ∧ whole x ≤ 9000000000000000000 := by
  cases hr : Ieee.double.read x with
  | nan s t => rw [whole_nan ⟨s, t, hr⟩]; omega
  | infinity s => rw [whole_inf hr]; omega
  | number s m e =>
    by_cases he : e < 0
    · rw [whole_small hr he, signed_zero_up]
      have := cut_small (m := m) (k := (-e).toNat) .even s (num_bd hr).1 (by omega) (.inl rfl)
      split <;> omega
    · rw [whole_great hr (by omega)]
      cases hf : farW x with
      | true => rw [if_pos rfl]; omega
      | false => rw [if_neg (by decide)]; exact order_far hr (by omega) hf
theorem nrI_bd (o : Option Nat) : -9000000000000000000 ≤ nrI o ∧ nrI o ≤ 9000000000000000000 := by
  cases o with
  | none => exact ⟨by decide, by decide⟩
  | some x => exact whole_bd2 x
theorem wrap_mid {mid n : Int} (h : -9000000000000000000 ≤ n ∧ n ≤ 9000000000000000000) : IntKind.i64.wrap (nrm mid + n) = nrm mid + n := by
  have := nrm_lt mid
  simp [IntKind.wrap, IntKind.signed, IntKind.bits]
  omega

/-- How far east of the middle a point is; how far from the pole; its latitude. -/
def eaI (a m x y : Nat) (k : ByteArray) : Int := if kd k = 2 then (angV x (Op.negFloat .f64 y)).1 else nrI (oD (lO a m x) (some radW))
def diO (x y : Nat) : Option Nat := oQ (oA (oM (some x) (some x)) (oM (some y) (some y)))
noncomputable def goO (a f m x y : Nat) : Option Nat := oN (oL (oD (oM (diO x y) (poO f)) (oM (some twoW) (raO a m))))
noncomputable def laI (a f m x y : Nat) (k : ByteArray) : Int :=
  if kd k = 0 then srch (fun m' => leO (isO f m') (oD (some y) (raO a m)))
  else if kd k = 1 then srch (fun m' => leO (upS a m f (sinV (nrm m'))) (some y))
  else srch (fun m' => leO (isO f m') (goO a f m x y))
theorem ea_bd (a m x y : Nat) (k : ByteArray) : -9000000000000000000 ≤ eaI a m x y k ∧ eaI a m x y k ≤ 9000000000000000000 := by
  unfold eaI
  split
  · have := ang_bd x (Op.negFloat .f64 y); omega
  · exact nrI_bd _
abbrev plV (lon lat : Int) : Value := .agg #[.int .i64 lon, .int .i64 lat]

theorem holds_at (g : Nat → Addr) (a f m x y : Nat) (k : ByteArray) (mid : Int) (w : World) (hl : Laid w g) : Calls Tryz.prog 56 #[pV a f k mid m, fV x y] w fun e w' => e = .returned (evOf g (hcode a f k m x y)) ∧ Gr w w' := by
  by_cases hp : pcode a f k m = 0
  · exact holds_ok g a f m x y k mid hp w hl
  · have e : hcode a f k m x y = pcode a f k m := by unfold hcode; rw [if_neg hp]
    have hi : ∃ i, evOf g (pcode a f k m) = errV g i := by
      unfold evOf
      rw [if_neg hp]
      exact ⟨_, rfl⟩
    obtain ⟨i, hi⟩ := hi
    rw [e, hi]
    exact holds_no g a f m x y i k mid hi w hl
set_option maxHeartbeats 2000000 in
theorem from_no (g : Nat → Addr) (a f m x y i : Nat) (k : ByteArray) (mid : Int) (hp : evOf g (hcode a f k m x y) = errV g i) (w : World) (hl : Laid w g) : Calls Tryz.prog 17 #[pV a f k mid m, fV x y] w fun e w' => e = .returned (.tuple #[plV 0 0, errV g i]) ∧ Gr w w' := by
  have HL := hid hl
  have HV := hid (fun w hl => holds_at g a f m x y k mid w hl)
  rw [hp] at HV
  clear hl hp
  go_enter Tryz.func17, Tryz.ntmps17
  go_wp2_with fail
  refine (HV.out _ (HL.out.below (Gr.out (by ((with_reducible repeat' (first | assumption | refine Gr.drew ?_ | refine Gr.drewN ?_ _ | refine Gr.alloc ?_ _ | refine Gr.set ?_ (by first | omega | (simp; omega)) _ _ | exact Gr.refl _)); done))))).mono ?_
  rintro e w1 ⟨rfl, hB⟩
  have RA : At w1 (w.heap.size + 1 + 1) (aL 0 0) := At.below hB (by ((with_reducible repeat' (first | assumption | exact At.new1 _ _ _ | exact At.new2 _ _ _ _ | exact At.new3 _ _ _ _ _ | exact At.new5 _ _ _ _ _ _ _ | exact At.nx1 _ _ _ | exact At.nx2 _ _ _ _ | exact At.nx3 _ _ _ _ _ | exact At.ny1 _ _ _ _ | exact At.ny2 _ _ _ _ _ | exact At.ny3 _ _ _ _ _ _ | exact At.nz1 _ _ _ _ _ | exact At.nz2 _ _ _ _ _ _ | exact At.nz3 _ _ _ _ _ _ _ | exact Has.new1 _ _ _ | exact Has.new2 _ _ _ _ | exact Has.new3 _ _ _ _ _ | exact Has.nx1 _ _ _ | exact Has.nx2 _ _ _ _ | exact Has.nx3 _ _ _ _ _ | exact Has.ny1 _ _ _ _ | exact Has.ny2 _ _ _ _ _ | exact Has.ny3 _ _ _ _ _ _ | exact Has.nz1 _ _ _ _ _ | exact Has.nz2 _ _ _ _ _ _ | exact Has.nz3 _ _ _ _ _ _ _ | refine At.fill1 ?_ _ | refine At.fill2 ?_ _ _ | refine At.fill3 ?_ _ _ _ | refine At.swap ?_ (by first | omega | (simp; omega)) _ _ | refine At.alloc ?_ _ | refine At.drew ?_ | refine At.drewN ?_ _ | refine At.skip ?_ (by first | omega | (simp; omega)) _ _ | refine At.below (by assumption) ?_ | refine Has.alloc ?_ _ | refine Has.drew ?_ | refine Has.drewN ?_ _ | refine Has.set ?_ _ _ _ | refine Has.below (by assumption) ?_)); done))
  have HC : Gr w w1 := Gr.step (by ((with_reducible repeat' (first | assumption | refine Gr.drew ?_ | refine Gr.drewN ?_ _ | refine Gr.alloc ?_ _ | refine Gr.set ?_ (by first | omega | (simp; omega)) _ _ | exact Gr.refl _)); done)) hB
  clear hB
  obtain ⟨r0, r1⟩ := RA.c2
  obtain ⟨f0, f1⟩ := RA.f2
  go_wp2
  exact bodyPost_ret (v := .tuple #[plV 0 0, errV g i]) (by simp [results, Tryz.results17, go_sem, r0, r1]) rfl ⟨rfl, by ((with_reducible repeat' (first | assumption | refine Gr.drew ?_ | refine Gr.drewN ?_ _ | refine Gr.alloc ?_ _ | refine Gr.set ?_ (by first | omega | (simp; omega)) _ _ | exact Gr.refl _)); done)⟩

set_option maxHeartbeats 8000000 in
theorem from_k0 (g : Nat → Addr) (a f m x y : Nat) (k : ByteArray) (mid : Int) (hf : Le 1021 f) (hp : hcode a f k m x y = 0) (hk : Kd k true false false) (hkd : kd k = 0) (w : World) (hl : Laid w g) : Calls Tryz.prog 17 #[pV a f k mid m, fV x y] w fun e w' => e = .returned (.tuple #[plV (sgn (nrm mid + eaI a m x y k)) (laI a f m x y k), .nilIface]) ∧ Gr w w' := by
  obtain ⟨mF, aF, sF, qF, mD, aD, sD, qD, hm, ha, hss, hq, gm, ga, gs, gq⟩ := ops
  have HL := hid hl
  have HV := hid (fun w hl => holds_at g a f m x y k mid w hl)
  rw [hp] at HV
  have HE : Hid (eaI a m x y k = nrI (oD (lO a m x) (some radW))) := by unfold eaI Hid; rw [hkd, if_neg (by decide)]
  have HA : Hid (laI a f m x y k = srch (fun m' => leO (isO f m') (oD (some y) (raO a m)))) := by unfold laI Hid; rw [hkd, if_pos rfl]
  have hw := wrap_mid (mid := mid) (ea_bd a m x y k)
  generalize eaI a m x y k = ea at HE hw ⊢
  generalize laI a f m x y k = la at HA ⊢
  obtain ⟨t0, t1, t2⟩ := hk
  clear hl hp hkd
  go_enter Tryz.func17, Tryz.ntmps17
  go_wp2_with fail
  refine (HV.out _ (HL.out.below (Gr.out (by ((with_reducible repeat' (first | assumption | refine Gr.drew ?_ | refine Gr.drewN ?_ _ | refine Gr.alloc ?_ _ | refine Gr.set ?_ (by first | omega | (simp; omega)) _ _ | exact Gr.refl _)); done))))).mono ?_
  rintro e w1 ⟨rfl, hB⟩
  have PA : At w1 w.heap.size (pL a f k mid m) := At.below hB (by ((with_reducible repeat' (first | assumption | exact At.new1 _ _ _ | exact At.new2 _ _ _ _ | exact At.new3 _ _ _ _ _ | exact At.new5 _ _ _ _ _ _ _ | exact At.nx1 _ _ _ | exact At.nx2 _ _ _ _ | exact At.nx3 _ _ _ _ _ | exact At.ny1 _ _ _ _ | exact At.ny2 _ _ _ _ _ | exact At.ny3 _ _ _ _ _ _ | exact At.nz1 _ _ _ _ _ | exact At.nz2 _ _ _ _ _ _ | exact At.nz3 _ _ _ _ _ _ _ | exact Has.new1 _ _ _ | exact Has.new2 _ _ _ _ | exact Has.new3 _ _ _ _ _ | exact Has.nx1 _ _ _ | exact Has.nx2 _ _ _ _ | exact Has.nx3 _ _ _ _ _ | exact Has.ny1 _ _ _ _ | exact Has.ny2 _ _ _ _ _ | exact Has.ny3 _ _ _ _ _ _ | exact Has.nz1 _ _ _ _ _ | exact Has.nz2 _ _ _ _ _ _ | exact Has.nz3 _ _ _ _ _ _ _ | refine At.fill1 ?_ _ | refine At.fill2 ?_ _ _ | refine At.fill3 ?_ _ _ _ | refine At.swap ?_ (by first | omega | (simp; omega)) _ _ | refine At.alloc ?_ _ | refine At.drew ?_ | refine At.drewN ?_ _ | refine At.skip ?_ (by first | omega | (simp; omega)) _ _ | refine At.below (by assumption) ?_ | refine Has.alloc ?_ _ | refine Has.drew ?_ | refine Has.drewN ?_ _ | refine Has.set ?_ _ _ _ | refine Has.below (by assumption) ?_)); done))
  have QA : At w1 (w.heap.size + 1) (fL x y) := At.below hB (by ((with_reducible repeat' (first | assumption | exact At.new1 _ _ _ | exact At.new2 _ _ _ _ | exact At.new3 _ _ _ _ _ | exact At.new5 _ _ _ _ _ _ _ | exact At.nx1 _ _ _ | exact At.nx2 _ _ _ _ | exact At.nx3 _ _ _ _ _ | exact At.ny1 _ _ _ _ | exact At.ny2 _ _ _ _ _ | exact At.ny3 _ _ _ _ _ _ | exact At.nz1 _ _ _ _ _ | exact At.nz2 _ _ _ _ _ _ | exact At.nz3 _ _ _ _ _ _ _ | exact Has.new1 _ _ _ | exact Has.new2 _ _ _ _ | exact Has.new3 _ _ _ _ _ | exact Has.nx1 _ _ _ | exact Has.nx2 _ _ _ _ | exact Has.nx3 _ _ _ _ _ | exact Has.ny1 _ _ _ _ | exact Has.ny2 _ _ _ _ _ | exact Has.ny3 _ _ _ _ _ _ | exact Has.nz1 _ _ _ _ _ | exact Has.nz2 _ _ _ _ _ _ | exact Has.nz3 _ _ _ _ _ _ _ | refine At.fill1 ?_ _ | refine At.fill2 ?_ _ _ | refine At.fill3 ?_ _ _ _ | refine At.swap ?_ (by first | omega | (simp; omega)) _ _ | refine At.alloc ?_ _ | refine At.drew ?_ | refine At.drewN ?_ _ | refine At.skip ?_ (by first | omega | (simp; omega)) _ _ | refine At.below (by assumption) ?_ | refine Has.alloc ?_ _ | refine Has.drew ?_ | refine Has.drewN ?_ _ | refine Has.set ?_ _ _ _ | refine Has.below (by assumption) ?_)); done))
  have RA : At w1 (w.heap.size + 1 + 1) (aL 0 0) := At.below hB (by ((with_reducible repeat' (first | assumption | exact At.new1 _ _ _ | exact At.new2 _ _ _ _ | exact At.new3 _ _ _ _ _ | exact At.new5 _ _ _ _ _ _ _ | exact At.nx1 _ _ _ | exact At.nx2 _ _ _ _ | exact At.nx3 _ _ _ _ _ | exact At.ny1 _ _ _ _ | exact At.ny2 _ _ _ _ _ | exact At.ny3 _ _ _ _ _ _ | exact At.nz1 _ _ _ _ _ | exact At.nz2 _ _ _ _ _ _ | exact At.nz3 _ _ _ _ _ _ _ | exact Has.new1 _ _ _ | exact Has.new2 _ _ _ _ | exact Has.new3 _ _ _ _ _ | exact Has.nx1 _ _ _ | exact Has.nx2 _ _ _ _ | exact Has.nx3 _ _ _ _ _ | exact Has.ny1 _ _ _ _ | exact Has.ny2 _ _ _ _ _ | exact Has.ny3 _ _ _ _ _ _ | exact Has.nz1 _ _ _ _ _ | exact Has.nz2 _ _ _ _ _ _ | exact Has.nz3 _ _ _ _ _ _ _ | refine At.fill1 ?_ _ | refine At.fill2 ?_ _ _ | refine At.fill3 ?_ _ _ _ | refine At.swap ?_ (by first | omega | (simp; omega)) _ _ | refine At.alloc ?_ _ | refine At.drew ?_ | refine At.drewN ?_ _ | refine At.skip ?_ (by first | omega | (simp; omega)) _ _ | refine At.below (by assumption) ?_ | refine Has.alloc ?_ _ | refine Has.drew ?_ | refine Has.drewN ?_ _ | refine Has.set ?_ _ _ _ | refine Has.below (by assumption) ?_)); done))
  have HC : Gr w w1 := Gr.step (by ((with_reducible repeat' (first | assumption | refine Gr.drew ?_ | refine Gr.drewN ?_ _ | refine Gr.alloc ?_ _ | refine Gr.set ?_ (by first | omega | (simp; omega)) _ _ | exact Gr.refl _)); done)) hB
  clear hB HV HL
  rw [show evOf g 0 = .nilIface from rfl]
  obtain ⟨c0, c1, c2, c3, c4⟩ := PA.c5
  go_upto_region 7 with fail
  clear c0 c1 c2 c3 c4
  go_region_held (fun w' => w'.cell? ⟨w.heap.size, 0, none⟩ = some (.float .f64 a) ∧ w'.cell? ⟨w.heap.size, 1, none⟩ = some (.float .f64 f) ∧ w'.cell? ⟨w.heap.size, 2, none⟩ = some (.string k) ∧ w'.cell? ⟨w.heap.size, 3, none⟩ = some (.int .i64 mid) ∧ w'.cell? ⟨w.heap.size, 4, none⟩ = some (.float .f64 m) ∧ w'.cell? ⟨w.heap.size + 1, 0, none⟩ = some (.float .f64 x) ∧ w'.cell? ⟨w.heap.size + 1, 1, none⟩ = some (.float .f64 y))
    ((refine c52 (a := .float .f64 a) (b := .float .f64 f) (c := .string k) (d := .int .i64 mid) (e := .float .f64 m) (x := .float .f64 x) (y := .float .f64 y) ?_ ?_; all_goals ((with_reducible repeat' (first | assumption | exact At.new1 _ _ _ | exact At.new2 _ _ _ _ | exact At.new3 _ _ _ _ _ | exact At.new5 _ _ _ _ _ _ _ | exact At.nx1 _ _ _ | exact At.nx2 _ _ _ _ | exact At.nx3 _ _ _ _ _ | exact At.ny1 _ _ _ _ | exact At.ny2 _ _ _ _ _ | exact At.ny3 _ _ _ _ _ _ | exact At.nz1 _ _ _ _ _ | exact At.nz2 _ _ _ _ _ _ | exact At.nz3 _ _ _ _ _ _ _ | exact Has.new1 _ _ _ | exact Has.new2 _ _ _ _ | exact Has.new3 _ _ _ _ _ | exact Has.nx1 _ _ _ | exact Has.nx2 _ _ _ _ | exact Has.nx3 _ _ _ _ _ | exact Has.ny1 _ _ _ _ | exact Has.ny2 _ _ _ _ _ | exact Has.ny3 _ _ _ _ _ _ | exact Has.nz1 _ _ _ _ _ | exact Has.nz2 _ _ _ _ _ _ | exact Has.nz3 _ _ _ _ _ _ _ | refine At.fill1 ?_ _ | refine At.fill2 ?_ _ _ | refine At.fill3 ?_ _ _ _ | refine At.swap ?_ (by first | omega | (simp; omega)) _ _ | refine At.alloc ?_ _ | refine At.drew ?_ | refine At.drewN ?_ _ | refine At.skip ?_ (by first | omega | (simp; omega)) _ _ | refine At.below (by assumption) ?_ | refine Has.alloc ?_ _ | refine Has.drew ?_ | refine Has.drewN ?_ _ | refine Has.set ?_ _ _ _ | refine Has.below (by assumption) ?_)); done)))
    ((first
      | (go_at_call 45; refine (radius_any _ _ _ _ _ _).mono ?_; rintro e w4 ⟨rr, rfl, hr, hB3⟩; replace HC : Gr w w4 := Gr.step (by ((with_reducible repeat' (first | assumption | refine Gr.drew ?_ | refine Gr.drewN ?_ _ | refine Gr.alloc ?_ _ | refine Gr.set ?_ (by first | omega | (simp; omega)) _ _ | exact Gr.refl _)); done)) hB3; replace PA : At w4 w.heap.size (pL a f k mid m) := At.below hB3 (by ((with_reducible repeat' (first | assumption | exact At.new1 _ _ _ | exact At.new2 _ _ _ _ | exact At.new3 _ _ _ _ _ | exact At.new5 _ _ _ _ _ _ _ | exact At.nx1 _ _ _ | exact At.nx2 _ _ _ _ | exact At.nx3 _ _ _ _ _ | exact At.ny1 _ _ _ _ | exact At.ny2 _ _ _ _ _ | exact At.ny3 _ _ _ _ _ _ | exact At.nz1 _ _ _ _ _ | exact At.nz2 _ _ _ _ _ _ | exact At.nz3 _ _ _ _ _ _ _ | exact Has.new1 _ _ _ | exact Has.new2 _ _ _ _ | exact Has.new3 _ _ _ _ _ | exact Has.nx1 _ _ _ | exact Has.nx2 _ _ _ _ | exact Has.nx3 _ _ _ _ _ | exact Has.ny1 _ _ _ _ | exact Has.ny2 _ _ _ _ _ | exact Has.ny3 _ _ _ _ _ _ | exact Has.nz1 _ _ _ _ _ | exact Has.nz2 _ _ _ _ _ _ | exact Has.nz3 _ _ _ _ _ _ _ | refine At.fill1 ?_ _ | refine At.fill2 ?_ _ _ | refine At.fill3 ?_ _ _ _ | refine At.swap ?_ (by first | omega | (simp; omega)) _ _ | refine At.alloc ?_ _ | refine At.drew ?_ | refine At.drewN ?_ _ | refine At.skip ?_ (by first | omega | (simp; omega)) _ _ | refine At.below (by assumption) ?_ | refine Has.alloc ?_ _ | refine Has.drew ?_ | refine Has.drewN ?_ _ | refine Has.set ?_ _ _ _ | refine Has.below (by assumption) ?_)); done)); replace QA : At w4 (w.heap.size + 1) (fL x y) := At.below hB3 (by ((with_reducible repeat' (first | assumption | exact At.new1 _ _ _ | exact At.new2 _ _ _ _ | exact At.new3 _ _ _ _ _ | exact At.new5 _ _ _ _ _ _ _ | exact At.nx1 _ _ _ | exact At.nx2 _ _ _ _ | exact At.nx3 _ _ _ _ _ | exact At.ny1 _ _ _ _ | exact At.ny2 _ _ _ _ _ | exact At.ny3 _ _ _ _ _ _ | exact At.nz1 _ _ _ _ _ | exact At.nz2 _ _ _ _ _ _ | exact At.nz3 _ _ _ _ _ _ _ | exact Has.new1 _ _ _ | exact Has.new2 _ _ _ _ | exact Has.new3 _ _ _ _ _ | exact Has.nx1 _ _ _ | exact Has.nx2 _ _ _ _ | exact Has.nx3 _ _ _ _ _ | exact Has.ny1 _ _ _ _ | exact Has.ny2 _ _ _ _ _ | exact Has.ny3 _ _ _ _ _ _ | exact Has.nz1 _ _ _ _ _ | exact Has.nz2 _ _ _ _ _ _ | exact Has.nz3 _ _ _ _ _ _ _ | refine At.fill1 ?_ _ | refine At.fill2 ?_ _ _ | refine At.fill3 ?_ _ _ _ | refine At.swap ?_ (by first | omega | (simp; omega)) _ _ | refine At.alloc ?_ _ | refine At.drew ?_ | refine At.drewN ?_ _ | refine At.skip ?_ (by first | omega | (simp; omega)) _ _ | refine At.below (by assumption) ?_ | refine Has.alloc ?_ _ | refine Has.drew ?_ | refine Has.drewN ?_ _ | refine Has.set ?_ _ _ _ | refine Has.below (by assumption) ?_)); done)); replace RA : At w4 (w.heap.size + 1 + 1) (aL 0 0) := At.below hB3 (by ((with_reducible repeat' (first | assumption | exact At.new1 _ _ _ | exact At.new2 _ _ _ _ | exact At.new3 _ _ _ _ _ | exact At.new5 _ _ _ _ _ _ _ | exact At.nx1 _ _ _ | exact At.nx2 _ _ _ _ | exact At.nx3 _ _ _ _ _ | exact At.ny1 _ _ _ _ | exact At.ny2 _ _ _ _ _ | exact At.ny3 _ _ _ _ _ _ | exact At.nz1 _ _ _ _ _ | exact At.nz2 _ _ _ _ _ _ | exact At.nz3 _ _ _ _ _ _ _ | exact Has.new1 _ _ _ | exact Has.new2 _ _ _ _ | exact Has.new3 _ _ _ _ _ | exact Has.nx1 _ _ _ | exact Has.nx2 _ _ _ _ | exact Has.nx3 _ _ _ _ _ | exact Has.ny1 _ _ _ _ | exact Has.ny2 _ _ _ _ _ | exact Has.ny3 _ _ _ _ _ _ | exact Has.nz1 _ _ _ _ _ | exact Has.nz2 _ _ _ _ _ _ | exact Has.nz3 _ _ _ _ _ _ _ | refine At.fill1 ?_ _ | refine At.fill2 ?_ _ _ | refine At.fill3 ?_ _ _ _ | refine At.swap ?_ (by first | omega | (simp; omega)) _ _ | refine At.alloc ?_ _ | refine At.drew ?_ | refine At.drewN ?_ _ | refine At.skip ?_ (by first | omega | (simp; omega)) _ _ | refine At.below (by assumption) ?_ | refine Has.alloc ?_ _ | refine Has.drew ?_ | refine Has.drewN ?_ _ | refine Has.set ?_ _ _ _ | refine Has.below (by assumption) ?_)); done)); clear hB3)
      | (go_at_call 57; refine (nearest_any (lO a m x) _ (gq (some x) (raO a m) x _ _ rfl hr.1).1 _).mono ?_; rintro e w5 ⟨rfl, hB3⟩; rw [show nrI (oD (lO a m x) (some radW)) = ea from HE.out.symm]; replace HC : Gr w w5 := Gr.step (by ((with_reducible repeat' (first | assumption | refine Gr.drew ?_ | refine Gr.drewN ?_ _ | refine Gr.alloc ?_ _ | refine Gr.set ?_ (by first | omega | (simp; omega)) _ _ | exact Gr.refl _)); done)) hB3; replace PA : At w5 w.heap.size (pL a f k mid m) := At.below hB3 (by ((with_reducible repeat' (first | assumption | exact At.new1 _ _ _ | exact At.new2 _ _ _ _ | exact At.new3 _ _ _ _ _ | exact At.new5 _ _ _ _ _ _ _ | exact At.nx1 _ _ _ | exact At.nx2 _ _ _ _ | exact At.nx3 _ _ _ _ _ | exact At.ny1 _ _ _ _ | exact At.ny2 _ _ _ _ _ | exact At.ny3 _ _ _ _ _ _ | exact At.nz1 _ _ _ _ _ | exact At.nz2 _ _ _ _ _ _ | exact At.nz3 _ _ _ _ _ _ _ | exact Has.new1 _ _ _ | exact Has.new2 _ _ _ _ | exact Has.new3 _ _ _ _ _ | exact Has.nx1 _ _ _ | exact Has.nx2 _ _ _ _ | exact Has.nx3 _ _ _ _ _ | exact Has.ny1 _ _ _ _ | exact Has.ny2 _ _ _ _ _ | exact Has.ny3 _ _ _ _ _ _ | exact Has.nz1 _ _ _ _ _ | exact Has.nz2 _ _ _ _ _ _ | exact Has.nz3 _ _ _ _ _ _ _ | refine At.fill1 ?_ _ | refine At.fill2 ?_ _ _ | refine At.fill3 ?_ _ _ _ | refine At.swap ?_ (by first | omega | (simp; omega)) _ _ | refine At.alloc ?_ _ | refine At.drew ?_ | refine At.drewN ?_ _ | refine At.skip ?_ (by first | omega | (simp; omega)) _ _ | refine At.below (by assumption) ?_ | refine Has.alloc ?_ _ | refine Has.drew ?_ | refine Has.drewN ?_ _ | refine Has.set ?_ _ _ _ | refine Has.below (by assumption) ?_)); done)); replace QA : At w5 (w.heap.size + 1) (fL x y) := At.below hB3 (by ((with_reducible repeat' (first | assumption | exact At.new1 _ _ _ | exact At.new2 _ _ _ _ | exact At.new3 _ _ _ _ _ | exact At.new5 _ _ _ _ _ _ _ | exact At.nx1 _ _ _ | exact At.nx2 _ _ _ _ | exact At.nx3 _ _ _ _ _ | exact At.ny1 _ _ _ _ | exact At.ny2 _ _ _ _ _ | exact At.ny3 _ _ _ _ _ _ | exact At.nz1 _ _ _ _ _ | exact At.nz2 _ _ _ _ _ _ | exact At.nz3 _ _ _ _ _ _ _ | exact Has.new1 _ _ _ | exact Has.new2 _ _ _ _ | exact Has.new3 _ _ _ _ _ | exact Has.nx1 _ _ _ | exact Has.nx2 _ _ _ _ | exact Has.nx3 _ _ _ _ _ | exact Has.ny1 _ _ _ _ | exact Has.ny2 _ _ _ _ _ | exact Has.ny3 _ _ _ _ _ _ | exact Has.nz1 _ _ _ _ _ | exact Has.nz2 _ _ _ _ _ _ | exact Has.nz3 _ _ _ _ _ _ _ | refine At.fill1 ?_ _ | refine At.fill2 ?_ _ _ | refine At.fill3 ?_ _ _ _ | refine At.swap ?_ (by first | omega | (simp; omega)) _ _ | refine At.alloc ?_ _ | refine At.drew ?_ | refine At.drewN ?_ _ | refine At.skip ?_ (by first | omega | (simp; omega)) _ _ | refine At.below (by assumption) ?_ | refine Has.alloc ?_ _ | refine Has.drew ?_ | refine Has.drewN ?_ _ | refine Has.set ?_ _ _ _ | refine Has.below (by assumption) ?_)); done)); replace RA : At w5 (w.heap.size + 1 + 1) (aL 0 0) := At.below hB3 (by ((with_reducible repeat' (first | assumption | exact At.new1 _ _ _ | exact At.new2 _ _ _ _ | exact At.new3 _ _ _ _ _ | exact At.new5 _ _ _ _ _ _ _ | exact At.nx1 _ _ _ | exact At.nx2 _ _ _ _ | exact At.nx3 _ _ _ _ _ | exact At.ny1 _ _ _ _ | exact At.ny2 _ _ _ _ _ | exact At.ny3 _ _ _ _ _ _ | exact At.nz1 _ _ _ _ _ | exact At.nz2 _ _ _ _ _ _ | exact At.nz3 _ _ _ _ _ _ _ | exact Has.new1 _ _ _ | exact Has.new2 _ _ _ _ | exact Has.new3 _ _ _ _ _ | exact Has.nx1 _ _ _ | exact Has.nx2 _ _ _ _ | exact Has.nx3 _ _ _ _ _ | exact Has.ny1 _ _ _ _ | exact Has.ny2 _ _ _ _ _ | exact Has.ny3 _ _ _ _ _ _ | exact Has.nz1 _ _ _ _ _ | exact Has.nz2 _ _ _ _ _ _ | exact Has.nz3 _ _ _ _ _ _ _ | refine At.fill1 ?_ _ | refine At.fill2 ?_ _ _ | refine At.fill3 ?_ _ _ _ | refine At.swap ?_ (by first | omega | (simp; omega)) _ _ | refine At.alloc ?_ _ | refine At.drew ?_ | refine At.drewN ?_ _ | refine At.skip ?_ (by first | omega | (simp; omega)) _ _ | refine At.below (by assumption) ?_ | refine Has.alloc ?_ _ | refine Has.drew ?_ | refine Has.drewN ?_ _ | refine Has.set ?_ _ _ _ | refine Has.below (by assumption) ?_)); done)); clear hB3 hr)
      | (go_at_call 24; refine (lat_any a f _ (oD (some y) (raO a m)) hf (gq (some y) (raO a m) y _ _ rfl hr.1).1 _).mono ?_; rintro e w6 ⟨rfl, hB3⟩; rw [show srch (fun m' => leO (isO f m') (oD (some y) (raO a m))) = la from HA.out.symm]; replace HC : Gr w w6 := Gr.step (by ((with_reducible repeat' (first | assumption | refine Gr.drew ?_ | refine Gr.drewN ?_ _ | refine Gr.alloc ?_ _ | refine Gr.set ?_ (by first | omega | (simp; omega)) _ _ | exact Gr.refl _)); done)) hB3; replace PA : At w6 w.heap.size (pL a f k mid m) := At.below hB3 (by ((with_reducible repeat' (first | assumption | exact At.new1 _ _ _ | exact At.new2 _ _ _ _ | exact At.new3 _ _ _ _ _ | exact At.new5 _ _ _ _ _ _ _ | exact At.nx1 _ _ _ | exact At.nx2 _ _ _ _ | exact At.nx3 _ _ _ _ _ | exact At.ny1 _ _ _ _ | exact At.ny2 _ _ _ _ _ | exact At.ny3 _ _ _ _ _ _ | exact At.nz1 _ _ _ _ _ | exact At.nz2 _ _ _ _ _ _ | exact At.nz3 _ _ _ _ _ _ _ | exact Has.new1 _ _ _ | exact Has.new2 _ _ _ _ | exact Has.new3 _ _ _ _ _ | exact Has.nx1 _ _ _ | exact Has.nx2 _ _ _ _ | exact Has.nx3 _ _ _ _ _ | exact Has.ny1 _ _ _ _ | exact Has.ny2 _ _ _ _ _ | exact Has.ny3 _ _ _ _ _ _ | exact Has.nz1 _ _ _ _ _ | exact Has.nz2 _ _ _ _ _ _ | exact Has.nz3 _ _ _ _ _ _ _ | refine At.fill1 ?_ _ | refine At.fill2 ?_ _ _ | refine At.fill3 ?_ _ _ _ | refine At.swap ?_ (by first | omega | (simp; omega)) _ _ | refine At.alloc ?_ _ | refine At.drew ?_ | refine At.drewN ?_ _ | refine At.skip ?_ (by first | omega | (simp; omega)) _ _ | refine At.below (by assumption) ?_ | refine Has.alloc ?_ _ | refine Has.drew ?_ | refine Has.drewN ?_ _ | refine Has.set ?_ _ _ _ | refine Has.below (by assumption) ?_)); done)); replace QA : At w6 (w.heap.size + 1) (fL x y) := At.below hB3 (by ((with_reducible repeat' (first | assumption | exact At.new1 _ _ _ | exact At.new2 _ _ _ _ | exact At.new3 _ _ _ _ _ | exact At.new5 _ _ _ _ _ _ _ | exact At.nx1 _ _ _ | exact At.nx2 _ _ _ _ | exact At.nx3 _ _ _ _ _ | exact At.ny1 _ _ _ _ | exact At.ny2 _ _ _ _ _ | exact At.ny3 _ _ _ _ _ _ | exact At.nz1 _ _ _ _ _ | exact At.nz2 _ _ _ _ _ _ | exact At.nz3 _ _ _ _ _ _ _ | exact Has.new1 _ _ _ | exact Has.new2 _ _ _ _ | exact Has.new3 _ _ _ _ _ | exact Has.nx1 _ _ _ | exact Has.nx2 _ _ _ _ | exact Has.nx3 _ _ _ _ _ | exact Has.ny1 _ _ _ _ | exact Has.ny2 _ _ _ _ _ | exact Has.ny3 _ _ _ _ _ _ | exact Has.nz1 _ _ _ _ _ | exact Has.nz2 _ _ _ _ _ _ | exact Has.nz3 _ _ _ _ _ _ _ | refine At.fill1 ?_ _ | refine At.fill2 ?_ _ _ | refine At.fill3 ?_ _ _ _ | refine At.swap ?_ (by first | omega | (simp; omega)) _ _ | refine At.alloc ?_ _ | refine At.drew ?_ | refine At.drewN ?_ _ | refine At.skip ?_ (by first | omega | (simp; omega)) _ _ | refine At.below (by assumption) ?_ | refine Has.alloc ?_ _ | refine Has.drew ?_ | refine Has.drewN ?_ _ | refine Has.set ?_ _ _ _ | refine Has.below (by assumption) ?_)); done)); replace RA : At w6 (w.heap.size + 1 + 1) (aL 0 0) := At.below hB3 (by ((with_reducible repeat' (first | assumption | exact At.new1 _ _ _ | exact At.new2 _ _ _ _ | exact At.new3 _ _ _ _ _ | exact At.new5 _ _ _ _ _ _ _ | exact At.nx1 _ _ _ | exact At.nx2 _ _ _ _ | exact At.nx3 _ _ _ _ _ | exact At.ny1 _ _ _ _ | exact At.ny2 _ _ _ _ _ | exact At.ny3 _ _ _ _ _ _ | exact At.nz1 _ _ _ _ _ | exact At.nz2 _ _ _ _ _ _ | exact At.nz3 _ _ _ _ _ _ _ | exact Has.new1 _ _ _ | exact Has.new2 _ _ _ _ | exact Has.new3 _ _ _ _ _ | exact Has.nx1 _ _ _ | exact Has.nx2 _ _ _ _ | exact Has.nx3 _ _ _ _ _ | exact Has.ny1 _ _ _ _ | exact Has.ny2 _ _ _ _ _ | exact Has.ny3 _ _ _ _ _ _ | exact Has.nz1 _ _ _ _ _ | exact Has.nz2 _ _ _ _ _ _ | exact Has.nz3 _ _ _ _ _ _ _ | refine At.fill1 ?_ _ | refine At.fill2 ?_ _ _ | refine At.fill3 ?_ _ _ _ | refine At.swap ?_ (by first | omega | (simp; omega)) _ _ | refine At.alloc ?_ _ | refine At.drew ?_ | refine At.drewN ?_ _ | refine At.skip ?_ (by first | omega | (simp; omega)) _ _ | refine At.below (by assumption) ?_ | refine Has.alloc ?_ _ | refine Has.drew ?_ | refine Has.drewN ?_ _ | refine Has.set ?_ _ _ _ | refine Has.below (by assumption) ?_)); done)); clear hB3)))
  all_goals
    obtain ⟨c0, c1, c2, c3, c4⟩ := PA.c5
    go_wp2_with fail
    refine (norm_any _ _).mono ?_
    rintro e w7 ⟨rfl, rfl⟩
    go_wp2_with fail
    refine (signed_any _ _).mono ?_
    rintro e w8 ⟨rfl, rfl⟩
    obtain ⟨lon, hlon⟩ : ∃ n, sgn (nrm mid + ea) = n := ⟨_, rfl⟩
    rw [hlon]
    obtain ⟨r0, r1⟩ := RA.c2
    obtain ⟨f0, f1⟩ := RA.f2
    go_wp2
    exact bodyPost_ret (v := .tuple #[plV lon la, .nilIface]) (by simp [results, Tryz.results17, go_sem, r0, r1]) rfl ⟨by rw [hlon], by ((with_reducible repeat' (first | assumption | refine Gr.drew ?_ | refine Gr.drewN ?_ _ | refine Gr.alloc ?_ _ | refine Gr.set ?_ (by first | omega | (simp; omega)) _ _ | exact Gr.refl _)); done)⟩
end Go.Proofs.YtkebgnemccaimaaGreatDoor
