/-
  wave.Strip: From, of what is no place.
-/
import Derived.Test.YtinopkmcddjgdaaGreatDoorQWvR
namespace Go.Proofs.YtinopkmcddjgdaaGreatDoor
open Go.RowKit FB
attribute [local go_sem] run_store_float

set_option maxHeartbeats 2000000 in
theorem sfrom_no1 (g : Nat → Addr) (a f m x y i : Nat) (mid : Int) (hp : evOf g (scode a f m) = errV g i) (w : World) (hl : Laid w g) : Calls Tryz.prog 17 #[sV a f mid m, fV x y] w fun e w' => e = .returned (.tuple #[plV 0 0, errV g i]) ∧ Gr w w' := by
  have HL := hid hl
  have HK := hid (fun w hl => svalid_at g a f m mid w hl)
  rw [hp] at HK
  clear hl hp
  go_enter Tryz.func17, Tryz.ntmps17
  go_wp2_with fail
  refine (HK.out _ (HL.out.below (Gr.out (by ((with_reducible repeat' (first | assumption | refine Gr.drew ?_ | refine Gr.drewN ?_ _ | refine Gr.alloc ?_ _ | refine Gr.set ?_ (by first | omega | (simp; omega)) _ _ | exact Gr.refl _)); done))))).mono ?_
  rintro e w1 ⟨rfl, hB⟩
  have RA : At w1 (w.heap.size + 1 + 1) (aL 0 0) := At.below hB (by ((with_reducible repeat' (first | assumption | exact At.new1 _ _ _ | exact At.new2 _ _ _ _ | exact At.new3 _ _ _ _ _ | exact At.new5 _ _ _ _ _ _ _ | exact At.nx1 _ _ _ | exact At.nx2 _ _ _ _ | exact At.nx3 _ _ _ _ _ | exact At.ny1 _ _ _ _ | exact At.ny2 _ _ _ _ _ | exact At.ny3 _ _ _ _ _ _ | exact At.nz1 _ _ _ _ _ | exact At.nz2 _ _ _ _ _ _ | exact At.nz3 _ _ _ _ _ _ _ | exact Has.new1 _ _ _ | exact Has.new2 _ _ _ _ | exact Has.new3 _ _ _ _ _ | exact Has.nx1 _ _ _ | exact Has.nx2 _ _ _ _ | exact Has.nx3 _ _ _ _ _ | exact Has.ny1 _ _ _ _ | exact Has.ny2 _ _ _ _ _ | exact Has.ny3 _ _ _ _ _ _ | exact Has.nz1 _ _ _ _ _ | exact Has.nz2 _ _ _ _ _ _ | exact Has.nz3 _ _ _ _ _ _ _ | refine At.fill1 ?_ _ | refine At.fill2 ?_ _ _ | refine At.fill3 ?_ _ _ _ | refine At.swap ?_ (by first | omega | (simp; omega)) _ _ | refine At.alloc ?_ _ | refine At.drew ?_ | refine At.drewN ?_ _ | refine At.skip ?_ (by first | omega | (simp; omega)) _ _ | refine At.below (by assumption) ?_ | refine Has.alloc ?_ _ | refine Has.drew ?_ | refine Has.drewN ?_ _ | refine Has.set ?_ _ _ _ | refine Has.below (by assumption) ?_)); done))
  have HC : Gr w w1 := Gr.step (by ((with_reducible repeat' (first | assumption | refine Gr.drew ?_ | refine Gr.drewN ?_ _ | refine Gr.alloc ?_ _ | refine Gr.set ?_ (by first | omega | (simp; omega)) _ _ | exact Gr.refl _)); done)) hB
  clear hB
  obtain ⟨r0, r1⟩ := RA.c2
  obtain ⟨f0, f1⟩ := RA.f2
  go_wp2
  exact bodyPost_ret (v := .tuple #[plV 0 0, errV g i]) (by simp [results, Tryz.results17, go_sem, r0, r1]) rfl ⟨rfl, by ((with_reducible repeat' (first | assumption | refine Gr.drew ?_ | refine Gr.drewN ?_ _ | refine Gr.alloc ?_ _ | refine Gr.set ?_ (by first | omega | (simp; omega)) _ _ | exact Gr.refl _)); done)⟩
set_option maxHeartbeats 8000000 in
theorem sfrom_no2 (g : Nat → Addr) (a f n m x y : Nat) (mid : Int) (hn : nO f = some n) (hs0 : scode a f m = 0) (hon : onS a (uz n) m x y = false) (w : World) (hl : Laid w g) : Calls Tryz.prog 17 #[sV a f mid m, fV x y] w fun e w' => e = .returned (.tuple #[plV 0 0, errV g 3]) ∧ Gr w w' := by
  obtain ⟨mF, aF, sF, qF, mD, aD, sD, qD, hm, ha, hss, hq, gm, ga, gs, gq⟩ := ops
  have hng := hnegA
  unfold onS at hon
  have HON := hid hon
  have HL := hid hl
  have HK := hid (fun w hl => svalid_at g a f m mid w hl)
  rw [hs0] at HK
  have HS := hid (fun w => sseries_ok a f n m mid hn (scode_ok hs0).1 w)
  have lg : 1 < w.heap.size := lt_of_cell (p := ⟨1, 0, none⟩) (hl.cell 3 (by decide))
  clear hl hn hs0 hon
  go_enter Tryz.func17, Tryz.ntmps17
  go_wp2_with fail
  refine (HK.out _ (HL.out.below (Gr.out (by ((with_reducible repeat' (first | assumption | refine Gr.drew ?_ | refine Gr.drewN ?_ _ | refine Gr.alloc ?_ _ | refine Gr.set ?_ (by first | omega | (simp; omega)) _ _ | exact Gr.refl _)); done))))).mono ?_
  rintro e w1 ⟨rfl, hB⟩
  have PA : At w1 w.heap.size (sL a f mid m) := At.below hB (((At.new4 w _ _ _ _ _).alloc _).alloc _)
  have QA : At w1 (w.heap.size + 1) (fL x y) := At.below hB (by ((with_reducible repeat' (first | assumption | exact At.new1 _ _ _ | exact At.new2 _ _ _ _ | exact At.new3 _ _ _ _ _ | exact At.new5 _ _ _ _ _ _ _ | exact At.nx1 _ _ _ | exact At.nx2 _ _ _ _ | exact At.nx3 _ _ _ _ _ | exact At.ny1 _ _ _ _ | exact At.ny2 _ _ _ _ _ | exact At.ny3 _ _ _ _ _ _ | exact At.nz1 _ _ _ _ _ | exact At.nz2 _ _ _ _ _ _ | exact At.nz3 _ _ _ _ _ _ _ | exact Has.new1 _ _ _ | exact Has.new2 _ _ _ _ | exact Has.new3 _ _ _ _ _ | exact Has.nx1 _ _ _ | exact Has.nx2 _ _ _ _ | exact Has.nx3 _ _ _ _ _ | exact Has.ny1 _ _ _ _ | exact Has.ny2 _ _ _ _ _ | exact Has.ny3 _ _ _ _ _ _ | exact Has.nz1 _ _ _ _ _ | exact Has.nz2 _ _ _ _ _ _ | exact Has.nz3 _ _ _ _ _ _ _ | refine At.fill1 ?_ _ | refine At.fill2 ?_ _ _ | refine At.fill3 ?_ _ _ _ | refine At.swap ?_ (by first | omega | (simp; omega)) _ _ | refine At.alloc ?_ _ | refine At.drew ?_ | refine At.drewN ?_ _ | refine At.skip ?_ (by first | omega | (simp; omega)) _ _ | refine At.below (by assumption) ?_ | refine Has.alloc ?_ _ | refine Has.drew ?_ | refine Has.drewN ?_ _ | refine Has.set ?_ _ _ _ | refine Has.below (by assumption) ?_)); done))
  have RA : At w1 (w.heap.size + 1 + 1) (aL 0 0) := At.below hB (by ((with_reducible repeat' (first | assumption | exact At.new1 _ _ _ | exact At.new2 _ _ _ _ | exact At.new3 _ _ _ _ _ | exact At.new5 _ _ _ _ _ _ _ | exact At.nx1 _ _ _ | exact At.nx2 _ _ _ _ | exact At.nx3 _ _ _ _ _ | exact At.ny1 _ _ _ _ | exact At.ny2 _ _ _ _ _ | exact At.ny3 _ _ _ _ _ _ | exact At.nz1 _ _ _ _ _ | exact At.nz2 _ _ _ _ _ _ | exact At.nz3 _ _ _ _ _ _ _ | exact Has.new1 _ _ _ | exact Has.new2 _ _ _ _ | exact Has.new3 _ _ _ _ _ | exact Has.nx1 _ _ _ | exact Has.nx2 _ _ _ _ | exact Has.nx3 _ _ _ _ _ | exact Has.ny1 _ _ _ _ | exact Has.ny2 _ _ _ _ _ | exact Has.ny3 _ _ _ _ _ _ | exact Has.nz1 _ _ _ _ _ | exact Has.nz2 _ _ _ _ _ _ | exact Has.nz3 _ _ _ _ _ _ _ | refine At.fill1 ?_ _ | refine At.fill2 ?_ _ _ | refine At.fill3 ?_ _ _ _ | refine At.swap ?_ (by first | omega | (simp; omega)) _ _ | refine At.alloc ?_ _ | refine At.drew ?_ | refine At.drewN ?_ _ | refine At.skip ?_ (by first | omega | (simp; omega)) _ _ | refine At.below (by assumption) ?_ | refine Has.alloc ?_ _ | refine Has.drew ?_ | refine Has.drewN ?_ _ | refine Has.set ?_ _ _ _ | refine Has.below (by assumption) ?_)); done))
  have HC : Gr w w1 := Gr.step (by ((with_reducible repeat' (first | assumption | refine Gr.drew ?_ | refine Gr.drewN ?_ _ | refine Gr.alloc ?_ _ | refine Gr.set ?_ (by first | omega | (simp; omega)) _ _ | exact Gr.refl _)); done)) hB
  clear hB HK
  rw [show evOf g 0 = .nilIface from rfl]
  obtain ⟨p0, p1, p2, p3⟩ := PA.c4
  go_wp2_with fail
  refine (HS.out _).mono ?_
  rintro e w3 ⟨rr, a0, a1, a2, a3, b0, b1, b2, b3, rfl, hrr, hA, hBf, hB⟩
  replace HC : Gr w w3 := Gr.step HC hB
  replace QA := At.below hB QA
  replace RA := At.below hB RA
  clear hB HS p0 p1 p2 p3 hA hBf PA
  go_upto_region 5 with fail
  replace HC := (HC.alloc (.cells #[.float .f64 a0, .float .f64 a1, .float .f64 a2, .float .f64 a3] 69)).alloc (.cells #[.float .f64 b0, .float .f64 b1, .float .f64 b2, .float .f64 b3] 69)
  replace QA := (QA.alloc (.cells #[.float .f64 a0, .float .f64 a1, .float .f64 a2, .float .f64 a3] 69)).alloc (.cells #[.float .f64 b0, .float .f64 b1, .float .f64 b2, .float .f64 b3] 69)
  replace RA := (RA.alloc (.cells #[.float .f64 a0, .float .f64 a1, .float .f64 a2, .float .f64 a3] 69)).alloc (.cells #[.float .f64 b0, .float .f64 b1, .float .f64 b2, .float .f64 b3] 69)
  generalize hwd : (w3.alloc (.cells #[.float .f64 a0, .float .f64 a1, .float .f64 a2, .float .f64 a3] 69)).alloc (.cells #[.float .f64 b0, .float .f64 b1, .float .f64 b2, .float .f64 b3] 69) = w4 at HC QA RA ⊢
  clear hwd
  have ln : ¬ w.heap.size + 1 + 1 = 1 := by omega
  have lm : ¬ 1 = w.heap.size + 1 + 1 := by omega
  have lb : w.heap.size ≤ w.heap.size + 1 + 1 := by omega
  clear lg
  obtain ⟨q0, q1⟩ := QA.c2
  go_wp2_with fail
  refine (withinW_any _ _ _ hrr.1 _).mono ?_
  rintro e w5 ⟨rfl, rfl⟩
  cases h1 : wiO (srO a (uz n) m) x with
  | false =>
    go_upto_region 6 with fail
    have cg : w5.cell? ⟨1, 0, none⟩ = some (.iface 160 (.pointer (some (g 3)))) := (HL.out.below HC).cell 3 (by decide)
    obtain ⟨r0, r1⟩ := RA.c2
    obtain ⟨f0, f1⟩ := RA.f2
    go_region_law (fail)
    all_goals
      have TA := (RA.put 0 (.int .i64 0)).put 1 (.int .i64 0)
      have HT := (HC.set lb 0 (.int .i64 0)).set lb 1 (.int .i64 0)
      clear r0 r1 f0 f1 cg q0 q1 QA HC RA
      go_wp2_with fail
      generalize hwd : World.setCell _ ⟨w.heap.size + 1 + 1, 1, none⟩ _ = w13 at TA HT ⊢
      clear hwd
      replace TA : At w13 (w.heap.size + 1 + 1) (aL 0 0) := TA
      obtain ⟨k0, k1⟩ := TA.c2
      refine bodyPost_ret (v := .tuple #[plV 0 0, errV g 3]) ?_ rfl ⟨rfl, HT.drew⟩
      go_simp
      simp [results, Tryz.results17, go_sem, k0, k1]
  | true =>
    have h2 : wiO (oM (some 4609884578576439706) (srO a (uz n) m)) y = false := by
      have := HON.out
      rw [h1, Bool.true_and] at this
      exact this
    have H2 := hid h2
    clear h2
    go_wp2_with fail
    refine (withinW_any _ _ _ (gm _ _ _ _ _ (gsm _) hrr.1).1 _).mono ?_
    rintro e w6 ⟨rfl, rfl⟩
    rw [H2.out]
    go_upto_region 6 with fail
    replace HC := HC.drewN (mD 4609884578576439706 rr)
    replace RA := RA.drewN (mD 4609884578576439706 rr)
    clear q0 q1 QA
    generalize hwd : World.drewN w5 _ = v0 at HC RA ⊢
    clear hwd
    have cg : v0.cell? ⟨1, 0, none⟩ = some (.iface 160 (.pointer (some (g 3)))) := (HL.out.below HC).cell 3 (by decide)
    obtain ⟨r0, r1⟩ := RA.c2
    obtain ⟨f0, f1⟩ := RA.f2
    go_region_law (fail)
    all_goals
      have TA := (RA.put 0 (.int .i64 0)).put 1 (.int .i64 0)
      have HT := (HC.set lb 0 (.int .i64 0)).set lb 1 (.int .i64 0)
      clear r0 r1 f0 f1 cg HC RA
      go_wp2_with fail
      generalize hwd : World.setCell _ ⟨w.heap.size + 1 + 1, 1, none⟩ _ = w13 at TA HT ⊢
      clear hwd
      replace TA : At w13 (w.heap.size + 1 + 1) (aL 0 0) := TA
      obtain ⟨k0, k1⟩ := TA.c2
      refine bodyPost_ret (v := .tuple #[plV 0 0, errV g 3]) ?_ rfl ⟨rfl, HT.drew⟩
      go_simp
      simp [results, Tryz.results17, go_sem, k0, k1]
end Go.Proofs.YtinopkmcddjgdaaGreatDoor
