/-
  wave.Strip: cast of what is not drawn.
-/
import Derived.Test.YtinopkmcddjgdaaGreatDoorQWvH
namespace Go.Proofs.YtinopkmcddjgdaaGreatDoor
open Go.RowKit FB
attribute [local go_sem] run_store_float

set_option maxHeartbeats 8000000 in
theorem cast_no1 (g : Nat → Addr) (a f m i : Nat) (mid lon lat : Int) (hp : evOf g (scode a f m) = errV g i) (w : World) (hl : Laid w g) : Calls Tryz.prog 24 #[sV a f mid m, .agg #[.int .i64 lon, .int .i64 lat]] w fun e w' => e = .returned (.tuple #[kV 0 0 0 0 0 0, errV g i]) ∧ Gr w w' := by
  have HL := hid hl
  have HV := hid (fun w hl => svalid_at g a f m mid w hl)
  rw [hp] at HV
  clear hl hp
  go_enter Tryz.func24, Tryz.ntmps24
  go_wp2_with fail
  refine (HV.out _ (HL.out.below (Gr.out (by ((with_reducible repeat' (first | assumption | refine Gr.drew ?_ | refine Gr.drewN ?_ _ | refine Gr.alloc ?_ _ | refine Gr.set ?_ (by first | omega | (simp; omega)) _ _ | exact Gr.refl _)); done))))).mono ?_
  rintro x w1 ⟨rfl, hB⟩
  have RA : At w1 (w.heap.size + 1 + 1) (kL 0 0 0 0 0 0) := At.below hB (At.newRow ((w.alloc (.cells #[.float .f64 a, .float .f64 f, .int .i64 mid, .float .f64 m] 35)).alloc (.cells #[.int .i64 lon, .int .i64 lat] 28)) (kL 0 0 0 0 0 0) 66 |> fun h => by simpa using h)
  have HC : Gr w w1 := Gr.step (by ((with_reducible repeat' (first | assumption | refine Gr.drew ?_ | refine Gr.drewN ?_ _ | refine Gr.alloc ?_ _ | refine Gr.set ?_ (by first | omega | (simp; omega)) _ _ | exact Gr.refl _)); done)) hB
  clear hB HV HL
  obtain ⟨q0, q1, q2, q3, q4, q5⟩ := RA.c6
  obtain ⟨j0, j1, j2, j3, j4, j5⟩ := RA.f6
  go_wp2_with fail
  have lb : w.heap.size ≤ w.heap.size + 1 + 1 := by omega
  have TA := (((((RA.put 0 (.float .f64 0)).put 1 (.float .f64 0)).put 2 (.float .f64 0)).put 3 (.float .f64 0)).put 4 (.int .i64 0)).put 5 (.float .f64 0)
  have HT := (((((HC.set lb 0 (.float .f64 0)).set lb 1 (.float .f64 0)).set lb 2 (.float .f64 0)).set lb 3 (.float .f64 0)).set lb 4 (.int .i64 0)).set lb 5 (.float .f64 0)
  clear q0 q1 q2 q3 q4 q5 j0 j1 j2 j3 j4 j5 HC RA
  generalize hwd : World.setCell _ ⟨w.heap.size + 1 + 1, 5, none⟩ _ = w13 at TA HT ⊢
  clear hwd
  replace TA : At w13 (w.heap.size + 1 + 1) (kL 0 0 0 0 0 0) := TA
  obtain ⟨k0, k1, k2, k3, k4, k5⟩ := TA.c6
  exact bodyPost_ret (v := .tuple #[kV 0 0 0 0 0 0, errV g i]) (by simp [results, Tryz.results24, go_sem, k0, k1, k2, k3, k4, k5]) rfl ⟨rfl, HT⟩
set_option maxHeartbeats 8000000 in
theorem cast_no2 (g : Nat → Addr) (a f m : Nat) (mid lon lat : Int) (hp1 : scode a f m = 0) (hp2 : offS lat (nrm lon - nrm mid)) (w : World) (hl : Laid w g) : Calls Tryz.prog 24 #[sV a f mid m, .agg #[.int .i64 lon, .int .i64 lat]] w fun e w' => e = .returned (.tuple #[kV 0 0 0 0 0 0, errV g 3]) ∧ Gr w w' := by
  have HL := hid hl
  have HV := hid (fun w hl => svalid_at g a f m mid w hl)
  rw [hp1] at HV
  have lg : 1 < w.heap.size := lt_of_cell (p := ⟨1, 0, none⟩) (hl.cell 3 (by decide))
  clear hl hp1
  obtain ⟨l0, l1⟩ := nrm_lt lon
  obtain ⟨d0, d1⟩ := nrm_lt mid
  have hw : IntKind.i64.wrap (nrm lon - nrm mid) = nrm lon - nrm mid := by simp [IntKind.wrap, IntKind.signed, IntKind.bits]; omega
  go_enter Tryz.func24, Tryz.ntmps24
  go_wp2_with fail
  refine (HV.out _ (HL.out.below (Gr.out (by ((with_reducible repeat' (first | assumption | refine Gr.drew ?_ | refine Gr.drewN ?_ _ | refine Gr.alloc ?_ _ | refine Gr.set ?_ (by first | omega | (simp; omega)) _ _ | exact Gr.refl _)); done))))).mono ?_
  rintro x w1 ⟨rfl, hB⟩
  have PA : At w1 w.heap.size (sL a f mid m) := At.below hB (((At.new4 w _ _ _ _ _).alloc _).alloc _)
  have QA : At w1 (w.heap.size + 1) (aL lon lat) := At.below hB (by ((with_reducible repeat' (first | assumption | exact At.new1 _ _ _ | exact At.new2 _ _ _ _ | exact At.new3 _ _ _ _ _ | exact At.new5 _ _ _ _ _ _ _ | exact At.nx1 _ _ _ | exact At.nx2 _ _ _ _ | exact At.nx3 _ _ _ _ _ | exact At.ny1 _ _ _ _ | exact At.ny2 _ _ _ _ _ | exact At.ny3 _ _ _ _ _ _ | exact At.nz1 _ _ _ _ _ | exact At.nz2 _ _ _ _ _ _ | exact At.nz3 _ _ _ _ _ _ _ | exact Has.new1 _ _ _ | exact Has.new2 _ _ _ _ | exact Has.new3 _ _ _ _ _ | exact Has.nx1 _ _ _ | exact Has.nx2 _ _ _ _ | exact Has.nx3 _ _ _ _ _ | exact Has.ny1 _ _ _ _ | exact Has.ny2 _ _ _ _ _ | exact Has.ny3 _ _ _ _ _ _ | exact Has.nz1 _ _ _ _ _ | exact Has.nz2 _ _ _ _ _ _ | exact Has.nz3 _ _ _ _ _ _ _ | refine At.fill1 ?_ _ | refine At.fill2 ?_ _ _ | refine At.fill3 ?_ _ _ _ | refine At.swap ?_ (by first | omega | (simp; omega)) _ _ | refine At.alloc ?_ _ | refine At.drew ?_ | refine At.drewN ?_ _ | refine At.skip ?_ (by first | omega | (simp; omega)) _ _ | refine At.below (by assumption) ?_ | refine Has.alloc ?_ _ | refine Has.drew ?_ | refine Has.drewN ?_ _ | refine Has.set ?_ _ _ _ | refine Has.below (by assumption) ?_)); done))
  have RA : At w1 (w.heap.size + 1 + 1) (kL 0 0 0 0 0 0) := At.below hB (At.newRow ((w.alloc (.cells #[.float .f64 a, .float .f64 f, .int .i64 mid, .float .f64 m] 35)).alloc (.cells #[.int .i64 lon, .int .i64 lat] 28)) (kL 0 0 0 0 0 0) 66 |> fun h => by simpa using h)
  have HC : Gr w w1 := Gr.step (by ((with_reducible repeat' (first | assumption | refine Gr.drew ?_ | refine Gr.drewN ?_ _ | refine Gr.alloc ?_ _ | refine Gr.set ?_ (by first | omega | (simp; omega)) _ _ | exact Gr.refl _)); done)) hB
  clear hB HV
  rw [show evOf g 0 = .nilIface from rfl]
  go_upto_region 4 with fail
  go_region_held (fun w' => w'.cell? ⟨w.heap.size, 0, none⟩ = some (.float .f64 a) ∧ w'.cell? ⟨w.heap.size, 1, none⟩ = some (.float .f64 f) ∧ w'.cell? ⟨w.heap.size, 2, none⟩ = some (.int .i64 mid) ∧ w'.cell? ⟨w.heap.size, 3, none⟩ = some (.float .f64 m) ∧ w'.cell? ⟨w.heap.size + 1, 0, none⟩ = some (.int .i64 lon) ∧ w'.cell? ⟨w.heap.size + 1, 1, none⟩ = some (.int .i64 lat))
    ((refine c42 (a := .float .f64 a) (b := .float .f64 f) (c := .int .i64 mid) (d := .float .f64 m) (x := .int .i64 lon) (y := .int .i64 lat) ?_ ?_; all_goals ((with_reducible repeat' (first | assumption | exact At.new1 _ _ _ | exact At.new2 _ _ _ _ | exact At.new3 _ _ _ _ _ | exact At.new5 _ _ _ _ _ _ _ | exact At.nx1 _ _ _ | exact At.nx2 _ _ _ _ | exact At.nx3 _ _ _ _ _ | exact At.ny1 _ _ _ _ | exact At.ny2 _ _ _ _ _ | exact At.ny3 _ _ _ _ _ _ | exact At.nz1 _ _ _ _ _ | exact At.nz2 _ _ _ _ _ _ | exact At.nz3 _ _ _ _ _ _ _ | exact Has.new1 _ _ _ | exact Has.new2 _ _ _ _ | exact Has.new3 _ _ _ _ _ | exact Has.nx1 _ _ _ | exact Has.nx2 _ _ _ _ | exact Has.nx3 _ _ _ _ _ | exact Has.ny1 _ _ _ _ | exact Has.ny2 _ _ _ _ _ | exact Has.ny3 _ _ _ _ _ _ | exact Has.nz1 _ _ _ _ _ | exact Has.nz2 _ _ _ _ _ _ | exact Has.nz3 _ _ _ _ _ _ _ | refine At.fill1 ?_ _ | refine At.fill2 ?_ _ _ | refine At.fill3 ?_ _ _ _ | refine At.swap ?_ (by first | omega | (simp; omega)) _ _ | refine At.alloc ?_ _ | refine At.drew ?_ | refine At.drewN ?_ _ | refine At.skip ?_ (by first | omega | (simp; omega)) _ _ | refine At.below (by assumption) ?_ | refine Has.alloc ?_ _ | refine Has.drew ?_ | refine Has.drewN ?_ _ | refine Has.set ?_ _ _ _ | refine Has.below (by assumption) ?_)); done)))
    ((first
      | (go_at_call 53; refine (norm_any _ _).mono ?_; rintro x w2 ⟨rfl, rfl⟩)
      | (go_at_call 34; refine (signed_any _ _).mono ?_; rintro x w2 ⟨rfl, rfl⟩)))
  obtain ⟨d, hd⟩ : ∃ d, nrm lon - nrm mid = d := ⟨_, rfl⟩
  rw [hd] at hp2 ⊢
  obtain ⟨e, he⟩ : ∃ e, sgn d = e := ⟨_, rfl⟩
  unfold offS at hp2
  rw [he] at hp2 ⊢
  clear hw l0 l1 d0 d1 he hd
  replace HC := HC.drew
  replace PA := PA.drew
  replace QA := QA.drew
  replace RA := RA.drew
  generalize hwd : World.drew _ = w3 at HC PA QA RA ⊢
  clear hwd
  have cg : w3.cell? ⟨1, 0, none⟩ = some (.iface 160 (.pointer (some (g 3)))) := (HL.out.below HC).cell 3 (by decide)
  have ln : ¬ w.heap.size + 1 + 1 = 1 := by omega
  have lm : ¬ 1 = w.heap.size + 1 + 1 := by omega
  obtain ⟨x0, x1⟩ := QA.c2
  obtain ⟨q0, q1, q2, q3, q4, q5⟩ := RA.c6
  obtain ⟨j0, j1, j2, j3, j4, j5⟩ := RA.f6
  have lr := RA.lt
  clear HL lg PA
  have lb : w.heap.size ≤ w.heap.size + 1 + 1 := by omega
  have HR := hid hp2
  clear hp2
  by_cases h1 : lat < -89000000000
  · go_upto_region 6 with fail
    go_region_law (fail)
    all_goals
      have TA := (((((RA.put 0 (.float .f64 0)).put 1 (.float .f64 0)).put 2 (.float .f64 0)).put 3 (.float .f64 0)).put 4 (.int .i64 0)).put 5 (.float .f64 0)
      have HT := (((((HC.set lb 0 (.float .f64 0)).set lb 1 (.float .f64 0)).set lb 2 (.float .f64 0)).set lb 3 (.float .f64 0)).set lb 4 (.int .i64 0)).set lb 5 (.float .f64 0)
      clear q0 q1 q2 q3 q4 q5 j0 j1 j2 j3 j4 j5 cg x0 x1 QA HC RA lr
      go_wp2_with fail
      generalize hwd : World.setCell _ ⟨w.heap.size + 1 + 1, 5, none⟩ _ = w13 at TA HT ⊢
      clear hwd
      replace TA : At w13 (w.heap.size + 1 + 1) (kL 0 0 0 0 0 0) := TA
      obtain ⟨k0, k1, k2, k3, k4, k5⟩ := TA.c6
      refine bodyPost_ret (v := .tuple #[kV 0 0 0 0 0 0, errV g 3]) ?_ rfl ⟨rfl, HT.drew⟩
      go_simp
      simp [results, Tryz.results24, go_sem, k0, k1, k2, k3, k4, k5]
  by_cases h2 : 89000000000 < lat
  · go_upto_region 6 with fail
    go_region_law (fail)
    all_goals
      have TA := (((((RA.put 0 (.float .f64 0)).put 1 (.float .f64 0)).put 2 (.float .f64 0)).put 3 (.float .f64 0)).put 4 (.int .i64 0)).put 5 (.float .f64 0)
      have HT := (((((HC.set lb 0 (.float .f64 0)).set lb 1 (.float .f64 0)).set lb 2 (.float .f64 0)).set lb 3 (.float .f64 0)).set lb 4 (.int .i64 0)).set lb 5 (.float .f64 0)
      clear q0 q1 q2 q3 q4 q5 j0 j1 j2 j3 j4 j5 cg x0 x1 QA HC RA lr
      go_wp2_with fail
      generalize hwd : World.setCell _ ⟨w.heap.size + 1 + 1, 5, none⟩ _ = w13 at TA HT ⊢
      clear hwd
      replace TA : At w13 (w.heap.size + 1 + 1) (kL 0 0 0 0 0 0) := TA
      obtain ⟨k0, k1, k2, k3, k4, k5⟩ := TA.c6
      refine bodyPost_ret (v := .tuple #[kV 0 0 0 0 0 0, errV g 3]) ?_ rfl ⟨rfl, HT.drew⟩
      go_simp
      simp [results, Tryz.results24, go_sem, k0, k1, k2, k3, k4, k5]
  by_cases h3 : e < -45000000000
  · go_upto_region 6 with fail
    go_region_law (fail)
    all_goals
      have TA := (((((RA.put 0 (.float .f64 0)).put 1 (.float .f64 0)).put 2 (.float .f64 0)).put 3 (.float .f64 0)).put 4 (.int .i64 0)).put 5 (.float .f64 0)
      have HT := (((((HC.set lb 0 (.float .f64 0)).set lb 1 (.float .f64 0)).set lb 2 (.float .f64 0)).set lb 3 (.float .f64 0)).set lb 4 (.int .i64 0)).set lb 5 (.float .f64 0)
      clear q0 q1 q2 q3 q4 q5 j0 j1 j2 j3 j4 j5 cg x0 x1 QA HC RA lr
      go_wp2_with fail
      generalize hwd : World.setCell _ ⟨w.heap.size + 1 + 1, 5, none⟩ _ = w13 at TA HT ⊢
      clear hwd
      replace TA : At w13 (w.heap.size + 1 + 1) (kL 0 0 0 0 0 0) := TA
      obtain ⟨k0, k1, k2, k3, k4, k5⟩ := TA.c6
      refine bodyPost_ret (v := .tuple #[kV 0 0 0 0 0 0, errV g 3]) ?_ rfl ⟨rfl, HT.drew⟩
      go_simp
      simp [results, Tryz.results24, go_sem, k0, k1, k2, k3, k4, k5]
  have h4 : 45000000000 < e := by
    rcases HR.out with h | h | h | h
    · exact absurd h h1
    · exact absurd h h2
    · exact absurd h h3
    · exact h
  · go_upto_region 6 with fail
    go_region_law (fail)
    all_goals
      have TA := (((((RA.put 0 (.float .f64 0)).put 1 (.float .f64 0)).put 2 (.float .f64 0)).put 3 (.float .f64 0)).put 4 (.int .i64 0)).put 5 (.float .f64 0)
      have HT := (((((HC.set lb 0 (.float .f64 0)).set lb 1 (.float .f64 0)).set lb 2 (.float .f64 0)).set lb 3 (.float .f64 0)).set lb 4 (.int .i64 0)).set lb 5 (.float .f64 0)
      clear q0 q1 q2 q3 q4 q5 j0 j1 j2 j3 j4 j5 cg x0 x1 QA HC RA lr
      go_wp2_with fail
      generalize hwd : World.setCell _ ⟨w.heap.size + 1 + 1, 5, none⟩ _ = w13 at TA HT ⊢
      clear hwd
      replace TA : At w13 (w.heap.size + 1 + 1) (kL 0 0 0 0 0 0) := TA
      obtain ⟨k0, k1, k2, k3, k4, k5⟩ := TA.c6
      refine bodyPost_ret (v := .tuple #[kV 0 0 0 0 0 0, errV g 3]) ?_ rfl ⟨rfl, HT.drew⟩
      go_simp
      simp [results, Tryz.results24, go_sem, k0, k1, k2, k3, k4, k5]
end Go.Proofs.YtinopkmcddjgdaaGreatDoor
