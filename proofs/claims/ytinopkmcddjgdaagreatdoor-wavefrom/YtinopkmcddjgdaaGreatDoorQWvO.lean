/-
  mercatorlaw2: strip, waved.
-/
import Derived.Test.YtinopkmcddjgdaaGreatDoorQWvJ
import Derived.Test.YtinopkmcddjgdaaGreatDoorQWvM
import Derived.Test.YtinopkmcddjgdaaGreatDoorQFtJ
namespace Go.Proofs.YtinopkmcddjgdaaGreatDoor
open Go.RowKit FB
attribute [local go_sem] run_store_float

set_option maxHeartbeats 2000000 in
theorem strip_any (a f m : Nat) (mid : Int) (w : World) : Calls Tryz.prog 7 #[sV a f mid m] w fun x w' => x = .returned (sV a f mid m) ∧ Gr w w' ∧ w.heap.size < w'.heap.size := by
  go_enter Tryz.func7, Tryz.ntmps7
  go_upto_region 1 with fail
  have PA : At ((w.alloc (.cells #[.float .f64 a, .float .f64 f, .int .i64 mid, .float .f64 m] 26)).alloc (.cells #[.float .f64 0, .float .f64 0, .int .i64 0, .float .f64 0] 35)) w.heap.size (sL a f mid m) := (At.new4 _ _ _ _ _ _).alloc _
  have RA : At ((w.alloc (.cells #[.float .f64 a, .float .f64 f, .int .i64 mid, .float .f64 m] 26)).alloc (.cells #[.float .f64 0, .float .f64 0, .int .i64 0, .float .f64 0] 35)) (w.heap.size + 1) (sL 0 0 0 0) := by
    have := At.new4 (w.alloc (.cells #[.float .f64 a, .float .f64 f, .int .i64 mid, .float .f64 m] 26)) (.float .f64 0) (.float .f64 0) (.int .i64 0) (.float .f64 0) 35
    simpa using this
  have HC : Gr w ((w.alloc (.cells #[.float .f64 a, .float .f64 f, .int .i64 mid, .float .f64 m] 26)).alloc (.cells #[.float .f64 0, .float .f64 0, .int .i64 0, .float .f64 0] 35)) := by ((with_reducible repeat' (first | assumption | refine Gr.drew ?_ | refine Gr.drewN ?_ _ | refine Gr.alloc ?_ _ | refine Gr.set ?_ (by first | omega | (simp; omega)) _ _ | exact Gr.refl _)); done)
  generalize (w.alloc (.cells #[.float .f64 a, .float .f64 f, .int .i64 mid, .float .f64 m] 26)).alloc (.cells #[.float .f64 0, .float .f64 0, .int .i64 0, .float .f64 0] 35) = w1 at *
  obtain ⟨r0, r1, r2, r3⟩ := RA.c4
  obtain ⟨z0, z1, z2, z3⟩ := RA.f4
  go_region_held (fun w' => w'.cell? ⟨w.heap.size, 0, none⟩ = some (.float .f64 a) ∧ w'.cell? ⟨w.heap.size, 1, none⟩ = some (.float .f64 f) ∧ w'.cell? ⟨w.heap.size, 2, none⟩ = some (.int .i64 mid) ∧ w'.cell? ⟨w.heap.size, 3, none⟩ = some (.float .f64 m))
    ((refine At.c4 (a := .float .f64 a) (b := .float .f64 f) (c := .int .i64 mid) (d := .float .f64 m) ?_; ((with_reducible repeat' (first | assumption | exact At.new1 _ _ _ | exact At.new2 _ _ _ _ | exact At.new3 _ _ _ _ _ | exact At.new5 _ _ _ _ _ _ _ | exact At.nx1 _ _ _ | exact At.nx2 _ _ _ _ | exact At.nx3 _ _ _ _ _ | exact At.ny1 _ _ _ _ | exact At.ny2 _ _ _ _ _ | exact At.ny3 _ _ _ _ _ _ | exact At.nz1 _ _ _ _ _ | exact At.nz2 _ _ _ _ _ _ | exact At.nz3 _ _ _ _ _ _ _ | exact Has.new1 _ _ _ | exact Has.new2 _ _ _ _ | exact Has.new3 _ _ _ _ _ | exact Has.nx1 _ _ _ | exact Has.nx2 _ _ _ _ | exact Has.nx3 _ _ _ _ _ | exact Has.ny1 _ _ _ _ | exact Has.ny2 _ _ _ _ _ | exact Has.ny3 _ _ _ _ _ _ | exact Has.nz1 _ _ _ _ _ | exact Has.nz2 _ _ _ _ _ _ | exact Has.nz3 _ _ _ _ _ _ _ | refine At.fill4 ?_ _ _ _ _ | refine At.fill1 ?_ _ | refine At.fill2 ?_ _ _ | refine At.fill3 ?_ _ _ _ | refine At.swap ?_ (by first | omega | (simp; omega)) _ _ | refine At.alloc ?_ _ | refine At.drew ?_ | refine At.drewN ?_ _ | refine At.skip ?_ (by first | omega | (simp; omega)) _ _ | refine At.below (by assumption) ?_ | exact At.has (by assumption) rfl | refine Has.alloc ?_ _ | refine Has.drew ?_ | refine Has.drewN ?_ _ | refine Has.set ?_ _ _ _ | refine Has.below (by assumption) ?_)); done)))
    ((go_at_call 20; refine (ball_any _ _ _).mono ?_; rintro x w3 ⟨rfl, hB3⟩; replace HC : Gr w w3 := Gr.step (by ((with_reducible repeat' (first | assumption | refine Gr.drew ?_ | refine Gr.drewN ?_ _ | refine Gr.alloc ?_ _ | refine Gr.set ?_ (by first | omega | (simp; omega)) _ _ | exact Gr.refl _)); done)) hB3; replace PA : At w3 w.heap.size (sL a f mid m) := At.below hB3 (by ((with_reducible repeat' (first | assumption | exact At.new1 _ _ _ | exact At.new2 _ _ _ _ | exact At.new3 _ _ _ _ _ | exact At.new5 _ _ _ _ _ _ _ | exact At.nx1 _ _ _ | exact At.nx2 _ _ _ _ | exact At.nx3 _ _ _ _ _ | exact At.ny1 _ _ _ _ | exact At.ny2 _ _ _ _ _ | exact At.ny3 _ _ _ _ _ _ | exact At.nz1 _ _ _ _ _ | exact At.nz2 _ _ _ _ _ _ | exact At.nz3 _ _ _ _ _ _ _ | exact Has.new1 _ _ _ | exact Has.new2 _ _ _ _ | exact Has.new3 _ _ _ _ _ | exact Has.nx1 _ _ _ | exact Has.nx2 _ _ _ _ | exact Has.nx3 _ _ _ _ _ | exact Has.ny1 _ _ _ _ | exact Has.ny2 _ _ _ _ _ | exact Has.ny3 _ _ _ _ _ _ | exact Has.nz1 _ _ _ _ _ | exact Has.nz2 _ _ _ _ _ _ | exact Has.nz3 _ _ _ _ _ _ _ | refine At.fill1 ?_ _ | refine At.fill2 ?_ _ _ | refine At.fill3 ?_ _ _ _ | refine At.swap ?_ (by first | omega | (simp; omega)) _ _ | refine At.alloc ?_ _ | refine At.drew ?_ | refine At.drewN ?_ _ | refine At.skip ?_ (by first | omega | (simp; omega)) _ _ | refine At.below (by assumption) ?_ | refine Has.alloc ?_ _ | refine Has.drew ?_ | refine Has.drewN ?_ _ | refine Has.set ?_ _ _ _ | refine Has.below (by assumption) ?_)); done)); replace RA : At w3 (w.heap.size + 1) (sL 0 0 0 0) := At.below hB3 (by ((with_reducible repeat' (first | assumption | exact At.new1 _ _ _ | exact At.new2 _ _ _ _ | exact At.new3 _ _ _ _ _ | exact At.new5 _ _ _ _ _ _ _ | exact At.nx1 _ _ _ | exact At.nx2 _ _ _ _ | exact At.nx3 _ _ _ _ _ | exact At.ny1 _ _ _ _ | exact At.ny2 _ _ _ _ _ | exact At.ny3 _ _ _ _ _ _ | exact At.nz1 _ _ _ _ _ | exact At.nz2 _ _ _ _ _ _ | exact At.nz3 _ _ _ _ _ _ _ | exact Has.new1 _ _ _ | exact Has.new2 _ _ _ _ | exact Has.new3 _ _ _ _ _ | exact Has.nx1 _ _ _ | exact Has.nx2 _ _ _ _ | exact Has.nx3 _ _ _ _ _ | exact Has.ny1 _ _ _ _ | exact Has.ny2 _ _ _ _ _ | exact Has.ny3 _ _ _ _ _ _ | exact Has.nz1 _ _ _ _ _ | exact Has.nz2 _ _ _ _ _ _ | exact Has.nz3 _ _ _ _ _ _ _ | refine At.fill1 ?_ _ | refine At.fill2 ?_ _ _ | refine At.fill3 ?_ _ _ _ | refine At.swap ?_ (by first | omega | (simp; omega)) _ _ | refine At.alloc ?_ _ | refine At.drew ?_ | refine At.drewN ?_ _ | refine At.skip ?_ (by first | omega | (simp; omega)) _ _ | refine At.below (by assumption) ?_ | refine Has.alloc ?_ _ | refine Has.drew ?_ | refine Has.drewN ?_ _ | refine Has.set ?_ _ _ _ | refine Has.below (by assumption) ?_)); done)); clear r0 r1 r2 r3 z0 z1 z2 z3; obtain ⟨r0, r1, r2, r3⟩ := RA.c4; obtain ⟨z0, z1, z2, z3⟩ := RA.f4))
  all_goals
    go_wp2
    exact bodyPost_ret (v := sV a f mid m) (by simp [results, Tryz.results7, go_sem, r0, r1, r2, r3]) rfl ⟨rfl, by ((with_reducible repeat' (first | assumption | refine Gr.drew ?_ | refine Gr.drewN ?_ _ | refine Gr.alloc ?_ _ | refine Gr.set ?_ (by first | omega | (simp; omega)) _ _ | exact Gr.refl _)); done), by have := RA.lt; simp; omega⟩

/-- The law's own trial, word by word. -/
theorem tw_is : isO 0 45000000000 = some x45 := by decide +kernel
theorem tw_t : tRf 0 45000000000 = some 4607182418800017407 := by
  unfold tRf kO oXw
  rw [tw_is]
  show oD (oS (expW x45) (oD (some oneW) (expW x45))) (some twoW) = _
  rw [show expW x45 = some e45 from if_pos rfl]
  decide +kernel
theorem tw_v : vRf 0 45000000000 0 = some 0 := by
  unfold vRf rRf
  rw [tw_t]
  decide +kernel
theorem tw_u : uI 0 45000000000 0 = 44999999999 := by
  unfold uI
  rw [tw_t]
  decide +kernel
theorem kO_zero : kO (some 0) = some 0 := by
  unfold kO oXw
  show oD (oS (expW 0) (oD (some oneW) (expW 0))) (some twoW) = _
  rw [expW_zr (.inl rfl)]
  decide +kernel
theorem hO_zero : hO (some 0) = some oneW := by
  unfold hO oXw
  show oD (oA (expW 0) (oD (some oneW) (expW 0))) (some twoW) = _
  rw [expW_zr (.inl rfl)]
  decide +kernel
theorem vk_zero : vkO 2 (some 0) = some 0 ∧ vkO 4 (some 0) = some 0 ∧ vkO 6 (some 0) = some 0 ∧ vkO 8 (some 0) = some 0 := by decide +kernel
theorem tw_x : oM (srO 4617315517961601024 (uz 0) 4607182418800017408) (zsI 0 0 45000000000 0) = some 0 := by
  unfold zsI
  rw [tw_u, tw_v]
  unfold ripO snI
  rw [vk_zero.1, vk_zero.2.1, vk_zero.2.2.1, vk_zero.2.2.2, kO_zero]
  decide +kernel
theorem tw_y : oM (srO 4617315517961601024 (uz 0) 4607182418800017408) (zsR 0 0 45000000000 0) = some 4616025215989856452 := by
  unfold zsR
  rw [tw_u, tw_v]
  unfold ripO snR
  rw [vk_zero.1, vk_zero.2.1, vk_zero.2.2.1, vk_zero.2.2.2, hO_zero]
  decide +kernel
theorem tw_code : tcode 4617315517961601024 0 4607182418800017408 45000000000 (nrm 0 - nrm 0) = 0 := by decide +kernel
set_option maxHeartbeats 1000000 in
theorem waved_any (g : Nat → Addr) (w : World) (hl : Laid w g) : Calls Tryz.prog 5 #[] w fun x w' => x = .returned (.bool true) ∧ Gr w w' := by
  have HL := hid hl
  have HT := hid (fun w hl => sto_ok g 4617315517961601024 0 0 4607182418800017408 0 0 45000000000 ⟨by decide, by decide⟩ (by decide +kernel) tw_code w hl)
  rw [show nrm 0 - nrm 0 = 0 by decide, tw_x, tw_y] at HT
  clear hl
  have o0 : (FloatKind.f64.format.order 0 0 == some Ordering.eq) = true := by decide +kernel
  have o1 : (FloatKind.f64.format.order 4616025215989856452 4616009474069663580 == some Ordering.gt) = true := by decide +kernel
  have o2 : (FloatKind.f64.format.order 4616025215989856452 4616031992067800433 == some Ordering.lt) = true := by decide +kernel
  go_enter Tryz.func5, Tryz.ntmps5
  go_wp2_with fail
  refine (HT.out _ HL.out).mono ?_
  rintro x w1 ⟨rx, ry, rfl, hx, hy, hB⟩
  obtain rfl : rx = 0 := hx.1
  obtain rfl : ry = 4616025215989856452 := hy.1
  rw [show uz 0 = 0 by decide +kernel, show uz 4616025215989856452 = 4616025215989856452 by decide +kernel]
  clear hx hy
  have HC : Gr w w1 := hB
  go_wp2
  go_ret
  exact ⟨rfl, by ((with_reducible repeat' (first | assumption | refine Gr.drew ?_ | refine Gr.drewN ?_ _ | refine Gr.alloc ?_ _ | refine Gr.set ?_ (by first | omega | (simp; omega)) _ _ | exact Gr.refl _)); done)⟩
end Go.Proofs.YtinopkmcddjgdaaGreatDoor
