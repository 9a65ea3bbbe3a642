/-
  mercatorlaw2: coded, paper, drawn.
-/
import Derived.Test.YtkebgnemccaimaaGreatDoorQFtG
namespace Go.Proofs.YtkebgnemccaimaaGreatDoor
open Go.RowKit FB
attribute [local go_sem] run_store_float

theorem At.f5 {W : World} {B : Nat} {a b c d e : Value} (h : At W B [a, b, c, d, e]) : W.frozen? ⟨B, 0, none⟩ = false ∧ W.frozen? ⟨B, 1, none⟩ = false ∧ W.frozen? ⟨B, 2, none⟩ = false ∧ W.frozen? ⟨B, 3, none⟩ = false ∧ W.frozen? ⟨B, 4, none⟩ = false := ⟨(h.1 0 (by simp)).2, (h.1 1 (by simp)).2, (h.1 2 (by simp)).2, (h.1 3 (by simp)).2, (h.1 4 (by simp)).2⟩
theorem coded_p (g : Nat → Addr) (c : Nat) (hc : c = 0 ∨ c = 3 ∨ c = 4 ∨ c = 5) (w : World) (hl : Laid w g) : Calls Tryz.prog 9 #[evOf g c, .int .i64 c] w fun e w' => e = .returned (.bool true) ∧ Gr w w' := by
  unfold evOf
  rcases hc with rfl | rfl | rfl | rfl
  · refine (coded_nil 0 w).mono ?_
    rintro e w' ⟨rfl, rfl⟩
    exact ⟨rfl, Gr.refl _⟩
  · refine (coded_sent g 2 (by decide) 3 w hl).mono ?_
    rintro e w' ⟨rfl, hB⟩
    exact ⟨rfl, hB⟩
  · refine (coded_sent g 3 (by decide) 4 w hl).mono ?_
    rintro e w' ⟨rfl, hB⟩
    exact ⟨rfl, hB⟩
  · refine (coded_sent g 4 (by decide) 5 w hl).mono ?_
    rintro e w' ⟨rfl, hB⟩
    exact ⟨rfl, hB⟩
set_option maxHeartbeats 2000000 in
theorem paper_any (a f m : Nat) (k : ByteArray) (mid : Int) (w : World) : Calls Tryz.prog 10 #[pV a f k mid m] w fun x w' => x = .returned (pV a f k mid m) ∧ Gr w w' ∧ w.heap.size < w'.heap.size := by
  go_enter Tryz.func10, Tryz.ntmps10
  go_upto_region 1 with fail
  have PA : At ((w.alloc (.cells #[.float .f64 a, .float .f64 f, .string k, .int .i64 mid, .float .f64 m] 26)).alloc (.cells #[.float .f64 0, .float .f64 0, .string ⟨#[]⟩, .int .i64 0, .float .f64 0] 35)) w.heap.size (pL a f k mid m) := by ((with_reducible repeat' (first | assumption | exact At.new1 _ _ _ | exact At.new2 _ _ _ _ | exact At.new3 _ _ _ _ _ | exact At.new5 _ _ _ _ _ _ _ | exact At.nx1 _ _ _ | exact At.nx2 _ _ _ _ | exact At.nx3 _ _ _ _ _ | exact At.ny1 _ _ _ _ | exact At.ny2 _ _ _ _ _ | exact At.ny3 _ _ _ _ _ _ | exact At.nz1 _ _ _ _ _ | exact At.nz2 _ _ _ _ _ _ | exact At.nz3 _ _ _ _ _ _ _ | exact Has.new1 _ _ _ | exact Has.new2 _ _ _ _ | exact Has.new3 _ _ _ _ _ | exact Has.nx1 _ _ _ | exact Has.nx2 _ _ _ _ | exact Has.nx3 _ _ _ _ _ | exact Has.ny1 _ _ _ _ | exact Has.ny2 _ _ _ _ _ | exact Has.ny3 _ _ _ _ _ _ | exact Has.nz1 _ _ _ _ _ | exact Has.nz2 _ _ _ _ _ _ | exact Has.nz3 _ _ _ _ _ _ _ | refine At.fill1 ?_ _ | refine At.fill2 ?_ _ _ | refine At.fill3 ?_ _ _ _ | refine At.swap ?_ (by first | omega | (simp; omega)) _ _ | refine At.alloc ?_ _ | refine At.drew ?_ | refine At.drewN ?_ _ | refine At.skip ?_ (by first | omega | (simp; omega)) _ _ | refine At.below (by assumption) ?_ | refine Has.alloc ?_ _ | refine Has.drew ?_ | refine Has.drewN ?_ _ | refine Has.set ?_ _ _ _ | refine Has.below (by assumption) ?_)); done)
  have RA : At ((w.alloc (.cells #[.float .f64 a, .float .f64 f, .string k, .int .i64 mid, .float .f64 m] 26)).alloc (.cells #[.float .f64 0, .float .f64 0, .string ⟨#[]⟩, .int .i64 0, .float .f64 0] 35)) (w.heap.size + 1) (pL 0 0 ⟨#[]⟩ 0 0) := by
    have := At.new5 (w.alloc (.cells #[.float .f64 a, .float .f64 f, .string k, .int .i64 mid, .float .f64 m] 26)) (.float .f64 0) (.float .f64 0) (.string ⟨#[]⟩) (.int .i64 0) (.float .f64 0) 35
    simpa using this
  have HC : Gr w ((w.alloc (.cells #[.float .f64 a, .float .f64 f, .string k, .int .i64 mid, .float .f64 m] 26)).alloc (.cells #[.float .f64 0, .float .f64 0, .string ⟨#[]⟩, .int .i64 0, .float .f64 0] 35)) := by ((with_reducible repeat' (first | assumption | refine Gr.drew ?_ | refine Gr.drewN ?_ _ | refine Gr.alloc ?_ _ | refine Gr.set ?_ (by first | omega | (simp; omega)) _ _ | exact Gr.refl _)); done)
  generalize (w.alloc (.cells #[.float .f64 a, .float .f64 f, .string k, .int .i64 mid, .float .f64 m] 26)).alloc (.cells #[.float .f64 0, .float .f64 0, .string ⟨#[]⟩, .int .i64 0, .float .f64 0] 35) = w1 at *
  obtain ⟨r0, r1, r2, r3, r4⟩ := RA.c5
  obtain ⟨z0, z1, z2, z3, z4⟩ := RA.f5
  go_region_held (fun w' => w'.cell? ⟨w.heap.size, 0, none⟩ = some (.float .f64 a) ∧ w'.cell? ⟨w.heap.size, 1, none⟩ = some (.float .f64 f) ∧ w'.cell? ⟨w.heap.size, 2, none⟩ = some (.string k) ∧ w'.cell? ⟨w.heap.size, 3, none⟩ = some (.int .i64 mid) ∧ w'.cell? ⟨w.heap.size, 4, none⟩ = some (.float .f64 m))
    ((refine At.c5 (a := .float .f64 a) (b := .float .f64 f) (c := .string k) (d := .int .i64 mid) (e := .float .f64 m) ?_; ((with_reducible repeat' (first | assumption | exact At.new1 _ _ _ | exact At.new2 _ _ _ _ | exact At.new3 _ _ _ _ _ | exact At.new5 _ _ _ _ _ _ _ | exact At.nx1 _ _ _ | exact At.nx2 _ _ _ _ | exact At.nx3 _ _ _ _ _ | exact At.ny1 _ _ _ _ | exact At.ny2 _ _ _ _ _ | exact At.ny3 _ _ _ _ _ _ | exact At.nz1 _ _ _ _ _ | exact At.nz2 _ _ _ _ _ _ | exact At.nz3 _ _ _ _ _ _ _ | exact Has.new1 _ _ _ | exact Has.new2 _ _ _ _ | exact Has.new3 _ _ _ _ _ | exact Has.nx1 _ _ _ | exact Has.nx2 _ _ _ _ | exact Has.nx3 _ _ _ _ _ | exact Has.ny1 _ _ _ _ | exact Has.ny2 _ _ _ _ _ | exact Has.ny3 _ _ _ _ _ _ | exact Has.nz1 _ _ _ _ _ | exact Has.nz2 _ _ _ _ _ _ | exact Has.nz3 _ _ _ _ _ _ _ | refine At.fill1 ?_ _ | refine At.fill2 ?_ _ _ | refine At.fill3 ?_ _ _ _ | refine At.swap ?_ (by first | omega | (simp; omega)) _ _ | refine At.alloc ?_ _ | refine At.drew ?_ | refine At.drewN ?_ _ | refine At.skip ?_ (by first | omega | (simp; omega)) _ _ | refine At.below (by assumption) ?_ | refine Has.alloc ?_ _ | refine Has.drew ?_ | refine Has.drewN ?_ _ | refine Has.set ?_ _ _ _ | refine Has.below (by assumption) ?_)); done)))
    ((go_at_call 21; refine (ball_any _ _ _).mono ?_; rintro x w3 ⟨rfl, hB3⟩; replace HC : Gr w w3 := Gr.step (by ((with_reducible repeat' (first | assumption | refine Gr.drew ?_ | refine Gr.drewN ?_ _ | refine Gr.alloc ?_ _ | refine Gr.set ?_ (by first | omega | (simp; omega)) _ _ | exact Gr.refl _)); done)) hB3; replace PA : At w3 w.heap.size (pL a f k mid m) := At.below hB3 (by ((with_reducible repeat' (first | assumption | exact At.new1 _ _ _ | exact At.new2 _ _ _ _ | exact At.new3 _ _ _ _ _ | exact At.new5 _ _ _ _ _ _ _ | exact At.nx1 _ _ _ | exact At.nx2 _ _ _ _ | exact At.nx3 _ _ _ _ _ | exact At.ny1 _ _ _ _ | exact At.ny2 _ _ _ _ _ | exact At.ny3 _ _ _ _ _ _ | exact At.nz1 _ _ _ _ _ | exact At.nz2 _ _ _ _ _ _ | exact At.nz3 _ _ _ _ _ _ _ | exact Has.new1 _ _ _ | exact Has.new2 _ _ _ _ | exact Has.new3 _ _ _ _ _ | exact Has.nx1 _ _ _ | exact Has.nx2 _ _ _ _ | exact Has.nx3 _ _ _ _ _ | exact Has.ny1 _ _ _ _ | exact Has.ny2 _ _ _ _ _ | exact Has.ny3 _ _ _ _ _ _ | exact Has.nz1 _ _ _ _ _ | exact Has.nz2 _ _ _ _ _ _ | exact Has.nz3 _ _ _ _ _ _ _ | refine At.fill1 ?_ _ | refine At.fill2 ?_ _ _ | refine At.fill3 ?_ _ _ _ | refine At.swap ?_ (by first | omega | (simp; omega)) _ _ | refine At.alloc ?_ _ | refine At.drew ?_ | refine At.drewN ?_ _ | refine At.skip ?_ (by first | omega | (simp; omega)) _ _ | refine At.below (by assumption) ?_ | refine Has.alloc ?_ _ | refine Has.drew ?_ | refine Has.drewN ?_ _ | refine Has.set ?_ _ _ _ | refine Has.below (by assumption) ?_)); done)); replace RA : At w3 (w.heap.size + 1) (pL 0 0 ⟨#[]⟩ 0 0) := At.below hB3 (by ((with_reducible repeat' (first | assumption | exact At.new1 _ _ _ | exact At.new2 _ _ _ _ | exact At.new3 _ _ _ _ _ | exact At.new5 _ _ _ _ _ _ _ | exact At.nx1 _ _ _ | exact At.nx2 _ _ _ _ | exact At.nx3 _ _ _ _ _ | exact At.ny1 _ _ _ _ | exact At.ny2 _ _ _ _ _ | exact At.ny3 _ _ _ _ _ _ | exact At.nz1 _ _ _ _ _ | exact At.nz2 _ _ _ _ _ _ | exact At.nz3 _ _ _ _ _ _ _ | exact Has.new1 _ _ _ | exact Has.new2 _ _ _ _ | exact Has.new3 _ _ _ _ _ | exact Has.nx1 _ _ _ | exact Has.nx2 _ _ _ _ | exact Has.nx3 _ _ _ _ _ | exact Has.ny1 _ _ _ _ | exact Has.ny2 _ _ _ _ _ | exact Has.ny3 _ _ _ _ _ _ | exact Has.nz1 _ _ _ _ _ | exact Has.nz2 _ _ _ _ _ _ | exact Has.nz3 _ _ _ _ _ _ _ | refine At.fill1 ?_ _ | refine At.fill2 ?_ _ _ | refine At.fill3 ?_ _ _ _ | refine At.swap ?_ (by first | omega | (simp; omega)) _ _ | refine At.alloc ?_ _ | refine At.drew ?_ | refine At.drewN ?_ _ | refine At.skip ?_ (by first | omega | (simp; omega)) _ _ | refine At.below (by assumption) ?_ | refine Has.alloc ?_ _ | refine Has.drew ?_ | refine Has.drewN ?_ _ | refine Has.set ?_ _ _ _ | refine Has.below (by assumption) ?_)); done)); clear r0 r1 r2 r3 r4 z0 z1 z2 z3 z4; obtain ⟨r0, r1, r2, r3, r4⟩ := RA.c5; obtain ⟨z0, z1, z2, z3, z4⟩ := RA.f5; clear hB3))
  all_goals
    go_wp2
    exact bodyPost_ret (v := pV a f k mid m) (by simp [results, Tryz.results10, go_sem, r0, r1, r2, r3, r4]) rfl ⟨rfl, by ((with_reducible repeat' (first | assumption | refine Gr.drew ?_ | refine Gr.drewN ?_ _ | refine Gr.alloc ?_ _ | refine Gr.set ?_ (by first | omega | (simp; omega)) _ _ | exact Gr.refl _)); done), by have := RA.lt; simp; omega⟩

theorem drawn_x : asO 4617315517961601024 4607182418800017408 (nrm 90000000000 - nrm 0) = some 4620528815617423454 := by decide +kernel
def kM : ByteArray := ⟨#[109, 101, 114, 99, 97, 116, 111, 114]⟩
theorem kM_kd : Kd kM true false false := ⟨by decide +kernel, by decide +kernel, by decide +kernel⟩
theorem kM_kd0 : kd kM = 0 := by unfold kd; rw [kM_kd.t0]; rfl
theorem drawn_code : dcode 4617315517961601024 0 kM 4607182418800017408 0 = 0 := by
  have h : pcode 4617315517961601024 0 kM 4607182418800017408 = 0 := by
    unfold pcode
    rw [if_pos (by decide +kernel), kM_kd0, if_neg (by decide), if_pos (by decide +kernel)]
  unfold dcode
  rw [if_pos h, kM_kd0, if_neg (by decide)]
set_option maxHeartbeats 1000000 in
theorem drawn_any (g : Nat → Addr) (w : World) (hl : Laid w g) : Calls Tryz.prog 8 #[] w fun x w' => x = .returned (.bool true) ∧ Gr w w' := by
  have HL := hid hl
  have HT := hid (fun w hl => to_k0 g 4617315517961601024 0 4607182418800017408 kM 0 90000000000 0 ⟨by decide, by decide⟩ drawn_code kM_kd w hl)
  clear hl
  have o1 : (FloatKind.f64.format.order 4620528815617423454 4620524332696102502 == some Ordering.gt) = true := by decide +kernel
  have o2 : (FloatKind.f64.format.order 4620528815617423454 4620535591695170929 == some Ordering.lt) = true := by decide +kernel
  go_enter Tryz.func8, Tryz.ntmps8
  go_wp2_with fail
  refine (HT.out _ HL.out).mono ?_
  rintro x w1 ⟨rx, ry, rfl, hx, hy, hB⟩
  rw [drawn_x] at hx
  obtain rfl : rx = 4620528815617423454 := hx.1
  rw [show uz 4620528815617423454 = 4620528815617423454 by decide +kernel]
  generalize uz ry = ry'
  clear hx hy
  go_wp2
  go_ret
  exact ⟨rfl, by ((with_reducible repeat' (first | assumption | refine Gr.drew ?_ | refine Gr.drewN ?_ _ | refine Gr.alloc ?_ _ | refine Gr.set ?_ (by first | omega | (simp; omega)) _ _ | exact Gr.refl _)); done)⟩
end Go.Proofs.YtkebgnemccaimaaGreatDoor
