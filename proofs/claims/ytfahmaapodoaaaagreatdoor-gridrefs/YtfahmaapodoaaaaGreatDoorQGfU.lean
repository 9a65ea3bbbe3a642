/-
  mercatorref2.RefText; squares that are none, with their errors' numbers.
-/
import Derived.Test.YtfahmaapodoaaaaGreatDoorQGfT
import Derived.Test.YtfahmaapodoaaaaGreatDoorQGqG
namespace Go.Proofs.YtfahmaapodoaaaaGreatDoor
open Go.RowKit GQ

set_option maxHeartbeats 2000000 in
theorem refText_ok (z : Int) (b : Bool) (x y : Int) (h : okRef z x y) (w : World) : Calls Tryz.prog 11 #[rfV z b x y] w fun e w' => e = .returned (.tuple #[.string (TX z b x y), .int .i64 0]) ∧ Gr w w' := by
  have H1 := hidb (fun w => refError_ok z b x y h w)
  obtain ⟨⟨z0, z1⟩, ⟨x0, x1⟩, y0, y1⟩ := h
  obtain ⟨A, B, C, D, -, -, a3, a4, a5, a6⟩ := txt_adds z x y b
  have P1 := hidb (fun w => digitsI z 2 (by omega) (Or.inl ⟨rfl, by omega⟩) w)
  have P2 := hidb (fun w => digitsI x 6 (by omega) (Or.inr (Or.inl ⟨rfl, by omega⟩)) w)
  have P3 := hidb (fun w => digitsI y 7 (by omega) (Or.inr (Or.inr ⟨rfl, by omega⟩)) w)
  clear z0 z1 x0 x1 y0 y1
  generalize PD z 2 = E1 at *
  generalize PD x 6 = E2 at *
  generalize PD y 7 = E3 at *
  generalize TX z b x y = T at *
  have hb1 : b = true → HB2 b = ⟨#[83, 32]⟩ := fun h => by rw [h]; rfl
  have hb0 : b = false → HB2 b = ⟨#[78, 32]⟩ := fun h => by rw [h]; rfl
  have HB1 := hidb hb1
  have HB0 := hidb hb0
  clear hb1 hb0
  cases b
  all_goals
    first
      | rw [HB0.out rfl] at a6
      | rw [HB1.out rfl] at a6
    clear HB0 HB1
    go_enter Tryz.func11, Tryz.ntmps11
    go_wp2_with fail
  · have PA : At (w.alloc (.cells #[.int .i64 z, .bool false, .int .i64 x, .int .i64 y] 23)) w.heap.size [.int .i64 z, .bool false, .int .i64 x, .int .i64 y] := At.new4 w _ _ _ _ _
    have HC : Gr w (w.alloc (.cells #[.int .i64 z, .bool false, .int .i64 x, .int .i64 y] 23)) := (Gr.refl w).alloc _
    generalize w.alloc (.cells #[.int .i64 z, .bool false, .int .i64 x, .int .i64 y] 23) = w1 at *
    refine (H1.out _).mono ?_
    rintro e w2 ⟨rfl, g2⟩
    replace HC : Gr w w2 := HC.step g2
    replace PA := At.below g2 PA
    clear g2
    obtain ⟨c0, c1, c2, c3⟩ := PA.c4
    go_upto_region 7 with fail
    clear c0 c1 c2 c3
    go_region_held (fun w' => w'.cell? ⟨w.heap.size, 0, none⟩ = some (.int .i64 z) ∧ w'.cell? ⟨w.heap.size, 1, none⟩ = some (.bool false) ∧ w'.cell? ⟨w.heap.size, 2, none⟩ = some (.int .i64 x) ∧ w'.cell? ⟨w.heap.size, 3, none⟩ = some (.int .i64 y))
      (exact PA.c4)
      ((first
        | (go_at_call 24; (with_reducible first | refine (P1.out _).mono ?_ | refine (P2.out _).mono ?_ | refine (P3.out _).mono ?_ | fail); rintro e w4 ⟨rfl, hB4⟩; replace HC : Gr w w4 := Gr.step (by ((with_reducible repeat' (first | assumption | refine Gr.drewN ?_ _ | refine Gr.drew ?_ | refine Gr.alloc ?_ _ | exact Gr.refl _)); done)) hB4; replace PA : At w4 w.heap.size [.int .i64 z, .bool false, .int .i64 x, .int .i64 y] := At.below hB4 PA; clear hB4)
        | fail))
    all_goals
      go_wp2
      go_ret2
      exact ⟨rfl, by ((with_reducible repeat' (first | assumption | refine Gr.drewN ?_ _ | refine Gr.drew ?_ | refine Gr.alloc ?_ _ | exact Gr.refl _)); done)⟩
  · have PA : At (w.alloc (.cells #[.int .i64 z, .bool true, .int .i64 x, .int .i64 y] 23)) w.heap.size [.int .i64 z, .bool true, .int .i64 x, .int .i64 y] := At.new4 w _ _ _ _ _
    have HC : Gr w (w.alloc (.cells #[.int .i64 z, .bool true, .int .i64 x, .int .i64 y] 23)) := (Gr.refl w).alloc _
    generalize w.alloc (.cells #[.int .i64 z, .bool true, .int .i64 x, .int .i64 y] 23) = w1 at *
    refine (H1.out _).mono ?_
    rintro e w2 ⟨rfl, g2⟩
    replace HC : Gr w w2 := HC.step g2
    replace PA := At.below g2 PA
    clear g2
    obtain ⟨c0, c1, c2, c3⟩ := PA.c4
    go_upto_region 7 with fail
    clear c0 c1 c2 c3
    go_region_held (fun w' => w'.cell? ⟨w.heap.size, 0, none⟩ = some (.int .i64 z) ∧ w'.cell? ⟨w.heap.size, 1, none⟩ = some (.bool true) ∧ w'.cell? ⟨w.heap.size, 2, none⟩ = some (.int .i64 x) ∧ w'.cell? ⟨w.heap.size, 3, none⟩ = some (.int .i64 y))
      (exact PA.c4)
      ((first
        | (go_at_call 24; (with_reducible first | refine (P1.out _).mono ?_ | refine (P2.out _).mono ?_ | refine (P3.out _).mono ?_ | fail); rintro e w4 ⟨rfl, hB4⟩; replace HC : Gr w w4 := Gr.step (by ((with_reducible repeat' (first | assumption | refine Gr.drewN ?_ _ | refine Gr.drew ?_ | refine Gr.alloc ?_ _ | exact Gr.refl _)); done)) hB4; replace PA : At w4 w.heap.size [.int .i64 z, .bool true, .int .i64 x, .int .i64 y] := At.below hB4 PA; clear hB4)
        | fail))
    all_goals
      go_wp2
      go_ret2
      exact ⟨rfl, by ((with_reducible repeat' (first | assumption | refine Gr.drewN ?_ _ | refine Gr.drew ?_ | refine Gr.alloc ?_ _ | exact Gr.refl _)); done)⟩
theorem refText_no (z : Int) (b : Bool) (x y : Int) (h : ¬ okRef z x y) (w : World) : Calls Tryz.prog 11 #[rfV z b x y] w fun e w' => e = .returned (.tuple #[.string ⟨#[]⟩, .int .i64 4]) ∧ Gr w w' := by
  have H1 := hidb (fun w => refError_no z b x y h w)
  clear h
  go_enter Tryz.func11, Tryz.ntmps11
  go_wp2_with fail
  refine (H1.out _).mono ?_
  rintro e w2 ⟨rfl, g2⟩
  go_wp2_with fail
  go_ret2
  exact ⟨rfl, ((Gr.refl w).alloc _).step g2⟩
theorem square_code (g : Nat → Addr) (z : Int) (b : Bool) (x y m : Int) (k : Nat) (h : (¬ okRef z x y ∧ k = 3) ∨ (okRef z x y ∧ ¬ (0 ≤ m ∧ m ≤ 5) ∧ k = 2)) (w : World) (hl : Laid w g) : Calls Tryz.prog 16 #[rfV z b x y, .int .i64 m] w fun e w' => e = .returned (.tuple #[.string ⟨#[]⟩, errV g k]) ∧ Gr w w' := by
  have HL := hidb hl
  rcases h with ⟨hr, rfl⟩ | ⟨hr, hm, rfl⟩
  · have H1 := hidb (fun w hl => valid_code g z b x y hr w hl)
    have hn := fun w => run_eql_iface_nil (P := Tryz.prog) w 26 (by kernel_rfl) 141 (.pointer (some (g 3)))
    clear hl hr
    go_enter Tryz.func16, Tryz.ntmps16
    go_wp2_with fail
    have HC : Gr w (w.alloc (.cells #[.int .i64 z, .bool b, .int .i64 x, .int .i64 y] 32)) := (Gr.refl w).alloc _
    generalize w.alloc (.cells #[.int .i64 z, .bool b, .int .i64 x, .int .i64 y] 32) = w1 at *
    refine (H1.out _ (HL.out.below HC)).mono ?_
    rintro e w2 ⟨rfl, g2⟩
    replace HC : Gr w w2 := HC.step g2
    clear g2
    go_wp2_with fail
    go_ret2
    exact ⟨rfl, HC⟩
  · have H1 := hidb (fun w => valid_ok z b x y hr w)
    have HM : Hid (m < 0 ∨ 5 < m) := by
      show m < 0 ∨ 5 < m
      rcases Int.lt_or_le m 0 with h0 | h0
      · exact Or.inl h0
      · exact Or.inr (Int.not_le.1 fun h1 => hm ⟨h0, h1⟩)
    clear hl hr hm
    go_enter Tryz.func16, Tryz.ntmps16
    go_wp2_with fail
    have HC : Gr w (w.alloc (.cells #[.int .i64 z, .bool b, .int .i64 x, .int .i64 y] 32)) := (Gr.refl w).alloc _
    generalize w.alloc (.cells #[.int .i64 z, .bool b, .int .i64 x, .int .i64 y] 32) = w1 at *
    refine (H1.out _).mono ?_
    rintro e w2 ⟨rfl, g2⟩
    replace HC : Gr w w2 := HC.step g2
    clear g2
    have hp : w2.cell? ⟨2, 0, none⟩ = some (.iface 141 (.pointer (some (g 2)))) := (HL.out.below HC).cell 2 (by decide)
    rcases HM.out with hm | hm
    · go_upto_region 5 with fail
      go_quiet (fail)
      go_wp2_with fail
      go_ret2
      exact ⟨rfl, by ((with_reducible repeat' (first | assumption | refine Gr.drewN ?_ _ | refine Gr.drew ?_ | refine Gr.alloc ?_ _ | exact Gr.refl _)); done)⟩
    · have hm0 : ¬ m < 0 := by omega
      go_upto_region 5 with fail
      go_quiet (fail)
      go_wp2_with fail
      go_ret2
      exact ⟨rfl, by ((with_reducible repeat' (first | assumption | refine Gr.drewN ?_ _ | refine Gr.drew ?_ | refine Gr.alloc ?_ _ | exact Gr.refl _)); done)⟩
theorem squareText_code (z : Int) (b : Bool) (x y m : Int) (k : Nat) (h : (¬ okRef z x y ∧ k = 3) ∨ (okRef z x y ∧ ¬ (0 ≤ m ∧ m ≤ 5) ∧ k = 2)) (w : World) : Calls Tryz.prog 17 #[rfV z b x y, .int .i64 m] w fun e w' => e = .returned (.tuple #[.string ⟨#[]⟩, .int .i64 ((k : Int) + 1)]) ∧ Gr w w' := by
  rcases h with ⟨hr, rfl⟩ | ⟨hr, hm, rfl⟩
  · have H1 := hidb (fun w => refError_no z b x y hr w)
    clear hr
    go_enter Tryz.func17, Tryz.ntmps17
    go_wp2_with fail
    have HC : Gr w (w.alloc (.cells #[.int .i64 z, .bool b, .int .i64 x, .int .i64 y] 23)) := (Gr.refl w).alloc _
    generalize w.alloc (.cells #[.int .i64 z, .bool b, .int .i64 x, .int .i64 y] 23) = w1 at *
    refine (H1.out _).mono ?_
    rintro e w2 ⟨rfl, g2⟩
    replace HC : Gr w w2 := HC.step g2
    clear g2
    go_wp2_with fail
    go_ret2
    exact ⟨rfl, HC⟩
  · have H1 := hidb (fun w => refError_ok z b x y hr w)
    have HM : Hid (m < 0 ∨ 5 < m) := by
      show m < 0 ∨ 5 < m
      rcases Int.lt_or_le m 0 with h0 | h0
      · exact Or.inl h0
      · exact Or.inr (Int.not_le.1 fun h1 => hm ⟨h0, h1⟩)
    clear hr hm
    go_enter Tryz.func17, Tryz.ntmps17
    go_wp2_with fail
    have HC : Gr w (w.alloc (.cells #[.int .i64 z, .bool b, .int .i64 x, .int .i64 y] 23)) := (Gr.refl w).alloc _
    generalize w.alloc (.cells #[.int .i64 z, .bool b, .int .i64 x, .int .i64 y] 23) = w1 at *
    refine (H1.out _).mono ?_
    rintro e w2 ⟨rfl, g2⟩
    replace HC : Gr w w2 := HC.step g2
    clear g2
    rcases HM.out with hm | hm
    · go_wp2_with fail
      go_ret2
      exact ⟨rfl, HC⟩
    · have hm0 : ¬ m < 0 := by omega
      go_wp2_with fail
      go_ret2
      exact ⟨rfl, HC⟩
end Go.Proofs.YtfahmaapodoaaaaGreatDoor
