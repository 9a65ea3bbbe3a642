/-
  grid.Sheets.
-/
import Derived.Test.YthpbkomchdgneaaDoorQGsA
namespace Go.Proofs.YthpbkomchdgneaaDoor
open Go.RowKit

/-- What the sheets are asked for. -/
structure Fine (a b c d wide high lap : Int) : Prop where
  a1 : -16777216 ≤ a
  b1 : -16777216 ≤ b
  c1 : c ≤ 16777216
  d1 : d ≤ 16777216
  ac : a ≤ c
  bd : b ≤ d
  w1 : 1 ≤ wide
  w2 : wide ≤ 33554432
  h1 : 1 ≤ high
  h2 : high ≤ 33554432
  l1 : 0 ≤ lap
  l2 : lap ≤ 16777216
def okS (a b c d wide high lap : Int) : Bool := okB a b c d && inI 1 33554432 wide && inI 1 33554432 high && inI 0 16777216 lap
theorem okS_fine {a b c d wide high lap : Int} (h : okS a b c d wide high lap = true) : Fine a b c d wide high lap := by
  unfold okS at h
  simp only [Bool.and_eq_true] at h
  obtain ⟨⟨⟨h1, h2⟩, h3⟩, h4⟩ := h
  obtain ⟨g1, g2, g3, g4, g5, g6⟩ := okB_bd h1
  unfold inI at h2 h3 h4
  simp only [Bool.and_eq_true, decide_eq_true_eq] at h2 h3 h4
  exact ⟨g1.1, g2.1, g3.2, g4.2, g5, g6, h2.1, h2.2, h3.1, h3.2, h4.1, h4.2⟩
set_option maxHeartbeats 4000000 in
theorem sheets_no (g : Nat → Addr) (a b c d wide high lap : Int) (h : okS a b c d wide high lap = false) (w : World) (hl : Laid w g) : Calls Tryd.prog 10 #[boV a b c d, .int .i64 wide, .int .i64 high, .int .i64 lap] w fun e w' => e = .returned (.tuple #[.slice none 0 0, errV g 2]) ∧ Gr w w' := by
  have HL := hidb hl
  have HH := hidb h
  have HR := hidb (fun w => right_any a b c d w)
  clear hl h
  unfold okS at HH
  go_enter Tryd.func10, Tryd.ntmps10
  go_wp2_with fail
  refine (HR.out _).mono ?_
  rintro e w1 ⟨rfl, hB⟩
  have HC : Gr w w1 := Gr.step (by ((with_reducible repeat' (first | assumption | refine Gr.drew ?_ | refine Gr.alloc ?_ _ | refine Gr.set ?_ (by first | omega | (simp; omega)) _ _ | exact Gr.refl _)); done)) hB
  have cg : w1.cell? ⟨0, 0, none⟩ = some (.iface 143 (.pointer (some (g 2)))) := (HL.out.below HC).cell 2 (by decide)
  clear hB
  cases k1 : okB a b c d with
  | false =>
    go_upto_region 2 with fail
    go_quiet (fail)
    go_wp2
    go_ret2
    exact ⟨rfl, by ((with_reducible repeat' (first | assumption | refine Gr.drew ?_ | refine Gr.drewN ?_ _ | refine Gr.alloc ?_ _ | refine Gr.set ?_ (by first | omega | (simp; omega)) _ _ | exact Gr.refl _)); done)⟩
  | true =>
    go_wp2_with fail
    refine (within_any _ _ _ _).mono ?_
    rintro e w2 ⟨rfl, rfl⟩
    cases k2 : inI 1 33554432 wide with
    | false =>
      go_upto_region 2 with fail
      go_quiet (fail)
      go_wp2
      go_ret2
      exact ⟨rfl, by ((with_reducible repeat' (first | assumption | refine Gr.drew ?_ | refine Gr.drewN ?_ _ | refine Gr.alloc ?_ _ | refine Gr.set ?_ (by first | omega | (simp; omega)) _ _ | exact Gr.refl _)); done)⟩
    | true =>
      go_wp2_with fail
      refine (within_any _ _ _ _).mono ?_
      rintro e w2 ⟨rfl, rfl⟩
      cases k3 : inI 1 33554432 high with
      | false =>
        go_upto_region 2 with fail
        go_quiet (fail)
        go_wp2
        go_ret2
        exact ⟨rfl, by ((with_reducible repeat' (first | assumption | refine Gr.drew ?_ | refine Gr.drewN ?_ _ | refine Gr.alloc ?_ _ | refine Gr.set ?_ (by first | omega | (simp; omega)) _ _ | exact Gr.refl _)); done)⟩
      | true =>
        have k4 : inI 0 16777216 lap = false := by
          have := HH.out
          rw [k1, k2, k3] at this
          simpa using this
        have K4 := hidb k4
        clear k4
        go_wp2_with fail
        refine (within_any _ _ _ _).mono ?_
        rintro e w2 ⟨rfl, rfl⟩
        rw [K4.out]
        go_upto_region 2 with fail
        go_quiet (fail)
        go_wp2
        go_ret2
        exact ⟨rfl, by ((with_reducible repeat' (first | assumption | refine Gr.drew ?_ | refine Gr.drewN ?_ _ | refine Gr.alloc ?_ _ | refine Gr.set ?_ (by first | omega | (simp; omega)) _ _ | exact Gr.refl _)); done)⟩
end Go.Proofs.YthpbkomchdgneaaDoor
