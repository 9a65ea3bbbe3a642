/-
  grid.Lines.
-/
import Derived.Test.YthpbkomchdgneaaDoorQGlE
namespace Go.Proofs.YthpbkomchdgneaaDoor
open Go.RowKit

set_option maxHeartbeats 4000000 in
theorem lines_no (g : Nat → Addr) (a b c d s : Int) (h : okB a b c d = false ∨ s < 1) (w : World) (hl : Laid w g) : Calls Tryd.prog 14 #[boV a b c d, .int .i64 s] w fun e w' => e = .returned (.tuple #[.slice none 0 0, .slice none 0 0, errV g 2]) ∧ Gr w w' := by
  have HL := hidb hl
  have HH := hidb h
  have HR := hidb (fun w => right_any a b c d w)
  clear hl h
  cases hk : okB a b c d with
  | false =>
    rw [hk] at HR
    go_enter Tryd.func14, Tryd.ntmps14
    go_wp2_with fail
    refine (HR.out _).mono ?_
    rintro e w1 ⟨rfl, hB⟩
    have HC : Gr w w1 := Gr.step (by ((with_reducible repeat' (first | assumption | refine Gr.drew ?_ | refine Gr.alloc ?_ _ | refine Gr.set ?_ (by first | omega | (simp; omega)) _ _ | exact Gr.refl _)); done)) hB
    have cg : w1.cell? ⟨0, 0, none⟩ = some (.iface 143 (.pointer (some (g 2)))) := (HL.out.below HC).cell 2 (by decide)
    clear hB
    go_upto_region 2 with fail
    go_quiet (fail)
    go_wp2
    go_ret3
    exact ⟨rfl, by ((with_reducible repeat' (first | assumption | refine Gr.drew ?_ | refine Gr.drewN ?_ _ | refine Gr.alloc ?_ _ | refine Gr.set ?_ (by first | omega | (simp; omega)) _ _ | exact Gr.refl _)); done)⟩
  | true =>
    have hs : s < 1 := HH.out.resolve_left (by rw [hk]; decide)
    rw [hk] at HR
    go_enter Tryd.func14, Tryd.ntmps14
    go_wp2_with fail
    refine (HR.out _).mono ?_
    rintro e w1 ⟨rfl, hB⟩
    have HC : Gr w w1 := Gr.step (by ((with_reducible repeat' (first | assumption | refine Gr.drew ?_ | refine Gr.alloc ?_ _ | refine Gr.set ?_ (by first | omega | (simp; omega)) _ _ | exact Gr.refl _)); done)) hB
    have cg : w1.cell? ⟨0, 0, none⟩ = some (.iface 143 (.pointer (some (g 2)))) := (HL.out.below HC).cell 2 (by decide)
    clear hB
    go_upto_region 2 with fail
    go_quiet (fail)
    go_wp2
    go_ret3
    exact ⟨rfl, by ((with_reducible repeat' (first | assumption | refine Gr.drew ?_ | refine Gr.drewN ?_ _ | refine Gr.alloc ?_ _ | refine Gr.set ?_ (by first | omega | (simp; omega)) _ _ | exact Gr.refl _)); done)⟩
/-- What multiples gives. -/
theorem multiples_any (low high s : Int) (hl1 : -16777216 ≤ low) (hl2 : low ≤ 16777216) (hh1 : -16777216 ≤ high) (hh2 : high ≤ 16777216) (hs : 1 ≤ s) (hs2 : s ≤ 9223372036854775807) (w : World) : Calls Tryd.prog 26 #[.int .i64 low, .int .i64 high, .int .i64 s] w fun e w' => ∃ v, e = .returned (.tuple #[v, .bool (few low high s)]) ∧ (few low high s = true → RowI w' v (linL low high s)) ∧ Gr w w' := by
  cases hf : few low high s with
  | true =>
    refine (multiples_few low high s hl1 hl2 hh1 hh2 hs hs2 hf w).mono ?_
    rintro e w' ⟨v, rfl, hv, hB⟩
    exact ⟨v, rfl, fun _ => hv, hB⟩
  | false =>
    refine (multiples_many low high s hl1 hl2 hh1 hh2 hs hs2 hf w).mono ?_
    rintro e w' ⟨rfl, hB⟩
    exact ⟨_, rfl, fun h => by simp at h, hB⟩
set_option maxHeartbeats 4000000 in
theorem lines_ok (g : Nat → Addr) (a b c d s : Int) (hk : okB a b c d = true) (hs : 1 ≤ s) (hs2 : s ≤ 9223372036854775807) (w : World) (hl : Laid w g) : Calls Tryd.prog 14 #[boV a b c d, .int .i64 s] w fun e w' =>
    ((few a c s = true ∧ few b d s = true) ∧ ∃ v v', e = .returned (.tuple #[v, v', .nilIface]) ∧ RowI w' v (linL a c s) ∧ RowI w' v' (linL b d s) ∧ Gr w w') ∨ (¬ (few a c s = true ∧ few b d s = true) ∧ e = .returned (.tuple #[.slice none 0 0, .slice none 0 0, errV g 1]) ∧ Gr w w') := by
  have HL := hidb hl
  have HR := hidb (fun w => right_any a b c d w)
  rw [hk] at HR
  obtain ⟨h1, h2, h3, h4, h5, h6⟩ := okB_bd hk
  have HX := hidb (fun w => multiples_any a c s h1.1 h1.2 h3.1 h3.2 hs hs2 w)
  have HY := hidb (fun w => multiples_any b d s h2.1 h2.2 h4.1 h4.2 hs hs2 w)
  have hs' : ¬ s < 1 := by omega
  clear hl hk h1 h2 h3 h4 h5 h6 hs hs2
  generalize linL a c s = L1 at HX ⊢
  generalize linL b d s = L2 at HY ⊢
  generalize few a c s = f1 at HX ⊢
  generalize few b d s = f2 at HY ⊢
  go_enter Tryd.func14, Tryd.ntmps14
  go_wp2_with fail
  refine (HR.out _).mono ?_
  rintro e w1 ⟨rfl, hB⟩
  have PA : At w1 w.heap.size (boL a b c d) := At.below hB (At.new4 w _ _ _ _ _)
  have HC : Gr w w1 := Gr.step (by ((with_reducible repeat' (first | assumption | refine Gr.drew ?_ | refine Gr.alloc ?_ _ | refine Gr.set ?_ (by first | omega | (simp; omega)) _ _ | exact Gr.refl _)); done)) hB
  clear hB
  obtain ⟨c0, c1, c2, c3⟩ := PA.c4
  go_wp2_with fail
  refine (HX.out _).mono ?_
  rintro e w2 ⟨v, rfl, hv, hB⟩
  replace HC : Gr w w2 := Gr.step HC hB
  replace PA := At.below hB PA
  have HV := hidb hv
  clear hB c0 c1 c2 c3 hv
  obtain ⟨c0, c1, c2, c3⟩ := PA.c4
  go_wp2_with fail
  refine (HY.out _).mono ?_
  rintro e w3 ⟨v', rfl, hv, hB⟩
  replace HC : Gr w w3 := Gr.step HC hB
  have HV' := hidb hv
  have HB := hidb hB
  clear hB c0 c1 c2 c3 hv PA
  cases f1 with
  | false =>
    have cg : w3.cell? ⟨1, 0, none⟩ = some (.iface 143 (.pointer (some (g 1)))) := (HL.out.below HC).cell 1 (by decide)
    go_upto_region 6 with fail
    go_quiet (fail)
    go_wp2
    go_ret3
    exact .inr ⟨by simp, rfl, by ((with_reducible repeat' (first | assumption | refine Gr.drew ?_ | refine Gr.drewN ?_ _ | refine Gr.alloc ?_ _ | refine Gr.set ?_ (by first | omega | (simp; omega)) _ _ | exact Gr.refl _)); done)⟩
  | true =>
    cases f2 with
    | false =>
      have cg : w3.cell? ⟨1, 0, none⟩ = some (.iface 143 (.pointer (some (g 1)))) := (HL.out.below HC).cell 1 (by decide)
      go_upto_region 6 with fail
      go_quiet (fail)
      go_wp2
      go_ret3
      exact ⟨rfl, by ((with_reducible repeat' (first | assumption | refine Gr.drew ?_ | refine Gr.drewN ?_ _ | refine Gr.alloc ?_ _ | refine Gr.set ?_ (by first | omega | (simp; omega)) _ _ | exact Gr.refl _)); done)⟩
    | true =>
      have HW := hidb (RowI.below HB.out (HV.out rfl))
      have HW' := hidb (HV'.out rfl)
      go_wp2
      go_ret3
      exact ⟨_, _, rfl, HW.out, HW'.out, HC⟩
end Go.Proofs.YthpbkomchdgneaaDoor
