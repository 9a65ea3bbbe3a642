/-
  grid.ReadRef of a text that is none.
-/
import Derived.Test.YtfahmaapodoaaaaGreatDoorQGfW
import Derived.Test.YtfahmaapodoaaaaGreatDoorQGfC
namespace Go.Proofs.YtfahmaapodoaaaaGreatDoor
open Go.RowKit GQ

theorem At.f4 {W : World} {B : Nat} {a b c d : Value} (h : At W B [a, b, c, d]) : W.frozen? ⟨B, 0, none⟩ = false ∧ W.frozen? ⟨B, 1, none⟩ = false ∧ W.frozen? ⟨B, 2, none⟩ = false ∧ W.frozen? ⟨B, 3, none⟩ = false := ⟨(h.1 0 (by simp)).2, (h.1 1 (by simp)).2, (h.1 2 (by simp)).2, (h.1 3 (by simp)).2⟩
theorem At.fill4 {W : World} {B : Nat} (h : Has W B 4) (x y z u : Value) : At ((((W.setCell ⟨B, 0, none⟩ x).setCell ⟨B, 1, none⟩ y).setCell ⟨B, 2, none⟩ z).setCell ⟨B, 3, none⟩ u) B [x, y, z, u] := by
  obtain ⟨l, h1, h2⟩ := h
  have := (((h2.put 0 x).put 1 y).put 2 z).put 3 u
  match l, h1 with
  | [_, _, _, _], _ => exact this
set_option maxHeartbeats 1000000 in
theorem read_bad (g : Nat → Addr) (s : ByteArray) (r : Int) (h0 : 0 ≤ r) (w : World) (hl : Laid w g)
    (HW : Hid (∀ w, Calls Tryz.prog 25 #[.string s] w fun e w' => e = .returned (.int .i64 r) ∧ Gr w w')) :
    Calls Tryz.prog 13 #[.string s] w fun e w' => ∃ B, e = .returned (.tuple #[rfV 0 false 0 0, ftV B]) ∧ At w' B [.int .i64 r, errV g 0] ∧ Gr w w' := by
  go_enter Tryz.func13, Tryz.ntmps13
  go_wp2_with fail
  have RA : At (w.alloc (.cells #[.int .i64 0, .bool false, .int .i64 0, .int .i64 0] 32)) w.heap.size [.int .i64 0, .bool false, .int .i64 0, .int .i64 0] := At.new4 w _ _ _ _ _
  have HC : Gr w (w.alloc (.cells #[.int .i64 0, .bool false, .int .i64 0, .int .i64 0] 32)) := (Gr.refl w).alloc _
  generalize w.alloc (.cells #[.int .i64 0, .bool false, .int .i64 0, .int .i64 0] 32) = w1 at *
  refine (HW.out _).mono ?_
  rintro e w2 ⟨rfl, g2⟩
  replace HC : Gr w w2 := HC.step g2
  replace RA := At.below g2 RA
  clear g2
  have c0 : w2.cell? ⟨1, 0, none⟩ = some (.iface 141 (.pointer (some (g 0)))) := (hl.below HC).cell 0 (by decide)
  obtain ⟨q0, q1, q2, q3⟩ := RA.c4
  obtain ⟨j0, j1, j2, j3⟩ := RA.f4
  have lr := RA.lt
  have lg : 1 < w.heap.size := lt_of_cell (hl.cell 0 (by decide))
  have ng : ¬ w.heap.size = 1 := by omega
  have ng' : ¬ 1 = w.heap.size := by omega
  clear hl
  go_upto_region 3 with fail
  go_region_law (fail)
  all_goals
    go_wp2_with fail
    generalize hW : World.drew _ = W3
    have TA : At W3 w.heap.size [.int .i64 0, .bool false, .int .i64 0, .int .i64 0] := by rw [← hW]; ((with_reducible repeat' (first | assumption | exact At.new1 _ _ _ | exact At.new2 _ _ _ _ | exact At.new3 _ _ _ _ _ | exact At.new5 _ _ _ _ _ _ _ | exact At.nx1 _ _ _ | exact At.nx2 _ _ _ _ | exact At.nx3 _ _ _ _ _ | exact At.ny1 _ _ _ _ | exact At.ny2 _ _ _ _ _ | exact At.ny3 _ _ _ _ _ _ | exact At.nz1 _ _ _ _ _ | exact At.nz2 _ _ _ _ _ _ | exact At.nz3 _ _ _ _ _ _ _ | exact Has.new1 _ _ _ | exact Has.new2 _ _ _ _ | exact Has.new3 _ _ _ _ _ | exact Has.nx1 _ _ _ | exact Has.nx2 _ _ _ _ | exact Has.nx3 _ _ _ _ _ | exact Has.ny1 _ _ _ _ | exact Has.ny2 _ _ _ _ _ | exact Has.ny3 _ _ _ _ _ _ | exact Has.nz1 _ _ _ _ _ | exact Has.nz2 _ _ _ _ _ _ | exact Has.nz3 _ _ _ _ _ _ _ | refine At.fill4 ?_ _ _ _ _ | refine At.fill1 ?_ _ | refine At.fill2 ?_ _ _ | refine At.fill3 ?_ _ _ _ | refine At.swap ?_ (by first | omega | (simp; omega)) _ _ | refine At.alloc ?_ _ | refine At.drew ?_ | refine At.drewN ?_ _ | refine At.skip ?_ (by first | omega | (simp; omega)) _ _ | refine At.below (by assumption) ?_ | exact At.has (by assumption) rfl | refine Has.alloc ?_ _ | refine Has.drew ?_ | refine Has.drewN ?_ _ | refine Has.set ?_ _ _ _ | refine Has.below (by assumption) ?_)); done)
    have FA : At W3 w2.heap.size [.int .i64 r, errV g 0] := by rw [← hW]; ((with_reducible repeat' (first | assumption | exact At.new1 _ _ _ | exact At.new2 _ _ _ _ | exact At.new3 _ _ _ _ _ | exact At.new5 _ _ _ _ _ _ _ | exact At.nx1 _ _ _ | exact At.nx2 _ _ _ _ | exact At.nx3 _ _ _ _ _ | exact At.ny1 _ _ _ _ | exact At.ny2 _ _ _ _ _ | exact At.ny3 _ _ _ _ _ _ | exact At.nz1 _ _ _ _ _ | exact At.nz2 _ _ _ _ _ _ | exact At.nz3 _ _ _ _ _ _ _ | exact Has.new1 _ _ _ | exact Has.new2 _ _ _ _ | exact Has.new3 _ _ _ _ _ | exact Has.nx1 _ _ _ | exact Has.nx2 _ _ _ _ | exact Has.nx3 _ _ _ _ _ | exact Has.ny1 _ _ _ _ | exact Has.ny2 _ _ _ _ _ | exact Has.ny3 _ _ _ _ _ _ | exact Has.nz1 _ _ _ _ _ | exact Has.nz2 _ _ _ _ _ _ | exact Has.nz3 _ _ _ _ _ _ _ | refine At.fill4 ?_ _ _ _ _ | refine At.fill1 ?_ _ | refine At.fill2 ?_ _ _ | refine At.fill3 ?_ _ _ _ | refine At.swap ?_ (by first | omega | (simp; omega)) _ _ | refine At.alloc ?_ _ | refine At.drew ?_ | refine At.drewN ?_ _ | refine At.skip ?_ (by first | omega | (simp; omega)) _ _ | refine At.below (by assumption) ?_ | exact At.has (by assumption) rfl | refine Has.alloc ?_ _ | refine Has.drew ?_ | refine Has.drewN ?_ _ | refine Has.set ?_ _ _ _ | refine Has.below (by assumption) ?_)); done)
    have GA : Gr w W3 := by rw [← hW]; ((with_reducible repeat' (first | assumption | refine Gr.drew ?_ | refine Gr.drewN ?_ _ | refine Gr.alloc ?_ _ | refine Gr.set ?_ (by first | omega | (simp; omega)) _ _ | exact Gr.refl _)); done)
    clear hW
    obtain ⟨k0, k1, k2, k3⟩ := TA.c4
    refine bodyPost_ret (v := .tuple #[rfV 0 false 0 0, ftV w2.heap.size]) ?_ rfl ⟨_, rfl, FA, GA⟩
    go_simp
    simp [results, Tryz.results13, go_sem, k0, k1, k2, k3]
theorem sl_run (s : ByteArray) (a b : Nat) (h1 : a ≤ b) (h2 : b ≤ s.size) (W : World) : (Instr.slice 9 (.string s) (some (.int .i64 (a : Int))) (some (.int .i64 (b : Int))) none).run Tryz.prog W = .ok (.string (s.extract a b)) W := by
  rw [run_slice_string_if W 9 _ .i64 .i64 (a : Int) (b : Int) Tryz.underlying9, if_pos ⟨by omega, by omega⟩, if_pos ⟨by omega, by omega⟩, Int.toNat_natCast, Int.toNat_natCast]
theorem ext_list (s : ByteArray) (a b : Nat) : (s.extract a b).data.toList = (s.data.toList.drop a).take (b - a) := by
  rw [ByteArray.data_extract, Array.toList_extract, List.extract_eq_drop_take']
  rw [List.drop_take]
/-- What a number between two places is. -/
theorem num_at (s : ByteArray) (a b : Nat) (hab : a < b) (hb : b ≤ 18) (h : ∀ j, a ≤ j → j < b → dig (bt s j)) (w : World) : Calls Tryz.prog 26 #[.string (s.extract a b)] w fun e w' => e = .returned (.int .i64 (dv s a (b - a) : Int)) ∧ Gr w w' ∧ w.heap.size < w'.heap.size := by
  refine number_any _ _ ?_ ?_ w
  · rw [ByteArray.size_extract]; omega
  · rw [ext_list]
    exact atoi_dv (by omega) (fun j hj => h (a + j) (by omega) (by omega))
end Go.Proofs.YtfahmaapodoaaaaGreatDoor
