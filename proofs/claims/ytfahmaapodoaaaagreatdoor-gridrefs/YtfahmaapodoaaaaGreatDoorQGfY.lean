/-
  grid.ReadRef of a text that is written as a reference is.
-/
import Derived.Test.YtfahmaapodoaaaaGreatDoorQGfX
namespace Go.Proofs.YtfahmaapodoaaaaGreatDoor
open Go.RowKit GQ

theorem valid_code (g : Nat → Addr) (z : Int) (b : Bool) (x y : Int) (h : ¬ okRef z x y) (w : World) (hl : Laid w g) : Calls Tryz.prog 12 #[rfV z b x y] w fun e w' => e = .returned (errV g 3) ∧ Gr w w' := by
  have HN := hidb h
  have hp : w.cell? ⟨0, 0, none⟩ = some (errV g 3) := hl.cell 3 (by decide)
  have hc : ∀ o, (w.alloc o).cell? ⟨0, 0, none⟩ = some (.iface 141 (.pointer (some (g 3)))) := fun o => cell_grw hp ((Gr.refl _).alloc _)
  clear h hp hl
  go_enter Tryz.func12, Tryz.ntmps12
  go_wp2
  all_goals first
    | (go_ret; exact ⟨rfl, (Gr.refl _).alloc _⟩)
    | (exfalso; refine HN.out ?_; unfold okRef; omega)
theorem At.new4d (W : World) (a b c d : Value) (t : Nat) : At (W.drew.alloc (.cells #[a, b, c, d] t)) W.heap.size [a, b, c, d] := At.new4 W.drew a b c d t
set_option maxHeartbeats 4000000 in
theorem read_core (g : Nat → Addr) (s A1 A2 A3 : ByteArray) (c z x y : Int) (w : World) (hl : Laid w g)
    (HW : Hid (∀ w, Calls Tryz.prog 25 #[.string s] w fun e w' => e = .returned (.int .i64 (-1)) ∧ Gr w w'))
    (hs1 : ∀ W, (Instr.slice 9 (.string s) none (some (.int .i64 2)) none).run Tryz.prog W = .ok (.string A1) W)
    (hs2 : ∀ W, (Instr.slice 9 (.string s) (some (.int .i64 4)) (some (.int .i64 10)) none).run Tryz.prog W = .ok (.string A2) W)
    (hs3 : ∀ W, (Instr.slice 9 (.string s) (some (.int .i64 11)) none none).run Tryz.prog W = .ok (.string A3) W)
    (hix : ∀ W, (Instr.index 9 (.string s) (.int .i64 2)).run Tryz.prog W = .ok (.int .u8 c) W)
    (H1 : Hid (∀ w, Calls Tryz.prog 26 #[.string A1] w fun e w' => e = .returned (.int .i64 z) ∧ Gr w w' ∧ w.heap.size < w'.heap.size))
    (H2 : Hid (∀ w, Calls Tryz.prog 26 #[.string A2] w fun e w' => e = .returned (.int .i64 x) ∧ Gr w w' ∧ w.heap.size < w'.heap.size))
    (H3 : Hid (∀ w, Calls Tryz.prog 26 #[.string A3] w fun e w' => e = .returned (.int .i64 y) ∧ Gr w w' ∧ w.heap.size < w'.heap.size)) :
    Calls Tryz.prog 13 #[.string s] w fun e w' => ((okRef z x y ∧ e = .returned (.tuple #[rfV z (c == 83) x y, .nilIface])) ∨ (¬ okRef z x y ∧ ∃ B, e = .returned (.tuple #[rfV 0 false 0 0, ftV B]) ∧ At w' B [.int .i64 0, errV g 3])) ∧ Gr w w' := by
  have HL := hidb hl
  clear hl
  go_enter Tryz.func13, Tryz.ntmps13
  go_wp2_with fail
  have RA : At (w.alloc (.cells #[.int .i64 0, .bool false, .int .i64 0, .int .i64 0] 32)) w.heap.size [.int .i64 0, .bool false, .int .i64 0, .int .i64 0] := At.new4 w _ _ _ _ _
  have HC : Gr w (w.alloc (.cells #[.int .i64 0, .bool false, .int .i64 0, .int .i64 0] 32)) := (Gr.refl w).alloc _
  generalize w.alloc (.cells #[.int .i64 0, .bool false, .int .i64 0, .int .i64 0] 32) = w1 at *
  refine (HW.out _).mono ?_
  rintro e w2 ⟨rfl, g2⟩
  replace HC : Gr w w2 := HC.step g2
  replace RA := At.below g2 RA
  clear g2 HW
  have lr := RA.lt
  go_upto_region 4 with fail
  go_cut [5] from 17 to 29 (fun s5 wx => ∃ B, s5 = .pointer (some ⟨B, 0, none⟩) ∧ At wx B [.int .i64 z, .bool (c == 83), .int .i64 x, .int .i64 y] ∧ At wx w.heap.size [.int .i64 0, .bool false, .int .i64 0, .int .i64 0] ∧ Gr w wx ∧ w.heap.size < B)
  case first =>
    go_region_held (fun _ => True)
      (trivial)
      ((first
        | (go_at_call 26; (with_reducible first | refine (H1.out _).mono ?_ | refine (H2.out _).mono ?_ | refine (H3.out _).mono ?_ | fail); rintro e w5 ⟨rfl, hB4, hs5⟩; have hB5 := Gr.out hB4; (with_reducible first | (replace NA := At.below hB5 NA; have n0 := (At.c4 NA).1; have n1 := (At.c4 NA).2.1; have n2 := (At.c4 NA).2.2.1; have n3 := (At.c4 NA).2.2.2; have m0 := (At.f4 NA).1; have m1 := (At.f4 NA).2.1; have m2 := (At.f4 NA).2.2.1; have m3 := (At.f4 NA).2.2.2) | (have NA := At.below hB5 (At.new4d _ _ _ _ _ _); have n0 := (At.c4 NA).1; have n1 := (At.c4 NA).2.1; have n2 := (At.c4 NA).2.2.1; have n3 := (At.c4 NA).2.2.2; have m0 := (At.f4 NA).1; have m1 := (At.f4 NA).2.1; have m2 := (At.f4 NA).2.2.1; have m3 := (At.f4 NA).2.2.2) | (have NA := At.below hB5 (At.drew (At.new4 _ _ _ _ _ _)); have n0 := (At.c4 NA).1; have n1 := (At.c4 NA).2.1; have n2 := (At.c4 NA).2.2.1; have n3 := (At.c4 NA).2.2.2; have m0 := (At.f4 NA).1; have m1 := (At.f4 NA).2.1; have m2 := (At.f4 NA).2.2.1; have m3 := (At.f4 NA).2.2.2) | (have NA := At.below hB5 (At.new4 _ _ _ _ _ _); have n0 := (At.c4 NA).1; have n1 := (At.c4 NA).2.1; have n2 := (At.c4 NA).2.2.1; have n3 := (At.c4 NA).2.2.2; have m0 := (At.f4 NA).1; have m1 := (At.f4 NA).2.1; have m2 := (At.f4 NA).2.2.1; have m3 := (At.f4 NA).2.2.2) | skip); replace HC : Gr w w5 := Gr.step (by ((with_reducible repeat' (first | assumption | refine Gr.drew ?_ | refine Gr.alloc ?_ _ | refine Gr.set ?_ (by first | omega | (simp; omega)) _ _ | exact Gr.refl _)); done)) hB5; replace RA : At w5 w.heap.size [.int .i64 0, .bool false, .int .i64 0, .int .i64 0] := At.below hB5 (by ((with_reducible repeat' (first | assumption | exact At.new1 _ _ _ | exact At.new2 _ _ _ _ | exact At.new3 _ _ _ _ _ | exact At.new5 _ _ _ _ _ _ _ | exact At.nx1 _ _ _ | exact At.nx2 _ _ _ _ | exact At.nx3 _ _ _ _ _ | exact At.ny1 _ _ _ _ | exact At.ny2 _ _ _ _ _ | exact At.ny3 _ _ _ _ _ _ | exact At.nz1 _ _ _ _ _ | exact At.nz2 _ _ _ _ _ _ | exact At.nz3 _ _ _ _ _ _ _ | exact Has.new1 _ _ _ | exact Has.new2 _ _ _ _ | exact Has.new3 _ _ _ _ _ | exact Has.nx1 _ _ _ | exact Has.nx2 _ _ _ _ | exact Has.nx3 _ _ _ _ _ | exact Has.ny1 _ _ _ _ | exact Has.ny2 _ _ _ _ _ | exact Has.ny3 _ _ _ _ _ _ | exact Has.nz1 _ _ _ _ _ | exact Has.nz2 _ _ _ _ _ _ | exact Has.nz3 _ _ _ _ _ _ _ | refine At.fill4 ?_ _ _ _ _ | refine At.fill1 ?_ _ | refine At.fill2 ?_ _ _ | refine At.fill3 ?_ _ _ _ | refine At.swap ?_ (by first | omega | (simp; omega)) _ _ | refine At.alloc ?_ _ | refine At.drew ?_ | refine At.drewN ?_ _ | refine At.skip ?_ (by first | omega | (simp; omega)) _ _ | refine At.below (by assumption) ?_ | exact At.has (by assumption) rfl | refine Has.alloc ?_ _ | refine Has.drew ?_ | refine Has.drewN ?_ _ | refine Has.set ?_ _ _ _ | refine Has.below (by assumption) ?_)); done)); have hz5 := At.lt RA)
        | fail))
    all_goals
      go_wp2_with fail
      go_meet
      refine ⟨_, rfl, ?_, ?_, ?_, ?_⟩
      · with_reducible first
          | exact At.new4 _ _ _ _ _ _
          | exact At.fill4 (At.has NA rfl) _ _ _ _
      · with_reducible first
          | exact At.alloc RA _
          | exact At.skip (At.skip (At.skip (At.skip RA (by omega) _ _) (by omega) _ _) (by omega) _ _) (by omega) _ _
      · with_reducible first
          | exact Gr.alloc HC _
          | exact Gr.set (Gr.set (Gr.set (Gr.set HC (by omega) _ _) (by omega) _ _) (by omega) _ _) (by omega) _ _
      · omega
  case rest =>
    clear RA HC lr H1 H2 H3 hs1 hs2 hs3 hix
    obtain ⟨B, rfl, NA, RA, HC, hBl⟩ := hcut
    obtain ⟨d, hd⟩ : ∃ d, (c == 83) = d := ⟨_, rfl⟩
    rw [hd] at NA
    have HD := hidb hd
    clear hd
    obtain ⟨b0, b1, b2, b3⟩ := NA.c4
    by_cases ho : okRef z x y
    · have HV := hidb (fun W => valid_ok z d x y ho W)
      have HO := hidb ho
      clear ho HL
      go_wp2_with fail
      refine (HV.out _).mono ?_
      rintro e w6 ⟨rfl, g6⟩
      clear b0 b1 b2 b3
      replace NA := At.below g6 NA
      replace RA := At.below g6 RA
      replace HC := HC.step g6
      clear g6
      obtain ⟨b0, b1, b2, b3⟩ := NA.c4
      obtain ⟨q0, q1, q2, q3⟩ := RA.c4
      obtain ⟨j0, j1, j2, j3⟩ := RA.f4
      have TA : At ((((w6.setCell ⟨w.heap.size, 0, none⟩ (.int .i64 z)).setCell ⟨w.heap.size, 1, none⟩ (.bool d)).setCell ⟨w.heap.size, 2, none⟩ (.int .i64 x)).setCell ⟨w.heap.size, 3, none⟩ (.int .i64 y)) w.heap.size [.int .i64 z, .bool d, .int .i64 x, .int .i64 y] := At.fill4 (RA.has rfl) _ _ _ _
      have GA : Gr w ((((w6.setCell ⟨w.heap.size, 0, none⟩ (.int .i64 z)).setCell ⟨w.heap.size, 1, none⟩ (.bool d)).setCell ⟨w.heap.size, 2, none⟩ (.int .i64 x)).setCell ⟨w.heap.size, 3, none⟩ (.int .i64 y)) := (((HC.set (Nat.le_refl _) _ _).set (Nat.le_refl _) _ _).set (Nat.le_refl _) _ _).set (Nat.le_refl _) _ _
      clear HC
      go_wp2_with fail
      generalize World.setCell _ ⟨w.heap.size, 3, none⟩ _ = W7 at TA GA ⊢
      clear b0 b1 b2 b3 q0 q1 q2 q3
      obtain ⟨k0, k1, k2, k3⟩ := TA.c4
      refine bodyPost_ret (v := .tuple #[rfV z d x y, .nilIface]) ?_ rfl ⟨Or.inl ⟨HO.out, by rw [HD.out]⟩, GA⟩
      go_simp
      simp [results, Tryz.results13, go_sem, k0, k1, k2, k3]
    · have HV := hidb (fun W hl => valid_code g z d x y ho W hl)
      have HO := hidb ho
      have hn := fun w => run_eql_iface_nil (P := Tryz.prog) w 26 (by kernel_rfl) 141 (.pointer (some (g 3)))
      clear ho
      have hl2 := HL.out.below HC
      clear HL
      go_wp2_with fail
      refine (HV.out _ hl2).mono ?_
      rintro e w6 ⟨rfl, g6⟩
      clear b0 b1 b2 b3 hl2
      replace RA := At.below g6 RA
      replace HC := HC.step g6
      clear g6 NA hBl
      obtain ⟨q0, q1, q2, q3⟩ := RA.c4
      obtain ⟨j0, j1, j2, j3⟩ := RA.f4
      have lr := RA.lt
      go_wp2_with fail
      generalize hW : World.alloc _ _ = W3
      have TA : At W3 w.heap.size [.int .i64 0, .bool false, .int .i64 0, .int .i64 0] := by rw [← hW]; ((with_reducible repeat' (first | assumption | exact At.new1 _ _ _ | exact At.new2 _ _ _ _ | exact At.new3 _ _ _ _ _ | exact At.new5 _ _ _ _ _ _ _ | exact At.nx1 _ _ _ | exact At.nx2 _ _ _ _ | exact At.nx3 _ _ _ _ _ | exact At.ny1 _ _ _ _ | exact At.ny2 _ _ _ _ _ | exact At.ny3 _ _ _ _ _ _ | exact At.nz1 _ _ _ _ _ | exact At.nz2 _ _ _ _ _ _ | exact At.nz3 _ _ _ _ _ _ _ | exact Has.new1 _ _ _ | exact Has.new2 _ _ _ _ | exact Has.new3 _ _ _ _ _ | exact Has.nx1 _ _ _ | exact Has.nx2 _ _ _ _ | exact Has.nx3 _ _ _ _ _ | exact Has.ny1 _ _ _ _ | exact Has.ny2 _ _ _ _ _ | exact Has.ny3 _ _ _ _ _ _ | exact Has.nz1 _ _ _ _ _ | exact Has.nz2 _ _ _ _ _ _ | exact Has.nz3 _ _ _ _ _ _ _ | refine At.fill4 ?_ _ _ _ _ | refine At.fill1 ?_ _ | refine At.fill2 ?_ _ _ | refine At.fill3 ?_ _ _ _ | refine At.swap ?_ (by first | omega | (simp; omega)) _ _ | refine At.alloc ?_ _ | refine At.drew ?_ | refine At.drewN ?_ _ | refine At.skip ?_ (by first | omega | (simp; omega)) _ _ | refine At.below (by assumption) ?_ | exact At.has (by assumption) rfl | refine Has.alloc ?_ _ | refine Has.drew ?_ | refine Has.drewN ?_ _ | refine Has.set ?_ _ _ _ | refine Has.below (by assumption) ?_)); done)
      have FA : At W3 w6.heap.size [.int .i64 0, errV g 3] := by rw [← hW]; ((with_reducible repeat' (first | assumption | exact At.new1 _ _ _ | exact At.new2 _ _ _ _ | exact At.new3 _ _ _ _ _ | exact At.new5 _ _ _ _ _ _ _ | exact At.nx1 _ _ _ | exact At.nx2 _ _ _ _ | exact At.nx3 _ _ _ _ _ | exact At.ny1 _ _ _ _ | exact At.ny2 _ _ _ _ _ | exact At.ny3 _ _ _ _ _ _ | exact At.nz1 _ _ _ _ _ | exact At.nz2 _ _ _ _ _ _ | exact At.nz3 _ _ _ _ _ _ _ | exact Has.new1 _ _ _ | exact Has.new2 _ _ _ _ | exact Has.new3 _ _ _ _ _ | exact Has.nx1 _ _ _ | exact Has.nx2 _ _ _ _ | exact Has.nx3 _ _ _ _ _ | exact Has.ny1 _ _ _ _ | exact Has.ny2 _ _ _ _ _ | exact Has.ny3 _ _ _ _ _ _ | exact Has.nz1 _ _ _ _ _ | exact Has.nz2 _ _ _ _ _ _ | exact Has.nz3 _ _ _ _ _ _ _ | refine At.fill4 ?_ _ _ _ _ | refine At.fill1 ?_ _ | refine At.fill2 ?_ _ _ | refine At.fill3 ?_ _ _ _ | refine At.swap ?_ (by first | omega | (simp; omega)) _ _ | refine At.alloc ?_ _ | refine At.drew ?_ | refine At.drewN ?_ _ | refine At.skip ?_ (by first | omega | (simp; omega)) _ _ | refine At.below (by assumption) ?_ | exact At.has (by assumption) rfl | refine Has.alloc ?_ _ | refine Has.drew ?_ | refine Has.drewN ?_ _ | refine Has.set ?_ _ _ _ | refine Has.below (by assumption) ?_)); done)
      have GA : Gr w W3 := by rw [← hW]; ((with_reducible repeat' (first | assumption | refine Gr.drew ?_ | refine Gr.drewN ?_ _ | refine Gr.alloc ?_ _ | refine Gr.set ?_ (by first | omega | (simp; omega)) _ _ | exact Gr.refl _)); done)
      clear hW
      obtain ⟨k0, k1, k2, k3⟩ := TA.c4
      refine bodyPost_ret (v := .tuple #[rfV 0 false 0 0, ftV w6.heap.size]) ?_ rfl ⟨Or.inr ⟨HO.out, _, rfl, FA⟩, GA⟩
      go_simp
      simp [results, Tryz.results13, go_sem, k0, k1, k2, k3]
end Go.Proofs.YtfahmaapodoaaaaGreatDoor
