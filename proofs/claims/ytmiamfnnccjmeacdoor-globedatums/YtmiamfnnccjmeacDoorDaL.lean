/-
  The law GlobeDatums: its walk.
-/
import Derived.Test.YtmiamfnnccjmeacDoorDaM
import Derived.Test.YtmiamfnnccjmeacDoorMem
namespace Go.Proofs.YtmiamfnnccjmeacDoor
open Go.RowKit FB
attribute [local go_sem] run_store_float
attribute [local irreducible] FA FM FS FD rD fD nD kD uz t1D t2D t3D
attribute [local go_sem ↓] Go.wp_at_zero Go.wp_at_succ

abbrev dL (X Y Z A B C S : Nat) : List Value := [.float .f64 X, .float .f64 Y, .float .f64 Z, .float .f64 A, .float .f64 B, .float .f64 C, .float .f64 S]
abbrev vL (x y z : Nat) : List Value := [.float .f64 x, .float .f64 y, .float .f64 z]
theorem c73 {W : World} {P R : Nat} {a b c d e f g x y z : Value} (h : At W P [a, b, c, d, e, f, g]) (k : At W R [x, y, z]) : W.cell? ⟨P, 0, none⟩ = some a ∧ W.cell? ⟨P, 1, none⟩ = some b ∧ W.cell? ⟨P, 2, none⟩ = some c ∧ W.cell? ⟨P, 3, none⟩ = some d ∧ W.cell? ⟨P, 4, none⟩ = some e ∧ W.cell? ⟨P, 5, none⟩ = some f ∧ W.cell? ⟨P, 6, none⟩ = some g ∧ W.cell? ⟨R, 0, none⟩ = some x ∧ W.cell? ⟨R, 1, none⟩ = some y ∧ W.cell? ⟨R, 2, none⟩ = some z := by
  obtain ⟨a1, a2, a3, a4, a5, a6, a7⟩ := h.c7
  obtain ⟨b1, b2, b3⟩ := k.c3
  exact ⟨a1, a2, a3, a4, a5, a6, a7, b1, b2, b3⟩
theorem c733 {W : World} {P R T : Nat} {a b c d e f g x y z u v t : Value} (h : At W P [a, b, c, d, e, f, g]) (k : At W R [x, y, z]) (l : At W T [u, v, t]) : W.cell? ⟨P, 0, none⟩ = some a ∧ W.cell? ⟨P, 1, none⟩ = some b ∧ W.cell? ⟨P, 2, none⟩ = some c ∧ W.cell? ⟨P, 3, none⟩ = some d ∧ W.cell? ⟨P, 4, none⟩ = some e ∧ W.cell? ⟨P, 5, none⟩ = some f ∧ W.cell? ⟨P, 6, none⟩ = some g ∧ W.cell? ⟨R, 0, none⟩ = some x ∧ W.cell? ⟨R, 1, none⟩ = some y ∧ W.cell? ⟨R, 2, none⟩ = some z ∧ W.cell? ⟨T, 0, none⟩ = some u ∧ W.cell? ⟨T, 1, none⟩ = some v ∧ W.cell? ⟨T, 2, none⟩ = some t := by
  obtain ⟨a1, a2, a3, a4, a5, a6, a7⟩ := h.c7
  obtain ⟨b1, b2, b3⟩ := k.c3
  obtain ⟨d1, d2, d3⟩ := l.c3
  exact ⟨a1, a2, a3, a4, a5, a6, a7, b1, b2, b3, d1, d2, d3⟩
theorem coded0 (g : Nat → Addr) (w : World) (hl : Laid w g) : Calls Tryd.prog 10 #[.nilIface, .int .i64 0] w fun e w' => e = .returned (.bool true) ∧ Below w.heap.size w w' := coded_at g 0 (by simp) w hl
theorem coded3 (g : Nat → Addr) (w : World) (hl : Laid w g) : Calls Tryd.prog 10 #[errV g 2, .int .i64 3] w fun e w' => e = .returned (.bool true) ∧ Below w.heap.size w w' := coded_at g 3 (by simp) w hl
theorem coded4 (g : Nat → Addr) (w : World) (hl : Laid w g) : Calls Tryd.prog 10 #[errV g 3, .int .i64 4] w fun e w' => e = .returned (.bool true) ∧ Below w.heap.size w w' := coded_at g 4 (by simp) w hl
theorem sb_uz {k t : Nat} (h : Le k t) (h1 : 1 ≤ k) (hk : k ≤ 2046) : SB (uz t) t := fun w => same_num (uz t) t (uz_same (h.num h1 hk)).2 (uz_same (h.num h1 hk)).1 w
section
unseal FA FM FS FD rD fD nD kD uz t1D t2D t3D
theorem to_five (g : Nat → Addr) (w : World) (hl : Laid w g) : Calls Tryd.prog 6 #[dV 4617315517961601024 0 0 0 0 0 0, vV 4607182418800017408 0 0] w fun e w' => e = .returned (.tuple #[vV 4618441417868443648 0 0, .nilIface]) ∧ Below w.heap.size w w' := by
  have hd : okD 4617315517961601024 0 0 0 0 0 0 = true := by decide +kernel
  have hv : okV 4607182418800017408 0 0 = true := by decide +kernel
  have h := to_ok g 4617315517961601024 0 0 0 0 0 0 4607182418800017408 0 0 hd hv (dq_of (by decide) (by decide) (by decide) (by decide) (by decide) (by decide) (by decide) (by decide) (by decide) (by decide) hd hv) w hl
  have e1 : uz (t1D (kD 0) 4617315517961601024 0 0 4607182418800017408 0 0) = 4618441417868443648 := by decide +kernel
  have e2 : uz (t2D (kD 0) 0 0 0 4607182418800017408 0 0) = 0 := by decide +kernel
  have e3 : uz (t3D (kD 0) 0 0 0 4607182418800017408 0 0) = 0 := by decide +kernel
  rw [e1, e2, e3] at h
  exact h
end
set_option maxRecDepth 4000 in
set_option maxHeartbeats 8000000 in
theorem datums_no (g : Nat → Addr) (X Y Z A B C S x y z : Nat) (h : okD X Y Z A B C S = false) (w : World) (hl : Laid w g) : Calls Tryd.prog 3 #[dV X Y Z A B C S, vV x y z] w fun e w' => e = .returned (.bool true) ∧ Below w.heap.size w w' := by
  have HL := hid hl
  have h6 : (FloatKind.f64.format.order 4618441417868443648 4618441417868443648 != some Ordering.eq) = false := by decide +kernel
  have HT := hid (fun w hl => to_no g X Y Z A B C S x y z h w hl)
  have HF := hid (fun w hl => from_no g X Y Z A B C S x y z h w hl)
  have hc : dcode X Y Z A B C S = 3 := by unfold dcode; rw [h]; rfl
  have HE := hid (fun w => datumError_any X Y Z A B C S w)
  have HV := hid (fun w hl => dvalid_any g X Y Z A B C S w hl)
  have HR := hid (fun w => far_any x y z w)
  rw [hc] at HE HV
  rw [show evOf g 3 = errV g 2 from rfl] at HV
  generalize (!okV x y z) = fv at HR
  clear hc h
  clear hl
  go_enter Tryd.func3, Tryd.ntmps3
  go_wp2_with fail
  refine (to_five g _ ((HL.out.alloc _).alloc _)).mono ?_
  rintro e w1 ⟨rfl, hB⟩
  have HC := Gr.step (((Gr.refl w).alloc (.cells #[.float .f64 X, .float .f64 Y, .float .f64 Z, .float .f64 A, .float .f64 B, .float .f64 C, .float .f64 S] 24)).alloc (.cells #[.float .f64 x, .float .f64 y, .float .f64 z] 26)) hB
  have DA := At.below hB ((At.new7 w (.float .f64 X) (.float .f64 Y) (.float .f64 Z) (.float .f64 A) (.float .f64 B) (.float .f64 C) (.float .f64 S) 24).alloc (.cells #[.float .f64 x, .float .f64 y, .float .f64 z] 26))
  have VA := At.below hB (At.nx3 (W := w) (.cells #[.float .f64 X, .float .f64 Y, .float .f64 Z, .float .f64 A, .float .f64 B, .float .f64 C, .float .f64 S] 24) (.float .f64 x) (.float .f64 y) (.float .f64 z) 26)
  clear hB
  have lv := VA.lt
  go_upto_region 4 with fail
  replace HC := HC.alloc (.cells #[.float .f64 4618441417868443648, .float .f64 0, .float .f64 0] 26)
  replace DA := DA.alloc (.cells #[.float .f64 4618441417868443648, .float .f64 0, .float .f64 0] 26)
  replace VA := VA.alloc (.cells #[.float .f64 4618441417868443648, .float .f64 0, .float .f64 0] 26)
  have A5 : At (w1.alloc (.cells #[.float .f64 4618441417868443648, .float .f64 0, .float .f64 0] 26)) w1.heap.size (vL 4618441417868443648 0 0) := At.new3 w1 (.float .f64 4618441417868443648) (.float .f64 0) (.float .f64 0) 26
  obtain ⟨B5, hB5e⟩ : ∃ n, n = w1.heap.size := ⟨_, rfl⟩
  rw [← hB5e] at A5 lv ⊢
  clear hB5e
  generalize w1.alloc (.cells #[.float .f64 4618441417868443648, .float .f64 0, .float .f64 0] 26) = w2 at *
  go_region_held (fun w' => w'.cell? ⟨w.heap.size, 0, none⟩ = some (.float .f64 X) ∧ w'.cell? ⟨w.heap.size, 1, none⟩ = some (.float .f64 Y) ∧ w'.cell? ⟨w.heap.size, 2, none⟩ = some (.float .f64 Z) ∧ w'.cell? ⟨w.heap.size, 3, none⟩ = some (.float .f64 A) ∧ w'.cell? ⟨w.heap.size, 4, none⟩ = some (.float .f64 B) ∧ w'.cell? ⟨w.heap.size, 5, none⟩ = some (.float .f64 C) ∧ w'.cell? ⟨w.heap.size, 6, none⟩ = some (.float .f64 S) ∧ w'.cell? ⟨w.heap.size + 1, 0, none⟩ = some (.float .f64 x) ∧ w'.cell? ⟨w.heap.size + 1, 1, none⟩ = some (.float .f64 y) ∧ w'.cell? ⟨w.heap.size + 1, 2, none⟩ = some (.float .f64 z))
    ((refine c73 (a := .float .f64 X) (b := .float .f64 Y) (c := .float .f64 Z) (d := .float .f64 A) (e := .float .f64 B) (f := .float .f64 C) (g := .float .f64 S) (x := .float .f64 x) (y := .float .f64 y) (z := .float .f64 z) ?_ ?_; all_goals ((with_reducible repeat' (first | assumption | exact At.new1 _ _ _ | exact At.new2 _ _ _ _ | exact At.new3 _ _ _ _ _ | exact At.nx1 _ _ _ | exact At.nx2 _ _ _ _ | exact At.nx3 _ _ _ _ _ | exact At.ny1 _ _ _ _ | exact At.ny2 _ _ _ _ _ | exact At.ny3 _ _ _ _ _ _ | exact At.nz1 _ _ _ _ _ | exact At.nz2 _ _ _ _ _ _ | exact At.nz3 _ _ _ _ _ _ _ | exact Has.new1 _ _ _ | exact Has.new2 _ _ _ _ | exact Has.new3 _ _ _ _ _ | exact Has.nx1 _ _ _ | exact Has.nx2 _ _ _ _ | exact Has.nx3 _ _ _ _ _ | exact Has.ny1 _ _ _ _ | exact Has.ny2 _ _ _ _ _ | exact Has.ny3 _ _ _ _ _ _ | exact Has.nz1 _ _ _ _ _ | exact Has.nz2 _ _ _ _ _ _ | exact Has.nz3 _ _ _ _ _ _ _ | refine At.fill1 ?_ _ | refine At.fill2 ?_ _ _ | refine At.fill3 ?_ _ _ _ | refine At.swap ?_ (by first | omega | (simp; omega)) _ _ | refine At.alloc ?_ _ | refine At.drew ?_ | refine At.skip ?_ (by first | omega | (simp; omega)) _ _ | refine At.below (by assumption) ?_ | refine Has.alloc ?_ _ | refine Has.drew ?_ | refine Has.set ?_ _ _ _ | refine Has.below (by assumption) ?_)); done)))
    ((first
      | (go_at_call 7; refine (datum_any _ _ _ _ _ _ _ _).mono ?_; rintro e w5 ⟨rfl, hB5, hs5⟩; replace HC : Gr w w5 := Gr.step (by ((with_reducible repeat' (first | assumption | refine Gr.drew ?_ | refine Gr.alloc ?_ _ | refine Gr.set ?_ (by first | omega | (simp; omega)) _ _ | exact Gr.refl _)); done)) hB5; replace DA : At w5 w.heap.size (dL X Y Z A B C S) := At.below hB5 (by ((with_reducible repeat' (first | assumption | exact At.new1 _ _ _ | exact At.new2 _ _ _ _ | exact At.new3 _ _ _ _ _ | exact At.nx1 _ _ _ | exact At.nx2 _ _ _ _ | exact At.nx3 _ _ _ _ _ | exact At.ny1 _ _ _ _ | exact At.ny2 _ _ _ _ _ | exact At.ny3 _ _ _ _ _ _ | exact At.nz1 _ _ _ _ _ | exact At.nz2 _ _ _ _ _ _ | exact At.nz3 _ _ _ _ _ _ _ | exact Has.new1 _ _ _ | exact Has.new2 _ _ _ _ | exact Has.new3 _ _ _ _ _ | exact Has.nx1 _ _ _ | exact Has.nx2 _ _ _ _ | exact Has.nx3 _ _ _ _ _ | exact Has.ny1 _ _ _ _ | exact Has.ny2 _ _ _ _ _ | exact Has.ny3 _ _ _ _ _ _ | exact Has.nz1 _ _ _ _ _ | exact Has.nz2 _ _ _ _ _ _ | exact Has.nz3 _ _ _ _ _ _ _ | refine At.fill1 ?_ _ | refine At.fill2 ?_ _ _ | refine At.fill3 ?_ _ _ _ | refine At.swap ?_ (by first | omega | (simp; omega)) _ _ | refine At.alloc ?_ _ | refine At.drew ?_ | refine At.skip ?_ (by first | omega | (simp; omega)) _ _ | refine At.below (by assumption) ?_ | refine Has.alloc ?_ _ | refine Has.drew ?_ | refine Has.set ?_ _ _ _ | refine Has.below (by assumption) ?_)); done)); replace VA : At w5 (w.heap.size + 1) (vL x y z) := At.below hB5 (by ((with_reducible repeat' (first | assumption | exact At.new1 _ _ _ | exact At.new2 _ _ _ _ | exact At.new3 _ _ _ _ _ | exact At.nx1 _ _ _ | exact At.nx2 _ _ _ _ | exact At.nx3 _ _ _ _ _ | exact At.ny1 _ _ _ _ | exact At.ny2 _ _ _ _ _ | exact At.ny3 _ _ _ _ _ _ | exact At.nz1 _ _ _ _ _ | exact At.nz2 _ _ _ _ _ _ | exact At.nz3 _ _ _ _ _ _ _ | exact Has.new1 _ _ _ | exact Has.new2 _ _ _ _ | exact Has.new3 _ _ _ _ _ | exact Has.nx1 _ _ _ | exact Has.nx2 _ _ _ _ | exact Has.nx3 _ _ _ _ _ | exact Has.ny1 _ _ _ _ | exact Has.ny2 _ _ _ _ _ | exact Has.ny3 _ _ _ _ _ _ | exact Has.nz1 _ _ _ _ _ | exact Has.nz2 _ _ _ _ _ _ | exact Has.nz3 _ _ _ _ _ _ _ | refine At.fill1 ?_ _ | refine At.fill2 ?_ _ _ | refine At.fill3 ?_ _ _ _ | refine At.swap ?_ (by first | omega | (simp; omega)) _ _ | refine At.alloc ?_ _ | refine At.drew ?_ | refine At.skip ?_ (by first | omega | (simp; omega)) _ _ | refine At.below (by assumption) ?_ | refine Has.alloc ?_ _ | refine Has.drew ?_ | refine Has.set ?_ _ _ _ | refine Has.below (by assumption) ?_)); done)); replace A5 : At w5 B5 (vL 4618441417868443648 0 0) := At.below hB5 (by ((with_reducible repeat' (first | assumption | exact At.new1 _ _ _ | exact At.new2 _ _ _ _ | exact At.new3 _ _ _ _ _ | exact At.nx1 _ _ _ | exact At.nx2 _ _ _ _ | exact At.nx3 _ _ _ _ _ | exact At.ny1 _ _ _ _ | exact At.ny2 _ _ _ _ _ | exact At.ny3 _ _ _ _ _ _ | exact At.nz1 _ _ _ _ _ | exact At.nz2 _ _ _ _ _ _ | exact At.nz3 _ _ _ _ _ _ _ | exact Has.new1 _ _ _ | exact Has.new2 _ _ _ _ | exact Has.new3 _ _ _ _ _ | exact Has.nx1 _ _ _ | exact Has.nx2 _ _ _ _ | exact Has.nx3 _ _ _ _ _ | exact Has.ny1 _ _ _ _ | exact Has.ny2 _ _ _ _ _ | exact Has.ny3 _ _ _ _ _ _ | exact Has.nz1 _ _ _ _ _ | exact Has.nz2 _ _ _ _ _ _ | exact Has.nz3 _ _ _ _ _ _ _ | refine At.fill1 ?_ _ | refine At.fill2 ?_ _ _ | refine At.fill3 ?_ _ _ _ | refine At.swap ?_ (by first | omega | (simp; omega)) _ _ | refine At.alloc ?_ _ | refine At.drew ?_ | refine At.skip ?_ (by first | omega | (simp; omega)) _ _ | refine At.below (by assumption) ?_ | refine Has.alloc ?_ _ | refine Has.drew ?_ | refine Has.set ?_ _ _ _ | refine Has.below (by assumption) ?_)); done)); clear hB5)
      | (go_at_call 6; refine (HT.out _ (HL.out.below HC.out)).mono ?_; rintro e w5 ⟨rfl, hB5⟩; replace HC : Gr w w5 := Gr.step (by ((with_reducible repeat' (first | assumption | refine Gr.drew ?_ | refine Gr.alloc ?_ _ | refine Gr.set ?_ (by first | omega | (simp; omega)) _ _ | exact Gr.refl _)); done)) hB5; replace DA : At w5 w.heap.size (dL X Y Z A B C S) := At.below hB5 (by ((with_reducible repeat' (first | assumption | exact At.new1 _ _ _ | exact At.new2 _ _ _ _ | exact At.new3 _ _ _ _ _ | exact At.nx1 _ _ _ | exact At.nx2 _ _ _ _ | exact At.nx3 _ _ _ _ _ | exact At.ny1 _ _ _ _ | exact At.ny2 _ _ _ _ _ | exact At.ny3 _ _ _ _ _ _ | exact At.nz1 _ _ _ _ _ | exact At.nz2 _ _ _ _ _ _ | exact At.nz3 _ _ _ _ _ _ _ | exact Has.new1 _ _ _ | exact Has.new2 _ _ _ _ | exact Has.new3 _ _ _ _ _ | exact Has.nx1 _ _ _ | exact Has.nx2 _ _ _ _ | exact Has.nx3 _ _ _ _ _ | exact Has.ny1 _ _ _ _ | exact Has.ny2 _ _ _ _ _ | exact Has.ny3 _ _ _ _ _ _ | exact Has.nz1 _ _ _ _ _ | exact Has.nz2 _ _ _ _ _ _ | exact Has.nz3 _ _ _ _ _ _ _ | refine At.fill1 ?_ _ | refine At.fill2 ?_ _ _ | refine At.fill3 ?_ _ _ _ | refine At.swap ?_ (by first | omega | (simp; omega)) _ _ | refine At.alloc ?_ _ | refine At.drew ?_ | refine At.skip ?_ (by first | omega | (simp; omega)) _ _ | refine At.below (by assumption) ?_ | refine Has.alloc ?_ _ | refine Has.drew ?_ | refine Has.set ?_ _ _ _ | refine Has.below (by assumption) ?_)); done)); replace VA : At w5 (w.heap.size + 1) (vL x y z) := At.below hB5 (by ((with_reducible repeat' (first | assumption | exact At.new1 _ _ _ | exact At.new2 _ _ _ _ | exact At.new3 _ _ _ _ _ | exact At.nx1 _ _ _ | exact At.nx2 _ _ _ _ | exact At.nx3 _ _ _ _ _ | exact At.ny1 _ _ _ _ | exact At.ny2 _ _ _ _ _ | exact At.ny3 _ _ _ _ _ _ | exact At.nz1 _ _ _ _ _ | exact At.nz2 _ _ _ _ _ _ | exact At.nz3 _ _ _ _ _ _ _ | exact Has.new1 _ _ _ | exact Has.new2 _ _ _ _ | exact Has.new3 _ _ _ _ _ | exact Has.nx1 _ _ _ | exact Has.nx2 _ _ _ _ | exact Has.nx3 _ _ _ _ _ | exact Has.ny1 _ _ _ _ | exact Has.ny2 _ _ _ _ _ | exact Has.ny3 _ _ _ _ _ _ | exact Has.nz1 _ _ _ _ _ | exact Has.nz2 _ _ _ _ _ _ | exact Has.nz3 _ _ _ _ _ _ _ | refine At.fill1 ?_ _ | refine At.fill2 ?_ _ _ | refine At.fill3 ?_ _ _ _ | refine At.swap ?_ (by first | omega | (simp; omega)) _ _ | refine At.alloc ?_ _ | refine At.drew ?_ | refine At.skip ?_ (by first | omega | (simp; omega)) _ _ | refine At.below (by assumption) ?_ | refine Has.alloc ?_ _ | refine Has.drew ?_ | refine Has.set ?_ _ _ _ | refine Has.below (by assumption) ?_)); done)); replace A5 : At w5 B5 (vL 4618441417868443648 0 0) := At.below hB5 (by ((with_reducible repeat' (first | assumption | exact At.new1 _ _ _ | exact At.new2 _ _ _ _ | exact At.new3 _ _ _ _ _ | exact At.nx1 _ _ _ | exact At.nx2 _ _ _ _ | exact At.nx3 _ _ _ _ _ | exact At.ny1 _ _ _ _ | exact At.ny2 _ _ _ _ _ | exact At.ny3 _ _ _ _ _ _ | exact At.nz1 _ _ _ _ _ | exact At.nz2 _ _ _ _ _ _ | exact At.nz3 _ _ _ _ _ _ _ | exact Has.new1 _ _ _ | exact Has.new2 _ _ _ _ | exact Has.new3 _ _ _ _ _ | exact Has.nx1 _ _ _ | exact Has.nx2 _ _ _ _ | exact Has.nx3 _ _ _ _ _ | exact Has.ny1 _ _ _ _ | exact Has.ny2 _ _ _ _ _ | exact Has.ny3 _ _ _ _ _ _ | exact Has.nz1 _ _ _ _ _ | exact Has.nz2 _ _ _ _ _ _ | exact Has.nz3 _ _ _ _ _ _ _ | refine At.fill1 ?_ _ | refine At.fill2 ?_ _ _ | refine At.fill3 ?_ _ _ _ | refine At.swap ?_ (by first | omega | (simp; omega)) _ _ | refine At.alloc ?_ _ | refine At.drew ?_ | refine At.skip ?_ (by first | omega | (simp; omega)) _ _ | refine At.below (by assumption) ?_ | refine Has.alloc ?_ _ | refine Has.drew ?_ | refine Has.set ?_ _ _ _ | refine Has.below (by assumption) ?_)); done)); clear hB5; obtain ⟨p0, p1, p2⟩ := A5.c3; obtain ⟨f0, f1, f2⟩ := A5.f3)))
  go_upto_region 5 with fail
  replace A5 := At.fill3 (A5.has rfl) (.float .f64 0) (.float .f64 0) (.float .f64 0)
  have n1 : ¬ B5 = w.heap.size := by omega
  have n2 : ¬ B5 = w.heap.size + 1 := by omega
  have n3 : w.heap.size ≤ B5 := by omega
  replace HC := ((HC.set n3 0 (.float .f64 0)).set n3 1 (.float .f64 0)).set n3 2 (.float .f64 0)
  replace DA := ((DA.skip n1 0 (.float .f64 0)).skip n1 1 (.float .f64 0)).skip n1 2 (.float .f64 0)
  replace VA := ((VA.skip n2 0 (.float .f64 0)).skip n2 1 (.float .f64 0)).skip n2 2 (.float .f64 0)
  clear p0 p1 p2 f0 f1 f2
  generalize ((w5.setCell ⟨B5, 0, none⟩ (.float .f64 0)).setCell ⟨B5, 1, none⟩ (.float .f64 0)).setCell ⟨B5, 2, none⟩ (.float .f64 0) = w6 at *
  go_cut [7, 8] from 40 to 46 (fun s7 s8 wx => ∃ B7, s7 = .pointer (some ⟨B7, 0, none⟩) ∧ s8 = errV g 2 ∧ At wx B7 (vL 0 0 0) ∧ At wx B5 (vL 0 0 0) ∧ At wx w.heap.size (dL X Y Z A B C S) ∧ At wx (w.heap.size + 1) (vL x y z) ∧ Gr w wx)
  case first =>
    have lw := DA.lt
    have lv6 := VA.lt
    have l56 := A5.lt
    go_region_held (fun w' => w'.cell? ⟨w.heap.size, 0, none⟩ = some (.float .f64 X) ∧ w'.cell? ⟨w.heap.size, 1, none⟩ = some (.float .f64 Y) ∧ w'.cell? ⟨w.heap.size, 2, none⟩ = some (.float .f64 Z) ∧ w'.cell? ⟨w.heap.size, 3, none⟩ = some (.float .f64 A) ∧ w'.cell? ⟨w.heap.size, 4, none⟩ = some (.float .f64 B) ∧ w'.cell? ⟨w.heap.size, 5, none⟩ = some (.float .f64 C) ∧ w'.cell? ⟨w.heap.size, 6, none⟩ = some (.float .f64 S) ∧ w'.cell? ⟨w.heap.size + 1, 0, none⟩ = some (.float .f64 x) ∧ w'.cell? ⟨w.heap.size + 1, 1, none⟩ = some (.float .f64 y) ∧ w'.cell? ⟨w.heap.size + 1, 2, none⟩ = some (.float .f64 z))
      ((refine c73 (a := .float .f64 X) (b := .float .f64 Y) (c := .float .f64 Z) (d := .float .f64 A) (e := .float .f64 B) (f := .float .f64 C) (g := .float .f64 S) (x := .float .f64 x) (y := .float .f64 y) (z := .float .f64 z) ?_ ?_; all_goals ((with_reducible repeat' (first | assumption | exact At.new1 _ _ _ | exact At.new2 _ _ _ _ | exact At.new3 _ _ _ _ _ | exact At.nx1 _ _ _ | exact At.nx2 _ _ _ _ | exact At.nx3 _ _ _ _ _ | exact At.ny1 _ _ _ _ | exact At.ny2 _ _ _ _ _ | exact At.ny3 _ _ _ _ _ _ | exact At.nz1 _ _ _ _ _ | exact At.nz2 _ _ _ _ _ _ | exact At.nz3 _ _ _ _ _ _ _ | exact Has.new1 _ _ _ | exact Has.new2 _ _ _ _ | exact Has.new3 _ _ _ _ _ | exact Has.nx1 _ _ _ | exact Has.nx2 _ _ _ _ | exact Has.nx3 _ _ _ _ _ | exact Has.ny1 _ _ _ _ | exact Has.ny2 _ _ _ _ _ | exact Has.ny3 _ _ _ _ _ _ | exact Has.nz1 _ _ _ _ _ | exact Has.nz2 _ _ _ _ _ _ | exact Has.nz3 _ _ _ _ _ _ _ | refine At.fill1 ?_ _ | refine At.fill2 ?_ _ _ | refine At.fill3 ?_ _ _ _ | refine At.swap ?_ (by first | omega | (simp; omega)) _ _ | refine At.alloc ?_ _ | refine At.drew ?_ | refine At.skip ?_ (by first | omega | (simp; omega)) _ _ | refine At.below (by assumption) ?_ | refine Has.alloc ?_ _ | refine Has.drew ?_ | refine Has.set ?_ _ _ _ | refine Has.below (by assumption) ?_)); done)))
      ((first
        | (go_at_call 7; refine (datum_any _ _ _ _ _ _ _ _).mono ?_; rintro e w7 ⟨rfl, hB5, hs5⟩; obtain ⟨hc5, hf5⟩ := mcell hB5; obtain ⟨ha5, hn5, hm5⟩ := bless hs5; (try simp at hs5); have lw5 : w6.heap.size < w7.heap.size := (by omega); replace HC : Gr w w7 := Gr.step (by ((with_reducible repeat' (first | assumption | refine Gr.drew ?_ | refine Gr.alloc ?_ _ | refine Gr.set ?_ (by first | omega | (simp; omega)) _ _ | exact Gr.refl _)); done)) hB5; replace DA : At w7 w.heap.size (dL X Y Z A B C S) := At.below hB5 (by ((with_reducible repeat' (first | assumption | exact At.new1 _ _ _ | exact At.new2 _ _ _ _ | exact At.new3 _ _ _ _ _ | exact At.nx1 _ _ _ | exact At.nx2 _ _ _ _ | exact At.nx3 _ _ _ _ _ | exact At.ny1 _ _ _ _ | exact At.ny2 _ _ _ _ _ | exact At.ny3 _ _ _ _ _ _ | exact At.nz1 _ _ _ _ _ | exact At.nz2 _ _ _ _ _ _ | exact At.nz3 _ _ _ _ _ _ _ | exact Has.new1 _ _ _ | exact Has.new2 _ _ _ _ | exact Has.new3 _ _ _ _ _ | exact Has.nx1 _ _ _ | exact Has.nx2 _ _ _ _ | exact Has.nx3 _ _ _ _ _ | exact Has.ny1 _ _ _ _ | exact Has.ny2 _ _ _ _ _ | exact Has.ny3 _ _ _ _ _ _ | exact Has.nz1 _ _ _ _ _ | exact Has.nz2 _ _ _ _ _ _ | exact Has.nz3 _ _ _ _ _ _ _ | refine At.fill1 ?_ _ | refine At.fill2 ?_ _ _ | refine At.fill3 ?_ _ _ _ | refine At.swap ?_ (by first | omega | (simp; omega)) _ _ | refine At.alloc ?_ _ | refine At.drew ?_ | refine At.skip ?_ (by first | omega | (simp; omega)) _ _ | refine At.below (by assumption) ?_ | refine Has.alloc ?_ _ | refine Has.drew ?_ | refine Has.set ?_ _ _ _ | refine Has.below (by assumption) ?_)); done)); replace VA : At w7 (w.heap.size + 1) (vL x y z) := At.below hB5 (by ((with_reducible repeat' (first | assumption | exact At.new1 _ _ _ | exact At.new2 _ _ _ _ | exact At.new3 _ _ _ _ _ | exact At.nx1 _ _ _ | exact At.nx2 _ _ _ _ | exact At.nx3 _ _ _ _ _ | exact At.ny1 _ _ _ _ | exact At.ny2 _ _ _ _ _ | exact At.ny3 _ _ _ _ _ _ | exact At.nz1 _ _ _ _ _ | exact At.nz2 _ _ _ _ _ _ | exact At.nz3 _ _ _ _ _ _ _ | exact Has.new1 _ _ _ | exact Has.new2 _ _ _ _ | exact Has.new3 _ _ _ _ _ | exact Has.nx1 _ _ _ | exact Has.nx2 _ _ _ _ | exact Has.nx3 _ _ _ _ _ | exact Has.ny1 _ _ _ _ | exact Has.ny2 _ _ _ _ _ | exact Has.ny3 _ _ _ _ _ _ | exact Has.nz1 _ _ _ _ _ | exact Has.nz2 _ _ _ _ _ _ | exact Has.nz3 _ _ _ _ _ _ _ | refine At.fill1 ?_ _ | refine At.fill2 ?_ _ _ | refine At.fill3 ?_ _ _ _ | refine At.swap ?_ (by first | omega | (simp; omega)) _ _ | refine At.alloc ?_ _ | refine At.drew ?_ | refine At.skip ?_ (by first | omega | (simp; omega)) _ _ | refine At.below (by assumption) ?_ | refine Has.alloc ?_ _ | refine Has.drew ?_ | refine Has.set ?_ _ _ _ | refine Has.below (by assumption) ?_)); done)); replace A5 : At w7 B5 (vL 0 0 0) := At.below hB5 (by ((with_reducible repeat' (first | assumption | exact At.new1 _ _ _ | exact At.new2 _ _ _ _ | exact At.new3 _ _ _ _ _ | exact At.nx1 _ _ _ | exact At.nx2 _ _ _ _ | exact At.nx3 _ _ _ _ _ | exact At.ny1 _ _ _ _ | exact At.ny2 _ _ _ _ _ | exact At.ny3 _ _ _ _ _ _ | exact At.nz1 _ _ _ _ _ | exact At.nz2 _ _ _ _ _ _ | exact At.nz3 _ _ _ _ _ _ _ | exact Has.new1 _ _ _ | exact Has.new2 _ _ _ _ | exact Has.new3 _ _ _ _ _ | exact Has.nx1 _ _ _ | exact Has.nx2 _ _ _ _ | exact Has.nx3 _ _ _ _ _ | exact Has.ny1 _ _ _ _ | exact Has.ny2 _ _ _ _ _ | exact Has.ny3 _ _ _ _ _ _ | exact Has.nz1 _ _ _ _ _ | exact Has.nz2 _ _ _ _ _ _ | exact Has.nz3 _ _ _ _ _ _ _ | refine At.fill1 ?_ _ | refine At.fill2 ?_ _ _ | refine At.fill3 ?_ _ _ _ | refine At.swap ?_ (by first | omega | (simp; omega)) _ _ | refine At.alloc ?_ _ | refine At.drew ?_ | refine At.skip ?_ (by first | omega | (simp; omega)) _ _ | refine At.below (by assumption) ?_ | refine Has.alloc ?_ _ | refine Has.drew ?_ | refine Has.set ?_ _ _ _ | refine Has.below (by assumption) ?_)); done)))
        | (go_at_call 8; refine (HF.out _ (HL.out.below (Gr.out (by ((with_reducible repeat' (first | assumption | refine Gr.drew ?_ | refine Gr.alloc ?_ _ | refine Gr.set ?_ (by first | omega | (simp; omega)) _ _ | exact Gr.refl _)); done))))).mono ?_; rintro e w8 ⟨rfl, hB5⟩; obtain ⟨hc8, hf8⟩ := mcell hB5; have hs8 := hB5.size; (try simp at hs8); replace HC : Gr w w8 := Gr.step (by ((with_reducible repeat' (first | assumption | refine Gr.drew ?_ | refine Gr.alloc ?_ _ | refine Gr.set ?_ (by first | omega | (simp; omega)) _ _ | exact Gr.refl _)); done)) hB5; replace DA : At w8 w.heap.size (dL X Y Z A B C S) := At.below hB5 (by ((with_reducible repeat' (first | assumption | exact At.new1 _ _ _ | exact At.new2 _ _ _ _ | exact At.new3 _ _ _ _ _ | exact At.nx1 _ _ _ | exact At.nx2 _ _ _ _ | exact At.nx3 _ _ _ _ _ | exact At.ny1 _ _ _ _ | exact At.ny2 _ _ _ _ _ | exact At.ny3 _ _ _ _ _ _ | exact At.nz1 _ _ _ _ _ | exact At.nz2 _ _ _ _ _ _ | exact At.nz3 _ _ _ _ _ _ _ | exact Has.new1 _ _ _ | exact Has.new2 _ _ _ _ | exact Has.new3 _ _ _ _ _ | exact Has.nx1 _ _ _ | exact Has.nx2 _ _ _ _ | exact Has.nx3 _ _ _ _ _ | exact Has.ny1 _ _ _ _ | exact Has.ny2 _ _ _ _ _ | exact Has.ny3 _ _ _ _ _ _ | exact Has.nz1 _ _ _ _ _ | exact Has.nz2 _ _ _ _ _ _ | exact Has.nz3 _ _ _ _ _ _ _ | refine At.fill1 ?_ _ | refine At.fill2 ?_ _ _ | refine At.fill3 ?_ _ _ _ | refine At.swap ?_ (by first | omega | (simp; omega)) _ _ | refine At.alloc ?_ _ | refine At.drew ?_ | refine At.skip ?_ (by first | omega | (simp; omega)) _ _ | refine At.below (by assumption) ?_ | refine Has.alloc ?_ _ | refine Has.drew ?_ | refine Has.set ?_ _ _ _ | refine Has.below (by assumption) ?_)); done)); replace VA : At w8 (w.heap.size + 1) (vL x y z) := At.below hB5 (by ((with_reducible repeat' (first | assumption | exact At.new1 _ _ _ | exact At.new2 _ _ _ _ | exact At.new3 _ _ _ _ _ | exact At.nx1 _ _ _ | exact At.nx2 _ _ _ _ | exact At.nx3 _ _ _ _ _ | exact At.ny1 _ _ _ _ | exact At.ny2 _ _ _ _ _ | exact At.ny3 _ _ _ _ _ _ | exact At.nz1 _ _ _ _ _ | exact At.nz2 _ _ _ _ _ _ | exact At.nz3 _ _ _ _ _ _ _ | exact Has.new1 _ _ _ | exact Has.new2 _ _ _ _ | exact Has.new3 _ _ _ _ _ | exact Has.nx1 _ _ _ | exact Has.nx2 _ _ _ _ | exact Has.nx3 _ _ _ _ _ | exact Has.ny1 _ _ _ _ | exact Has.ny2 _ _ _ _ _ | exact Has.ny3 _ _ _ _ _ _ | exact Has.nz1 _ _ _ _ _ | exact Has.nz2 _ _ _ _ _ _ | exact Has.nz3 _ _ _ _ _ _ _ | refine At.fill1 ?_ _ | refine At.fill2 ?_ _ _ | refine At.fill3 ?_ _ _ _ | refine At.swap ?_ (by first | omega | (simp; omega)) _ _ | refine At.alloc ?_ _ | refine At.drew ?_ | refine At.skip ?_ (by first | omega | (simp; omega)) _ _ | refine At.below (by assumption) ?_ | refine Has.alloc ?_ _ | refine Has.drew ?_ | refine Has.set ?_ _ _ _ | refine Has.below (by assumption) ?_)); done)); replace A5 : At w8 B5 (vL 0 0 0) := At.below hB5 (by ((with_reducible repeat' (first | assumption | exact At.new1 _ _ _ | exact At.new2 _ _ _ _ | exact At.new3 _ _ _ _ _ | exact At.nx1 _ _ _ | exact At.nx2 _ _ _ _ | exact At.nx3 _ _ _ _ _ | exact At.ny1 _ _ _ _ | exact At.ny2 _ _ _ _ _ | exact At.ny3 _ _ _ _ _ _ | exact At.nz1 _ _ _ _ _ | exact At.nz2 _ _ _ _ _ _ | exact At.nz3 _ _ _ _ _ _ _ | exact Has.new1 _ _ _ | exact Has.new2 _ _ _ _ | exact Has.new3 _ _ _ _ _ | exact Has.nx1 _ _ _ | exact Has.nx2 _ _ _ _ | exact Has.nx3 _ _ _ _ _ | exact Has.ny1 _ _ _ _ | exact Has.ny2 _ _ _ _ _ | exact Has.ny3 _ _ _ _ _ _ | exact Has.nz1 _ _ _ _ _ | exact Has.nz2 _ _ _ _ _ _ | exact Has.nz3 _ _ _ _ _ _ _ | refine At.fill1 ?_ _ | refine At.fill2 ?_ _ _ | refine At.fill3 ?_ _ _ _ | refine At.swap ?_ (by first | omega | (simp; omega)) _ _ | refine At.alloc ?_ _ | refine At.drew ?_ | refine At.skip ?_ (by first | omega | (simp; omega)) _ _ | refine At.below (by assumption) ?_ | refine Has.alloc ?_ _ | refine Has.drew ?_ | refine Has.set ?_ _ _ _ | refine Has.below (by assumption) ?_)); done)))))
    all_goals
      go_wp2_with fail
      go_meet
      refine ⟨_, rfl, rfl, ?_, ?_, ?_, ?_, ?_⟩
    all_goals first | ((with_reducible repeat' (first | assumption | exact At.new1 _ _ _ | exact At.new2 _ _ _ _ | exact At.new3 _ _ _ _ _ | exact At.nx1 _ _ _ | exact At.nx2 _ _ _ _ | exact At.nx3 _ _ _ _ _ | exact At.ny1 _ _ _ _ | exact At.ny2 _ _ _ _ _ | exact At.ny3 _ _ _ _ _ _ | exact At.nz1 _ _ _ _ _ | exact At.nz2 _ _ _ _ _ _ | exact At.nz3 _ _ _ _ _ _ _ | exact Has.new1 _ _ _ | exact Has.new2 _ _ _ _ | exact Has.new3 _ _ _ _ _ | exact Has.nx1 _ _ _ | exact Has.nx2 _ _ _ _ | exact Has.nx3 _ _ _ _ _ | exact Has.ny1 _ _ _ _ | exact Has.ny2 _ _ _ _ _ | exact Has.ny3 _ _ _ _ _ _ | exact Has.nz1 _ _ _ _ _ | exact Has.nz2 _ _ _ _ _ _ | exact Has.nz3 _ _ _ _ _ _ _ | refine At.fill1 ?_ _ | refine At.fill2 ?_ _ _ | refine At.fill3 ?_ _ _ _ | refine At.swap ?_ (by first | omega | (simp; omega)) _ _ | refine At.alloc ?_ _ | refine At.drew ?_ | refine At.skip ?_ (by first | omega | (simp; omega)) _ _ | refine At.below (by assumption) ?_ | refine Has.alloc ?_ _ | refine Has.drew ?_ | refine Has.set ?_ _ _ _ | refine Has.below (by assumption) ?_)); done) | ((with_reducible repeat' (first | assumption | refine Gr.drew ?_ | refine Gr.alloc ?_ _ | refine Gr.set ?_ (by first | omega | (simp; omega)) _ _ | exact Gr.refl _)); done)
  case rest =>
  clear DA VA A5 HC
  obtain ⟨B7, rfl, rfl, A7, A5, DA, VA, HC⟩ := hcut
  obtain ⟨d0, d1, d2, d3, d4, d5, d6⟩ := DA.c7
  obtain ⟨v0, v1, v2⟩ := VA.c3
  obtain ⟨p0, p1, p2⟩ := A5.c3
  obtain ⟨q0, q1, q2⟩ := A7.c3
  go_wp2_with fail
  clear d0 d1 d2 d3 d4 d5 d6 v0 v1 v2 p0 p1 p2 q0 q1 q2
  refine (HE.out _).mono ?_
  rintro e wa ⟨rfl, hB⟩
  replace HC := Gr.step HC hB
  replace DA := At.below hB DA
  replace VA := At.below hB VA
  replace A5 := At.below hB A5
  replace A7 := At.below hB A7
  clear hB
  obtain ⟨d0, d1, d2, d3, d4, d5, d6⟩ := DA.c7
  obtain ⟨v0, v1, v2⟩ := VA.c3
  obtain ⟨p0, p1, p2⟩ := A5.c3
  obtain ⟨q0, q1, q2⟩ := A7.c3
  go_wp2_with fail
  clear d0 d1 d2 d3 d4 d5 d6 v0 v1 v2 p0 p1 p2 q0 q1 q2
  refine (datum_any _ _ _ _ _ _ _ _).mono ?_
  rintro e wb ⟨rfl, hB, _⟩
  replace HC := Gr.step HC hB
  replace DA := At.below hB DA
  replace VA := At.below hB VA
  replace A5 := At.below hB A5
  replace A7 := At.below hB A7
  clear hB
  obtain ⟨d0, d1, d2, d3, d4, d5, d6⟩ := DA.c7
  obtain ⟨v0, v1, v2⟩ := VA.c3
  obtain ⟨p0, p1, p2⟩ := A5.c3
  obtain ⟨q0, q1, q2⟩ := A7.c3
  go_wp2_with fail
  clear d0 d1 d2 d3 d4 d5 d6 v0 v1 v2 p0 p1 p2 q0 q1 q2
  refine (HV.out _ (HL.out.below HC.out)).mono ?_
  rintro e wd ⟨rfl, hB⟩
  replace HC := Gr.step HC hB
  replace DA := At.below hB DA
  replace VA := At.below hB VA
  replace A5 := At.below hB A5
  replace A7 := At.below hB A7
  clear hB
  obtain ⟨d0, d1, d2, d3, d4, d5, d6⟩ := DA.c7
  obtain ⟨v0, v1, v2⟩ := VA.c3
  obtain ⟨p0, p1, p2⟩ := A5.c3
  obtain ⟨q0, q1, q2⟩ := A7.c3
  go_wp2_with fail
  clear d0 d1 d2 d3 d4 d5 d6 v0 v1 v2 p0 p1 p2 q0 q1 q2
  refine (coded3 g _ (HL.out.below HC.out)).mono ?_
  rintro e we ⟨rfl, hB⟩
  replace HC := Gr.step HC hB
  replace DA := At.below hB DA
  replace VA := At.below hB VA
  replace A5 := At.below hB A5
  replace A7 := At.below hB A7
  clear hB
  obtain ⟨d0, d1, d2, d3, d4, d5, d6⟩ := DA.c7
  obtain ⟨v0, v1, v2⟩ := VA.c3
  obtain ⟨p0, p1, p2⟩ := A5.c3
  obtain ⟨q0, q1, q2⟩ := A7.c3
  go_wp2_with fail
  clear d0 d1 d2 d3 d4 d5 d6 v0 v1 v2 p0 p1 p2 q0 q1 q2
  refine (HR.out _).mono ?_
  rintro e wf ⟨rfl, hB⟩
  replace HC := Gr.step HC hB
  replace DA := At.below hB DA
  replace VA := At.below hB VA
  replace A5 := At.below hB A5
  replace A7 := At.below hB A7
  clear hB
  obtain ⟨d0, d1, d2, d3, d4, d5, d6⟩ := DA.c7
  obtain ⟨v0, v1, v2⟩ := VA.c3
  obtain ⟨p0, p1, p2⟩ := A5.c3
  obtain ⟨q0, q1, q2⟩ := A7.c3
  go_wp2_with fail
  clear d0 d1 d2 d3 d4 d5 d6 v0 v1 v2 p0 p1 p2 q0 q1 q2
  refine (coded3 g _ (HL.out.below HC.out)).mono ?_
  rintro e wg ⟨rfl, hB⟩
  replace HC := Gr.step HC hB
  replace DA := At.below hB DA
  replace VA := At.below hB VA
  replace A5 := At.below hB A5
  replace A7 := At.below hB A7
  clear hB
  obtain ⟨d0, d1, d2, d3, d4, d5, d6⟩ := DA.c7
  obtain ⟨v0, v1, v2⟩ := VA.c3
  obtain ⟨p0, p1, p2⟩ := A5.c3
  obtain ⟨q0, q1, q2⟩ := A7.c3
  go_wp2_with fail
  clear d0 d1 d2 d3 d4 d5 d6 v0 v1 v2 p0 p1 p2 q0 q1 q2
  refine (coded3 g _ (HL.out.below HC.out)).mono ?_
  rintro e wh ⟨rfl, hB⟩
  replace HC := Gr.step HC hB
  replace DA := At.below hB DA
  replace VA := At.below hB VA
  replace A5 := At.below hB A5
  replace A7 := At.below hB A7
  clear hB
  obtain ⟨d0, d1, d2, d3, d4, d5, d6⟩ := DA.c7
  obtain ⟨v0, v1, v2⟩ := VA.c3
  obtain ⟨p0, p1, p2⟩ := A5.c3
  obtain ⟨q0, q1, q2⟩ := A7.c3
  go_wp2_with fail
  clear d0 d1 d2 d3 d4 d5 d6 v0 v1 v2 p0 p1 p2 q0 q1 q2
  refine (sameVec_any 0 0 0 0 0 0 SB.zero SB.zero SB.zero _).mono ?_
  rintro e wi ⟨rfl, hB⟩
  replace HC := Gr.step HC hB
  replace DA := At.below hB DA
  replace VA := At.below hB VA
  replace A5 := At.below hB A5
  replace A7 := At.below hB A7
  clear hB
  obtain ⟨d0, d1, d2, d3, d4, d5, d6⟩ := DA.c7
  obtain ⟨v0, v1, v2⟩ := VA.c3
  obtain ⟨p0, p1, p2⟩ := A5.c3
  obtain ⟨q0, q1, q2⟩ := A7.c3
  go_wp2_with fail
  clear d0 d1 d2 d3 d4 d5 d6 v0 v1 v2 p0 p1 p2 q0 q1 q2
  refine (sameVec_any 0 0 0 0 0 0 SB.zero SB.zero SB.zero _).mono ?_
  rintro e wj ⟨rfl, hB⟩
  replace HC := Gr.step HC hB
  replace DA := At.below hB DA
  replace VA := At.below hB VA
  replace A5 := At.below hB A5
  replace A7 := At.below hB A7
  clear hB
  go_wp2
  go_ret
  exact ⟨rfl, HC⟩
set_option maxRecDepth 4000 in
set_option maxHeartbeats 8000000 in
theorem datums_far (g : Nat → Addr) (X Y Z A B C S x y z : Nat) (h : okD X Y Z A B C S = true) (hv : okV x y z = false) (w : World) (hl : Laid w g) : Calls Tryd.prog 3 #[dV X Y Z A B C S, vV x y z] w fun e w' => e = .returned (.bool true) ∧ Below w.heap.size w w' := by
  have HL := hid hl
  have h6 : (FloatKind.f64.format.order 4618441417868443648 4618441417868443648 != some Ordering.eq) = false := by decide +kernel
  have HT := hid (fun w hl => to_far g X Y Z A B C S x y z h hv w hl)
  have HF := hid (fun w hl => from_far g X Y Z A B C S x y z h hv w hl)
  have hc : dcode X Y Z A B C S = 0 := by unfold dcode; rw [h]; rfl
  have HE := hid (fun w => datumError_any X Y Z A B C S w)
  have HV := hid (fun w hl => dvalid_any g X Y Z A B C S w hl)
  have HR := hid (fun w => far_any x y z w)
  rw [hc] at HE HV
  rw [show evOf g 0 = .nilIface from rfl] at HV
  rw [hv] at HR
  clear hc h hv
  clear hl
  go_enter Tryd.func3, Tryd.ntmps3
  go_wp2_with fail
  refine (to_five g _ ((HL.out.alloc _).alloc _)).mono ?_
  rintro e w1 ⟨rfl, hB⟩
  have HC := Gr.step (((Gr.refl w).alloc (.cells #[.float .f64 X, .float .f64 Y, .float .f64 Z, .float .f64 A, .float .f64 B, .float .f64 C, .float .f64 S] 24)).alloc (.cells #[.float .f64 x, .float .f64 y, .float .f64 z] 26)) hB
  have DA := At.below hB ((At.new7 w (.float .f64 X) (.float .f64 Y) (.float .f64 Z) (.float .f64 A) (.float .f64 B) (.float .f64 C) (.float .f64 S) 24).alloc (.cells #[.float .f64 x, .float .f64 y, .float .f64 z] 26))
  have VA := At.below hB (At.nx3 (W := w) (.cells #[.float .f64 X, .float .f64 Y, .float .f64 Z, .float .f64 A, .float .f64 B, .float .f64 C, .float .f64 S] 24) (.float .f64 x) (.float .f64 y) (.float .f64 z) 26)
  clear hB
  have lv := VA.lt
  go_upto_region 4 with fail
  replace HC := HC.alloc (.cells #[.float .f64 4618441417868443648, .float .f64 0, .float .f64 0] 26)
  replace DA := DA.alloc (.cells #[.float .f64 4618441417868443648, .float .f64 0, .float .f64 0] 26)
  replace VA := VA.alloc (.cells #[.float .f64 4618441417868443648, .float .f64 0, .float .f64 0] 26)
  have A5 : At (w1.alloc (.cells #[.float .f64 4618441417868443648, .float .f64 0, .float .f64 0] 26)) w1.heap.size (vL 4618441417868443648 0 0) := At.new3 w1 (.float .f64 4618441417868443648) (.float .f64 0) (.float .f64 0) 26
  obtain ⟨B5, hB5e⟩ : ∃ n, n = w1.heap.size := ⟨_, rfl⟩
  rw [← hB5e] at A5 lv ⊢
  clear hB5e
  generalize w1.alloc (.cells #[.float .f64 4618441417868443648, .float .f64 0, .float .f64 0] 26) = w2 at *
  go_region_held (fun w' => w'.cell? ⟨w.heap.size, 0, none⟩ = some (.float .f64 X) ∧ w'.cell? ⟨w.heap.size, 1, none⟩ = some (.float .f64 Y) ∧ w'.cell? ⟨w.heap.size, 2, none⟩ = some (.float .f64 Z) ∧ w'.cell? ⟨w.heap.size, 3, none⟩ = some (.float .f64 A) ∧ w'.cell? ⟨w.heap.size, 4, none⟩ = some (.float .f64 B) ∧ w'.cell? ⟨w.heap.size, 5, none⟩ = some (.float .f64 C) ∧ w'.cell? ⟨w.heap.size, 6, none⟩ = some (.float .f64 S) ∧ w'.cell? ⟨w.heap.size + 1, 0, none⟩ = some (.float .f64 x) ∧ w'.cell? ⟨w.heap.size + 1, 1, none⟩ = some (.float .f64 y) ∧ w'.cell? ⟨w.heap.size + 1, 2, none⟩ = some (.float .f64 z))
    ((refine c73 (a := .float .f64 X) (b := .float .f64 Y) (c := .float .f64 Z) (d := .float .f64 A) (e := .float .f64 B) (f := .float .f64 C) (g := .float .f64 S) (x := .float .f64 x) (y := .float .f64 y) (z := .float .f64 z) ?_ ?_; all_goals ((with_reducible repeat' (first | assumption | exact At.new1 _ _ _ | exact At.new2 _ _ _ _ | exact At.new3 _ _ _ _ _ | exact At.nx1 _ _ _ | exact At.nx2 _ _ _ _ | exact At.nx3 _ _ _ _ _ | exact At.ny1 _ _ _ _ | exact At.ny2 _ _ _ _ _ | exact At.ny3 _ _ _ _ _ _ | exact At.nz1 _ _ _ _ _ | exact At.nz2 _ _ _ _ _ _ | exact At.nz3 _ _ _ _ _ _ _ | exact Has.new1 _ _ _ | exact Has.new2 _ _ _ _ | exact Has.new3 _ _ _ _ _ | exact Has.nx1 _ _ _ | exact Has.nx2 _ _ _ _ | exact Has.nx3 _ _ _ _ _ | exact Has.ny1 _ _ _ _ | exact Has.ny2 _ _ _ _ _ | exact Has.ny3 _ _ _ _ _ _ | exact Has.nz1 _ _ _ _ _ | exact Has.nz2 _ _ _ _ _ _ | exact Has.nz3 _ _ _ _ _ _ _ | refine At.fill1 ?_ _ | refine At.fill2 ?_ _ _ | refine At.fill3 ?_ _ _ _ | refine At.swap ?_ (by first | omega | (simp; omega)) _ _ | refine At.alloc ?_ _ | refine At.drew ?_ | refine At.skip ?_ (by first | omega | (simp; omega)) _ _ | refine At.below (by assumption) ?_ | refine Has.alloc ?_ _ | refine Has.drew ?_ | refine Has.set ?_ _ _ _ | refine Has.below (by assumption) ?_)); done)))
    ((first
      | (go_at_call 7; refine (datum_any _ _ _ _ _ _ _ _).mono ?_; rintro e w5 ⟨rfl, hB5, hs5⟩; replace HC : Gr w w5 := Gr.step (by ((with_reducible repeat' (first | assumption | refine Gr.drew ?_ | refine Gr.alloc ?_ _ | refine Gr.set ?_ (by first | omega | (simp; omega)) _ _ | exact Gr.refl _)); done)) hB5; replace DA : At w5 w.heap.size (dL X Y Z A B C S) := At.below hB5 (by ((with_reducible repeat' (first | assumption | exact At.new1 _ _ _ | exact At.new2 _ _ _ _ | exact At.new3 _ _ _ _ _ | exact At.nx1 _ _ _ | exact At.nx2 _ _ _ _ | exact At.nx3 _ _ _ _ _ | exact At.ny1 _ _ _ _ | exact At.ny2 _ _ _ _ _ | exact At.ny3 _ _ _ _ _ _ | exact At.nz1 _ _ _ _ _ | exact At.nz2 _ _ _ _ _ _ | exact At.nz3 _ _ _ _ _ _ _ | exact Has.new1 _ _ _ | exact Has.new2 _ _ _ _ | exact Has.new3 _ _ _ _ _ | exact Has.nx1 _ _ _ | exact Has.nx2 _ _ _ _ | exact Has.nx3 _ _ _ _ _ | exact Has.ny1 _ _ _ _ | exact Has.ny2 _ _ _ _ _ | exact Has.ny3 _ _ _ _ _ _ | exact Has.nz1 _ _ _ _ _ | exact Has.nz2 _ _ _ _ _ _ | exact Has.nz3 _ _ _ _ _ _ _ | refine At.fill1 ?_ _ | refine At.fill2 ?_ _ _ | refine At.fill3 ?_ _ _ _ | refine At.swap ?_ (by first | omega | (simp; omega)) _ _ | refine At.alloc ?_ _ | refine At.drew ?_ | refine At.skip ?_ (by first | omega | (simp; omega)) _ _ | refine At.below (by assumption) ?_ | refine Has.alloc ?_ _ | refine Has.drew ?_ | refine Has.set ?_ _ _ _ | refine Has.below (by assumption) ?_)); done)); replace VA : At w5 (w.heap.size + 1) (vL x y z) := At.below hB5 (by ((with_reducible repeat' (first | assumption | exact At.new1 _ _ _ | exact At.new2 _ _ _ _ | exact At.new3 _ _ _ _ _ | exact At.nx1 _ _ _ | exact At.nx2 _ _ _ _ | exact At.nx3 _ _ _ _ _ | exact At.ny1 _ _ _ _ | exact At.ny2 _ _ _ _ _ | exact At.ny3 _ _ _ _ _ _ | exact At.nz1 _ _ _ _ _ | exact At.nz2 _ _ _ _ _ _ | exact At.nz3 _ _ _ _ _ _ _ | exact Has.new1 _ _ _ | exact Has.new2 _ _ _ _ | exact Has.new3 _ _ _ _ _ | exact Has.nx1 _ _ _ | exact Has.nx2 _ _ _ _ | exact Has.nx3 _ _ _ _ _ | exact Has.ny1 _ _ _ _ | exact Has.ny2 _ _ _ _ _ | exact Has.ny3 _ _ _ _ _ _ | exact Has.nz1 _ _ _ _ _ | exact Has.nz2 _ _ _ _ _ _ | exact Has.nz3 _ _ _ _ _ _ _ | refine At.fill1 ?_ _ | refine At.fill2 ?_ _ _ | refine At.fill3 ?_ _ _ _ | refine At.swap ?_ (by first | omega | (simp; omega)) _ _ | refine At.alloc ?_ _ | refine At.drew ?_ | refine At.skip ?_ (by first | omega | (simp; omega)) _ _ | refine At.below (by assumption) ?_ | refine Has.alloc ?_ _ | refine Has.drew ?_ | refine Has.set ?_ _ _ _ | refine Has.below (by assumption) ?_)); done)); replace A5 : At w5 B5 (vL 4618441417868443648 0 0) := At.below hB5 (by ((with_reducible repeat' (first | assumption | exact At.new1 _ _ _ | exact At.new2 _ _ _ _ | exact At.new3 _ _ _ _ _ | exact At.nx1 _ _ _ | exact At.nx2 _ _ _ _ | exact At.nx3 _ _ _ _ _ | exact At.ny1 _ _ _ _ | exact At.ny2 _ _ _ _ _ | exact At.ny3 _ _ _ _ _ _ | exact At.nz1 _ _ _ _ _ | exact At.nz2 _ _ _ _ _ _ | exact At.nz3 _ _ _ _ _ _ _ | exact Has.new1 _ _ _ | exact Has.new2 _ _ _ _ | exact Has.new3 _ _ _ _ _ | exact Has.nx1 _ _ _ | exact Has.nx2 _ _ _ _ | exact Has.nx3 _ _ _ _ _ | exact Has.ny1 _ _ _ _ | exact Has.ny2 _ _ _ _ _ | exact Has.ny3 _ _ _ _ _ _ | exact Has.nz1 _ _ _ _ _ | exact Has.nz2 _ _ _ _ _ _ | exact Has.nz3 _ _ _ _ _ _ _ | refine At.fill1 ?_ _ | refine At.fill2 ?_ _ _ | refine At.fill3 ?_ _ _ _ | refine At.swap ?_ (by first | omega | (simp; omega)) _ _ | refine At.alloc ?_ _ | refine At.drew ?_ | refine At.skip ?_ (by first | omega | (simp; omega)) _ _ | refine At.below (by assumption) ?_ | refine Has.alloc ?_ _ | refine Has.drew ?_ | refine Has.set ?_ _ _ _ | refine Has.below (by assumption) ?_)); done)); clear hB5)
      | (go_at_call 6; refine (HT.out _ (HL.out.below HC.out)).mono ?_; rintro e w5 ⟨rfl, hB5⟩; replace HC : Gr w w5 := Gr.step (by ((with_reducible repeat' (first | assumption | refine Gr.drew ?_ | refine Gr.alloc ?_ _ | refine Gr.set ?_ (by first | omega | (simp; omega)) _ _ | exact Gr.refl _)); done)) hB5; replace DA : At w5 w.heap.size (dL X Y Z A B C S) := At.below hB5 (by ((with_reducible repeat' (first | assumption | exact At.new1 _ _ _ | exact At.new2 _ _ _ _ | exact At.new3 _ _ _ _ _ | exact At.nx1 _ _ _ | exact At.nx2 _ _ _ _ | exact At.nx3 _ _ _ _ _ | exact At.ny1 _ _ _ _ | exact At.ny2 _ _ _ _ _ | exact At.ny3 _ _ _ _ _ _ | exact At.nz1 _ _ _ _ _ | exact At.nz2 _ _ _ _ _ _ | exact At.nz3 _ _ _ _ _ _ _ | exact Has.new1 _ _ _ | exact Has.new2 _ _ _ _ | exact Has.new3 _ _ _ _ _ | exact Has.nx1 _ _ _ | exact Has.nx2 _ _ _ _ | exact Has.nx3 _ _ _ _ _ | exact Has.ny1 _ _ _ _ | exact Has.ny2 _ _ _ _ _ | exact Has.ny3 _ _ _ _ _ _ | exact Has.nz1 _ _ _ _ _ | exact Has.nz2 _ _ _ _ _ _ | exact Has.nz3 _ _ _ _ _ _ _ | refine At.fill1 ?_ _ | refine At.fill2 ?_ _ _ | refine At.fill3 ?_ _ _ _ | refine At.swap ?_ (by first | omega | (simp; omega)) _ _ | refine At.alloc ?_ _ | refine At.drew ?_ | refine At.skip ?_ (by first | omega | (simp; omega)) _ _ | refine At.below (by assumption) ?_ | refine Has.alloc ?_ _ | refine Has.drew ?_ | refine Has.set ?_ _ _ _ | refine Has.below (by assumption) ?_)); done)); replace VA : At w5 (w.heap.size + 1) (vL x y z) := At.below hB5 (by ((with_reducible repeat' (first | assumption | exact At.new1 _ _ _ | exact At.new2 _ _ _ _ | exact At.new3 _ _ _ _ _ | exact At.nx1 _ _ _ | exact At.nx2 _ _ _ _ | exact At.nx3 _ _ _ _ _ | exact At.ny1 _ _ _ _ | exact At.ny2 _ _ _ _ _ | exact At.ny3 _ _ _ _ _ _ | exact At.nz1 _ _ _ _ _ | exact At.nz2 _ _ _ _ _ _ | exact At.nz3 _ _ _ _ _ _ _ | exact Has.new1 _ _ _ | exact Has.new2 _ _ _ _ | exact Has.new3 _ _ _ _ _ | exact Has.nx1 _ _ _ | exact Has.nx2 _ _ _ _ | exact Has.nx3 _ _ _ _ _ | exact Has.ny1 _ _ _ _ | exact Has.ny2 _ _ _ _ _ | exact Has.ny3 _ _ _ _ _ _ | exact Has.nz1 _ _ _ _ _ | exact Has.nz2 _ _ _ _ _ _ | exact Has.nz3 _ _ _ _ _ _ _ | refine At.fill1 ?_ _ | refine At.fill2 ?_ _ _ | refine At.fill3 ?_ _ _ _ | refine At.swap ?_ (by first | omega | (simp; omega)) _ _ | refine At.alloc ?_ _ | refine At.drew ?_ | refine At.skip ?_ (by first | omega | (simp; omega)) _ _ | refine At.below (by assumption) ?_ | refine Has.alloc ?_ _ | refine Has.drew ?_ | refine Has.set ?_ _ _ _ | refine Has.below (by assumption) ?_)); done)); replace A5 : At w5 B5 (vL 4618441417868443648 0 0) := At.below hB5 (by ((with_reducible repeat' (first | assumption | exact At.new1 _ _ _ | exact At.new2 _ _ _ _ | exact At.new3 _ _ _ _ _ | exact At.nx1 _ _ _ | exact At.nx2 _ _ _ _ | exact At.nx3 _ _ _ _ _ | exact At.ny1 _ _ _ _ | exact At.ny2 _ _ _ _ _ | exact At.ny3 _ _ _ _ _ _ | exact At.nz1 _ _ _ _ _ | exact At.nz2 _ _ _ _ _ _ | exact At.nz3 _ _ _ _ _ _ _ | exact Has.new1 _ _ _ | exact Has.new2 _ _ _ _ | exact Has.new3 _ _ _ _ _ | exact Has.nx1 _ _ _ | exact Has.nx2 _ _ _ _ | exact Has.nx3 _ _ _ _ _ | exact Has.ny1 _ _ _ _ | exact Has.ny2 _ _ _ _ _ | exact Has.ny3 _ _ _ _ _ _ | exact Has.nz1 _ _ _ _ _ | exact Has.nz2 _ _ _ _ _ _ | exact Has.nz3 _ _ _ _ _ _ _ | refine At.fill1 ?_ _ | refine At.fill2 ?_ _ _ | refine At.fill3 ?_ _ _ _ | refine At.swap ?_ (by first | omega | (simp; omega)) _ _ | refine At.alloc ?_ _ | refine At.drew ?_ | refine At.skip ?_ (by first | omega | (simp; omega)) _ _ | refine At.below (by assumption) ?_ | refine Has.alloc ?_ _ | refine Has.drew ?_ | refine Has.set ?_ _ _ _ | refine Has.below (by assumption) ?_)); done)); clear hB5; obtain ⟨p0, p1, p2⟩ := A5.c3; obtain ⟨f0, f1, f2⟩ := A5.f3)))
  go_upto_region 5 with fail
  replace A5 := At.fill3 (A5.has rfl) (.float .f64 0) (.float .f64 0) (.float .f64 0)
  have n1 : ¬ B5 = w.heap.size := by omega
  have n2 : ¬ B5 = w.heap.size + 1 := by omega
  have n3 : w.heap.size ≤ B5 := by omega
  replace HC := ((HC.set n3 0 (.float .f64 0)).set n3 1 (.float .f64 0)).set n3 2 (.float .f64 0)
  replace DA := ((DA.skip n1 0 (.float .f64 0)).skip n1 1 (.float .f64 0)).skip n1 2 (.float .f64 0)
  replace VA := ((VA.skip n2 0 (.float .f64 0)).skip n2 1 (.float .f64 0)).skip n2 2 (.float .f64 0)
  clear p0 p1 p2 f0 f1 f2
  generalize ((w5.setCell ⟨B5, 0, none⟩ (.float .f64 0)).setCell ⟨B5, 1, none⟩ (.float .f64 0)).setCell ⟨B5, 2, none⟩ (.float .f64 0) = w6 at *
  go_cut [7, 8] from 40 to 46 (fun s7 s8 wx => ∃ B7, s7 = .pointer (some ⟨B7, 0, none⟩) ∧ s8 = errV g 3 ∧ At wx B7 (vL 0 0 0) ∧ At wx B5 (vL 0 0 0) ∧ At wx w.heap.size (dL X Y Z A B C S) ∧ At wx (w.heap.size + 1) (vL x y z) ∧ Gr w wx)
  case first =>
    have lw := DA.lt
    have lv6 := VA.lt
    have l56 := A5.lt
    go_region_held (fun w' => w'.cell? ⟨w.heap.size, 0, none⟩ = some (.float .f64 X) ∧ w'.cell? ⟨w.heap.size, 1, none⟩ = some (.float .f64 Y) ∧ w'.cell? ⟨w.heap.size, 2, none⟩ = some (.float .f64 Z) ∧ w'.cell? ⟨w.heap.size, 3, none⟩ = some (.float .f64 A) ∧ w'.cell? ⟨w.heap.size, 4, none⟩ = some (.float .f64 B) ∧ w'.cell? ⟨w.heap.size, 5, none⟩ = some (.float .f64 C) ∧ w'.cell? ⟨w.heap.size, 6, none⟩ = some (.float .f64 S) ∧ w'.cell? ⟨w.heap.size + 1, 0, none⟩ = some (.float .f64 x) ∧ w'.cell? ⟨w.heap.size + 1, 1, none⟩ = some (.float .f64 y) ∧ w'.cell? ⟨w.heap.size + 1, 2, none⟩ = some (.float .f64 z))
      ((refine c73 (a := .float .f64 X) (b := .float .f64 Y) (c := .float .f64 Z) (d := .float .f64 A) (e := .float .f64 B) (f := .float .f64 C) (g := .float .f64 S) (x := .float .f64 x) (y := .float .f64 y) (z := .float .f64 z) ?_ ?_; all_goals ((with_reducible repeat' (first | assumption | exact At.new1 _ _ _ | exact At.new2 _ _ _ _ | exact At.new3 _ _ _ _ _ | exact At.nx1 _ _ _ | exact At.nx2 _ _ _ _ | exact At.nx3 _ _ _ _ _ | exact At.ny1 _ _ _ _ | exact At.ny2 _ _ _ _ _ | exact At.ny3 _ _ _ _ _ _ | exact At.nz1 _ _ _ _ _ | exact At.nz2 _ _ _ _ _ _ | exact At.nz3 _ _ _ _ _ _ _ | exact Has.new1 _ _ _ | exact Has.new2 _ _ _ _ | exact Has.new3 _ _ _ _ _ | exact Has.nx1 _ _ _ | exact Has.nx2 _ _ _ _ | exact Has.nx3 _ _ _ _ _ | exact Has.ny1 _ _ _ _ | exact Has.ny2 _ _ _ _ _ | exact Has.ny3 _ _ _ _ _ _ | exact Has.nz1 _ _ _ _ _ | exact Has.nz2 _ _ _ _ _ _ | exact Has.nz3 _ _ _ _ _ _ _ | refine At.fill1 ?_ _ | refine At.fill2 ?_ _ _ | refine At.fill3 ?_ _ _ _ | refine At.swap ?_ (by first | omega | (simp; omega)) _ _ | refine At.alloc ?_ _ | refine At.drew ?_ | refine At.skip ?_ (by first | omega | (simp; omega)) _ _ | refine At.below (by assumption) ?_ | refine Has.alloc ?_ _ | refine Has.drew ?_ | refine Has.set ?_ _ _ _ | refine Has.below (by assumption) ?_)); done)))
      ((first
        | (go_at_call 7; refine (datum_any _ _ _ _ _ _ _ _).mono ?_; rintro e w7 ⟨rfl, hB5, hs5⟩; obtain ⟨hc5, hf5⟩ := mcell hB5; obtain ⟨ha5, hn5, hm5⟩ := bless hs5; (try simp at hs5); have lw5 : w6.heap.size < w7.heap.size := (by omega); replace HC : Gr w w7 := Gr.step (by ((with_reducible repeat' (first | assumption | refine Gr.drew ?_ | refine Gr.alloc ?_ _ | refine Gr.set ?_ (by first | omega | (simp; omega)) _ _ | exact Gr.refl _)); done)) hB5; replace DA : At w7 w.heap.size (dL X Y Z A B C S) := At.below hB5 (by ((with_reducible repeat' (first | assumption | exact At.new1 _ _ _ | exact At.new2 _ _ _ _ | exact At.new3 _ _ _ _ _ | exact At.nx1 _ _ _ | exact At.nx2 _ _ _ _ | exact At.nx3 _ _ _ _ _ | exact At.ny1 _ _ _ _ | exact At.ny2 _ _ _ _ _ | exact At.ny3 _ _ _ _ _ _ | exact At.nz1 _ _ _ _ _ | exact At.nz2 _ _ _ _ _ _ | exact At.nz3 _ _ _ _ _ _ _ | exact Has.new1 _ _ _ | exact Has.new2 _ _ _ _ | exact Has.new3 _ _ _ _ _ | exact Has.nx1 _ _ _ | exact Has.nx2 _ _ _ _ | exact Has.nx3 _ _ _ _ _ | exact Has.ny1 _ _ _ _ | exact Has.ny2 _ _ _ _ _ | exact Has.ny3 _ _ _ _ _ _ | exact Has.nz1 _ _ _ _ _ | exact Has.nz2 _ _ _ _ _ _ | exact Has.nz3 _ _ _ _ _ _ _ | refine At.fill1 ?_ _ | refine At.fill2 ?_ _ _ | refine At.fill3 ?_ _ _ _ | refine At.swap ?_ (by first | omega | (simp; omega)) _ _ | refine At.alloc ?_ _ | refine At.drew ?_ | refine At.skip ?_ (by first | omega | (simp; omega)) _ _ | refine At.below (by assumption) ?_ | refine Has.alloc ?_ _ | refine Has.drew ?_ | refine Has.set ?_ _ _ _ | refine Has.below (by assumption) ?_)); done)); replace VA : At w7 (w.heap.size + 1) (vL x y z) := At.below hB5 (by ((with_reducible repeat' (first | assumption | exact At.new1 _ _ _ | exact At.new2 _ _ _ _ | exact At.new3 _ _ _ _ _ | exact At.nx1 _ _ _ | exact At.nx2 _ _ _ _ | exact At.nx3 _ _ _ _ _ | exact At.ny1 _ _ _ _ | exact At.ny2 _ _ _ _ _ | exact At.ny3 _ _ _ _ _ _ | exact At.nz1 _ _ _ _ _ | exact At.nz2 _ _ _ _ _ _ | exact At.nz3 _ _ _ _ _ _ _ | exact Has.new1 _ _ _ | exact Has.new2 _ _ _ _ | exact Has.new3 _ _ _ _ _ | exact Has.nx1 _ _ _ | exact Has.nx2 _ _ _ _ | exact Has.nx3 _ _ _ _ _ | exact Has.ny1 _ _ _ _ | exact Has.ny2 _ _ _ _ _ | exact Has.ny3 _ _ _ _ _ _ | exact Has.nz1 _ _ _ _ _ | exact Has.nz2 _ _ _ _ _ _ | exact Has.nz3 _ _ _ _ _ _ _ | refine At.fill1 ?_ _ | refine At.fill2 ?_ _ _ | refine At.fill3 ?_ _ _ _ | refine At.swap ?_ (by first | omega | (simp; omega)) _ _ | refine At.alloc ?_ _ | refine At.drew ?_ | refine At.skip ?_ (by first | omega | (simp; omega)) _ _ | refine At.below (by assumption) ?_ | refine Has.alloc ?_ _ | refine Has.drew ?_ | refine Has.set ?_ _ _ _ | refine Has.below (by assumption) ?_)); done)); replace A5 : At w7 B5 (vL 0 0 0) := At.below hB5 (by ((with_reducible repeat' (first | assumption | exact At.new1 _ _ _ | exact At.new2 _ _ _ _ | exact At.new3 _ _ _ _ _ | exact At.nx1 _ _ _ | exact At.nx2 _ _ _ _ | exact At.nx3 _ _ _ _ _ | exact At.ny1 _ _ _ _ | exact At.ny2 _ _ _ _ _ | exact At.ny3 _ _ _ _ _ _ | exact At.nz1 _ _ _ _ _ | exact At.nz2 _ _ _ _ _ _ | exact At.nz3 _ _ _ _ _ _ _ | exact Has.new1 _ _ _ | exact Has.new2 _ _ _ _ | exact Has.new3 _ _ _ _ _ | exact Has.nx1 _ _ _ | exact Has.nx2 _ _ _ _ | exact Has.nx3 _ _ _ _ _ | exact Has.ny1 _ _ _ _ | exact Has.ny2 _ _ _ _ _ | exact Has.ny3 _ _ _ _ _ _ | exact Has.nz1 _ _ _ _ _ | exact Has.nz2 _ _ _ _ _ _ | exact Has.nz3 _ _ _ _ _ _ _ | refine At.fill1 ?_ _ | refine At.fill2 ?_ _ _ | refine At.fill3 ?_ _ _ _ | refine At.swap ?_ (by first | omega | (simp; omega)) _ _ | refine At.alloc ?_ _ | refine At.drew ?_ | refine At.skip ?_ (by first | omega | (simp; omega)) _ _ | refine At.below (by assumption) ?_ | refine Has.alloc ?_ _ | refine Has.drew ?_ | refine Has.set ?_ _ _ _ | refine Has.below (by assumption) ?_)); done)))
        | (go_at_call 8; refine (HF.out _ (HL.out.below (Gr.out (by ((with_reducible repeat' (first | assumption | refine Gr.drew ?_ | refine Gr.alloc ?_ _ | refine Gr.set ?_ (by first | omega | (simp; omega)) _ _ | exact Gr.refl _)); done))))).mono ?_; rintro e w8 ⟨rfl, hB5⟩; obtain ⟨hc8, hf8⟩ := mcell hB5; have hs8 := hB5.size; (try simp at hs8); replace HC : Gr w w8 := Gr.step (by ((with_reducible repeat' (first | assumption | refine Gr.drew ?_ | refine Gr.alloc ?_ _ | refine Gr.set ?_ (by first | omega | (simp; omega)) _ _ | exact Gr.refl _)); done)) hB5; replace DA : At w8 w.heap.size (dL X Y Z A B C S) := At.below hB5 (by ((with_reducible repeat' (first | assumption | exact At.new1 _ _ _ | exact At.new2 _ _ _ _ | exact At.new3 _ _ _ _ _ | exact At.nx1 _ _ _ | exact At.nx2 _ _ _ _ | exact At.nx3 _ _ _ _ _ | exact At.ny1 _ _ _ _ | exact At.ny2 _ _ _ _ _ | exact At.ny3 _ _ _ _ _ _ | exact At.nz1 _ _ _ _ _ | exact At.nz2 _ _ _ _ _ _ | exact At.nz3 _ _ _ _ _ _ _ | exact Has.new1 _ _ _ | exact Has.new2 _ _ _ _ | exact Has.new3 _ _ _ _ _ | exact Has.nx1 _ _ _ | exact Has.nx2 _ _ _ _ | exact Has.nx3 _ _ _ _ _ | exact Has.ny1 _ _ _ _ | exact Has.ny2 _ _ _ _ _ | exact Has.ny3 _ _ _ _ _ _ | exact Has.nz1 _ _ _ _ _ | exact Has.nz2 _ _ _ _ _ _ | exact Has.nz3 _ _ _ _ _ _ _ | refine At.fill1 ?_ _ | refine At.fill2 ?_ _ _ | refine At.fill3 ?_ _ _ _ | refine At.swap ?_ (by first | omega | (simp; omega)) _ _ | refine At.alloc ?_ _ | refine At.drew ?_ | refine At.skip ?_ (by first | omega | (simp; omega)) _ _ | refine At.below (by assumption) ?_ | refine Has.alloc ?_ _ | refine Has.drew ?_ | refine Has.set ?_ _ _ _ | refine Has.below (by assumption) ?_)); done)); replace VA : At w8 (w.heap.size + 1) (vL x y z) := At.below hB5 (by ((with_reducible repeat' (first | assumption | exact At.new1 _ _ _ | exact At.new2 _ _ _ _ | exact At.new3 _ _ _ _ _ | exact At.nx1 _ _ _ | exact At.nx2 _ _ _ _ | exact At.nx3 _ _ _ _ _ | exact At.ny1 _ _ _ _ | exact At.ny2 _ _ _ _ _ | exact At.ny3 _ _ _ _ _ _ | exact At.nz1 _ _ _ _ _ | exact At.nz2 _ _ _ _ _ _ | exact At.nz3 _ _ _ _ _ _ _ | exact Has.new1 _ _ _ | exact Has.new2 _ _ _ _ | exact Has.new3 _ _ _ _ _ | exact Has.nx1 _ _ _ | exact Has.nx2 _ _ _ _ | exact Has.nx3 _ _ _ _ _ | exact Has.ny1 _ _ _ _ | exact Has.ny2 _ _ _ _ _ | exact Has.ny3 _ _ _ _ _ _ | exact Has.nz1 _ _ _ _ _ | exact Has.nz2 _ _ _ _ _ _ | exact Has.nz3 _ _ _ _ _ _ _ | refine At.fill1 ?_ _ | refine At.fill2 ?_ _ _ | refine At.fill3 ?_ _ _ _ | refine At.swap ?_ (by first | omega | (simp; omega)) _ _ | refine At.alloc ?_ _ | refine At.drew ?_ | refine At.skip ?_ (by first | omega | (simp; omega)) _ _ | refine At.below (by assumption) ?_ | refine Has.alloc ?_ _ | refine Has.drew ?_ | refine Has.set ?_ _ _ _ | refine Has.below (by assumption) ?_)); done)); replace A5 : At w8 B5 (vL 0 0 0) := At.below hB5 (by ((with_reducible repeat' (first | assumption | exact At.new1 _ _ _ | exact At.new2 _ _ _ _ | exact At.new3 _ _ _ _ _ | exact At.nx1 _ _ _ | exact At.nx2 _ _ _ _ | exact At.nx3 _ _ _ _ _ | exact At.ny1 _ _ _ _ | exact At.ny2 _ _ _ _ _ | exact At.ny3 _ _ _ _ _ _ | exact At.nz1 _ _ _ _ _ | exact At.nz2 _ _ _ _ _ _ | exact At.nz3 _ _ _ _ _ _ _ | exact Has.new1 _ _ _ | exact Has.new2 _ _ _ _ | exact Has.new3 _ _ _ _ _ | exact Has.nx1 _ _ _ | exact Has.nx2 _ _ _ _ | exact Has.nx3 _ _ _ _ _ | exact Has.ny1 _ _ _ _ | exact Has.ny2 _ _ _ _ _ | exact Has.ny3 _ _ _ _ _ _ | exact Has.nz1 _ _ _ _ _ | exact Has.nz2 _ _ _ _ _ _ | exact Has.nz3 _ _ _ _ _ _ _ | refine At.fill1 ?_ _ | refine At.fill2 ?_ _ _ | refine At.fill3 ?_ _ _ _ | refine At.swap ?_ (by first | omega | (simp; omega)) _ _ | refine At.alloc ?_ _ | refine At.drew ?_ | refine At.skip ?_ (by first | omega | (simp; omega)) _ _ | refine At.below (by assumption) ?_ | refine Has.alloc ?_ _ | refine Has.drew ?_ | refine Has.set ?_ _ _ _ | refine Has.below (by assumption) ?_)); done)))))
    all_goals
      go_wp2_with fail
      go_meet
      refine ⟨_, rfl, rfl, ?_, ?_, ?_, ?_, ?_⟩
    all_goals first | ((with_reducible repeat' (first | assumption | exact At.new1 _ _ _ | exact At.new2 _ _ _ _ | exact At.new3 _ _ _ _ _ | exact At.nx1 _ _ _ | exact At.nx2 _ _ _ _ | exact At.nx3 _ _ _ _ _ | exact At.ny1 _ _ _ _ | exact At.ny2 _ _ _ _ _ | exact At.ny3 _ _ _ _ _ _ | exact At.nz1 _ _ _ _ _ | exact At.nz2 _ _ _ _ _ _ | exact At.nz3 _ _ _ _ _ _ _ | exact Has.new1 _ _ _ | exact Has.new2 _ _ _ _ | exact Has.new3 _ _ _ _ _ | exact Has.nx1 _ _ _ | exact Has.nx2 _ _ _ _ | exact Has.nx3 _ _ _ _ _ | exact Has.ny1 _ _ _ _ | exact Has.ny2 _ _ _ _ _ | exact Has.ny3 _ _ _ _ _ _ | exact Has.nz1 _ _ _ _ _ | exact Has.nz2 _ _ _ _ _ _ | exact Has.nz3 _ _ _ _ _ _ _ | refine At.fill1 ?_ _ | refine At.fill2 ?_ _ _ | refine At.fill3 ?_ _ _ _ | refine At.swap ?_ (by first | omega | (simp; omega)) _ _ | refine At.alloc ?_ _ | refine At.drew ?_ | refine At.skip ?_ (by first | omega | (simp; omega)) _ _ | refine At.below (by assumption) ?_ | refine Has.alloc ?_ _ | refine Has.drew ?_ | refine Has.set ?_ _ _ _ | refine Has.below (by assumption) ?_)); done) | ((with_reducible repeat' (first | assumption | refine Gr.drew ?_ | refine Gr.alloc ?_ _ | refine Gr.set ?_ (by first | omega | (simp; omega)) _ _ | exact Gr.refl _)); done)
  case rest =>
  clear DA VA A5 HC
  obtain ⟨B7, rfl, rfl, A7, A5, DA, VA, HC⟩ := hcut
  obtain ⟨d0, d1, d2, d3, d4, d5, d6⟩ := DA.c7
  obtain ⟨v0, v1, v2⟩ := VA.c3
  obtain ⟨p0, p1, p2⟩ := A5.c3
  obtain ⟨q0, q1, q2⟩ := A7.c3
  go_wp2_with fail
  clear d0 d1 d2 d3 d4 d5 d6 v0 v1 v2 p0 p1 p2 q0 q1 q2
  refine (HE.out _).mono ?_
  rintro e wa ⟨rfl, hB⟩
  replace HC := Gr.step HC hB
  replace DA := At.below hB DA
  replace VA := At.below hB VA
  replace A5 := At.below hB A5
  replace A7 := At.below hB A7
  clear hB
  obtain ⟨d0, d1, d2, d3, d4, d5, d6⟩ := DA.c7
  obtain ⟨v0, v1, v2⟩ := VA.c3
  obtain ⟨p0, p1, p2⟩ := A5.c3
  obtain ⟨q0, q1, q2⟩ := A7.c3
  go_wp2_with fail
  clear d0 d1 d2 d3 d4 d5 d6 v0 v1 v2 p0 p1 p2 q0 q1 q2
  refine (datum_any _ _ _ _ _ _ _ _).mono ?_
  rintro e wb ⟨rfl, hB, _⟩
  replace HC := Gr.step HC hB
  replace DA := At.below hB DA
  replace VA := At.below hB VA
  replace A5 := At.below hB A5
  replace A7 := At.below hB A7
  clear hB
  obtain ⟨d0, d1, d2, d3, d4, d5, d6⟩ := DA.c7
  obtain ⟨v0, v1, v2⟩ := VA.c3
  obtain ⟨p0, p1, p2⟩ := A5.c3
  obtain ⟨q0, q1, q2⟩ := A7.c3
  go_wp2_with fail
  clear d0 d1 d2 d3 d4 d5 d6 v0 v1 v2 p0 p1 p2 q0 q1 q2
  refine (HV.out _ (HL.out.below HC.out)).mono ?_
  rintro e wd ⟨rfl, hB⟩
  replace HC := Gr.step HC hB
  replace DA := At.below hB DA
  replace VA := At.below hB VA
  replace A5 := At.below hB A5
  replace A7 := At.below hB A7
  clear hB
  obtain ⟨d0, d1, d2, d3, d4, d5, d6⟩ := DA.c7
  obtain ⟨v0, v1, v2⟩ := VA.c3
  obtain ⟨p0, p1, p2⟩ := A5.c3
  obtain ⟨q0, q1, q2⟩ := A7.c3
  go_wp2_with fail
  clear d0 d1 d2 d3 d4 d5 d6 v0 v1 v2 p0 p1 p2 q0 q1 q2
  refine (coded0 g _ (HL.out.below HC.out)).mono ?_
  rintro e we ⟨rfl, hB⟩
  replace HC := Gr.step HC hB
  replace DA := At.below hB DA
  replace VA := At.below hB VA
  replace A5 := At.below hB A5
  replace A7 := At.below hB A7
  clear hB
  obtain ⟨d0, d1, d2, d3, d4, d5, d6⟩ := DA.c7
  obtain ⟨v0, v1, v2⟩ := VA.c3
  obtain ⟨p0, p1, p2⟩ := A5.c3
  obtain ⟨q0, q1, q2⟩ := A7.c3
  go_wp2_with fail
  clear d0 d1 d2 d3 d4 d5 d6 v0 v1 v2 p0 p1 p2 q0 q1 q2
  refine (HR.out _).mono ?_
  rintro e wf ⟨rfl, hB⟩
  replace HC := Gr.step HC hB
  replace DA := At.below hB DA
  replace VA := At.below hB VA
  replace A5 := At.below hB A5
  replace A7 := At.below hB A7
  clear hB
  obtain ⟨d0, d1, d2, d3, d4, d5, d6⟩ := DA.c7
  obtain ⟨v0, v1, v2⟩ := VA.c3
  obtain ⟨p0, p1, p2⟩ := A5.c3
  obtain ⟨q0, q1, q2⟩ := A7.c3
  go_wp2_with fail
  clear d0 d1 d2 d3 d4 d5 d6 v0 v1 v2 p0 p1 p2 q0 q1 q2
  refine (coded4 g _ (HL.out.below HC.out)).mono ?_
  rintro e wg ⟨rfl, hB⟩
  replace HC := Gr.step HC hB
  replace DA := At.below hB DA
  replace VA := At.below hB VA
  replace A5 := At.below hB A5
  replace A7 := At.below hB A7
  clear hB
  obtain ⟨d0, d1, d2, d3, d4, d5, d6⟩ := DA.c7
  obtain ⟨v0, v1, v2⟩ := VA.c3
  obtain ⟨p0, p1, p2⟩ := A5.c3
  obtain ⟨q0, q1, q2⟩ := A7.c3
  go_wp2_with fail
  clear d0 d1 d2 d3 d4 d5 d6 v0 v1 v2 p0 p1 p2 q0 q1 q2
  refine (coded4 g _ (HL.out.below HC.out)).mono ?_
  rintro e wh ⟨rfl, hB⟩
  replace HC := Gr.step HC hB
  replace DA := At.below hB DA
  replace VA := At.below hB VA
  replace A5 := At.below hB A5
  replace A7 := At.below hB A7
  clear hB
  obtain ⟨d0, d1, d2, d3, d4, d5, d6⟩ := DA.c7
  obtain ⟨v0, v1, v2⟩ := VA.c3
  obtain ⟨p0, p1, p2⟩ := A5.c3
  obtain ⟨q0, q1, q2⟩ := A7.c3
  go_wp2_with fail
  clear d0 d1 d2 d3 d4 d5 d6 v0 v1 v2 p0 p1 p2 q0 q1 q2
  refine (sameVec_any 0 0 0 0 0 0 SB.zero SB.zero SB.zero _).mono ?_
  rintro e wi ⟨rfl, hB⟩
  replace HC := Gr.step HC hB
  replace DA := At.below hB DA
  replace VA := At.below hB VA
  replace A5 := At.below hB A5
  replace A7 := At.below hB A7
  clear hB
  obtain ⟨d0, d1, d2, d3, d4, d5, d6⟩ := DA.c7
  obtain ⟨v0, v1, v2⟩ := VA.c3
  obtain ⟨p0, p1, p2⟩ := A5.c3
  obtain ⟨q0, q1, q2⟩ := A7.c3
  go_wp2_with fail
  clear d0 d1 d2 d3 d4 d5 d6 v0 v1 v2 p0 p1 p2 q0 q1 q2
  refine (sameVec_any 0 0 0 0 0 0 SB.zero SB.zero SB.zero _).mono ?_
  rintro e wj ⟨rfl, hB⟩
  replace HC := Gr.step HC hB
  replace DA := At.below hB DA
  replace VA := At.below hB VA
  replace A5 := At.below hB A5
  replace A7 := At.below hB A7
  clear hB
  go_wp2
  go_ret
  exact ⟨rfl, HC⟩
end Go.Proofs.YtmiamfnnccjmeacDoor
