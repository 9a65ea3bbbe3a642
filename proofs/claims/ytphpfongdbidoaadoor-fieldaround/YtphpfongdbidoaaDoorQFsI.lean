/-
  field.Coarse: the walk.
-/
import Derived.Test.YtphpfongdbidoaaDoorQFsH
import Derived.Deep.DrawnRows
import Derived.Lib.MinMax
namespace Go.Proofs.YtphpfongdbidoaaDoor
open Go.RowKit
attribute [local go_sem ↓] Go.wp_at_zero Go.wp_at_succ

theorem cof_cell {w W : World} {S C M B : Nat} {k0 ks kc : List Value} {Ls L : List Int} (h : CoF w W S C M B k0 ks kc Ls L) {j : Nat} (hj : j < L.length) : W.cell? ⟨B, j, none⟩ = some (.int .i64 L[j]) ∧ W.frozen? ⟨B, j, none⟩ = false := by
  have := h.b0.1 j (by simpa [ir] using hj)
  simpa [ir] using this
set_option maxRecDepth 4000 in
set_option maxHeartbeats 16000000 in
theorem coarse_ok (g : Nat → Addr) {m n by' b o cap : Nat} {l : List Int} (w : World) (h : Rs w b o cap l) (ok : Ok l m n) (hl : Laid w g) (hc : scode m n l by' = 0) (hb1 : 1 ≤ by') (hb2 : by' ≤ 128) : Calls Tryd.prog 18 #[raV m n (.slice (some ⟨b, o, none⟩) l.length cap), .int .i64 (by' : Int)] w fun e w' => ∃ B K, e = .returned (.tuple #[raV ((many m by' : Nat) : Int) ((many n by' : Nat) : Int) (.slice (some ⟨B, 0, none⟩) K K), .nilIface]) ∧ K = many n by' * many m by' ∧ At w' B (ir (coL l m n by' K)) ∧ w.heap.size ≤ B ∧ Gr w w' := by
  have ll := ok.len_le
  have C1 := hidb (fun w1 (hB : Gr w w1) => scaled_any g (W := m) (H := n) by' w1 (h.isl.below hB.out) (by omega) (hl.below hB.out))
  rw [hc, show evc g 0 = .nilIface from rfl] at C1
  have P0 : Hid (PrF w ((w.alloc (.cells #[.int .i64 m, .int .i64 n, .slice (some ⟨b, o, none⟩) l.length cap] 27)).alloc (.cells #[.int .i64 0, .int .i64 0, .slice none 0 0] 27)) [.int .i64 m, .int .i64 n, .slice (some ⟨b, o, none⟩) l.length cap]) := ⟨(At.new3 w (.int .i64 m) (.int .i64 n) (.slice (some ⟨b, o, none⟩) l.length cap) 27).alloc (.cells #[.int .i64 0, .int .i64 0, .slice none 0 0] 27), At.nx3 (W := w) (.cells #[.int .i64 m, .int .i64 n, .slice (some ⟨b, o, none⟩) l.length cap] 27) (.int .i64 0) (.int .i64 0) (.slice none 0 0) 27, ((Gr.refl w).alloc (.cells #[.int .i64 m, .int .i64 n, .slice (some ⟨b, o, none⟩) l.length cap] 27)).alloc (.cells #[.int .i64 0, .int .i64 0, .slice none 0 0] 27)⟩
  have HRs := hidb h
  have HOk := hidb ok
  have KS := hidb (fun W (hG : Gr w W) => sumsOf_any (m := m) (n := n) W (h.below hG.out) ok)
  obtain ⟨mm, hmm⟩ : ∃ q : Int, q = ((m + 1 : Nat) : Int) := ⟨_, rfl⟩
  rw [← hmm] at KS
  have HMM := hidb hmm
  clear hmm
  have um := many_up ok.m1 hb1
  have un := many_up ok.n1 hb1
  have lm := many_le (by' := by') ok.m1
  have ln := many_le (by' := by') ok.n1
  have hm1 := ok.m1
  have hm2 := ok.m2
  have hn1 := ok.n1
  have hn2 := ok.n2
  obtain ⟨Wm, hWm⟩ : ∃ q, q = many m by' := ⟨_, rfl⟩
  obtain ⟨Wn, hWn⟩ : ∃ q, q = many n by' := ⟨_, rfl⟩
  rw [← hWm] at um lm ⊢
  rw [← hWn] at un ln ⊢
  have pl : Wn * Wm ≤ 128 * 128 := Nat.mul_le_mul (by omega) (by omega)
  obtain ⟨K, hK⟩ : ∃ K, K = Wn * Wm := ⟨_, rfl⟩
  obtain ⟨bI, hbI⟩ : ∃ q : Int, q = (by' : Int) := ⟨_, rfl⟩
  rw [← hbI] at C1 ⊢
  rw [← hK] at pl ⊢
  have HbI := hidb hbI
  have CB := hidb (fun w => blank_any (Wm : Int) (Wn : Int) K (by rw [hK, Nat.mul_comm]; exact Int.natCast_mul _ _) (by omega) w)
  obtain ⟨x1, hx1, e1⟩ : ∃ q : Int, q = ((m + by' : Nat) : Int) ∧ IntKind.i64.wrap ((m : Int) + bI) = q := ⟨_, rfl, by rw [hbI]; exact wrap_in (by omega) (by omega)⟩
  obtain ⟨x2, hx2, e2⟩ : ∃ q : Int, q = ((m + by' - 1 : Nat) : Int) ∧ IntKind.i64.wrap (x1 - 1) = q := ⟨_, rfl, by rw [show x1 - 1 = ((m + by' - 1 : Nat) : Int) by omega]; exact wrap_in (by omega) (by omega)⟩
  obtain ⟨y1, hy1, e3⟩ : ∃ q : Int, q = ((n + by' : Nat) : Int) ∧ IntKind.i64.wrap ((n : Int) + bI) = q := ⟨_, rfl, by rw [hbI]; exact wrap_in (by omega) (by omega)⟩
  obtain ⟨y2, hy2, e4⟩ : ∃ q : Int, q = ((n + by' - 1 : Nat) : Int) ∧ IntKind.i64.wrap (y1 - 1) = q := ⟨_, rfl, by rw [show y1 - 1 = ((n + by' - 1 : Nat) : Int) by omega]; exact wrap_in (by omega) (by omega)⟩
  obtain ⟨t1, t2, t3, t4⟩ := nat_q hx2 hbI (by omega)
  obtain ⟨u1, u2, u3, u4⟩ := nat_q hy2 hbI (by omega)
  rw [um] at t1 t3
  rw [un] at u1 u3
  clear t2 t4 u2 u4
  have z0 : ¬ bI = 0 := by omega
  have HB := hidb (show 1 ≤ m ∧ m ≤ 128 ∧ 1 ≤ n ∧ n ≤ 128 ∧ 1 ≤ by' ∧ by' ≤ 128 ∧ Wm ≤ 128 ∧ Wn ≤ 128 ∧ K ≤ 16384 ∧ l.length ≤ 16384 from ⟨hm1, hm2, hn1, hn2, hb1, hb2, by omega, by omega, pl, ll⟩)
  have HWm := hidb hWm
  have HWn := hidb hWn
  have HKe := hidb hK
  clear h ok hl hc hb1 hb2 pl um un lm ln hm1 hm2 hn1 hn2 hWm hWn hK hbI hx1 hx2 hy1 hy2 ll
  go_enter Tryd.func18, Tryd.ntmps18
  go_wp2_with fail
  refine (C1.out _ P0.out.gr).mono ?_
  rintro e w1 ⟨rfl, hB⟩
  replace P0 := hidb (P0.out.below hB.out)
  clear hB C1
  go_upto_region 4 with fail
  go_cut [7, 8] from 19 to 35 (fun s7 s8 wx => ∃ S C M B Ls, s7 = .pointer (some ⟨S, 0, none⟩) ∧ s8 = .pointer (some ⟨C, 0, none⟩) ∧ Hid (SumL l m n Ls) ∧ Hid (CoF w wx S C M B [.int .i64 m, .int .i64 n, .slice (some ⟨b, o, none⟩) l.length cap] [.int .i64 mm, .slice (some ⟨M, 0, none⟩) Ls.length Ls.length] [.int .i64 Wm, .int .i64 Wn, .slice (some ⟨B, 0, none⟩) K K] Ls (List.replicate K 0)))
  case first =>
    have PX := P0.out
    have q1 := PX.a1.lt
    go_region_held (fun w' => w'.cell? ⟨w.heap.size, 0, none⟩ = some (.int .i64 m) ∧ w'.cell? ⟨w.heap.size, 1, none⟩ = some (.int .i64 n) ∧ w'.cell? ⟨w.heap.size, 2, none⟩ = some (.slice (some ⟨b, o, none⟩) l.length cap))
      (with_reducible first | exact PX.a0.c3 | exact PX.drew.a0.c3 | (refine At.c3 ?_; repeat (first | exact PX.a0 | refine At.drew ?_ | refine At.alloc ?_ _ | refine At.skip ?_ (by omega) _ _)))
      ((first
        | (go_at_call 23; with_reducible refine (KS.out _ (by with_reducible repeat' (first | exact PX.gr | refine Gr.drew ?_ | refine Gr.alloc ?_ _))).mono ?_; rintro e w8 ⟨M, KS', Ls, rfl, rfl, hSum, hM, hMw, hB8⟩; (try simp at hMw); (with_reducible first | replace PX := PX.below hB8.out | replace PX := PX.drew.below hB8.out | replace PX := (PX.alloc _).below hB8.out | replace PX := (PX.alloc _).drew.below hB8.out | replace PX := ((PX.alloc _).alloc _).below hB8.out | replace PX := ((PX.alloc _).alloc _).drew.below hB8.out); have q8 := PX.a1.lt; have s8 := hB8.out.size; (try simp at s8); have HB8 := hB8.out; (with_reducible first | have A7 := At.below hB8.out (At.nx2 _ _ _ _) | have A7 := At.below hB8.out (At.nx2 _ _ _ _).drew | have A7 := At.below hB8.out (At.new2 _ _ _ _) | have A7 := At.below hB8.out (At.new2 _ _ _ _).drew | have A7 := At.below hB8.out ((At.new2 _ _ _ _).alloc _) | have A7 := At.below hB8.out ((At.new2 _ _ _ _).alloc _).drew | skip); (with_reducible first | have A8 := At.below hB8.out (At.nx3 _ _ _ _ _) | have A8 := At.below hB8.out (At.nx3 _ _ _ _ _).drew | have A8 := At.below hB8.out (At.new3 _ _ _ _ _) | have A8 := At.below hB8.out (At.new3 _ _ _ _ _).drew | have A8 := At.below hB8.out ((At.new3 _ _ _ _ _).alloc _) | have A8 := At.below hB8.out ((At.new3 _ _ _ _ _).alloc _).drew | skip); (try (obtain ⟨f70, f71⟩ := A7.f2; obtain ⟨c70, c71⟩ := A7.c2; have H7 := A7.has (n := 2) rfl; have l7 := A7.lt; have n7 : ¬ _ = _ := Nat.ne_of_lt A7.lt; have m7 : ¬ _ = _ := Nat.ne_of_gt A7.lt)); (try (obtain ⟨f80, f81, f82⟩ := A8.f3; obtain ⟨c80, c81, c82⟩ := A8.c3; have H8 := A8.has (n := 3) rfl; have l8 := A8.lt; have n8 : ¬ _ = _ := Nat.ne_of_lt A8.lt; have m8 : ¬ _ = _ := Nat.ne_of_gt A8.lt)))
        | (go_at_call 24; with_reducible refine (CB.out _).mono ?_; rintro e w9 ⟨B, rfl, hAB, hBw, hB9⟩; (try simp at hBw); (with_reducible first | replace PX := PX.below hB9.out | replace PX := PX.drew.below hB9.out | replace PX := (PX.alloc _).below hB9.out | replace PX := (PX.alloc _).drew.below hB9.out | replace PX := ((PX.alloc _).alloc _).below hB9.out | replace PX := ((PX.alloc _).alloc _).drew.below hB9.out); have q9 := PX.a1.lt; have s9 := hB9.out.size; (try simp at s9); have HB9 := hB9.out; (with_reducible first | replace A7 := At.below hB9.out A7 | replace A7 := At.below hB9.out (A7.alloc _) | replace A7 := At.below hB9.out ((A7.alloc _).alloc _) | skip); (with_reducible first | replace A8 := At.below hB9.out A8 | replace A8 := At.below hB9.out (A8.alloc _) | replace A8 := At.below hB9.out ((A8.alloc _).alloc _) | skip); (with_reducible first | have A7 := At.below hB9.out (At.nx2 _ _ _ _) | have A7 := At.below hB9.out (At.nx2 _ _ _ _).drew | have A7 := At.below hB9.out (At.new2 _ _ _ _) | have A7 := At.below hB9.out (At.new2 _ _ _ _).drew | have A7 := At.below hB9.out ((At.new2 _ _ _ _).alloc _) | have A7 := At.below hB9.out ((At.new2 _ _ _ _).alloc _).drew | skip); (with_reducible first | have A8 := At.below hB9.out (At.nx3 _ _ _ _ _) | have A8 := At.below hB9.out (At.nx3 _ _ _ _ _).drew | have A8 := At.below hB9.out (At.new3 _ _ _ _ _) | have A8 := At.below hB9.out (At.new3 _ _ _ _ _).drew | have A8 := At.below hB9.out ((At.new3 _ _ _ _ _).alloc _) | have A8 := At.below hB9.out ((At.new3 _ _ _ _ _).alloc _).drew | skip); (try (obtain ⟨f70, f71⟩ := A7.f2; obtain ⟨c70, c71⟩ := A7.c2; have H7 := A7.has (n := 2) rfl; have l7 := A7.lt; have n7 : ¬ _ = _ := Nat.ne_of_lt A7.lt; have m7 : ¬ _ = _ := Nat.ne_of_gt A7.lt)); (try (obtain ⟨f80, f81, f82⟩ := A8.f3; obtain ⟨c80, c81, c82⟩ := A8.c3; have H8 := A8.has (n := 3) rfl; have l8 := A8.lt; have n8 : ¬ _ = _ := Nat.ne_of_lt A8.lt; have m8 : ¬ _ = _ := Nat.ne_of_gt A8.lt)))))
    all_goals
      go_wp2_with fail
      go_meet
      obtain ⟨pa0, pa1, pgr⟩ := PX
      have hMl := hM.lt
      have hBl := hAB.lt
      refine ⟨_, _, M, B, Ls, rfl, rfl, hSum, ⟨?_, ?_, ?_, ?_, ?_, ?_, ?_, ?_, ?_, ?_, ?_⟩⟩
      · ((with_reducible repeat' (first | assumption | exact At.new1 _ _ _ | exact At.new2 _ _ _ _ | exact At.new3 _ _ _ _ _ | exact At.nx1 _ _ _ | exact At.nx2 _ _ _ _ | exact At.nx3 _ _ _ _ _ | exact At.ny1 _ _ _ _ | exact At.ny2 _ _ _ _ _ | exact At.ny3 _ _ _ _ _ _ | exact At.nz1 _ _ _ _ _ | exact At.nz2 _ _ _ _ _ _ | exact At.nz3 _ _ _ _ _ _ _ | exact Has.new1 _ _ _ | exact Has.new2 _ _ _ _ | exact Has.new3 _ _ _ _ _ | exact Has.nx1 _ _ _ | exact Has.nx2 _ _ _ _ | exact Has.nx3 _ _ _ _ _ | exact Has.ny1 _ _ _ _ | exact Has.ny2 _ _ _ _ _ | exact Has.ny3 _ _ _ _ _ _ | exact Has.nz1 _ _ _ _ _ | exact Has.nz2 _ _ _ _ _ _ | exact Has.nz3 _ _ _ _ _ _ _ | refine At.fill1 ?_ _ | refine At.fill2 ?_ _ _ | refine At.fill3 ?_ _ _ _ | refine At.swap ?_ (by first | omega | (simp; omega)) _ _ | refine At.alloc ?_ _ | refine At.drew ?_ | refine At.skip ?_ (by first | omega | (simp; omega)) _ _ | refine At.below (by assumption) ?_ | refine Has.alloc ?_ _ | refine Has.drew ?_ | refine Has.set ?_ _ _ _ | refine Has.below (by assumption) ?_)); done)
      · ((with_reducible repeat' (first | assumption | exact At.new1 _ _ _ | exact At.new2 _ _ _ _ | exact At.new3 _ _ _ _ _ | exact At.nx1 _ _ _ | exact At.nx2 _ _ _ _ | exact At.nx3 _ _ _ _ _ | exact At.ny1 _ _ _ _ | exact At.ny2 _ _ _ _ _ | exact At.ny3 _ _ _ _ _ _ | exact At.nz1 _ _ _ _ _ | exact At.nz2 _ _ _ _ _ _ | exact At.nz3 _ _ _ _ _ _ _ | exact Has.new1 _ _ _ | exact Has.new2 _ _ _ _ | exact Has.new3 _ _ _ _ _ | exact Has.nx1 _ _ _ | exact Has.nx2 _ _ _ _ | exact Has.nx3 _ _ _ _ _ | exact Has.ny1 _ _ _ _ | exact Has.ny2 _ _ _ _ _ | exact Has.ny3 _ _ _ _ _ _ | exact Has.nz1 _ _ _ _ _ | exact Has.nz2 _ _ _ _ _ _ | exact Has.nz3 _ _ _ _ _ _ _ | refine At.fill1 ?_ _ | refine At.fill2 ?_ _ _ | refine At.fill3 ?_ _ _ _ | refine At.swap ?_ (by first | omega | (simp; omega)) _ _ | refine At.alloc ?_ _ | refine At.drew ?_ | refine At.skip ?_ (by first | omega | (simp; omega)) _ _ | refine At.below (by assumption) ?_ | refine Has.alloc ?_ _ | refine Has.drew ?_ | refine Has.set ?_ _ _ _ | refine Has.below (by assumption) ?_)); done)
      · ((with_reducible repeat' (first | assumption | exact At.new1 _ _ _ | exact At.new2 _ _ _ _ | exact At.new3 _ _ _ _ _ | exact At.nx1 _ _ _ | exact At.nx2 _ _ _ _ | exact At.nx3 _ _ _ _ _ | exact At.ny1 _ _ _ _ | exact At.ny2 _ _ _ _ _ | exact At.ny3 _ _ _ _ _ _ | exact At.nz1 _ _ _ _ _ | exact At.nz2 _ _ _ _ _ _ | exact At.nz3 _ _ _ _ _ _ _ | exact Has.new1 _ _ _ | exact Has.new2 _ _ _ _ | exact Has.new3 _ _ _ _ _ | exact Has.nx1 _ _ _ | exact Has.nx2 _ _ _ _ | exact Has.nx3 _ _ _ _ _ | exact Has.ny1 _ _ _ _ | exact Has.ny2 _ _ _ _ _ | exact Has.ny3 _ _ _ _ _ _ | exact Has.nz1 _ _ _ _ _ | exact Has.nz2 _ _ _ _ _ _ | exact Has.nz3 _ _ _ _ _ _ _ | refine At.fill1 ?_ _ | refine At.fill2 ?_ _ _ | refine At.fill3 ?_ _ _ _ | refine At.swap ?_ (by first | omega | (simp; omega)) _ _ | refine At.alloc ?_ _ | refine At.drew ?_ | refine At.skip ?_ (by first | omega | (simp; omega)) _ _ | refine At.below (by assumption) ?_ | refine Has.alloc ?_ _ | refine Has.drew ?_ | refine Has.set ?_ _ _ _ | refine Has.below (by assumption) ?_)); done)
      · ((with_reducible repeat' (first | assumption | exact At.new1 _ _ _ | exact At.new2 _ _ _ _ | exact At.new3 _ _ _ _ _ | exact At.nx1 _ _ _ | exact At.nx2 _ _ _ _ | exact At.nx3 _ _ _ _ _ | exact At.ny1 _ _ _ _ | exact At.ny2 _ _ _ _ _ | exact At.ny3 _ _ _ _ _ _ | exact At.nz1 _ _ _ _ _ | exact At.nz2 _ _ _ _ _ _ | exact At.nz3 _ _ _ _ _ _ _ | exact Has.new1 _ _ _ | exact Has.new2 _ _ _ _ | exact Has.new3 _ _ _ _ _ | exact Has.nx1 _ _ _ | exact Has.nx2 _ _ _ _ | exact Has.nx3 _ _ _ _ _ | exact Has.ny1 _ _ _ _ | exact Has.ny2 _ _ _ _ _ | exact Has.ny3 _ _ _ _ _ _ | exact Has.nz1 _ _ _ _ _ | exact Has.nz2 _ _ _ _ _ _ | exact Has.nz3 _ _ _ _ _ _ _ | refine At.fill1 ?_ _ | refine At.fill2 ?_ _ _ | refine At.fill3 ?_ _ _ _ | refine At.swap ?_ (by first | omega | (simp; omega)) _ _ | refine At.alloc ?_ _ | refine At.drew ?_ | refine At.skip ?_ (by first | omega | (simp; omega)) _ _ | refine At.below (by assumption) ?_ | refine Has.alloc ?_ _ | refine Has.drew ?_ | refine Has.set ?_ _ _ _ | refine Has.below (by assumption) ?_)); done)
      · ((with_reducible repeat' (first | assumption | exact At.new1 _ _ _ | exact At.new2 _ _ _ _ | exact At.new3 _ _ _ _ _ | exact At.nx1 _ _ _ | exact At.nx2 _ _ _ _ | exact At.nx3 _ _ _ _ _ | exact At.ny1 _ _ _ _ | exact At.ny2 _ _ _ _ _ | exact At.ny3 _ _ _ _ _ _ | exact At.nz1 _ _ _ _ _ | exact At.nz2 _ _ _ _ _ _ | exact At.nz3 _ _ _ _ _ _ _ | exact Has.new1 _ _ _ | exact Has.new2 _ _ _ _ | exact Has.new3 _ _ _ _ _ | exact Has.nx1 _ _ _ | exact Has.nx2 _ _ _ _ | exact Has.nx3 _ _ _ _ _ | exact Has.ny1 _ _ _ _ | exact Has.ny2 _ _ _ _ _ | exact Has.ny3 _ _ _ _ _ _ | exact Has.nz1 _ _ _ _ _ | exact Has.nz2 _ _ _ _ _ _ | exact Has.nz3 _ _ _ _ _ _ _ | refine At.fill1 ?_ _ | refine At.fill2 ?_ _ _ | refine At.fill3 ?_ _ _ _ | refine At.swap ?_ (by first | omega | (simp; omega)) _ _ | refine At.alloc ?_ _ | refine At.drew ?_ | refine At.skip ?_ (by first | omega | (simp; omega)) _ _ | refine At.below (by assumption) ?_ | refine Has.alloc ?_ _ | refine Has.drew ?_ | refine Has.set ?_ _ _ _ | refine Has.below (by assumption) ?_)); done)
      · ((with_reducible repeat' (first | assumption | exact At.new1 _ _ _ | exact At.new2 _ _ _ _ | exact At.new3 _ _ _ _ _ | exact At.nx1 _ _ _ | exact At.nx2 _ _ _ _ | exact At.nx3 _ _ _ _ _ | exact At.ny1 _ _ _ _ | exact At.ny2 _ _ _ _ _ | exact At.ny3 _ _ _ _ _ _ | exact At.nz1 _ _ _ _ _ | exact At.nz2 _ _ _ _ _ _ | exact At.nz3 _ _ _ _ _ _ _ | exact Has.new1 _ _ _ | exact Has.new2 _ _ _ _ | exact Has.new3 _ _ _ _ _ | exact Has.nx1 _ _ _ | exact Has.nx2 _ _ _ _ | exact Has.nx3 _ _ _ _ _ | exact Has.ny1 _ _ _ _ | exact Has.ny2 _ _ _ _ _ | exact Has.ny3 _ _ _ _ _ _ | exact Has.nz1 _ _ _ _ _ | exact Has.nz2 _ _ _ _ _ _ | exact Has.nz3 _ _ _ _ _ _ _ | refine At.fill1 ?_ _ | refine At.fill2 ?_ _ _ | refine At.fill3 ?_ _ _ _ | refine At.swap ?_ (by first | omega | (simp; omega)) _ _ | refine At.alloc ?_ _ | refine At.drew ?_ | refine At.skip ?_ (by first | omega | (simp; omega)) _ _ | refine At.below (by assumption) ?_ | refine Has.alloc ?_ _ | refine Has.drew ?_ | refine Has.set ?_ _ _ _ | refine Has.below (by assumption) ?_)); done)
      · first | omega | (simp; omega)
      · first | omega | (simp; omega)
      · first | omega | (simp; omega)
      · first | omega | (simp; omega)
      · ((with_reducible repeat' (first | assumption | refine Gr.drew ?_ | refine Gr.alloc ?_ _ | refine Gr.set ?_ (by first | omega | (simp; omega)) _ _ | exact Gr.refl _)); done)
  case rest =>
    clear P0 KS CB e1 e2 e3 e4 t1 t3 u1 u3 z0
    obtain ⟨S, C, M, B, Ls, rfl, rfl, HS, E⟩ := hcut
    obtain ⟨f, hf⟩ : ∃ f : Nat → Int, f = fun j => cfI l m n by' (j / Wm) (j % Wm) := ⟨_, rfl⟩
    have Hf := hidb (fun j => show f j = cfI l m n by' (j / Wm) (j % Wm) by rw [hf])
    have HE : Hid (fill f K K = coL l m n by' K) := by
      show _ = _
      rw [fill_end, hf]
      unfold coL
      rw [← HWm.out]
    clear hf
    rw [← fill_zero f K] at E
    obtain ⟨q0, q1, q2⟩ := E.out.c0.c3
    go_wp2
    clear q0 q1 q2
    go_loopw [39] (fun t wr => ∃ (k : Nat), k ≤ K ∧ t = .int .i64 (k : Int) ∧ Hid (CoF w wr S C M B [.int .i64 m, .int .i64 n, .slice (some ⟨b, o, none⟩) l.length cap] [.int .i64 mm, .slice (some ⟨M, 0, none⟩) Ls.length Ls.length] [.int .i64 Wm, .int .i64 Wn, .slice (some ⟨B, 0, none⟩) K K] Ls (fill f K k))) (fun t _ => K - (intOf t).toNat)
    case atStart => exact ⟨0, Nat.zero_le _, rfl, E⟩
    case round =>
      clear E
      obtain ⟨k, hk, rfl, E⟩ := hrel
      by_cases h1 : k < K
      · have h1' : (k : Int) < (K : Int) := by omega
        have wp : 1 ≤ Wm := by
          rcases Nat.eq_zero_or_pos Wm with c | c
          · have := HKe.out; rw [c, Nat.mul_zero] at this; omega
          · exact c
        obtain ⟨t1, t2, t3, t4⟩ := nat_q (x := (k : Int)) (d := (Wm : Int)) rfl rfl (by have := HB.out; omega)
        obtain ⟨rc, hrc⟩ : ∃ q, q = k / Wm := ⟨_, rfl⟩
        obtain ⟨cc, hcc⟩ : ∃ q, q = k % Wm := ⟨_, rfl⟩
        have rl : rc < Wn := by rw [hrc]; exact (Nat.div_lt_iff_lt_mul wp).2 (by have := HKe.out; omega)
        have cl : cc < Wm := by rw [hcc]; exact Nat.mod_lt _ wp
        have HV : Hid (f k = cfI l m n by' rc cc) := by show _ = _; rw [Hf.out, ← hrc, ← hcc]
        rw [← hrc] at t1 t3
        rw [← hcc] at t2 t4
        clear hrc hcc
        have b1 : rc * by' < n := (many_lt HOk.out.n1 (by have := HB.out; omega)).2 (by rw [← HWn.out]; exact rl)
        have b2 : cc * by' < m := (many_lt HOk.out.m1 (by have := HB.out; omega)).2 (by rw [← HWm.out]; exact cl)
        obtain ⟨bo, hbo⟩ : ∃ q, q = enN rc by' n := ⟨_, rfl⟩
        obtain ⟨ri, hri⟩ : ∃ q, q = enN cc by' m := ⟨_, rfl⟩
        have b3 : bo = min (rc * by' + by') n := hbo
        have b4 : ri = min (cc * by' + by') m := hri
        obtain ⟨t, ht⟩ : ∃ q, q = rc * by' := ⟨_, rfl⟩
        obtain ⟨le, hle⟩ : ∃ q, q = cc * by' := ⟨_, rfl⟩
        rw [← ht] at b1 b3
        rw [← hle] at b2 b4
        have bb := HB.out
        have KM : Hid (∀ W, ISl W (some ⟨M, 0, none⟩) M 0 Ls.length Ls → Calls Tryd.prog 26 #[.agg #[.int .i64 mm, .slice (some ⟨M, 0, none⟩) Ls.length Ls.length], .agg #[.int .i64 (t : Int), .int .i64 (bo : Int), .int .i64 (le : Int), .int .i64 (ri : Int)]] W fun e w' => e = .returned (.int .i64 (f k)) ∧ Gr W w') := fun W hW => by
          have := mean_any HOk.out HS.out t bo le ri (by omega) (by omega) (by omega) (by omega) W hW
          rw [← HMM.out] at this
          rw [HV.out]
          unfold cfI
          rw [← ht, ← hle, ← hbo, ← hri]
          exact this
        have w1 : IntKind.i64.wrap ((rc : Int) * bI) = (t : Int) := by rw [HbI.out, ← Int.natCast_mul, ← ht]; exact wrap_in (by omega) (by omega)
        have w2 : IntKind.i64.wrap ((cc : Int) * bI) = (le : Int) := by rw [HbI.out, ← Int.natCast_mul, ← hle]; exact wrap_in (by omega) (by omega)
        obtain ⟨x5, hx5, w5⟩ : ∃ q : Int, q = (t : Int) + bI ∧ IntKind.i64.wrap ((t : Int) + bI) = q := ⟨_, rfl, by have := HbI.out; exact wrap_in (by omega) (by omega)⟩
        obtain ⟨x6, hx6, w6⟩ : ∃ q : Int, q = (le : Int) + bI ∧ IntKind.i64.wrap ((le : Int) + bI) = q := ⟨_, rfl, by have := HbI.out; exact wrap_in (by omega) (by omega)⟩
        have w7 : min x5 (n : Int) = (bo : Int) := by have := HbI.out; omega
        have w8 : min x6 (m : Int) = (ri : Int) := by have := HbI.out; omega
        have e6 : IntKind.i64.wrap ((k : Int) + 1) = ((k + 1 : Nat) : Int) := wrap_in (by omega) (by omega)
        have z1 : ¬ (Wm : Int) = 0 := by omega
        have ixB := iindex B 0 K K k h1
        simp only [Nat.zero_add] at ixB
        have HST := hidb (fill_set (f := f) h1)
        have HK1 := hidb (show k < (fill f K k).length by rw [fill_len hk]; exact h1)
        generalize f k = x at *
        obtain ⟨d0, d1, d2⟩ := E.out.c0.c3
        clear bb hx5 hx6 b1 b2 b3 b4 hbo hri ht hle rl cl HV wp hk
        go_upto_region 8 with fail
        go_quiet (fail)
        go_upto_region 9 with fail
        clear d0 d1 d2
        rename_i nq
        have E2 := E.out.drewN nq
        generalize wr.drewN nq = wq at *
        clear E t1 t2 t3 t4 w1 w2
        obtain ⟨cj, fj⟩ := cof_cell E2 HK1.out
        go_region_held (fun w' => (w'.cell? ⟨w.heap.size, 0, none⟩ = some (.int .i64 m) ∧ w'.cell? ⟨w.heap.size, 1, none⟩ = some (.int .i64 n) ∧ w'.cell? ⟨w.heap.size, 2, none⟩ = some (.slice (some ⟨b, o, none⟩) l.length cap)) ∧ (w'.cell? ⟨S, 0, none⟩ = some (.int .i64 mm) ∧ w'.cell? ⟨S, 1, none⟩ = some (.slice (some ⟨M, 0, none⟩) Ls.length Ls.length)) ∧ (w'.cell? ⟨C, 0, none⟩ = some (.int .i64 Wm) ∧ w'.cell? ⟨C, 1, none⟩ = some (.int .i64 Wn) ∧ w'.cell? ⟨C, 2, none⟩ = some (.slice (some ⟨B, 0, none⟩) K K)))
          (with_reducible first | exact ⟨E2.a0.c3, E2.s0.c2, E2.c0.c3⟩ | exact ⟨E2.drew.a0.c3, E2.drew.s0.c2, E2.drew.c0.c3⟩ | exact ⟨(E2.put _ _).a0.c3, (E2.put _ _).s0.c2, (E2.put _ _).c0.c3⟩)
          ((first
            | (go_at_call 26; with_reducible refine (KM.out _ (by with_reducible first | exact E2.m0.isl _ | exact E2.drew.m0.isl _)).mono ?_; rintro e w9 ⟨rfl, hB9⟩; (with_reducible first | replace E2 := E2.below hB9.out | replace E2 := E2.drew.below hB9.out); clear hB9; obtain ⟨cj, fj⟩ := cof_cell E2 HK1.out)))
        all_goals
          go_wp2
          go_roundw
          case rel => exact ⟨k + 1, by omega, rfl, by rw [← HST.out]; first | exact E2.put _ _ | exact (E2.put _ _).drew⟩
          case measure => simp [intOf]; omega
      · have h1' : ¬ (k : Int) < (K : Int) := by omega
        have hkn : k = K := by omega
        rw [hkn, HE.out] at E
        clear hkn
        obtain ⟨q0, q1, q2⟩ := E.out.c0.c3
        obtain ⟨r0, r1, r2⟩ := E.out.a1.c3
        obtain ⟨f0, f1, f2⟩ := E.out.a1.f3
        have RH := E.out.a1.has (n := 3) rfl
        have lb := E.out.bw
        go_wp2
        refine bodyPost_ret (v := .tuple #[raV Wm Wn (.slice (some ⟨B, 0, none⟩) K K), .nilIface]) (by simp [results, Tryd.results18, go_sem, r0, r1, r2]) rfl ⟨B, K, rfl, rfl, ?_, by omega, ?_⟩
        · have hne : ¬ w.heap.size + 1 = B := by omega
          exact ((E.out.b0.skip hne 0 _).skip hne 1 _).skip hne 2 _
        · exact ((E.out.gr.set (by omega) _ _).set (by omega) _ _).set (by omega) _ _
end Go.Proofs.YtphpfongdbidoaaDoor
