/-
  field.Mean.
-/
import Derived.Test.YtphpfongdbidoaaDoorQFsI
import Derived.Test.YtphpfongdbidoaaDoorQFaA
namespace Go.Proofs.YtphpfongdbidoaaDoor
open Go.RowKit
attribute [local go_sem ↓] Go.wp_at_zero Go.wp_at_succ

/-- The mean around a cell. -/
def arI (l : List Int) (m n r y x : Nat) : Int := bs l m (y - r) (hbN y r n) (x - r) (hbN x r m) / (((hbN y r n - (y - r)) * (hbN x r m - (x - r)) : Nat) : Int)
def arL (l : List Int) (m n r : Nat) : List Int := (List.range (n * m)).map fun j => arI l m n r (j / m) (j % m)
theorem arL_len (l : List Int) (m n r : Nat) : (arL l m n r).length = n * m := by simp [arL]
set_option maxRecDepth 4000 in
set_option maxHeartbeats 4000000 in
theorem Mean_no (g : Nat → Addr) {W H : Int} {ad : Option Addr} {b o cap : Nat} {l : List Int} (n : Int) (w : World) (h : ISl w ad b o cap l) (ll : l.length ≤ 20000) (hl : Laid w g) (hc : ¬ hcode W H l n = 0) : Calls Tryd.prog 8 #[raV W H (.slice ad l.length cap), .int .i64 n] w fun e w' => e = .returned (.tuple #[raV 0 0 (.slice none 0 0), evc g (hcode W H l n)]) ∧ Gr w w' := by
  have C1 := hidb (fun w1 (hB : Gr w w1) => reached_any g (W := W) (H := H) n w1 (h.below hB.out) ll (hl.below hB.out))
  have G0 := hidb (((Gr.refl w).alloc (.cells #[.int .i64 W, .int .i64 H, .slice ad l.length cap] 27)).alloc (.cells #[.int .i64 0, .int .i64 0, .slice none 0 0] 27))
  have A0 := hidb (At.nx3 (W := w) (.cells #[.int .i64 W, .int .i64 H, .slice ad l.length cap] 27) (.int .i64 0) (.int .i64 0) (.slice none 0 0) 27)
  clear h ll hl
  obtain ⟨i, hi⟩ := evc_ne g hc
  rw [hi] at C1 ⊢
  clear hi hc
  go_enter Tryd.func8, Tryd.ntmps8
  go_wp2_with fail
  refine (C1.out _ G0.out).mono ?_
  rintro e w1 ⟨rfl, hB⟩
  replace G0 := hidb (Gr.step G0.out hB.out)
  have A1 := At.below hB.out A0.out
  obtain ⟨a0, a1, a2⟩ := A1.c3
  obtain ⟨f0, f1, f2⟩ := A1.f3
  have AH := A1.has (n := 3) rfl
  clear hB A0 A1
  go_wp2
  refine bodyPost_ret (v := .tuple #[raV 0 0 (.slice none 0 0), errV g i]) (by simp [results, Tryd.results8, go_sem, a0, a1, a2]) rfl ⟨rfl, ?_⟩
  exact ((G0.out.set (by omega) _ _).set (by omega) _ _).set (by omega) _ _
set_option maxRecDepth 4000 in
set_option maxHeartbeats 16000000 in
theorem Mean_ok (g : Nat → Addr) {m n rch b o cap : Nat} {l : List Int} (w : World) (h : Rs w b o cap l) (ok : Ok l m n) (hl : Laid w g) (hc : hcode m n l rch = 0) (hr : rch ≤ 128) : Calls Tryd.prog 8 #[raV m n (.slice (some ⟨b, o, none⟩) l.length cap), .int .i64 (rch : Int)] w fun e w' => ∃ B K, e = .returned (.tuple #[raV m n (.slice (some ⟨B, 0, none⟩) K K), .nilIface]) ∧ K = l.length ∧ At w' B (ir (arL l m n rch)) ∧ w.heap.size ≤ B ∧ Gr w w' := by
  have ll := ok.len_le
  have C1 := hidb (fun w1 (hB : Gr w w1) => reached_any g (W := m) (H := n) rch w1 (h.isl.below hB.out) (by omega) (hl.below hB.out))
  rw [hc, show evc g 0 = .nilIface from rfl] at C1
  have P0 : Hid (PrF w ((w.alloc (.cells #[.int .i64 m, .int .i64 n, .slice (some ⟨b, o, none⟩) l.length cap] 27)).alloc (.cells #[.int .i64 0, .int .i64 0, .slice none 0 0] 27)) [.int .i64 m, .int .i64 n, .slice (some ⟨b, o, none⟩) l.length cap]) := ⟨(At.new3 w (.int .i64 m) (.int .i64 n) (.slice (some ⟨b, o, none⟩) l.length cap) 27).alloc (.cells #[.int .i64 0, .int .i64 0, .slice none 0 0] 27), At.nx3 (W := w) (.cells #[.int .i64 m, .int .i64 n, .slice (some ⟨b, o, none⟩) l.length cap] 27) (.int .i64 0) (.int .i64 0) (.slice none 0 0) 27, ((Gr.refl w).alloc (.cells #[.int .i64 m, .int .i64 n, .slice (some ⟨b, o, none⟩) l.length cap] 27)).alloc (.cells #[.int .i64 0, .int .i64 0, .slice none 0 0] 27)⟩
  have HRs := hidb h
  have HOk := hidb ok
  have KS := hidb (fun W (hG : Gr w W) => sumsOf_any (m := m) (n := n) W (h.below hG.out) ok)
  obtain ⟨mm, hmm⟩ : ∃ q : Int, q = ((m + 1 : Nat) : Int) := ⟨_, rfl⟩
  rw [← hmm] at KS
  have HMM := hidb hmm
  clear hmm
  obtain ⟨K, hK⟩ : ∃ K, K = n * m := ⟨_, rfl⟩
  have hKl : K = l.length := by rw [hK, ok.len, Nat.mul_comm]
  have CB := hidb (fun w => blank_any (m : Int) (n : Int) K (by rw [hK, Nat.mul_comm]; exact Int.natCast_mul _ _) (by omega) w)
  have HB := hidb (show 1 ≤ m ∧ m ≤ 128 ∧ 1 ≤ n ∧ n ≤ 128 ∧ rch ≤ 128 ∧ K ≤ 16384 ∧ l.length ≤ 16384 from ⟨ok.m1, ok.m2, ok.n1, ok.n2, hr, by omega, by omega⟩)
  have HKe := hidb hK
  have HKl := hidb hKl
  obtain ⟨rI, hrI⟩ : ∃ q : Int, q = (rch : Int) := ⟨_, rfl⟩
  have HrI := hidb hrI
  rw [← hrI] at C1 ⊢
  clear h ok hl hc hr ll hK hKl hrI
  go_enter Tryd.func8, Tryd.ntmps8
  go_wp2_with fail
  refine (C1.out _ P0.out.gr).mono ?_
  rintro e w1 ⟨rfl, hB⟩
  replace P0 := hidb (P0.out.below hB.out)
  clear hB C1
  go_upto_region 4 with fail
  go_cut [7, 8] from 22 to 28 (fun s7 s8 wx => ∃ S C M B Ls, s7 = .pointer (some ⟨S, 0, none⟩) ∧ s8 = .pointer (some ⟨C, 0, none⟩) ∧ Hid (SumL l m n Ls) ∧ Hid (CoF w wx S C M B [.int .i64 m, .int .i64 n, .slice (some ⟨b, o, none⟩) l.length cap] [.int .i64 mm, .slice (some ⟨M, 0, none⟩) Ls.length Ls.length] [.int .i64 m, .int .i64 n, .slice (some ⟨B, 0, none⟩) K K] Ls (List.replicate K 0)))
  case first =>
    have PX := P0.out
    have q1 := PX.a1.lt
    go_region_held (fun w' => w'.cell? ⟨w.heap.size, 0, none⟩ = some (.int .i64 m) ∧ w'.cell? ⟨w.heap.size, 1, none⟩ = some (.int .i64 n) ∧ w'.cell? ⟨w.heap.size, 2, none⟩ = some (.slice (some ⟨b, o, none⟩) l.length cap))
      (with_reducible first | exact PX.a0.c3 | exact PX.drew.a0.c3 | (refine At.c3 ?_; repeat (first | exact PX.a0 | refine At.drew ?_ | refine At.alloc ?_ _ | refine At.skip ?_ (by omega) _ _)))
      ((first
        | (go_at_call 23; with_reducible refine (KS.out _ (by with_reducible repeat' (first | exact PX.gr | refine Gr.drew ?_ | refine Gr.alloc ?_ _))).mono ?_; rintro e w8 ⟨M, KS', Ls, rfl, rfl, hSum, hM, hMw, hB8⟩; (try simp at hMw); (with_reducible first | replace PX := PX.below hB8.out | replace PX := PX.drew.below hB8.out | replace PX := (PX.alloc _).below hB8.out | replace PX := (PX.alloc _).drew.below hB8.out | replace PX := ((PX.alloc _).alloc _).below hB8.out | replace PX := ((PX.alloc _).alloc _).drew.below hB8.out); have q8 := PX.a1.lt; have s8 := hB8.out.size; (try simp at s8); have HB8 := hB8.out; (with_reducible first | have A7 := At.below hB8.out (At.nx2 _ _ _ _) | have A7 := At.below hB8.out (At.nx2 _ _ _ _).drew | have A7 := At.below hB8.out (At.new2 _ _ _ _) | have A7 := At.below hB8.out (At.new2 _ _ _ _).drew | have A7 := At.below hB8.out ((At.new2 _ _ _ _).alloc _) | have A7 := At.below hB8.out ((At.new2 _ _ _ _).alloc _).drew | skip); (with_reducible first | have A8 := At.below hB8.out (At.nx3 _ _ _ _ _) | have A8 := At.below hB8.out (At.nx3 _ _ _ _ _).drew | have A8 := At.below hB8.out (At.new3 _ _ _ _ _) | have A8 := At.below hB8.out (At.new3 _ _ _ _ _).drew | have A8 := At.below hB8.out ((At.new3 _ _ _ _ _).alloc _) | have A8 := At.below hB8.out ((At.new3 _ _ _ _ _).alloc _).drew | skip); (try (obtain ⟨f70, f71⟩ := A7.f2; obtain ⟨c70, c71⟩ := A7.c2; have H7 := A7.has (n := 2) rfl; have l7 := A7.lt; have n7 : ¬ _ = _ := Nat.ne_of_lt A7.lt; have m7 : ¬ _ = _ := Nat.ne_of_gt A7.lt)); (try (obtain ⟨f80, f81, f82⟩ := A8.f3; obtain ⟨c80, c81, c82⟩ := A8.c3; have H8 := A8.has (n := 3) rfl; have l8 := A8.lt; have n8 : ¬ _ = _ := Nat.ne_of_lt A8.lt; have m8 : ¬ _ = _ := Nat.ne_of_gt A8.lt)))
        | (go_at_call 24; with_reducible refine (CB.out _).mono ?_; rintro e w9 ⟨B, rfl, hAB, hBw, hB9⟩; (try simp at hBw); (with_reducible first | replace PX := PX.below hB9.out | replace PX := PX.drew.below hB9.out | replace PX := (PX.alloc _).below hB9.out | replace PX := (PX.alloc _).drew.below hB9.out | replace PX := ((PX.alloc _).alloc _).below hB9.out | replace PX := ((PX.alloc _).alloc _).drew.below hB9.out); have q9 := PX.a1.lt; have s9 := hB9.out.size; (try simp at s9); have HB9 := hB9.out; (with_reducible first | replace A7 := At.below hB9.out A7 | replace A7 := At.below hB9.out (A7.alloc _) | replace A7 := At.below hB9.out ((A7.alloc _).alloc _) | skip); (with_reducible first | replace A8 := At.below hB9.out A8 | replace A8 := At.below hB9.out (A8.alloc _) | replace A8 := At.below hB9.out ((A8.alloc _).alloc _) | skip); (with_reducible first | have A7 := At.below hB9.out (At.nx2 _ _ _ _) | have A7 := At.below hB9.out (At.nx2 _ _ _ _).drew | have A7 := At.below hB9.out (At.new2 _ _ _ _) | have A7 := At.below hB9.out (At.new2 _ _ _ _).drew | have A7 := At.below hB9.out ((At.new2 _ _ _ _).alloc _) | have A7 := At.below hB9.out ((At.new2 _ _ _ _).alloc _).drew | skip); (with_reducible first | have A8 := At.below hB9.out (At.nx3 _ _ _ _ _) | have A8 := At.below hB9.out (At.nx3 _ _ _ _ _).drew | have A8 := At.below hB9.out (At.new3 _ _ _ _ _) | have A8 := At.below hB9.out (At.new3 _ _ _ _ _).drew | have A8 := At.below hB9.out ((At.new3 _ _ _ _ _).alloc _) | have A8 := At.below hB9.out ((At.new3 _ _ _ _ _).alloc _).drew | skip); (try (obtain ⟨f70, f71⟩ := A7.f2; obtain ⟨c70, c71⟩ := A7.c2; have H7 := A7.has (n := 2) rfl; have l7 := A7.lt; have n7 : ¬ _ = _ := Nat.ne_of_lt A7.lt; have m7 : ¬ _ = _ := Nat.ne_of_gt A7.lt)); (try (obtain ⟨f80, f81, f82⟩ := A8.f3; obtain ⟨c80, c81, c82⟩ := A8.c3; have H8 := A8.has (n := 3) rfl; have l8 := A8.lt; have n8 : ¬ _ = _ := Nat.ne_of_lt A8.lt; have m8 : ¬ _ = _ := Nat.ne_of_gt A8.lt)))))
    all_goals
      go_wp2_with fail
      go_meet
      obtain ⟨pa0, pa1, pgr⟩ := PX
      have hMl := hM.lt
      have hBl := hAB.lt
      refine ⟨_, _, M, B, Ls, rfl, rfl, hSum, ⟨?_, ?_, ?_, ?_, ?_, ?_, ?_, ?_, ?_, ?_, ?_⟩⟩
      · ((with_reducible repeat' (first | assumption | exact At.new1 _ _ _ | exact At.new2 _ _ _ _ | exact At.new3 _ _ _ _ _ | exact At.nx1 _ _ _ | exact At.nx2 _ _ _ _ | exact At.nx3 _ _ _ _ _ | exact At.ny1 _ _ _ _ | exact At.ny2 _ _ _ _ _ | exact At.ny3 _ _ _ _ _ _ | exact At.nz1 _ _ _ _ _ | exact At.nz2 _ _ _ _ _ _ | exact At.nz3 _ _ _ _ _ _ _ | exact Has.new1 _ _ _ | exact Has.new2 _ _ _ _ | exact Has.new3 _ _ _ _ _ | exact Has.nx1 _ _ _ | exact Has.nx2 _ _ _ _ | exact Has.nx3 _ _ _ _ _ | exact Has.ny1 _ _ _ _ | exact Has.ny2 _ _ _ _ _ | exact Has.ny3 _ _ _ _ _ _ | exact Has.nz1 _ _ _ _ _ | exact Has.nz2 _ _ _ _ _ _ | exact Has.nz3 _ _ _ _ _ _ _ | refine At.fill1 ?_ _ | refine At.fill2 ?_ _ _ | refine At.fill3 ?_ _ _ _ | refine At.swap ?_ (by first | omega | (simp; omega)) _ _ | refine At.alloc ?_ _ | refine At.drew ?_ | refine At.skip ?_ (by first | omega | (simp; omega)) _ _ | refine At.below (by assumption) ?_ | refine Has.alloc ?_ _ | refine Has.drew ?_ | refine Has.set ?_ _ _ _ | refine Has.below (by assumption) ?_)); done)
      · ((with_reducible repeat' (first | assumption | exact At.new1 _ _ _ | exact At.new2 _ _ _ _ | exact At.new3 _ _ _ _ _ | exact At.nx1 _ _ _ | exact At.nx2 _ _ _ _ | exact At.nx3 _ _ _ _ _ | exact At.ny1 _ _ _ _ | exact At.ny2 _ _ _ _ _ | exact At.ny3 _ _ _ _ _ _ | exact At.nz1 _ _ _ _ _ | exact At.nz2 _ _ _ _ _ _ | exact At.nz3 _ _ _ _ _ _ _ | exact Has.new1 _ _ _ | exact Has.new2 _ _ _ _ | exact Has.new3 _ _ _ _ _ | exact Has.nx1 _ _ _ | exact Has.nx2 _ _ _ _ | exact Has.nx3 _ _ _ _ _ | exact Has.ny1 _ _ _ _ | exact Has.ny2 _ _ _ _ _ | exact Has.ny3 _ _ _ _ _ _ | exact Has.nz1 _ _ _ _ _ | exact Has.nz2 _ _ _ _ _ _ | exact Has.nz3 _ _ _ _ _ _ _ | refine At.fill1 ?_ _ | refine At.fill2 ?_ _ _ | refine At.fill3 ?_ _ _ _ | refine At.swap ?_ (by first | omega | (simp; omega)) _ _ | refine At.alloc ?_ _ | refine At.drew ?_ | refine At.skip ?_ (by first | omega | (simp; omega)) _ _ | refine At.below (by assumption) ?_ | refine Has.alloc ?_ _ | refine Has.drew ?_ | refine Has.set ?_ _ _ _ | refine Has.below (by assumption) ?_)); done)
      · ((with_reducible repeat' (first | assumption | exact At.new1 _ _ _ | exact At.new2 _ _ _ _ | exact At.new3 _ _ _ _ _ | exact At.nx1 _ _ _ | exact At.nx2 _ _ _ _ | exact At.nx3 _ _ _ _ _ | exact At.ny1 _ _ _ _ | exact At.ny2 _ _ _ _ _ | exact At.ny3 _ _ _ _ _ _ | exact At.nz1 _ _ _ _ _ | exact At.nz2 _ _ _ _ _ _ | exact At.nz3 _ _ _ _ _ _ _ | exact Has.new1 _ _ _ | exact Has.new2 _ _ _ _ | exact Has.new3 _ _ _ _ _ | exact Has.nx1 _ _ _ | exact Has.nx2 _ _ _ _ | exact Has.nx3 _ _ _ _ _ | exact Has.ny1 _ _ _ _ | exact Has.ny2 _ _ _ _ _ | exact Has.ny3 _ _ _ _ _ _ | exact Has.nz1 _ _ _ _ _ | exact Has.nz2 _ _ _ _ _ _ | exact Has.nz3 _ _ _ _ _ _ _ | refine At.fill1 ?_ _ | refine At.fill2 ?_ _ _ | refine At.fill3 ?_ _ _ _ | refine At.swap ?_ (by first | omega | (simp; omega)) _ _ | refine At.alloc ?_ _ | refine At.drew ?_ | refine At.skip ?_ (by first | omega | (simp; omega)) _ _ | refine At.below (by assumption) ?_ | refine Has.alloc ?_ _ | refine Has.drew ?_ | refine Has.set ?_ _ _ _ | refine Has.below (by assumption) ?_)); done)
      · ((with_reducible repeat' (first | assumption | exact At.new1 _ _ _ | exact At.new2 _ _ _ _ | exact At.new3 _ _ _ _ _ | exact At.nx1 _ _ _ | exact At.nx2 _ _ _ _ | exact At.nx3 _ _ _ _ _ | exact At.ny1 _ _ _ _ | exact At.ny2 _ _ _ _ _ | exact At.ny3 _ _ _ _ _ _ | exact At.nz1 _ _ _ _ _ | exact At.nz2 _ _ _ _ _ _ | exact At.nz3 _ _ _ _ _ _ _ | exact Has.new1 _ _ _ | exact Has.new2 _ _ _ _ | exact Has.new3 _ _ _ _ _ | exact Has.nx1 _ _ _ | exact Has.nx2 _ _ _ _ | exact Has.nx3 _ _ _ _ _ | exact Has.ny1 _ _ _ _ | exact Has.ny2 _ _ _ _ _ | exact Has.ny3 _ _ _ _ _ _ | exact Has.nz1 _ _ _ _ _ | exact Has.nz2 _ _ _ _ _ _ | exact Has.nz3 _ _ _ _ _ _ _ | refine At.fill1 ?_ _ | refine At.fill2 ?_ _ _ | refine At.fill3 ?_ _ _ _ | refine At.swap ?_ (by first | omega | (simp; omega)) _ _ | refine At.alloc ?_ _ | refine At.drew ?_ | refine At.skip ?_ (by first | omega | (simp; omega)) _ _ | refine At.below (by assumption) ?_ | refine Has.alloc ?_ _ | refine Has.drew ?_ | refine Has.set ?_ _ _ _ | refine Has.below (by assumption) ?_)); done)
      · ((with_reducible repeat' (first | assumption | exact At.new1 _ _ _ | exact At.new2 _ _ _ _ | exact At.new3 _ _ _ _ _ | exact At.nx1 _ _ _ | exact At.nx2 _ _ _ _ | exact At.nx3 _ _ _ _ _ | exact At.ny1 _ _ _ _ | exact At.ny2 _ _ _ _ _ | exact At.ny3 _ _ _ _ _ _ | exact At.nz1 _ _ _ _ _ | exact At.nz2 _ _ _ _ _ _ | exact At.nz3 _ _ _ _ _ _ _ | exact Has.new1 _ _ _ | exact Has.new2 _ _ _ _ | exact Has.new3 _ _ _ _ _ | exact Has.nx1 _ _ _ | exact Has.nx2 _ _ _ _ | exact Has.nx3 _ _ _ _ _ | exact Has.ny1 _ _ _ _ | exact Has.ny2 _ _ _ _ _ | exact Has.ny3 _ _ _ _ _ _ | exact Has.nz1 _ _ _ _ _ | exact Has.nz2 _ _ _ _ _ _ | exact Has.nz3 _ _ _ _ _ _ _ | refine At.fill1 ?_ _ | refine At.fill2 ?_ _ _ | refine At.fill3 ?_ _ _ _ | refine At.swap ?_ (by first | omega | (simp; omega)) _ _ | refine At.alloc ?_ _ | refine At.drew ?_ | refine At.skip ?_ (by first | omega | (simp; omega)) _ _ | refine At.below (by assumption) ?_ | refine Has.alloc ?_ _ | refine Has.drew ?_ | refine Has.set ?_ _ _ _ | refine Has.below (by assumption) ?_)); done)
      · ((with_reducible repeat' (first | assumption | exact At.new1 _ _ _ | exact At.new2 _ _ _ _ | exact At.new3 _ _ _ _ _ | exact At.nx1 _ _ _ | exact At.nx2 _ _ _ _ | exact At.nx3 _ _ _ _ _ | exact At.ny1 _ _ _ _ | exact At.ny2 _ _ _ _ _ | exact At.ny3 _ _ _ _ _ _ | exact At.nz1 _ _ _ _ _ | exact At.nz2 _ _ _ _ _ _ | exact At.nz3 _ _ _ _ _ _ _ | exact Has.new1 _ _ _ | exact Has.new2 _ _ _ _ | exact Has.new3 _ _ _ _ _ | exact Has.nx1 _ _ _ | exact Has.nx2 _ _ _ _ | exact Has.nx3 _ _ _ _ _ | exact Has.ny1 _ _ _ _ | exact Has.ny2 _ _ _ _ _ | exact Has.ny3 _ _ _ _ _ _ | exact Has.nz1 _ _ _ _ _ | exact Has.nz2 _ _ _ _ _ _ | exact Has.nz3 _ _ _ _ _ _ _ | refine At.fill1 ?_ _ | refine At.fill2 ?_ _ _ | refine At.fill3 ?_ _ _ _ | refine At.swap ?_ (by first | omega | (simp; omega)) _ _ | refine At.alloc ?_ _ | refine At.drew ?_ | refine At.skip ?_ (by first | omega | (simp; omega)) _ _ | refine At.below (by assumption) ?_ | refine Has.alloc ?_ _ | refine Has.drew ?_ | refine Has.set ?_ _ _ _ | refine Has.below (by assumption) ?_)); done)
      · first | omega | (simp; omega)
      · first | omega | (simp; omega)
      · first | omega | (simp; omega)
      · first | omega | (simp; omega)
      · ((with_reducible repeat' (first | assumption | refine Gr.drew ?_ | refine Gr.alloc ?_ _ | refine Gr.set ?_ (by first | omega | (simp; omega)) _ _ | exact Gr.refl _)); done)
  case rest =>
    clear P0 KS CB
    obtain ⟨S, C, M, B, Ls, rfl, rfl, HS, E⟩ := hcut
    obtain ⟨f, hf⟩ : ∃ f : Nat → Int, f = fun j => arI l m n rch (j / m) (j % m) := ⟨_, rfl⟩
    have Hf := hidb (fun j => show f j = arI l m n rch (j / m) (j % m) by rw [hf])
    have HE : Hid (fill f K K = arL l m n rch) := by
      show _ = _
      rw [fill_end, hf]
      unfold arL
      rw [← HKe.out]
    clear hf
    rw [← fill_zero f K] at E
    obtain ⟨q0, q1, q2⟩ := E.out.a0.c3
    have CA := hidb (fun (x y : Int) W h1 h2 h3 h4 => around_any x rI y h1 h2 h3 h4 W)
    go_wp2
    clear q0 q1 q2
    go_loopw [31] (fun t wr => ∃ (k : Nat), k ≤ n ∧ t = .int .i64 (k : Int) ∧ Hid (CoF w wr S C M B [.int .i64 m, .int .i64 n, .slice (some ⟨b, o, none⟩) l.length cap] [.int .i64 mm, .slice (some ⟨M, 0, none⟩) Ls.length Ls.length] [.int .i64 m, .int .i64 n, .slice (some ⟨B, 0, none⟩) K K] Ls (fill f K (k * m)))) (fun t _ => n - (intOf t).toNat)
    case atStart => exact ⟨0, Nat.zero_le _, rfl, by rw [Nat.zero_mul]; exact E⟩
    case round =>
      clear E
      obtain ⟨y, hy, rfl, E⟩ := hrel
      by_cases h1 : y < n
      · have h1' : (y : Int) < (n : Int) := by omega
        have bb := HB.out
        have ri := HrI.out
        have KA := hidb (fun W => CA.out (y : Int) (n : Int) W (by omega) (by omega) (by omega) (by omega))
        obtain ⟨t, ht⟩ : ∃ q, q = y - rch := ⟨_, rfl⟩
        obtain ⟨bo, hbo⟩ : ∃ q, q = hbN y rch n := ⟨_, rfl⟩
        have hbo2 : bo = min (y + rch + 1) n := hbo
        rw [show max ((y : Int) - rI) 0 = (t : Int) by omega, show min ((y : Int) + rI + 1) (n : Int) = (bo : Int) by omega] at KA
        have HT := hidb (show t < bo ∧ bo ≤ n by omega)
        have HTe := hidb ht
        have HBe := hidb hbo
        have e1 : IntKind.i64.wrap ((y : Int) + 1) = ((y + 1 : Nat) : Int) := wrap_in (by omega) (by omega)
        obtain ⟨q0, q1, q2⟩ := E.out.a0.c3
        clear bb ri ht hbo hbo2
        go_wp2_with fail
        refine (KA.out _).mono ?_
        rintro e w2 ⟨rfl, rfl⟩
        go_wp2
        clear q0 q1 q2
        go_loopw [44] (fun t wr => ∃ (x : Nat), x ≤ m ∧ t = .int .i64 (x : Int) ∧ Hid (CoF w wr S C M B [.int .i64 m, .int .i64 n, .slice (some ⟨b, o, none⟩) l.length cap] [.int .i64 mm, .slice (some ⟨M, 0, none⟩) Ls.length Ls.length] [.int .i64 m, .int .i64 n, .slice (some ⟨B, 0, none⟩) K K] Ls (fill f K (y * m + x)))) (fun t _ => m - (intOf t).toNat)
        case atStart => exact ⟨0, Nat.zero_le _, rfl, E⟩
        case round =>
          clear E
          obtain ⟨x, hx, rfl, E⟩ := hrel
          by_cases h2 : x < m
          · have h2' : (x : Int) < (m : Int) := by omega
            have bb := HB.out
            have ri := HrI.out
            have KA := hidb (fun W => CA.out (x : Int) (m : Int) W (by omega) (by omega) (by omega) (by omega))
            obtain ⟨le, hle⟩ : ∃ q, q = x - rch := ⟨_, rfl⟩
            obtain ⟨rg, hrg⟩ : ∃ q, q = hbN x rch m := ⟨_, rfl⟩
            have hrg2 : rg = min (x + rch + 1) m := hrg
            rw [show max ((x : Int) - rI) 0 = (le : Int) by omega, show min ((x : Int) + rI + 1) (m : Int) = (rg : Int) by omega] at KA
            have hk := HOk.out.cell h2 h1
            rw [← HKl.out] at hk
            obtain ⟨k, hke⟩ : ∃ q, q = y * m + x := ⟨_, rfl⟩
            rw [← hke] at hk
            have HV : Hid (f k = arI l m n rch y x) := by show _ = _; rw [Hf.out, hke, (mod_at h2).1, (mod_at h2).2]
            have KM : Hid (∀ W, ISl W (some ⟨M, 0, none⟩) M 0 Ls.length Ls → Calls Tryd.prog 26 #[.agg #[.int .i64 mm, .slice (some ⟨M, 0, none⟩) Ls.length Ls.length], .agg #[.int .i64 (t : Int), .int .i64 (bo : Int), .int .i64 (le : Int), .int .i64 (rg : Int)]] W fun e w' => e = .returned (.int .i64 (f k)) ∧ Gr W w') := fun W hW => by
              have := HT.out
              have := mean_any HOk.out HS.out t bo le rg (by omega) (by omega) (by omega) (by omega) W hW
              rw [← HMM.out] at this
              rw [HV.out]
              unfold arI
              rw [← HTe.out, ← HBe.out, ← hle, ← hrg]
              exact this
            obtain ⟨z, hz, e3⟩ : ∃ z : Int, z = ((y * m : Nat) : Int) ∧ IntKind.i64.wrap ((y : Int) * (m : Int)) = z := ⟨_, rfl, by rw [← Int.natCast_mul]; exact wrap_in (by omega) (by omega)⟩
            have e4 : IntKind.i64.wrap (z + (x : Int)) = (k : Int) := by rw [show z + (x : Int) = (k : Int) by omega]; exact wrap_in (by omega) (by omega)
            have e6 : IntKind.i64.wrap ((x : Int) + 1) = ((x + 1 : Nat) : Int) := wrap_in (by omega) (by omega)
            have ixB := iindex B 0 K K k hk
            simp only [Nat.zero_add] at ixB
            have HST := hidb (fill_set (f := f) hk)
            have HK1 := hidb (show k < (fill f K k).length by rw [fill_len (by omega)]; exact hk)
            have HKe2 := hidb hke
            rw [← hke] at E
            generalize f k = v at *
            obtain ⟨q0, q1, q2⟩ := E.out.a0.c3
            clear bb ri hle hrg hrg2 hke hk hz HV
            go_wp2_with fail
            refine (KA.out _).mono ?_
            rintro e w3 ⟨rfl, rfl⟩
            go_upto_region 13 with fail
            clear q0 q1 q2
            have E2 := E.out
            clear E
            obtain ⟨cj, fj⟩ := cof_cell E2 HK1.out
            go_region_held (fun w' => (w'.cell? ⟨w.heap.size, 0, none⟩ = some (.int .i64 m) ∧ w'.cell? ⟨w.heap.size, 1, none⟩ = some (.int .i64 n) ∧ w'.cell? ⟨w.heap.size, 2, none⟩ = some (.slice (some ⟨b, o, none⟩) l.length cap)) ∧ (w'.cell? ⟨S, 0, none⟩ = some (.int .i64 mm) ∧ w'.cell? ⟨S, 1, none⟩ = some (.slice (some ⟨M, 0, none⟩) Ls.length Ls.length)) ∧ (w'.cell? ⟨C, 0, none⟩ = some (.int .i64 m) ∧ w'.cell? ⟨C, 1, none⟩ = some (.int .i64 n) ∧ w'.cell? ⟨C, 2, none⟩ = some (.slice (some ⟨B, 0, none⟩) K K)))
              (with_reducible first | exact ⟨E2.a0.c3, E2.s0.c2, E2.c0.c3⟩ | exact ⟨E2.drew.a0.c3, E2.drew.s0.c2, E2.drew.c0.c3⟩ | exact ⟨(E2.put _ _).a0.c3, (E2.put _ _).s0.c2, (E2.put _ _).c0.c3⟩)
              ((first
                | (go_at_call 26; with_reducible refine (KM.out _ (by with_reducible first | exact E2.m0.isl _ | exact E2.drew.m0.isl _)).mono ?_; rintro e w9 ⟨rfl, hB9⟩; (with_reducible first | replace E2 := E2.below hB9.out | replace E2 := E2.drew.below hB9.out); clear hB9; obtain ⟨cj, fj⟩ := cof_cell E2 HK1.out)))
            all_goals
              go_wp2
              go_roundw
              case rel => exact ⟨x + 1, by omega, rfl, by rw [← Nat.add_assoc, ← HKe2.out, ← HST.out]; first | exact E2.put _ _ | exact (E2.put _ _).drew⟩
              case measure => simp [intOf]; omega
          · have h2' : ¬ (x : Int) < (m : Int) := by omega
            have hxm : x = m := by omega
            have E3 : Hid (CoF w wr S C M B [.int .i64 m, .int .i64 n, .slice (some ⟨b, o, none⟩) l.length cap] [.int .i64 mm, .slice (some ⟨M, 0, none⟩) Ls.length Ls.length] [.int .i64 m, .int .i64 n, .slice (some ⟨B, 0, none⟩) K K] Ls (fill f K ((y + 1) * m))) := by
              rw [Nat.add_mul, Nat.one_mul]
              rw [hxm] at E
              exact E
            clear hxm E
            go_wp2
            go_roundw
            case rel => exact ⟨y + 1, by omega, rfl, E3⟩
            case measure => simp [intOf]; omega
      · have h1' : ¬ (y : Int) < (n : Int) := by omega
        have hyn : y = n := by omega
        rw [hyn, ← HKe.out, HE.out] at E
        clear hyn
        obtain ⟨q0, q1, q2⟩ := E.out.c0.c3
        obtain ⟨r0, r1, r2⟩ := E.out.a1.c3
        obtain ⟨f0, f1, f2⟩ := E.out.a1.f3
        have RH := E.out.a1.has (n := 3) rfl
        have lb := E.out.bw
        go_wp2
        refine bodyPost_ret (v := .tuple #[raV m n (.slice (some ⟨B, 0, none⟩) K K), .nilIface]) (by simp [results, Tryd.results8, go_sem, r0, r1, r2]) rfl ⟨B, K, rfl, HKl.out, ?_, by omega, ?_⟩
        · have hne : ¬ w.heap.size + 1 = B := by omega
          exact ((E.out.b0.skip hne 0 _).skip hne 1 _).skip hne 2 _
        · exact ((E.out.gr.set (by omega) _ _).set (by omega) _ _).set (by omega) _ _
end Go.Proofs.YtphpfongdbidoaaDoor
