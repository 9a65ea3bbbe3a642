/-
  The law WaveSeries: its walk.
-/
import Derived.Test.YtinopkmcddjgdaaDoorQWsA
namespace Go.Proofs.YtinopkmcddjgdaaDoor
open Go.RowKit FB
attribute [local go_sem] run_store_float

set_option maxHeartbeats 8000000 in
theorem waveSeries_no (g : Nat → Addr) (a f v : Nat) (u : Int) (hg : okG a f = false) (w : World) (hl : Laid w g) : Calls Tryd.prog 3 #[.agg #[.float .f64 a, .float .f64 f], .int .i64 u, .float .f64 v] w fun e w' => e = .returned (.bool true) ∧ Gr w w' := by
  have HL := hid hl
  have HS := hid (fun w hl => series_no g a f hg w hl)
  have HG := hid (fun w => globeError_any a f w)
  rw [hg, if_neg (by decide)] at HG
  have o0 : (FloatKind.f64.format.order 0 0 == some Ordering.eq) = true := by decide +kernel
  clear hl hg
  go_enter Tryd.func3, Tryd.ntmps3
  go_wp2_with fail
  refine (waved_any g _ (HL.out.below (Gr.out (by ((with_reducible repeat' (first | assumption | refine Gr.drew ?_ | refine Gr.drewN ?_ _ | refine Gr.alloc ?_ _ | refine Gr.set ?_ (by first | omega | (simp; omega)) _ _ | exact Gr.refl _)); done))))).mono ?_
  rintro e w1 ⟨rfl, hB⟩
  have PA : At w1 w.heap.size [.float .f64 a, .float .f64 f] := At.below hB (by ((with_reducible repeat' (first | assumption | exact At.new1 _ _ _ | exact At.new2 _ _ _ _ | exact At.new3 _ _ _ _ _ | exact At.new5 _ _ _ _ _ _ _ | exact At.nx1 _ _ _ | exact At.nx2 _ _ _ _ | exact At.nx3 _ _ _ _ _ | exact At.ny1 _ _ _ _ | exact At.ny2 _ _ _ _ _ | exact At.ny3 _ _ _ _ _ _ | exact At.nz1 _ _ _ _ _ | exact At.nz2 _ _ _ _ _ _ | exact At.nz3 _ _ _ _ _ _ _ | exact Has.new1 _ _ _ | exact Has.new2 _ _ _ _ | exact Has.new3 _ _ _ _ _ | exact Has.nx1 _ _ _ | exact Has.nx2 _ _ _ _ | exact Has.nx3 _ _ _ _ _ | exact Has.ny1 _ _ _ _ | exact Has.ny2 _ _ _ _ _ | exact Has.ny3 _ _ _ _ _ _ | exact Has.nz1 _ _ _ _ _ | exact Has.nz2 _ _ _ _ _ _ | exact Has.nz3 _ _ _ _ _ _ _ | refine At.fill1 ?_ _ | refine At.fill2 ?_ _ _ | refine At.fill3 ?_ _ _ _ | refine At.swap ?_ (by first | omega | (simp; omega)) _ _ | refine At.alloc ?_ _ | refine At.drew ?_ | refine At.drewN ?_ _ | refine At.skip ?_ (by first | omega | (simp; omega)) _ _ | refine At.below (by assumption) ?_ | refine Has.alloc ?_ _ | refine Has.drew ?_ | refine Has.drewN ?_ _ | refine Has.set ?_ _ _ _ | refine Has.below (by assumption) ?_)); done))
  have HC : Gr w w1 := Gr.step (by ((with_reducible repeat' (first | assumption | refine Gr.drew ?_ | refine Gr.drewN ?_ _ | refine Gr.alloc ?_ _ | refine Gr.set ?_ (by first | omega | (simp; omega)) _ _ | exact Gr.refl _)); done)) hB
  clear hB
  obtain ⟨p0, p1⟩ := PA.c2
  go_wp2_with fail
  refine (ball_any _ _ _).mono ?_
  rintro e w2 ⟨rfl, hB⟩
  replace HC : Gr w w2 := Gr.step HC hB
  replace PA := At.below hB PA
  clear hB p0 p1
  go_wp2_with fail
  refine (HS.out _ (HL.out.below HC)).mono ?_
  rintro e w3 ⟨rfl, hB⟩
  replace HC : Gr w w3 := Gr.step HC hB
  replace PA := At.below hB PA
  clear hB
  go_upto_region 5 with fail
  have AA : At ((w3.alloc (.cells #[.float .f64 0, .float .f64 0, .float .f64 0, .float .f64 0] 26)).alloc (.cells #[.float .f64 0, .float .f64 0, .float .f64 0, .float .f64 0] 26)) w3.heap.size (rL 0 0 0 0) := (At.new4 w3 _ _ _ _ _).alloc _
  have BA : At ((w3.alloc (.cells #[.float .f64 0, .float .f64 0, .float .f64 0, .float .f64 0] 26)).alloc (.cells #[.float .f64 0, .float .f64 0, .float .f64 0, .float .f64 0] 26)) (w3.heap.size + 1) (rL 0 0 0 0) := by
    have := At.new4 (w3.alloc (.cells #[.float .f64 0, .float .f64 0, .float .f64 0, .float .f64 0] 26)) (.float .f64 0) (.float .f64 0) (.float .f64 0) (.float .f64 0) 26
    simpa using this
  replace HC := (HC.alloc (.cells #[.float .f64 0, .float .f64 0, .float .f64 0, .float .f64 0] 26)).alloc (.cells #[.float .f64 0, .float .f64 0, .float .f64 0, .float .f64 0] 26)
  replace PA := (PA.alloc (.cells #[.float .f64 0, .float .f64 0, .float .f64 0, .float .f64 0] 26)).alloc (.cells #[.float .f64 0, .float .f64 0, .float .f64 0, .float .f64 0] 26)
  generalize hwd : (w3.alloc (.cells #[.float .f64 0, .float .f64 0, .float .f64 0, .float .f64 0] 26)).alloc (.cells #[.float .f64 0, .float .f64 0, .float .f64 0, .float .f64 0] 26) = w4 at HC AA BA PA ⊢
  clear hwd
  generalize hDD : w3.heap.size = D at AA BA ⊢
  clear hDD
  obtain ⟨p0, p1⟩ := PA.c2
  go_wp2_with fail
  refine (HG.out _).mono ?_
  rintro e w5 ⟨rfl, hB⟩
  replace HC : Gr w w5 := Gr.step HC hB
  replace AA := At.below hB AA
  replace BA := At.below hB BA
  clear hB p0 p1 PA
  go_wp2_with fail
  refine (coded_p g 3 (.inr (.inl rfl)) _ (HL.out.below HC)).mono ?_
  rintro e w6 ⟨rfl, hB⟩
  replace HC : Gr w w6 := Gr.step HC hB
  replace AA := At.below hB AA
  replace BA := At.below hB BA
  clear hB
  obtain ⟨a0, a1, a2, a3⟩ := AA.c4
  obtain ⟨b0, b1, b2, b3⟩ := BA.c4
  go_wp2
  go_ret
  exact ⟨rfl, HC⟩
theorem c3k {W : World} {D N G k : Nat} {x p q r y : Value} (h1 : W.cell? ⟨D, k, none⟩ = some x) (h2 : At W N [p, q, r]) (h3 : W.cell? ⟨G, k, none⟩ = some y) : W.cell? ⟨D, k, none⟩ = some x ∧ W.cell? ⟨N, 0, none⟩ = some p ∧ W.cell? ⟨N, 1, none⟩ = some q ∧ W.cell? ⟨N, 2, none⟩ = some r ∧ W.cell? ⟨G, k, none⟩ = some y := ⟨h1, h2.c3.1, h2.c3.2.1, h2.c3.2.2, h3⟩
set_option maxHeartbeats 8000000 in
theorem waveSeries_ok (g : Nat → Addr) (a f n v : Nat) (u : Int) (hg : okG a f = true) (hn : nO f = some n) (hn1 : Num n) (hn2 : n < 18446744073709551616) (hv : v < 18446744073709551616) (w : World) (hl : Laid w g) : Calls Tryd.prog 3 #[.agg #[.float .f64 a, .float .f64 f], .int .i64 u, .float .f64 v] w fun e w' => e = .returned (.bool true) ∧ Gr w w' := by
  have HL := hid hl
  have HS := hid (fun w => series_ok a f n hn hg w)
  rw [raS_uz hn2] at HS
  have HN := hid (fun w => numbersOf_any a f n hn w)
  have HG := hid (fun w => globeError_any a f w)
  rw [hg, if_pos rfl] at HG
  have HSA := hid (aS_sim hn1 hn2)
  have HSB := hid (bS_sim hn1 hn2)
  have gv : GW (some v) v := ⟨rfl, hv⟩
  have HV := hid gv
  clear hl hg hn hn1 hn2 hv gv
  go_enter Tryd.func3, Tryd.ntmps3
  go_wp2_with fail
  refine (waved_any g _ (HL.out.below (Gr.out (by ((with_reducible repeat' (first | assumption | refine Gr.drew ?_ | refine Gr.drewN ?_ _ | refine Gr.alloc ?_ _ | refine Gr.set ?_ (by first | omega | (simp; omega)) _ _ | exact Gr.refl _)); done))))).mono ?_
  rintro e w1 ⟨rfl, hB⟩
  have PA : At w1 w.heap.size [.float .f64 a, .float .f64 f] := At.below hB (by ((with_reducible repeat' (first | assumption | exact At.new1 _ _ _ | exact At.new2 _ _ _ _ | exact At.new3 _ _ _ _ _ | exact At.new5 _ _ _ _ _ _ _ | exact At.nx1 _ _ _ | exact At.nx2 _ _ _ _ | exact At.nx3 _ _ _ _ _ | exact At.ny1 _ _ _ _ | exact At.ny2 _ _ _ _ _ | exact At.ny3 _ _ _ _ _ _ | exact At.nz1 _ _ _ _ _ | exact At.nz2 _ _ _ _ _ _ | exact At.nz3 _ _ _ _ _ _ _ | exact Has.new1 _ _ _ | exact Has.new2 _ _ _ _ | exact Has.new3 _ _ _ _ _ | exact Has.nx1 _ _ _ | exact Has.nx2 _ _ _ _ | exact Has.nx3 _ _ _ _ _ | exact Has.ny1 _ _ _ _ | exact Has.ny2 _ _ _ _ _ | exact Has.ny3 _ _ _ _ _ _ | exact Has.nz1 _ _ _ _ _ | exact Has.nz2 _ _ _ _ _ _ | exact Has.nz3 _ _ _ _ _ _ _ | refine At.fill1 ?_ _ | refine At.fill2 ?_ _ _ | refine At.fill3 ?_ _ _ _ | refine At.swap ?_ (by first | omega | (simp; omega)) _ _ | refine At.alloc ?_ _ | refine At.drew ?_ | refine At.drewN ?_ _ | refine At.skip ?_ (by first | omega | (simp; omega)) _ _ | refine At.below (by assumption) ?_ | refine Has.alloc ?_ _ | refine Has.drew ?_ | refine Has.drewN ?_ _ | refine Has.set ?_ _ _ _ | refine Has.below (by assumption) ?_)); done))
  have HC : Gr w w1 := Gr.step (by ((with_reducible repeat' (first | assumption | refine Gr.drew ?_ | refine Gr.drewN ?_ _ | refine Gr.alloc ?_ _ | refine Gr.set ?_ (by first | omega | (simp; omega)) _ _ | exact Gr.refl _)); done)) hB
  clear hB
  obtain ⟨p0, p1⟩ := PA.c2
  go_wp2_with fail
  refine (ball_any _ _ _).mono ?_
  rintro e w2 ⟨rfl, hB⟩
  replace HC : Gr w w2 := Gr.step HC hB
  replace PA := At.below hB PA
  clear hB p0 p1
  go_wp2_with fail
  refine (HS.out _).mono ?_
  rintro e w3 ⟨r, a0, a1, a2, a3, b0, b1, b2, b3, rfl, hr, hA, hBf, hB⟩
  have SR := hid hr
  replace HC : Gr w w3 := Gr.step HC hB
  replace PA := At.below hB PA
  clear hB HS hr
  go_upto_region 5 with fail
  have AA : At ((w3.alloc (.cells #[.float .f64 a0, .float .f64 a1, .float .f64 a2, .float .f64 a3] 26)).alloc (.cells #[.float .f64 b0, .float .f64 b1, .float .f64 b2, .float .f64 b3] 26)) w3.heap.size (rL a0 a1 a2 a3) := (At.new4 w3 _ _ _ _ _).alloc _
  have BA : At ((w3.alloc (.cells #[.float .f64 a0, .float .f64 a1, .float .f64 a2, .float .f64 a3] 26)).alloc (.cells #[.float .f64 b0, .float .f64 b1, .float .f64 b2, .float .f64 b3] 26)) (w3.heap.size + 1) (rL b0 b1 b2 b3) := by
    have := At.new4 (w3.alloc (.cells #[.float .f64 a0, .float .f64 a1, .float .f64 a2, .float .f64 a3] 26)) (.float .f64 b0) (.float .f64 b1) (.float .f64 b2) (.float .f64 b3) 26
    simpa using this
  replace HC := (HC.alloc (.cells #[.float .f64 a0, .float .f64 a1, .float .f64 a2, .float .f64 a3] 26)).alloc (.cells #[.float .f64 b0, .float .f64 b1, .float .f64 b2, .float .f64 b3] 26)
  replace PA := (PA.alloc (.cells #[.float .f64 a0, .float .f64 a1, .float .f64 a2, .float .f64 a3] 26)).alloc (.cells #[.float .f64 b0, .float .f64 b1, .float .f64 b2, .float .f64 b3] 26)
  generalize hwd : (w3.alloc (.cells #[.float .f64 a0, .float .f64 a1, .float .f64 a2, .float .f64 a3] 26)).alloc (.cells #[.float .f64 b0, .float .f64 b1, .float .f64 b2, .float .f64 b3] 26) = w4 at HC AA BA PA ⊢
  clear hwd
  generalize hDD : w3.heap.size = D at AA BA ⊢
  clear hDD
  obtain ⟨p0, p1⟩ := PA.c2
  go_wp2_with fail
  refine (HG.out _).mono ?_
  rintro e w5 ⟨rfl, hB⟩
  replace HC : Gr w w5 := Gr.step HC hB
  replace AA := At.below hB AA
  replace BA := At.below hB BA
  replace PA := At.below hB PA
  clear hB p0 p1
  go_wp2_with fail
  refine (coded_p g 0 (.inl rfl) _ (HL.out.below HC)).mono ?_
  rintro e w6 ⟨rfl, hB⟩
  replace HC : Gr w w6 := Gr.step HC hB
  replace AA := At.below hB AA
  replace BA := At.below hB BA
  replace PA := At.below hB PA
  clear hB HG HL
  obtain ⟨p0, p1⟩ := PA.c2
  go_wp2_with fail
  refine (HN.out _).mono ?_
  rintro e w7 ⟨r', a0', a1', a2', a3', b0', b1', b2', b3', gA, cA, gB, cB, rfl, hcA, hcB, hr', hA', hBf', AA', BA', hB⟩
  have SR' := hid (sb_sim (Sim.refl _) SR.out.1 hr'.1)
  replace HC : Gr w w7 := Gr.step HC hB
  replace AA := At.below hB AA
  replace BA := At.below hB BA
  clear hB HN hr' SR p0 p1 PA
  go_upto_region 12 with fail
  have NA : At (w7.alloc (.cells #[.float .f64 r', .slice (some ⟨gA, 0, none⟩) 4 cA, .slice (some ⟨gB, 0, none⟩) 4 cB] 37)) w7.heap.size [.float .f64 r', .slice (some ⟨gA, 0, none⟩) 4 cA, .slice (some ⟨gB, 0, none⟩) 4 cB] := At.new3 _ _ _ _ _
  replace HC := HC.alloc (.cells #[.float .f64 r', .slice (some ⟨gA, 0, none⟩) 4 cA, .slice (some ⟨gB, 0, none⟩) 4 cB] 37)
  replace AA := AA.alloc (.cells #[.float .f64 r', .slice (some ⟨gA, 0, none⟩) 4 cA, .slice (some ⟨gB, 0, none⟩) 4 cB] 37)
  replace BA := BA.alloc (.cells #[.float .f64 r', .slice (some ⟨gA, 0, none⟩) 4 cA, .slice (some ⟨gB, 0, none⟩) 4 cB] 37)
  replace AA' := AA'.alloc (.cells #[.float .f64 r', .slice (some ⟨gA, 0, none⟩) 4 cA, .slice (some ⟨gB, 0, none⟩) 4 cB] 37)
  replace BA' := BA'.alloc (.cells #[.float .f64 r', .slice (some ⟨gA, 0, none⟩) 4 cA, .slice (some ⟨gB, 0, none⟩) 4 cB] 37)
  generalize hwd : w7.alloc (.cells #[.float .f64 r', .slice (some ⟨gA, 0, none⟩) 4 cA, .slice (some ⟨gB, 0, none⟩) 4 cB] 37) = w8 at HC AA BA AA' BA' NA ⊢
  clear hwd
  generalize hNN : w7.heap.size = N at NA ⊢
  clear hNN
  go_wp2
  go_loopw [15] (fun j wr => ∃ (k : Nat), k ≤ 4 ∧ j = .int .i64 (k : Int) ∧ At wr N [.float .f64 r', .slice (some ⟨gA, 0, none⟩) 4 cA, .slice (some ⟨gB, 0, none⟩) 4 cB] ∧ At wr D (fRow [a0, a1, a2, a3]) ∧ At wr (D + 1) (fRow [b0, b1, b2, b3]) ∧ At wr gA (fRow [a0', a1', a2', a3']) ∧ At wr gB (fRow [b0', b1', b2', b3']) ∧ Gr w wr) (fun j _ => (5 - intOf j).toNat)
  case atStart => exact ⟨0, by omega, rfl, NA, AA, BA, AA', BA', HC⟩
  case round =>
    clear NA AA BA AA' BA' HC
    obtain ⟨k, hk, rfl, NA, AA, BA, AA', BA', HC⟩ := hrel
    by_cases h4 : k = 4
    · subst h4
      go_wp2_with fail
      refine (sine_any u (some v) v HV.out _).mono ?_
      rintro e v1 ⟨s1, s2, rfl, hs1, hs2, hB⟩
      replace HC : Gr w v1 := Gr.step HC hB
      replace NA := At.below hB NA
      clear hB AA BA AA' BA'
      go_wp2_with fail
      refine (cosine_any u (some v) v HV.out _).mono ?_
      rintro e v2 ⟨k1, k2, rfl, hk1, hk2, hB⟩
      replace HC : Gr w v2 := Gr.step HC hB
      replace NA := At.below hB NA
      clear hB
      go_wp2_with fail
      refine (sineOf_any u (some v) v HV.out _).mono ?_
      rintro e v3 ⟨p1, p2, q1, q2, rfl, hp1, hp2, hq1, hq2, hB⟩
      have B1 := hid (sb_sim (snR_sim u (some v)) hs1.1 hp1.1)
      have B2 := hid (sb_sim (snI_sim u (some v)) hs2.1 hp2.1)
      have B3 := hid (sb_sim (csR_sim u (some v)) hk1.1 hq1.1)
      have B4 := hid (sb_sim (csI_sim u (some v)) hk2.1 hq2.1)
      replace HC : Gr w v3 := Gr.step HC hB
      replace NA := At.below hB NA
      clear hB hs1 hs2 hk1 hk2 hp1 hp2 hq1 hq2
      go_upto_region 22 with fail
      have XA : At ((v3.alloc (.cells #[.float .f64 p1, .float .f64 p2] 43)).alloc (.cells #[.float .f64 q1, .float .f64 q2] 43)) v3.heap.size (fL p1 p2) := by ((with_reducible repeat' (first | assumption | exact At.new1 _ _ _ | exact At.new2 _ _ _ _ | exact At.new3 _ _ _ _ _ | exact At.new5 _ _ _ _ _ _ _ | exact At.nx1 _ _ _ | exact At.nx2 _ _ _ _ | exact At.nx3 _ _ _ _ _ | exact At.ny1 _ _ _ _ | exact At.ny2 _ _ _ _ _ | exact At.ny3 _ _ _ _ _ _ | exact At.nz1 _ _ _ _ _ | exact At.nz2 _ _ _ _ _ _ | exact At.nz3 _ _ _ _ _ _ _ | exact Has.new1 _ _ _ | exact Has.new2 _ _ _ _ | exact Has.new3 _ _ _ _ _ | exact Has.nx1 _ _ _ | exact Has.nx2 _ _ _ _ | exact Has.nx3 _ _ _ _ _ | exact Has.ny1 _ _ _ _ | exact Has.ny2 _ _ _ _ _ | exact Has.ny3 _ _ _ _ _ _ | exact Has.nz1 _ _ _ _ _ | exact Has.nz2 _ _ _ _ _ _ | exact Has.nz3 _ _ _ _ _ _ _ | refine At.fill1 ?_ _ | refine At.fill2 ?_ _ _ | refine At.fill3 ?_ _ _ _ | refine At.swap ?_ (by first | omega | (simp; omega)) _ _ | refine At.alloc ?_ _ | refine At.drew ?_ | refine At.drewN ?_ _ | refine At.skip ?_ (by first | omega | (simp; omega)) _ _ | refine At.below (by assumption) ?_ | refine Has.alloc ?_ _ | refine Has.drew ?_ | refine Has.drewN ?_ _ | refine Has.set ?_ _ _ _ | refine Has.below (by assumption) ?_)); done)
      have YA : At ((v3.alloc (.cells #[.float .f64 p1, .float .f64 p2] 43)).alloc (.cells #[.float .f64 q1, .float .f64 q2] 43)) (v3.heap.size + 1) (fL q1 q2) := by ((with_reducible repeat' (first | assumption | exact At.new1 _ _ _ | exact At.new2 _ _ _ _ | exact At.new3 _ _ _ _ _ | exact At.new5 _ _ _ _ _ _ _ | exact At.nx1 _ _ _ | exact At.nx2 _ _ _ _ | exact At.nx3 _ _ _ _ _ | exact At.ny1 _ _ _ _ | exact At.ny2 _ _ _ _ _ | exact At.ny3 _ _ _ _ _ _ | exact At.nz1 _ _ _ _ _ | exact At.nz2 _ _ _ _ _ _ | exact At.nz3 _ _ _ _ _ _ _ | exact Has.new1 _ _ _ | exact Has.new2 _ _ _ _ | exact Has.new3 _ _ _ _ _ | exact Has.nx1 _ _ _ | exact Has.nx2 _ _ _ _ | exact Has.nx3 _ _ _ _ _ | exact Has.ny1 _ _ _ _ | exact Has.ny2 _ _ _ _ _ | exact Has.ny3 _ _ _ _ _ _ | exact Has.nz1 _ _ _ _ _ | exact Has.nz2 _ _ _ _ _ _ | exact Has.nz3 _ _ _ _ _ _ _ | refine At.fill1 ?_ _ | refine At.fill2 ?_ _ _ | refine At.fill3 ?_ _ _ _ | refine At.swap ?_ (by first | omega | (simp; omega)) _ _ | refine At.alloc ?_ _ | refine At.drew ?_ | refine At.drewN ?_ _ | refine At.skip ?_ (by first | omega | (simp; omega)) _ _ | refine At.below (by assumption) ?_ | refine Has.alloc ?_ _ | refine Has.drew ?_ | refine Has.drewN ?_ _ | refine Has.set ?_ _ _ _ | refine Has.below (by assumption) ?_)); done)
      replace HC := (HC.alloc (.cells #[.float .f64 p1, .float .f64 p2] 43)).alloc (.cells #[.float .f64 q1, .float .f64 q2] 43)
      replace NA := (NA.alloc (.cells #[.float .f64 p1, .float .f64 p2] 43)).alloc (.cells #[.float .f64 q1, .float .f64 q2] 43)
      generalize hwd : (v3.alloc (.cells #[.float .f64 p1, .float .f64 p2] 43)).alloc (.cells #[.float .f64 q1, .float .f64 q2] 43) = v4 at HC NA XA YA ⊢
      clear hwd
      generalize v3.heap.size = X at XA YA ⊢
      obtain ⟨x0, x1⟩ := XA.c2
      obtain ⟨y0, y1⟩ := YA.c2
      obtain ⟨n0, n1, n2⟩ := NA.c3
      go_wp2_with fail
      refine (B1.out _).mono ?_
      rintro e v5 ⟨rfl, rfl⟩
      go_wp2_with fail
      refine (B2.out _).mono ?_
      rintro e v6 ⟨rfl, rfl⟩
      go_wp2_with fail
      refine (B3.out _).mono ?_
      rintro e v7 ⟨rfl, rfl⟩
      go_wp2_with fail
      refine (B4.out _).mono ?_
      rintro e v8 ⟨rfl, rfl⟩
      go_wp2_with fail
      refine (SR'.out _).mono ?_
      rintro e v9 ⟨rfl, rfl⟩
      go_wp2
      go_ret
      exact ⟨rfl, HC⟩
    · have hkn : (k : Int) < 4 := by omega
      have hk4 : k < 4 := by omega
      have e4 : IntKind.i64.wrap ((k : Int) + 1) = ((k + 1 : Nat) : Int) := by simp [IntKind.wrap, IntKind.signed, IntKind.bits]; omega
      have BAk := hid (sb_sim (HSA.out.get k) (hA.get (k := k) (by simp; omega)).1 (hA'.get (k := k) (by simp; omega)).1)
      have BBk := hid (sb_sim (HSB.out.get k) (hBf.get (k := k) (by simp; omega)).1 (hBf'.get (k := k) (by simp; omega)).1)
      have ca := fRow_cell AA (j := k) (by simp; omega)
      have cb := fRow_cell BA (j := k) (by simp; omega)
      have ca' := fRow_cell AA' (j := k) (by simp; omega)
      have cb' := fRow_cell BA' (j := k) (by simp; omega)
      generalize [a0, a1, a2, a3][k] = xa at ca BAk
      generalize [b0, b1, b2, b3][k] = xb at cb BBk
      generalize [a0', a1', a2', a3'][k] = ya at ca' BAk
      generalize [b0', b1', b2', b3'][k] = yb at cb' BBk
      obtain ⟨n0, n1, n2⟩ := NA.c3
      go_upto_region 15 with fail
      go_region_held (fun w' => w'.cell? ⟨D, k, none⟩ = some (.float .f64 xa) ∧ w'.cell? ⟨N, 0, none⟩ = some (.float .f64 r') ∧ w'.cell? ⟨N, 1, none⟩ = some (.slice (some ⟨gA, 0, none⟩) 4 cA) ∧ w'.cell? ⟨N, 2, none⟩ = some (.slice (some ⟨gB, 0, none⟩) 4 cB) ∧ w'.cell? ⟨gA, k, none⟩ = some (.float .f64 ya))
        (exact c3k ca NA ca')
        ((go_at_call 10; refine (BAk.out _).mono ?_; rintro e v5 ⟨rfl, rfl⟩))
      replace NA := NA.drew
      replace AA := AA.drew
      replace BA := BA.drew
      replace AA' := AA'.drew
      replace BA' := BA'.drew
      replace HC := HC.drew
      replace cb : wr.drew.cell? ⟨D + 1, k, none⟩ = some (.float .f64 xb) := cb
      replace cb' : wr.drew.cell? ⟨gB, k, none⟩ = some (.float .f64 yb) := cb'
      clear ca ca' n0 n1 n2
      generalize wr.drew = x1 at NA AA BA AA' BA' HC cb cb' ⊢
      obtain ⟨n0, n1, n2⟩ := NA.c3
      go_upto_region 16 with fail
      go_region_held (fun w' => w'.cell? ⟨D + 1, k, none⟩ = some (.float .f64 xb) ∧ w'.cell? ⟨N, 0, none⟩ = some (.float .f64 r') ∧ w'.cell? ⟨N, 1, none⟩ = some (.slice (some ⟨gA, 0, none⟩) 4 cA) ∧ w'.cell? ⟨N, 2, none⟩ = some (.slice (some ⟨gB, 0, none⟩) 4 cB) ∧ w'.cell? ⟨gB, k, none⟩ = some (.float .f64 yb))
        (exact c3k cb NA cb')
        ((go_at_call 10; refine (BBk.out _).mono ?_; rintro e v5 ⟨rfl, rfl⟩))
      clear cb cb' n0 n1 n2
      go_wp2
      go_roundw
      case rel => exact ⟨k + 1, by omega, rfl, NA.drew, AA.drew, BA.drew, AA'.drew, BA'.drew, HC.drew⟩
      case measure => simp [intOf]; omega
theorem waveSeries_walk (g : Nat → Addr) (a f v : Nat) (u : Int) (ha : a < 18446744073709551616) (hf : f < 18446744073709551616) (hv : v < 18446744073709551616) (w : World) (hl : Laid w g) : Calls Tryd.prog 3 #[.agg #[.float .f64 a, .float .f64 f], .int .i64 u, .float .f64 v] w fun e w' => e = .returned (.bool true) ∧ Gr w w' := by
  cases hg : okG a f with
  | false => exact waveSeries_no g a f v u hg w hl
  | true =>
    obtain ⟨n, hn, h1, h2⟩ := n_num (okG_le ha hf hg).2.1
    exact waveSeries_ok g a f n v u hg hn h1 h2 hv w hl
end Go.Proofs.YtinopkmcddjgdaaDoor
