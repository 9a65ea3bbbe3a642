/-
  mercatorref2: OnStrip.
-/
import Derived.Test.YtinopkmcddjgdaaGreatDoorQWvS
import Derived.Test.YtinopkmcddjgdaaGreatDoorQWvE
import Derived.Deep.RegionLaw
namespace Go.Proofs.YtinopkmcddjgdaaGreatDoor
open Go.RowKit FB
attribute [local go_sem] run_store_float

def Four.get (s : Four) : Nat → Option Nat
  | 0 => s.a
  | 1 => s.b
  | 2 => s.c
  | _ => s.d
/-- So many waves, one upon the other. -/
def ripK (w : Int → Option Nat → Option Nat) (z : Option Nat) (u : Int) (vO : Option Nat) (s : Four) : Nat → Option Nat
  | 0 => z
  | k + 1 => oA (ripK w z u vO s k) (oM (s.get k) (w (wr ((2 * ((k : Int) + 1)) * u)) (vkO (2 * ((k : Int) + 1)) vO)))
theorem ripK_four (w : Int → Option Nat → Option Nat) (z : Option Nat) (u : Int) (vO : Option Nat) (s : Four) : ripK w z u vO s 4 = ripO w z u vO s := rfl
theorem GF.get {s : Four} {a b c d : Nat} (h : GF s a b c d) {k : Nat} (hk : k < [a, b, c, d].length) : GW (s.get k) [a, b, c, d][k] := by
  obtain ⟨h1, h2, h3, h4⟩ := h
  match k, hk with
  | 0, _ => exact h1
  | 1, _ => exact h2
  | 2, _ => exact h3
  | 3, _ => exact h4
abbrev wV (t : Nat) (d u : Int) (v : Nat) : Value := .agg #[.float .f64 t, .int .i64 d, .int .i64 u, .float .f64 v]
abbrev wL (t : Nat) (d u : Int) (v : Nat) : List Value := [.float .f64 t, .int .i64 d, .int .i64 u, .float .f64 v]
set_option maxHeartbeats 8000000 in
theorem onStrip_ok (a f n m t v : Nat) (mid d u : Int) (oV : Option Nat) (hn : nO f = some n) (hv : Got oV v) (hvl : v < 18446744073709551616) (w : World) : Calls Tryz.prog 14 #[sV a f mid m, wV t d u v] w fun e w' => ∃ x y, e = .returned (fV x y) ∧ GW (oM (srO a n m) (ripO rsI oV u oV (rA n))) x ∧ GW (oM (srO a n m) (ripO rsR (oM (some (floatOfInt .f64 u)) (some 4445950764994258515)) u oV (rA n))) y ∧ Gr w w' := by
  obtain ⟨mF, aF, sF, qF, mD, aD, sD, qD, hm, ha, hss, hq, gm, ga, gs, gq⟩ := ops
  have HS := hid (fun w => numbersOf_any a f n hn w)
  have HV := hid hv
  have HVL := hid hvl
  clear hn hv hvl
  rw [← ripK_four, ← ripK_four]
  go_enter Tryz.func14, Tryz.ntmps14
  go_wp2_with fail
  refine (HS.out _).mono ?_
  rintro x w1 ⟨r, a0, a1, a2, a3, b0, b1, b2, b3, gA, cA, gB, cB, rfl, hcA, hcB, hr, hA, hBf, AA, BA, hB⟩
  have PA : At w1 w.heap.size (sL a f mid m) := At.below hB (((At.new4 w _ _ _ _ _).alloc _).alloc _)
  have QA : At w1 (w.heap.size + 1) (wL t d u v) := At.below hB ((At.newRow (w.alloc (.cells #[.float .f64 a, .float .f64 f, .int .i64 mid, .float .f64 m] 26)) (wL t d u v) 46).alloc _ |> fun h => by simpa using h)
  have RA : At w1 (w.heap.size + 1 + 1) (fL 0 0) := At.below hB (by ((with_reducible repeat' (first | assumption | exact At.new1 _ _ _ | exact At.new2 _ _ _ _ | exact At.new3 _ _ _ _ _ | exact At.new5 _ _ _ _ _ _ _ | exact At.nx1 _ _ _ | exact At.nx2 _ _ _ _ | exact At.nx3 _ _ _ _ _ | exact At.ny1 _ _ _ _ | exact At.ny2 _ _ _ _ _ | exact At.ny3 _ _ _ _ _ _ | exact At.nz1 _ _ _ _ _ | exact At.nz2 _ _ _ _ _ _ | exact At.nz3 _ _ _ _ _ _ _ | exact Has.new1 _ _ _ | exact Has.new2 _ _ _ _ | exact Has.new3 _ _ _ _ _ | exact Has.nx1 _ _ _ | exact Has.nx2 _ _ _ _ | exact Has.nx3 _ _ _ _ _ | exact Has.ny1 _ _ _ _ | exact Has.ny2 _ _ _ _ _ | exact Has.ny3 _ _ _ _ _ _ | exact Has.nz1 _ _ _ _ _ | exact Has.nz2 _ _ _ _ _ _ | exact Has.nz3 _ _ _ _ _ _ _ | refine At.fill1 ?_ _ | refine At.fill2 ?_ _ _ | refine At.fill3 ?_ _ _ _ | refine At.swap ?_ (by first | omega | (simp; omega)) _ _ | refine At.alloc ?_ _ | refine At.drew ?_ | refine At.drewN ?_ _ | refine At.skip ?_ (by first | omega | (simp; omega)) _ _ | refine At.below (by assumption) ?_ | refine Has.alloc ?_ _ | refine Has.drew ?_ | refine Has.drewN ?_ _ | refine Has.set ?_ _ _ _ | refine Has.below (by assumption) ?_)); done))
  have HC : Gr w w1 := Gr.step (by ((with_reducible repeat' (first | assumption | refine Gr.drew ?_ | refine Gr.drewN ?_ _ | refine Gr.alloc ?_ _ | refine Gr.set ?_ (by first | omega | (simp; omega)) _ _ | exact Gr.refl _)); done)) hB
  clear hB HS BA hBf b0 b1 b2 b3
  go_upto_region 2 with fail
  have NA : At (w1.alloc (.cells #[.float .f64 r, .slice (some ⟨gA, 0, none⟩) 4 cA, .slice (some ⟨gB, 0, none⟩) 4 cB] 88)) w1.heap.size [.float .f64 r, .slice (some ⟨gA, 0, none⟩) 4 cA, .slice (some ⟨gB, 0, none⟩) 4 cB] := At.new3 _ _ _ _ _
  replace HC := HC.alloc (.cells #[.float .f64 r, .slice (some ⟨gA, 0, none⟩) 4 cA, .slice (some ⟨gB, 0, none⟩) 4 cB] 88)
  replace PA := PA.alloc (.cells #[.float .f64 r, .slice (some ⟨gA, 0, none⟩) 4 cA, .slice (some ⟨gB, 0, none⟩) 4 cB] 88)
  replace QA := QA.alloc (.cells #[.float .f64 r, .slice (some ⟨gA, 0, none⟩) 4 cA, .slice (some ⟨gB, 0, none⟩) 4 cB] 88)
  replace RA := RA.alloc (.cells #[.float .f64 r, .slice (some ⟨gA, 0, none⟩) 4 cA, .slice (some ⟨gB, 0, none⟩) 4 cB] 88)
  replace AA := AA.alloc (.cells #[.float .f64 r, .slice (some ⟨gA, 0, none⟩) 4 cA, .slice (some ⟨gB, 0, none⟩) 4 cB] 88)
  generalize hwd : w1.alloc (.cells #[.float .f64 r, .slice (some ⟨gA, 0, none⟩) 4 cA, .slice (some ⟨gB, 0, none⟩) 4 cB] 88) = w2 at HC PA QA RA AA NA ⊢
  clear hwd
  generalize hNN : w1.heap.size = N at NA ⊢
  clear hNN
  obtain ⟨d0, d1, d2, d3⟩ := QA.c4
  have za : ∀ k, At ((w2.drewN k).alloc (.cells #[.float .f64 0, .float .f64 0] 91)) w2.heap.size (fL 0 0) := fun k => At.new2 (w2.drewN k) _ _ _
  have za0 := fun k => (za k).c2.1
  have za1 := fun k => (za k).c2.2
  have zf0 := fun k => (za k).f2.1
  have zf1 := fun k => (za k).f2.2
  clear za
  go_upto_region 3 with fail
  clear za0 za1 zf0 zf1
  generalize hq1 : mF (floatOfInt .f64 u) 4445950764994258515 w2 = q1
  have gq1 : GW (oM (some (floatOfInt .f64 u)) (some 4445950764994258515)) q1 := by rw [← hq1]; exact gm _ _ _ _ _ (gsm _) (gsm _)
  clear hq1 d0 d1 d2 d3
  generalize mD (floatOfInt .f64 u) 4445950764994258515 = q2
  have lN := NA.lt
  have lP := PA.lt
  have lQ := QA.lt
  have lR := RA.lt
  have lA := AA.lt
  have lW := HC.out.size
  have lS : w2.heap.size = (w2.drewN q2).heap.size := rfl
  generalize hwd : World.setCell (World.setCell _ _ _) _ _ = w3
  have ZA : At w3 w2.heap.size (fL q1 v) := by rw [← hwd]; exact At.fill2 (Has.new2 (w2.drewN q2) _ _ _) _ _
  replace NA := show At w3 N _ by rw [← hwd]; exact (((NA.drewN _).alloc _).skip (by omega) _ _).skip (by omega) _ _
  replace PA := show At w3 w.heap.size (sL a f mid m) by rw [← hwd]; exact (((PA.drewN _).alloc _).skip (by omega) _ _).skip (by omega) _ _
  replace QA := show At w3 (w.heap.size + 1) (wL t d u v) by rw [← hwd]; exact (((QA.drewN _).alloc _).skip (by omega) _ _).skip (by omega) _ _
  replace RA := show At w3 (w.heap.size + 1 + 1) (fL 0 0) by rw [← hwd]; exact (((RA.drewN _).alloc _).skip (by omega) _ _).skip (by omega) _ _
  replace AA := show At w3 gA (rL a0 a1 a2 a3) by rw [← hwd]; exact (((AA.drewN _).alloc _).skip (by omega) _ _).skip (by omega) _ _
  replace HC : Gr w w3 := by rw [← hwd]; exact (((HC.drewN _).alloc _).set (by omega) _ _).set (by omega) _ _
  clear hwd lS
  generalize hZZ : w2.heap.size = Z at ZA lN lP lQ lR lA lW ⊢
  clear hZZ q2
  have nN : ¬ Z = N := by omega
  have nP : ¬ Z = w.heap.size := by omega
  have nQ : ¬ Z = w.heap.size + 1 := by omega
  have nR : ¬ Z = w.heap.size + 1 + 1 := by omega
  have nA : ¬ Z = gA := by omega
  clear lN lP lQ lR lA
  go_wp2
  go_loopw [7] (fun j wr => ∃ (k x y : Nat), k ≤ 4 ∧ j = .int .i64 ((k : Int) + 1) ∧ GW (ripK rsR (oM (some (floatOfInt .f64 u)) (some 4445950764994258515)) u oV (rA n) k) x ∧ GW (ripK rsI oV u oV (rA n) k) y ∧ At wr Z (fL x y) ∧ At wr N [.float .f64 r, .slice (some ⟨gA, 0, none⟩) 4 cA, .slice (some ⟨gB, 0, none⟩) 4 cB] ∧ At wr gA (fRow [a0, a1, a2, a3]) ∧ At wr w.heap.size (sL a f mid m) ∧ At wr (w.heap.size + 1) (wL t d u v) ∧ At wr (w.heap.size + 1 + 1) (fL 0 0) ∧ Gr w wr) (fun j _ => (5 - intOf j).toNat)
  case atStart => exact ⟨0, q1, v, by omega, rfl, gq1, ⟨HV.out, HVL.out⟩, ZA, NA, AA, PA, QA, RA, HC⟩
  case round =>
    clear ZA NA AA PA QA RA HC gq1
    obtain ⟨k, x, y, hk, rfl, hx, hy, ZA, NA, AA, PA, QA, RA, HC⟩ := hrel
    by_cases h4 : k = 4
    · subst h4
      obtain ⟨z0, z1⟩ := ZA.c2
      obtain ⟨n0, n1, n2⟩ := NA.c3
      obtain ⟨p0, p1, p2, p3⟩ := PA.c4
      obtain ⟨r0, r1⟩ := RA.c2
      obtain ⟨f0, f1⟩ := RA.f2
      have nR' : ¬ w.heap.size + 1 + 1 = Z := fun e => nR e.symm
      go_wp2_with fail
      generalize hq3 : mF r m wr = q3
      have gq3 : GW (srO a n m) q3 := by rw [← hq3]; exact gm _ _ _ _ _ hr.1 (gsm m)
      clear hq3
      exact bodyPost_ret (v := fV (mF q3 y (wr.drewN (mD r m))) (mF q3 x (wr.drewN (mD r m + mD q3 y)))) (by simp [results, Tryz.results14, go_sem, r0, r1]) rfl ⟨_, _, rfl, gm _ _ _ _ _ gq3.1 hy.1, gm _ _ _ _ _ gq3.1 hx.1, by ((with_reducible repeat' (first | assumption | refine Gr.drew ?_ | refine Gr.drewN ?_ _ | refine Gr.alloc ?_ _ | refine Gr.set ?_ (by first | omega | (simp; omega)) _ _ | exact Gr.refl _)); done)⟩
    · obtain ⟨j, hj⟩ : ∃ j : Int, j = (k : Int) + 1 := ⟨_, rfl⟩
      rw [← hj]
      have j1 : 1 ≤ j := by omega
      have j2 : j ≤ 4 := by omega
      have e1 : IntKind.i64.wrap (2 * j) = 2 * j := by simp [IntKind.wrap, IntKind.signed, IntKind.bits]; omega
      have e2 : IntKind.i64.wrap (j - 1) = (k : Int) := by simp [IntKind.wrap, IntKind.signed, IntKind.bits]; omega
      have hkn : (k : Int) < 4 := by omega
      have e4 : IntKind.i64.wrap (j + 1) = ((k + 1 : Nat) : Int) + 1 := by simp [IntKind.wrap, IntKind.signed, IntKind.bits]; omega
      obtain ⟨uk, e3⟩ : ∃ p, IntKind.i64.wrap (2 * j * u) = p := ⟨_, rfl⟩
      have E3 : Hid (Go.Proofs.YtinopkmcddjgdaaGreatDoor.wr ((2 * ((k : Int) + 1)) * u) = uk) := by rw [← hj]; exact e3
      have HJ := hid hj
      clear hj
      obtain ⟨d0, d1, d2, d3⟩ := QA.c4
      go_wp2_with fail
      refine (sineOf_any uk (vkO (2 * j) oV) _ (gm _ _ _ _ _ (gsm _) HV.out) _).mono ?_
      rintro e v1 ⟨sr, si, cr, ci, rfl, hsr, hsi, hcr, hci, hB⟩
      replace HC : Gr w v1 := Gr.step (by ((with_reducible repeat' (first | assumption | refine Gr.drew ?_ | refine Gr.drewN ?_ _ | refine Gr.alloc ?_ _ | refine Gr.set ?_ (by first | omega | (simp; omega)) _ _ | exact Gr.refl _)); done)) hB
      replace ZA : At v1 Z (fL x y) := At.below hB (by ((with_reducible repeat' (first | assumption | exact At.new1 _ _ _ | exact At.new2 _ _ _ _ | exact At.new3 _ _ _ _ _ | exact At.new5 _ _ _ _ _ _ _ | exact At.nx1 _ _ _ | exact At.nx2 _ _ _ _ | exact At.nx3 _ _ _ _ _ | exact At.ny1 _ _ _ _ | exact At.ny2 _ _ _ _ _ | exact At.ny3 _ _ _ _ _ _ | exact At.nz1 _ _ _ _ _ | exact At.nz2 _ _ _ _ _ _ | exact At.nz3 _ _ _ _ _ _ _ | exact Has.new1 _ _ _ | exact Has.new2 _ _ _ _ | exact Has.new3 _ _ _ _ _ | exact Has.nx1 _ _ _ | exact Has.nx2 _ _ _ _ | exact Has.nx3 _ _ _ _ _ | exact Has.ny1 _ _ _ _ | exact Has.ny2 _ _ _ _ _ | exact Has.ny3 _ _ _ _ _ _ | exact Has.nz1 _ _ _ _ _ | exact Has.nz2 _ _ _ _ _ _ | exact Has.nz3 _ _ _ _ _ _ _ | refine At.fill1 ?_ _ | refine At.fill2 ?_ _ _ | refine At.fill3 ?_ _ _ _ | refine At.swap ?_ (by first | omega | (simp; omega)) _ _ | refine At.alloc ?_ _ | refine At.drew ?_ | refine At.drewN ?_ _ | refine At.skip ?_ (by first | omega | (simp; omega)) _ _ | refine At.below (by assumption) ?_ | refine Has.alloc ?_ _ | refine Has.drew ?_ | refine Has.drewN ?_ _ | refine Has.set ?_ _ _ _ | refine Has.below (by assumption) ?_)); done))
      replace NA := At.below hB (NA.drewN _)
      replace AA := At.below hB (AA.drewN _)
      replace PA := At.below hB (PA.drewN _)
      replace QA := At.below hB (QA.drewN _)
      replace RA := At.below hB (RA.drewN _)
      clear hB d0 d1 d2 d3 hcr hci
      go_upto_region 7 with fail
      have lZ := ZA.lt
      have SA : At ((v1.alloc (.cells #[.float .f64 sr, .float .f64 si] 91)).alloc (.cells #[.float .f64 cr, .float .f64 ci] 91)) v1.heap.size (fL sr si) := (At.new2 v1 _ _ _).alloc _
      replace ZA := (ZA.alloc (.cells #[.float .f64 sr, .float .f64 si] 91)).alloc (.cells #[.float .f64 cr, .float .f64 ci] 91)
      replace NA := (NA.alloc (.cells #[.float .f64 sr, .float .f64 si] 91)).alloc (.cells #[.float .f64 cr, .float .f64 ci] 91)
      replace AA := (AA.alloc (.cells #[.float .f64 sr, .float .f64 si] 91)).alloc (.cells #[.float .f64 cr, .float .f64 ci] 91)
      replace PA := (PA.alloc (.cells #[.float .f64 sr, .float .f64 si] 91)).alloc (.cells #[.float .f64 cr, .float .f64 ci] 91)
      replace QA := (QA.alloc (.cells #[.float .f64 sr, .float .f64 si] 91)).alloc (.cells #[.float .f64 cr, .float .f64 ci] 91)
      replace RA := (RA.alloc (.cells #[.float .f64 sr, .float .f64 si] 91)).alloc (.cells #[.float .f64 cr, .float .f64 ci] 91)
      replace HC := (HC.alloc (.cells #[.float .f64 sr, .float .f64 si] 91)).alloc (.cells #[.float .f64 cr, .float .f64 ci] 91)
      generalize hwd : (v1.alloc (.cells #[.float .f64 sr, .float .f64 si] 91)).alloc (.cells #[.float .f64 cr, .float .f64 ci] 91) = v2 at SA ZA NA AA PA QA RA HC ⊢
      clear hwd
      generalize hSS : v1.heap.size = S at SA lZ ⊢
      clear hSS
      have nS : ¬ Z = S := by omega
      have hkl : k < [a0, a1, a2, a3].length := by simp; omega
      have ck := fRow_cell AA hkl
      have hak := hA.get hkl
      generalize [a0, a1, a2, a3][k] = ak at ck hak
      obtain ⟨z0, z1⟩ := ZA.c2
      obtain ⟨y0, y1⟩ := ZA.f2
      obtain ⟨s0, s1⟩ := SA.c2
      obtain ⟨n0, n1, n2⟩ := NA.c3
      have HP := hid (fun ww => plusC_any _ _ _ _ _ _ _ _ _ _ hx.1 hy.1 hak.1 hsr.1 hsi.1 ww)
      go_region_law ((go_simp; go_at_call 46; refine (HP.out _).mono ?_; rintro e v3 ⟨x', y', rfl, hx', hy', hB⟩; replace HC : Gr w v3 := Gr.step (by ((with_reducible repeat' (first | assumption | refine Gr.drew ?_ | refine Gr.drewN ?_ _ | refine Gr.alloc ?_ _ | refine Gr.set ?_ (by first | omega | (simp; omega)) _ _ | exact Gr.refl _)); done)) hB; replace ZA : At v3 Z (fL x y) := At.below hB (by ((with_reducible repeat' (first | assumption | exact At.new1 _ _ _ | exact At.new2 _ _ _ _ | exact At.new3 _ _ _ _ _ | exact At.new5 _ _ _ _ _ _ _ | exact At.nx1 _ _ _ | exact At.nx2 _ _ _ _ | exact At.nx3 _ _ _ _ _ | exact At.ny1 _ _ _ _ | exact At.ny2 _ _ _ _ _ | exact At.ny3 _ _ _ _ _ _ | exact At.nz1 _ _ _ _ _ | exact At.nz2 _ _ _ _ _ _ | exact At.nz3 _ _ _ _ _ _ _ | exact Has.new1 _ _ _ | exact Has.new2 _ _ _ _ | exact Has.new3 _ _ _ _ _ | exact Has.nx1 _ _ _ | exact Has.nx2 _ _ _ _ | exact Has.nx3 _ _ _ _ _ | exact Has.ny1 _ _ _ _ | exact Has.ny2 _ _ _ _ _ | exact Has.ny3 _ _ _ _ _ _ | exact Has.nz1 _ _ _ _ _ | exact Has.nz2 _ _ _ _ _ _ | exact Has.nz3 _ _ _ _ _ _ _ | refine At.fill1 ?_ _ | refine At.fill2 ?_ _ _ | refine At.fill3 ?_ _ _ _ | refine At.swap ?_ (by first | omega | (simp; omega)) _ _ | refine At.alloc ?_ _ | refine At.drew ?_ | refine At.drewN ?_ _ | refine At.skip ?_ (by first | omega | (simp; omega)) _ _ | refine At.below (by assumption) ?_ | refine Has.alloc ?_ _ | refine Has.drew ?_ | refine Has.drewN ?_ _ | refine Has.set ?_ _ _ _ | refine Has.below (by assumption) ?_)); done)); replace NA := At.below hB NA; replace AA := At.below hB AA; replace PA := At.below hB PA; replace QA := At.below hB QA; replace RA := At.below hB RA; clear hB z0 z1 y0 y1 s0 s1 n0 n1 n2; obtain ⟨z0, z1⟩ := ZA.c2; obtain ⟨y0, y1⟩ := ZA.f2))
      all_goals
        go_wp2_with fail
        go_roundw
        case rel =>
          refine ⟨k + 1, x', y', by omega, rfl, ?_, ?_, At.fill2 (ZA.has rfl) _ _, (NA.skip nN _ _).skip nN _ _, (AA.skip nA _ _).skip nA _ _, (PA.skip nP _ _).skip nP _ _, (QA.skip nQ _ _).skip nQ _ _, (RA.skip nR _ _).skip nR _ _, (HC.set lW _ _).set lW _ _⟩
          · show GW (oA _ (oM _ (rsR (Go.Proofs.YtinopkmcddjgdaaGreatDoor.wr (2 * ((k : Int) + 1) * u)) (vkO (2 * ((k : Int) + 1)) oV)))) x'
            rw [E3.out, ← HJ.out]
            exact hx'
          · show GW (oA _ (oM _ (rsI (Go.Proofs.YtinopkmcddjgdaaGreatDoor.wr (2 * ((k : Int) + 1) * u)) (vkO (2 * ((k : Int) + 1)) oV)))) y'
            rw [E3.out, ← HJ.out]
            exact hy'
        case measure => have := HJ.out; simp [intOf]; omega
end Go.Proofs.YtinopkmcddjgdaaGreatDoor
