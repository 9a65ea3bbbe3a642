/-
  mercatorref2: TurnedOf.
-/
import Derived.Test.YtinopkmcddjgdaaGreatDoorQWvK
import Derived.Test.YtinopkmcddjgdaaGreatDoorQFfQ
import Derived.Test.YtinopkmcddjgdaaGreatDoorQWvL
namespace Go.Proofs.YtinopkmcddjgdaaGreatDoor
open Go.RowKit FB
attribute [local go_sem] run_store_float

theorem slO_get (s : Four) {k : Nat} (hk : k < 4) : (slO s).get k = oM (some (floatOfInt .f64 (2 * ((k : Int) + 1)))) (s.get k) := by
  match k, hk with
  | 0, _ => rfl
  | 1, _ => rfl
  | 2, _ => rfl
  | 3, _ => rfl
/-- How much longer things are, and turned, as the document has it. -/
noncomputable def rtR (n : Nat) (u : Int) (oV : Option Nat) : Option Nat := ripO rcR (some oneW) u oV (slO (rA n))
noncomputable def rtI (n : Nat) (u : Int) (oV : Option Nat) : Option Nat := ripO rcI (some 0) u oV (slO (rA n))
noncomputable def scR (a f n m : Nat) (lat d u : Int) (oT oV : Option Nat) : Option Nat := oD (oM (srO a n m) (hyO (rtR n u oV) (rtI n u oV))) (oM (oM (crO a f (sinV (nrm lat))) (some (cosV (nrm lat)))) (hyO oT (some (cosV (nrm d)))))
noncomputable def turR (n : Nat) (d u : Int) (oT oV : Option Nat) : Int := sgn (angC (oM oT (some (sinV (nrm d)))) (oM (oQ (oA (some oneW) (oM oT oT))) (some (cosV (nrm d)))) - angC (rtI n u oV) (rtR n u oV))
set_option maxHeartbeats 8000000 in
theorem turnedOf_ok (a f n m t v : Nat) (mid lon lat d u : Int) (oT oV : Option Nat) (hf : Le 1021 f) (hn : nO f = some n) (ht : GW oT t) (hv : Got oV v) (w : World) : Calls Tryz.prog 15 #[sV a f mid m, .agg #[.int .i64 lon, .int .i64 lat], wV t d u v] w fun e w' => ∃ q, e = .returned (.tuple #[.float .f64 q, .int .i64 (turR n d u oT oV)]) ∧ GW (scR a f n m lat d u oT oV) q ∧ Gr w w' := by
  obtain ⟨mF, aF, sF, qF, mD, aD, sD, qD, hm, ha, hss, hq, gm, ga, gs, gq⟩ := ops
  have HS := hid (fun w => numbersOf_any a f n hn w)
  have HV := hid hv
  clear hn hv
  unfold scR turR rtR rtI
  rw [← ripK_four, ← ripK_four]
  go_enter Tryz.func15, Tryz.ntmps15
  go_wp2_with fail
  refine (HS.out _).mono ?_
  rintro x w1 ⟨r, a0, a1, a2, a3, b0, b1, b2, b3, gA, cA, gB, cB, rfl, hcA, hcB, hr, hA, hBf, AA, BA, hB⟩
  have PA : At w1 w.heap.size (sL a f mid m) := At.below hB (((At.new4 w _ _ _ _ _).alloc _).alloc _)
  have LA : At w1 (w.heap.size + 1) (aL lon lat) := At.below hB (by ((with_reducible repeat' (first | assumption | exact At.new1 _ _ _ | exact At.new2 _ _ _ _ | exact At.new3 _ _ _ _ _ | exact At.new5 _ _ _ _ _ _ _ | exact At.nx1 _ _ _ | exact At.nx2 _ _ _ _ | exact At.nx3 _ _ _ _ _ | exact At.ny1 _ _ _ _ | exact At.ny2 _ _ _ _ _ | exact At.ny3 _ _ _ _ _ _ | exact At.nz1 _ _ _ _ _ | exact At.nz2 _ _ _ _ _ _ | exact At.nz3 _ _ _ _ _ _ _ | exact Has.new1 _ _ _ | exact Has.new2 _ _ _ _ | exact Has.new3 _ _ _ _ _ | exact Has.nx1 _ _ _ | exact Has.nx2 _ _ _ _ | exact Has.nx3 _ _ _ _ _ | exact Has.ny1 _ _ _ _ | exact Has.ny2 _ _ _ _ _ | exact Has.ny3 _ _ _ _ _ _ | exact Has.nz1 _ _ _ _ _ | exact Has.nz2 _ _ _ _ _ _ | exact Has.nz3 _ _ _ _ _ _ _ | refine At.fill1 ?_ _ | refine At.fill2 ?_ _ _ | refine At.fill3 ?_ _ _ _ | refine At.swap ?_ (by first | omega | (simp; omega)) _ _ | refine At.alloc ?_ _ | refine At.drew ?_ | refine At.drewN ?_ _ | refine At.skip ?_ (by first | omega | (simp; omega)) _ _ | refine At.below (by assumption) ?_ | refine Has.alloc ?_ _ | refine Has.drew ?_ | refine Has.drewN ?_ _ | refine Has.set ?_ _ _ _ | refine Has.below (by assumption) ?_)); done))
  have QA : At w1 (w.heap.size + 1 + 1) (wL t d u v) := At.below hB (At.newRow ((w.alloc (.cells #[.float .f64 a, .float .f64 f, .int .i64 mid, .float .f64 m] 26)).alloc (.cells #[.int .i64 lon, .int .i64 lat] 28)) (wL t d u v) 46 |> fun h => by simpa using h)
  have HC : Gr w w1 := Gr.step (by ((with_reducible repeat' (first | assumption | refine Gr.drew ?_ | refine Gr.drewN ?_ _ | refine Gr.alloc ?_ _ | refine Gr.set ?_ (by first | omega | (simp; omega)) _ _ | exact Gr.refl _)); done)) hB
  clear hB HS BA hBf b0 b1 b2 b3
  go_upto_region 2 with fail
  have NA : At (w1.alloc (.cells #[.float .f64 r, .slice (some ⟨gA, 0, none⟩) 4 cA, .slice (some ⟨gB, 0, none⟩) 4 cB] 88)) w1.heap.size [.float .f64 r, .slice (some ⟨gA, 0, none⟩) 4 cA, .slice (some ⟨gB, 0, none⟩) 4 cB] := At.new3 _ _ _ _ _
  replace HC := HC.alloc (.cells #[.float .f64 r, .slice (some ⟨gA, 0, none⟩) 4 cA, .slice (some ⟨gB, 0, none⟩) 4 cB] 88)
  replace PA := PA.alloc (.cells #[.float .f64 r, .slice (some ⟨gA, 0, none⟩) 4 cA, .slice (some ⟨gB, 0, none⟩) 4 cB] 88)
  replace QA := QA.alloc (.cells #[.float .f64 r, .slice (some ⟨gA, 0, none⟩) 4 cA, .slice (some ⟨gB, 0, none⟩) 4 cB] 88)
  replace LA := LA.alloc (.cells #[.float .f64 r, .slice (some ⟨gA, 0, none⟩) 4 cA, .slice (some ⟨gB, 0, none⟩) 4 cB] 88)
  replace AA := AA.alloc (.cells #[.float .f64 r, .slice (some ⟨gA, 0, none⟩) 4 cA, .slice (some ⟨gB, 0, none⟩) 4 cB] 88)
  generalize hwd : w1.alloc (.cells #[.float .f64 r, .slice (some ⟨gA, 0, none⟩) 4 cA, .slice (some ⟨gB, 0, none⟩) 4 cB] 88) = w2 at HC PA QA LA AA NA ⊢
  clear hwd
  generalize hNN : w1.heap.size = N at NA ⊢
  clear hNN
  go_upto_region 3 with fail
  have lN := NA.lt
  have lP := PA.lt
  have lQ := QA.lt
  have lL := LA.lt
  have lA := AA.lt
  have lW := HC.out.size
  generalize hwd : World.alloc _ _ = w3
  have ZA : At w3 w2.heap.size (fL 4607182418800017408 0) := by rw [← hwd]; exact At.new2 w2 _ _ _
  replace NA := show At w3 N _ by rw [← hwd]; exact NA.alloc _
  replace PA := show At w3 w.heap.size (sL a f mid m) by rw [← hwd]; exact PA.alloc _
  replace LA := show At w3 (w.heap.size + 1) (aL lon lat) by rw [← hwd]; exact LA.alloc _
  replace QA := show At w3 (w.heap.size + 1 + 1) (wL t d u v) by rw [← hwd]; exact QA.alloc _
  replace AA := show At w3 gA (rL a0 a1 a2 a3) by rw [← hwd]; exact AA.alloc _
  replace HC : Gr w w3 := by rw [← hwd]; exact HC.alloc _
  clear hwd
  generalize hZZ : w2.heap.size = Z at ZA lN lP lQ lL lA lW ⊢
  clear hZZ
  have nN : ¬ Z = N := by omega
  have nP : ¬ Z = w.heap.size := by omega
  have nQ : ¬ Z = w.heap.size + 1 + 1 := by omega
  have nL : ¬ Z = w.heap.size + 1 := by omega
  have nA : ¬ Z = gA := by omega
  clear lN lP lQ lL lA
  go_wp2
  go_loopw [10] (fun j wr => ∃ (k x y : Nat), k ≤ 4 ∧ j = .int .i64 ((k : Int) + 1) ∧ GW (ripK rcR (some oneW) u oV (slO (rA n)) k) x ∧ GW (ripK rcI (some 0) u oV (slO (rA n)) k) y ∧ At wr Z (fL x y) ∧ At wr N [.float .f64 r, .slice (some ⟨gA, 0, none⟩) 4 cA, .slice (some ⟨gB, 0, none⟩) 4 cB] ∧ At wr gA (fRow [a0, a1, a2, a3]) ∧ At wr w.heap.size (sL a f mid m) ∧ At wr (w.heap.size + 1 + 1) (wL t d u v) ∧ At wr (w.heap.size + 1) (aL lon lat) ∧ Gr w wr) (fun j _ => (5 - intOf j).toNat)
  case atStart => exact ⟨0, 4607182418800017408, 0, by omega, rfl, ⟨rfl, by decide⟩, ⟨rfl, by decide⟩, ZA, NA, AA, PA, QA, LA, HC⟩
  case round =>
    clear ZA NA AA PA QA LA HC
    obtain ⟨k, x, y, hk, rfl, hx, hy, ZA, NA, AA, PA, QA, LA, HC⟩ := hrel
    by_cases h4 : k = 4
    · subst h4
      obtain ⟨z0, z1⟩ := ZA.c2
      obtain ⟨n0, n1, n2⟩ := NA.c3
      go_wp2_with fail
      refine (plusO _ _ _ _ _ _ (gm _ _ _ _ _ hx.1 hx.1).1 hy.1 hy.1 _).mono ?_
      rintro e v1 ⟨q1, rfl, hq1, hB⟩
      replace HC : Gr w v1 := Gr.step (HC.drewN _) hB
      replace ZA := At.below hB (ZA.drewN _)
      replace NA := At.below hB (NA.drewN _)
      replace PA := At.below hB (PA.drewN _)
      replace QA := At.below hB (QA.drewN _)
      replace LA := At.below hB (LA.drewN _)
      clear hB AA z0 z1 n0 n1 n2
      go_wp2_with fail
      refine (sqrtO _ _ hq1.1 _).mono ?_
      rintro e v2 ⟨hm1, kk, rfl, hhm, rfl⟩
      replace hhm : GW (hyO (ripK rcR (some oneW) u oV (slO (rA n)) 4) (ripK rcI (some 0) u oV (slO (rA n)) 4)) hm1 := hhm
      replace HC := HC.drewN kk
      replace ZA := ZA.drewN kk
      replace NA := NA.drewN kk
      replace PA := PA.drewN kk
      replace QA := QA.drewN kk
      replace LA := LA.drewN kk
      generalize v1.drewN kk = v2 at HC ZA NA PA QA LA ⊢
      obtain ⟨d0, d1, d2, d3⟩ := QA.c4
      obtain ⟨l0, l1⟩ := LA.c2
      go_wp2_with fail
      refine (sinCos_any _ _).mono ?_
      rintro e v3 ⟨rfl, rfl⟩
      obtain ⟨sd, hsd⟩ : ∃ s, sinV (nrm d) = s := ⟨_, rfl⟩
      obtain ⟨cd, hcd⟩ : ∃ c, cosV (nrm d) = c := ⟨_, rfl⟩
      rw [hsd, hcd]
      have HSD := hid hsd
      have HCD := hid hcd
      clear hsd hcd
      go_wp2_with fail
      refine (sinCos_any _ _).mono ?_
      rintro e v4 ⟨rfl, rfl⟩
      obtain ⟨cl, hcl⟩ : ∃ c, cosV (nrm lat) = c := ⟨_, rfl⟩
      rw [hcl]
      have HCL := hid hcl
      clear hcl
      generalize sinV (nrm lat) = sl
      go_wp2_with fail
      generalize hq2 : mF t t v4 = q2
      have gq2 : GW (oM oT oT) q2 := by rw [← hq2]; exact gm _ _ _ _ _ ht.1 ht.1
      clear hq2
      refine (plusO _ _ _ _ _ _ gq2.1 (gsm cd) (gsm cd) _).mono ?_
      rintro e v5 ⟨q3, rfl, hq3, hB⟩
      replace HC : Gr w v5 := Gr.step (HC.drewN _) hB
      replace ZA := At.below hB (ZA.drewN _)
      replace NA := At.below hB (NA.drewN _)
      replace PA := At.below hB (PA.drewN _)
      replace QA := At.below hB (QA.drewN _)
      replace LA := At.below hB (LA.drewN _)
      clear hB d0 d1 d2 d3 l0 l1
      go_wp2_with fail
      refine (sqrtO _ _ hq3.1 _).mono ?_
      rintro e v6 ⟨rt, kk2, rfl, hrt, rfl⟩
      replace hrt : GW (hyO oT (some cd)) rt := hrt
      replace HC := HC.drewN kk2
      replace ZA := ZA.drewN kk2
      replace NA := NA.drewN kk2
      replace PA := PA.drewN kk2
      replace QA := QA.drewN kk2
      replace LA := LA.drewN kk2
      generalize v5.drewN kk2 = v6 at HC ZA NA PA QA LA ⊢
      obtain ⟨n0, n1, n2⟩ := NA.c3
      obtain ⟨p0, p1, p2, p3⟩ := PA.c4
      obtain ⟨l0, l1⟩ := LA.c2
      go_wp2_with fail
      generalize hq4 : mF r m v6 = q4
      have gq4 : GW (srO a n m) q4 := by rw [← hq4]; exact gm _ _ _ _ _ hr.1 (gsm m)
      clear hq4
      refine (crossOf_any _ _ _ hf _).mono ?_
      rintro e v7 ⟨rc, rfl, hcr, hB⟩
      generalize hq5 : mF q4 hm1 _ = q5
      have gq5 : GW (oM (srO a n m) (hyO (ripK rcR (some oneW) u oV (slO (rA n)) 4) (ripK rcI (some 0) u oV (slO (rA n)) 4))) q5 := by rw [← hq5]; exact gm _ _ _ _ _ gq4.1 hhm.1
      clear hq5
      replace HC : Gr w v7 := Gr.step (by ((with_reducible repeat' (first | assumption | refine Gr.drew ?_ | refine Gr.drewN ?_ _ | refine Gr.alloc ?_ _ | refine Gr.set ?_ (by first | omega | (simp; omega)) _ _ | exact Gr.refl _)); done)) hB
      replace ZA : At v7 Z (fL x y) := At.below hB (by ((with_reducible repeat' (first | assumption | exact At.new1 _ _ _ | exact At.new2 _ _ _ _ | exact At.new3 _ _ _ _ _ | exact At.new5 _ _ _ _ _ _ _ | exact At.nx1 _ _ _ | exact At.nx2 _ _ _ _ | exact At.nx3 _ _ _ _ _ | exact At.ny1 _ _ _ _ | exact At.ny2 _ _ _ _ _ | exact At.ny3 _ _ _ _ _ _ | exact At.nz1 _ _ _ _ _ | exact At.nz2 _ _ _ _ _ _ | exact At.nz3 _ _ _ _ _ _ _ | exact Has.new1 _ _ _ | exact Has.new2 _ _ _ _ | exact Has.new3 _ _ _ _ _ | exact Has.nx1 _ _ _ | exact Has.nx2 _ _ _ _ | exact Has.nx3 _ _ _ _ _ | exact Has.ny1 _ _ _ _ | exact Has.ny2 _ _ _ _ _ | exact Has.ny3 _ _ _ _ _ _ | exact Has.nz1 _ _ _ _ _ | exact Has.nz2 _ _ _ _ _ _ | exact Has.nz3 _ _ _ _ _ _ _ | refine At.fill1 ?_ _ | refine At.fill2 ?_ _ _ | refine At.fill3 ?_ _ _ _ | refine At.swap ?_ (by first | omega | (simp; omega)) _ _ | refine At.alloc ?_ _ | refine At.drew ?_ | refine At.drewN ?_ _ | refine At.skip ?_ (by first | omega | (simp; omega)) _ _ | refine At.below (by assumption) ?_ | refine Has.alloc ?_ _ | refine Has.drew ?_ | refine Has.drewN ?_ _ | refine Has.set ?_ _ _ _ | refine Has.below (by assumption) ?_)); done))
      replace QA : At v7 (w.heap.size + 1 + 1) (wL t d u v) := At.below hB (by ((with_reducible repeat' (first | assumption | exact At.new1 _ _ _ | exact At.new2 _ _ _ _ | exact At.new3 _ _ _ _ _ | exact At.new5 _ _ _ _ _ _ _ | exact At.nx1 _ _ _ | exact At.nx2 _ _ _ _ | exact At.nx3 _ _ _ _ _ | exact At.ny1 _ _ _ _ | exact At.ny2 _ _ _ _ _ | exact At.ny3 _ _ _ _ _ _ | exact At.nz1 _ _ _ _ _ | exact At.nz2 _ _ _ _ _ _ | exact At.nz3 _ _ _ _ _ _ _ | exact Has.new1 _ _ _ | exact Has.new2 _ _ _ _ | exact Has.new3 _ _ _ _ _ | exact Has.nx1 _ _ _ | exact Has.nx2 _ _ _ _ | exact Has.nx3 _ _ _ _ _ | exact Has.ny1 _ _ _ _ | exact Has.ny2 _ _ _ _ _ | exact Has.ny3 _ _ _ _ _ _ | exact Has.nz1 _ _ _ _ _ | exact Has.nz2 _ _ _ _ _ _ | exact Has.nz3 _ _ _ _ _ _ _ | refine At.fill1 ?_ _ | refine At.fill2 ?_ _ _ | refine At.fill3 ?_ _ _ _ | refine At.swap ?_ (by first | omega | (simp; omega)) _ _ | refine At.alloc ?_ _ | refine At.drew ?_ | refine At.drewN ?_ _ | refine At.skip ?_ (by first | omega | (simp; omega)) _ _ | refine At.below (by assumption) ?_ | refine Has.alloc ?_ _ | refine Has.drew ?_ | refine Has.drewN ?_ _ | refine Has.set ?_ _ _ _ | refine Has.below (by assumption) ?_)); done))
      clear hB n0 n1 n2 p0 p1 p2 p3 l0 l1 NA PA LA
      go_upto_region 17 with fail
      generalize hq6 : mF rc cl _ = q6
      have gq6 := gm _ _ _ _ v7 hcr (gsm cl)
      rw [hq6] at gq6
      clear hq6
      generalize hq7 : mF q6 rt _ = q7
      have gq7 : GW (oM (oM (crO a f (sinV (nrm lat))) (some cl)) (hyO oT (some cd))) q7 := by rw [← hq7]; exact gm _ _ _ _ _ gq6.1 hrt.1
      clear hq7
      generalize hq8 : qF q5 q7 _ = q8
      have gq8 := gq _ _ _ _ (v7.drewN (mD rc cl + mD q6 rt)) gq5.1 gq7.1
      rw [hq8] at gq8
      clear hq8
      generalize hwd : World.drewN v7 _ = v8
      replace HC : Gr w v8 := by rw [← hwd]; exact HC.drewN _
      replace ZA : At v8 Z (fL x y) := by rw [← hwd]; exact ZA.drewN _
      replace QA : At v8 (w.heap.size + 1 + 1) (wL t d u v) := by rw [← hwd]; exact QA.drewN _
      clear hwd
      go_cut [23] from 111 to 120 (fun s23 wx => s23 = .int .i64 (angC (oM oT (some sd)) (oM (oQ (oA (some oneW) (oM oT oT))) (some cd))) ∧ At wx Z (fL x y) ∧ Gr w wx)
      case first =>
        go_region_held (fun w' => w'.cell? ⟨w.heap.size + 1 + 1, 0, none⟩ = some (.float .f64 t) ∧ w'.cell? ⟨w.heap.size + 1 + 1, 1, none⟩ = some (.int .i64 d) ∧ w'.cell? ⟨w.heap.size + 1 + 1, 2, none⟩ = some (.int .i64 u) ∧ w'.cell? ⟨w.heap.size + 1 + 1, 3, none⟩ = some (.float .f64 v))
          ((refine At.c4 (a := .float .f64 t) (b := .int .i64 d) (c := .int .i64 u) (d := .float .f64 v) ?_; ((with_reducible repeat' (first | assumption | exact At.new1 _ _ _ | exact At.new2 _ _ _ _ | exact At.new3 _ _ _ _ _ | exact At.new5 _ _ _ _ _ _ _ | exact At.nx1 _ _ _ | exact At.nx2 _ _ _ _ | exact At.nx3 _ _ _ _ _ | exact At.ny1 _ _ _ _ | exact At.ny2 _ _ _ _ _ | exact At.ny3 _ _ _ _ _ _ | exact At.nz1 _ _ _ _ _ | exact At.nz2 _ _ _ _ _ _ | exact At.nz3 _ _ _ _ _ _ _ | exact Has.new1 _ _ _ | exact Has.new2 _ _ _ _ | exact Has.new3 _ _ _ _ _ | exact Has.nx1 _ _ _ | exact Has.nx2 _ _ _ _ | exact Has.nx3 _ _ _ _ _ | exact Has.ny1 _ _ _ _ | exact Has.ny2 _ _ _ _ _ | exact Has.ny3 _ _ _ _ _ _ | exact Has.nz1 _ _ _ _ _ | exact Has.nz2 _ _ _ _ _ _ | exact Has.nz3 _ _ _ _ _ _ _ | refine At.fill1 ?_ _ | refine At.fill2 ?_ _ _ | refine At.fill3 ?_ _ _ _ | refine At.swap ?_ (by first | omega | (simp; omega)) _ _ | refine At.alloc ?_ _ | refine At.drew ?_ | refine At.drewN ?_ _ | refine At.skip ?_ (by first | omega | (simp; omega)) _ _ | refine At.below (by assumption) ?_ | refine Has.alloc ?_ _ | refine Has.drew ?_ | refine Has.drewN ?_ _ | refine Has.set ?_ _ _ _ | refine Has.below (by assumption) ?_)); done)))
          ((first
            | (go_at_call 40; refine (sqrtO (oA (some oneW) (oM oT oT)) _ (ga _ _ _ _ _ (gsm _) gq2.1).1 _).mono ?_; rintro e v9 ⟨rt2, kk3, rfl, hrt2, rfl⟩)
            | (go_at_call 42; refine (angR_any _ _ (gm _ _ _ _ _ ht.1 (gsm sd)).2 (gm _ _ _ _ _ hrt2.1 (gsm cd)).2 _).mono ?_; rintro e v10 ⟨rfl, hB3⟩; rw [angC_got (gm _ _ _ _ _ ht.1 (gsm sd)).1 (gm _ _ _ _ _ hrt2.1 (gsm cd)).1]; replace HC : Gr w v10 := Gr.step (by ((with_reducible repeat' (first | assumption | refine Gr.drew ?_ | refine Gr.drewN ?_ _ | refine Gr.alloc ?_ _ | refine Gr.set ?_ (by first | omega | (simp; omega)) _ _ | exact Gr.refl _)); done)) hB3; replace ZA : At v10 Z (fL x y) := At.below hB3 (by ((with_reducible repeat' (first | assumption | exact At.new1 _ _ _ | exact At.new2 _ _ _ _ | exact At.new3 _ _ _ _ _ | exact At.new5 _ _ _ _ _ _ _ | exact At.nx1 _ _ _ | exact At.nx2 _ _ _ _ | exact At.nx3 _ _ _ _ _ | exact At.ny1 _ _ _ _ | exact At.ny2 _ _ _ _ _ | exact At.ny3 _ _ _ _ _ _ | exact At.nz1 _ _ _ _ _ | exact At.nz2 _ _ _ _ _ _ | exact At.nz3 _ _ _ _ _ _ _ | exact Has.new1 _ _ _ | exact Has.new2 _ _ _ _ | exact Has.new3 _ _ _ _ _ | exact Has.nx1 _ _ _ | exact Has.nx2 _ _ _ _ | exact Has.nx3 _ _ _ _ _ | exact Has.ny1 _ _ _ _ | exact Has.ny2 _ _ _ _ _ | exact Has.ny3 _ _ _ _ _ _ | exact Has.nz1 _ _ _ _ _ | exact Has.nz2 _ _ _ _ _ _ | exact Has.nz3 _ _ _ _ _ _ _ | refine At.fill1 ?_ _ | refine At.fill2 ?_ _ _ | refine At.fill3 ?_ _ _ _ | refine At.swap ?_ (by first | omega | (simp; omega)) _ _ | refine At.alloc ?_ _ | refine At.drew ?_ | refine At.drewN ?_ _ | refine At.skip ?_ (by first | omega | (simp; omega)) _ _ | refine At.below (by assumption) ?_ | refine Has.alloc ?_ _ | refine Has.drew ?_ | refine Has.drewN ?_ _ | refine Has.set ?_ _ _ _ | refine Has.below (by assumption) ?_)); done)); replace QA : At v10 (w.heap.size + 1 + 1) (wL t d u v) := At.below hB3 (by ((with_reducible repeat' (first | assumption | exact At.new1 _ _ _ | exact At.new2 _ _ _ _ | exact At.new3 _ _ _ _ _ | exact At.new5 _ _ _ _ _ _ _ | exact At.nx1 _ _ _ | exact At.nx2 _ _ _ _ | exact At.nx3 _ _ _ _ _ | exact At.ny1 _ _ _ _ | exact At.ny2 _ _ _ _ _ | exact At.ny3 _ _ _ _ _ _ | exact At.nz1 _ _ _ _ _ | exact At.nz2 _ _ _ _ _ _ | exact At.nz3 _ _ _ _ _ _ _ | exact Has.new1 _ _ _ | exact Has.new2 _ _ _ _ | exact Has.new3 _ _ _ _ _ | exact Has.nx1 _ _ _ | exact Has.nx2 _ _ _ _ | exact Has.nx3 _ _ _ _ _ | exact Has.ny1 _ _ _ _ | exact Has.ny2 _ _ _ _ _ | exact Has.ny3 _ _ _ _ _ _ | exact Has.nz1 _ _ _ _ _ | exact Has.nz2 _ _ _ _ _ _ | exact Has.nz3 _ _ _ _ _ _ _ | refine At.fill1 ?_ _ | refine At.fill2 ?_ _ _ | refine At.fill3 ?_ _ _ _ | refine At.swap ?_ (by first | omega | (simp; omega)) _ _ | refine At.alloc ?_ _ | refine At.drew ?_ | refine At.drewN ?_ _ | refine At.skip ?_ (by first | omega | (simp; omega)) _ _ | refine At.below (by assumption) ?_ | refine Has.alloc ?_ _ | refine Has.drew ?_ | refine Has.drewN ?_ _ | refine Has.set ?_ _ _ _ | refine Has.below (by assumption) ?_)); done)); clear hB3)))
        all_goals
          go_wp2_with fail
          go_meet
          exact ⟨rfl, by ((with_reducible repeat' (first | assumption | exact At.new1 _ _ _ | exact At.new2 _ _ _ _ | exact At.new3 _ _ _ _ _ | exact At.new5 _ _ _ _ _ _ _ | exact At.nx1 _ _ _ | exact At.nx2 _ _ _ _ | exact At.nx3 _ _ _ _ _ | exact At.ny1 _ _ _ _ | exact At.ny2 _ _ _ _ _ | exact At.ny3 _ _ _ _ _ _ | exact At.nz1 _ _ _ _ _ | exact At.nz2 _ _ _ _ _ _ | exact At.nz3 _ _ _ _ _ _ _ | exact Has.new1 _ _ _ | exact Has.new2 _ _ _ _ | exact Has.new3 _ _ _ _ _ | exact Has.nx1 _ _ _ | exact Has.nx2 _ _ _ _ | exact Has.nx3 _ _ _ _ _ | exact Has.ny1 _ _ _ _ | exact Has.ny2 _ _ _ _ _ | exact Has.ny3 _ _ _ _ _ _ | exact Has.nz1 _ _ _ _ _ | exact Has.nz2 _ _ _ _ _ _ | exact Has.nz3 _ _ _ _ _ _ _ | refine At.fill1 ?_ _ | refine At.fill2 ?_ _ _ | refine At.fill3 ?_ _ _ _ | refine At.swap ?_ (by first | omega | (simp; omega)) _ _ | refine At.alloc ?_ _ | refine At.drew ?_ | refine At.drewN ?_ _ | refine At.skip ?_ (by first | omega | (simp; omega)) _ _ | refine At.below (by assumption) ?_ | refine Has.alloc ?_ _ | refine Has.drew ?_ | refine Has.drewN ?_ _ | refine Has.set ?_ _ _ _ | refine Has.below (by assumption) ?_)); done), by ((with_reducible repeat' (first | assumption | refine Gr.drew ?_ | refine Gr.drewN ?_ _ | refine Gr.alloc ?_ _ | refine Gr.set ?_ (by first | omega | (simp; omega)) _ _ | exact Gr.refl _)); done)⟩
      case rest =>
        clear ZA HC QA
        obtain ⟨rfl, ZA, HC⟩ := hcut
        generalize ho1 : angC (oM oT (some sd)) (oM (oQ (oA (some oneW) (oM oT oT))) (some cd)) = one
        have hob : 0 ≤ one ∧ one ≤ 360000000000 := by rw [← ho1]; exact angC_bd _ _
        have HO1 := hid ho1
        clear ho1
        obtain ⟨z0, z1⟩ := ZA.c2
        go_wp2_with fail
        refine (angR_any _ _ hy.2 hx.2 _).mono ?_
        rintro e v11 ⟨rfl, hB3⟩
        rw [angC_got hy.1 hx.1]
        replace HC : Gr w v11 := Gr.step HC hB3
        clear hB3
        generalize ho2 : angC _ _ = two
        have htb : 0 ≤ two ∧ two ≤ 360000000000 := by rw [← ho2]; exact angC_bd _ _
        have HO2 := hid ho2
        clear ho2
        have hwr : IntKind.i64.wrap (one - two) = one - two := by simp [IntKind.wrap, IntKind.signed, IntKind.bits]; omega
        clear hob htb
        go_wp2_with fail
        refine (signedAngle_any _ _).mono ?_
        rintro e v12 ⟨rfl, rfl⟩
        go_wp2
        go_ret2
        rw [HSD.out, HCD.out, HCL.out, HO1.out, HO2.out]
        exact ⟨_, rfl, gq8, HC⟩
    · obtain ⟨j, hj⟩ : ∃ j : Int, j = (k : Int) + 1 := ⟨_, rfl⟩
      rw [← hj]
      have j1 : 1 ≤ j := by omega
      have j2 : j ≤ 4 := by omega
      have e1 : IntKind.i64.wrap (2 * j) = 2 * j := by simp [IntKind.wrap, IntKind.signed, IntKind.bits]; omega
      have e2 : IntKind.i64.wrap (j - 1) = (k : Int) := by simp [IntKind.wrap, IntKind.signed, IntKind.bits]; omega
      have hkn : (k : Int) < 4 := by omega
      have e4 : IntKind.i64.wrap (j + 1) = ((k + 1 : Nat) : Int) + 1 := by simp [IntKind.wrap, IntKind.signed, IntKind.bits]; omega
      obtain ⟨uk, e3⟩ : ∃ p, IntKind.i64.wrap (2 * j * u) = p := ⟨_, rfl⟩
      have E3 : Hid (Go.Proofs.YtinopkmcddjgdaaGreatDoor.wr ((2 * ((k : Int) + 1)) * u) = uk) := by rw [← hj]; exact e3
      have HJ := hid hj
      clear hj
      obtain ⟨d0, d1, d2, d3⟩ := QA.c4
      go_wp2_with fail
      refine (sineOf_any uk (vkO (2 * j) oV) _ (gm _ _ _ _ _ (gsm _) HV.out) _).mono ?_
      rintro e v1 ⟨sr, si, cr, ci, rfl, hsr, hsi, hcr, hci, hB⟩
      replace HC : Gr w v1 := Gr.step (by ((with_reducible repeat' (first | assumption | refine Gr.drew ?_ | refine Gr.drewN ?_ _ | refine Gr.alloc ?_ _ | refine Gr.set ?_ (by first | omega | (simp; omega)) _ _ | exact Gr.refl _)); done)) hB
      replace ZA : At v1 Z (fL x y) := At.below hB (by ((with_reducible repeat' (first | assumption | exact At.new1 _ _ _ | exact At.new2 _ _ _ _ | exact At.new3 _ _ _ _ _ | exact At.new5 _ _ _ _ _ _ _ | exact At.nx1 _ _ _ | exact At.nx2 _ _ _ _ | exact At.nx3 _ _ _ _ _ | exact At.ny1 _ _ _ _ | exact At.ny2 _ _ _ _ _ | exact At.ny3 _ _ _ _ _ _ | exact At.nz1 _ _ _ _ _ | exact At.nz2 _ _ _ _ _ _ | exact At.nz3 _ _ _ _ _ _ _ | exact Has.new1 _ _ _ | exact Has.new2 _ _ _ _ | exact Has.new3 _ _ _ _ _ | exact Has.nx1 _ _ _ | exact Has.nx2 _ _ _ _ | exact Has.nx3 _ _ _ _ _ | exact Has.ny1 _ _ _ _ | exact Has.ny2 _ _ _ _ _ | exact Has.ny3 _ _ _ _ _ _ | exact Has.nz1 _ _ _ _ _ | exact Has.nz2 _ _ _ _ _ _ | exact Has.nz3 _ _ _ _ _ _ _ | refine At.fill1 ?_ _ | refine At.fill2 ?_ _ _ | refine At.fill3 ?_ _ _ _ | refine At.swap ?_ (by first | omega | (simp; omega)) _ _ | refine At.alloc ?_ _ | refine At.drew ?_ | refine At.drewN ?_ _ | refine At.skip ?_ (by first | omega | (simp; omega)) _ _ | refine At.below (by assumption) ?_ | refine Has.alloc ?_ _ | refine Has.drew ?_ | refine Has.drewN ?_ _ | refine Has.set ?_ _ _ _ | refine Has.below (by assumption) ?_)); done))
      replace NA := At.below hB (NA.drewN _)
      replace AA := At.below hB (AA.drewN _)
      replace PA := At.below hB (PA.drewN _)
      replace QA := At.below hB (QA.drewN _)
      replace LA := At.below hB (LA.drewN _)
      clear hB d0 d1 d2 d3 hsr hsi
      go_upto_region 8 with fail
      have lZ := ZA.lt
      have SA : At ((v1.alloc (.cells #[.float .f64 sr, .float .f64 si] 91)).alloc (.cells #[.float .f64 cr, .float .f64 ci] 91)) (v1.heap.size + 1) (fL cr ci) := At.nx2 _ _ _ _
      replace ZA := (ZA.alloc (.cells #[.float .f64 sr, .float .f64 si] 91)).alloc (.cells #[.float .f64 cr, .float .f64 ci] 91)
      replace NA := (NA.alloc (.cells #[.float .f64 sr, .float .f64 si] 91)).alloc (.cells #[.float .f64 cr, .float .f64 ci] 91)
      replace AA := (AA.alloc (.cells #[.float .f64 sr, .float .f64 si] 91)).alloc (.cells #[.float .f64 cr, .float .f64 ci] 91)
      replace PA := (PA.alloc (.cells #[.float .f64 sr, .float .f64 si] 91)).alloc (.cells #[.float .f64 cr, .float .f64 ci] 91)
      replace QA := (QA.alloc (.cells #[.float .f64 sr, .float .f64 si] 91)).alloc (.cells #[.float .f64 cr, .float .f64 ci] 91)
      replace LA := (LA.alloc (.cells #[.float .f64 sr, .float .f64 si] 91)).alloc (.cells #[.float .f64 cr, .float .f64 ci] 91)
      replace HC := (HC.alloc (.cells #[.float .f64 sr, .float .f64 si] 91)).alloc (.cells #[.float .f64 cr, .float .f64 ci] 91)
      generalize hwd : (v1.alloc (.cells #[.float .f64 sr, .float .f64 si] 91)).alloc (.cells #[.float .f64 cr, .float .f64 ci] 91) = v2 at SA ZA NA AA PA QA LA HC ⊢
      clear hwd
      generalize hSS : v1.heap.size = S at SA lZ ⊢
      clear hSS
      have nS : ¬ Z = S + 1 := by omega
      have hkl : k < [a0, a1, a2, a3].length := by simp; omega
      have ck := fRow_cell AA hkl
      have hak := hA.get hkl
      generalize [a0, a1, a2, a3][k] = ak at ck hak
      obtain ⟨z0, z1⟩ := ZA.c2
      obtain ⟨y0, y1⟩ := ZA.f2
      obtain ⟨s0, s1⟩ := SA.c2
      obtain ⟨n0, n1, n2⟩ := NA.c3
      have HP := hid (fun W ww => plusC_any _ _ _ _ _ _ _ _ _ _ hx.1 hy.1 (gm _ _ _ _ W (gsm (floatOfInt .f64 (2 * j))) hak.1).1 hcr.1 hci.1 ww)
      go_region_law ((go_simp; go_at_call 46; refine (HP.out _ _).mono ?_; rintro e v3 ⟨x', y', rfl, hx', hy', hB⟩; replace HC : Gr w v3 := Gr.step (by ((with_reducible repeat' (first | assumption | refine Gr.drew ?_ | refine Gr.drewN ?_ _ | refine Gr.alloc ?_ _ | refine Gr.set ?_ (by first | omega | (simp; omega)) _ _ | exact Gr.refl _)); done)) hB; replace ZA : At v3 Z (fL x y) := At.below hB (by ((with_reducible repeat' (first | assumption | exact At.new1 _ _ _ | exact At.new2 _ _ _ _ | exact At.new3 _ _ _ _ _ | exact At.new5 _ _ _ _ _ _ _ | exact At.nx1 _ _ _ | exact At.nx2 _ _ _ _ | exact At.nx3 _ _ _ _ _ | exact At.ny1 _ _ _ _ | exact At.ny2 _ _ _ _ _ | exact At.ny3 _ _ _ _ _ _ | exact At.nz1 _ _ _ _ _ | exact At.nz2 _ _ _ _ _ _ | exact At.nz3 _ _ _ _ _ _ _ | exact Has.new1 _ _ _ | exact Has.new2 _ _ _ _ | exact Has.new3 _ _ _ _ _ | exact Has.nx1 _ _ _ | exact Has.nx2 _ _ _ _ | exact Has.nx3 _ _ _ _ _ | exact Has.ny1 _ _ _ _ | exact Has.ny2 _ _ _ _ _ | exact Has.ny3 _ _ _ _ _ _ | exact Has.nz1 _ _ _ _ _ | exact Has.nz2 _ _ _ _ _ _ | exact Has.nz3 _ _ _ _ _ _ _ | refine At.fill1 ?_ _ | refine At.fill2 ?_ _ _ | refine At.fill3 ?_ _ _ _ | refine At.swap ?_ (by first | omega | (simp; omega)) _ _ | refine At.alloc ?_ _ | refine At.drew ?_ | refine At.drewN ?_ _ | refine At.skip ?_ (by first | omega | (simp; omega)) _ _ | refine At.below (by assumption) ?_ | refine Has.alloc ?_ _ | refine Has.drew ?_ | refine Has.drewN ?_ _ | refine Has.set ?_ _ _ _ | refine Has.below (by assumption) ?_)); done)); replace NA : At v3 N [.float .f64 r, .slice (some ⟨gA, 0, none⟩) 4 cA, .slice (some ⟨gB, 0, none⟩) 4 cB] := At.below hB (by ((with_reducible repeat' (first | assumption | exact At.new1 _ _ _ | exact At.new2 _ _ _ _ | exact At.new3 _ _ _ _ _ | exact At.new5 _ _ _ _ _ _ _ | exact At.nx1 _ _ _ | exact At.nx2 _ _ _ _ | exact At.nx3 _ _ _ _ _ | exact At.ny1 _ _ _ _ | exact At.ny2 _ _ _ _ _ | exact At.ny3 _ _ _ _ _ _ | exact At.nz1 _ _ _ _ _ | exact At.nz2 _ _ _ _ _ _ | exact At.nz3 _ _ _ _ _ _ _ | exact Has.new1 _ _ _ | exact Has.new2 _ _ _ _ | exact Has.new3 _ _ _ _ _ | exact Has.nx1 _ _ _ | exact Has.nx2 _ _ _ _ | exact Has.nx3 _ _ _ _ _ | exact Has.ny1 _ _ _ _ | exact Has.ny2 _ _ _ _ _ | exact Has.ny3 _ _ _ _ _ _ | exact Has.nz1 _ _ _ _ _ | exact Has.nz2 _ _ _ _ _ _ | exact Has.nz3 _ _ _ _ _ _ _ | refine At.fill1 ?_ _ | refine At.fill2 ?_ _ _ | refine At.fill3 ?_ _ _ _ | refine At.swap ?_ (by first | omega | (simp; omega)) _ _ | refine At.alloc ?_ _ | refine At.drew ?_ | refine At.drewN ?_ _ | refine At.skip ?_ (by first | omega | (simp; omega)) _ _ | refine At.below (by assumption) ?_ | refine Has.alloc ?_ _ | refine Has.drew ?_ | refine Has.drewN ?_ _ | refine Has.set ?_ _ _ _ | refine Has.below (by assumption) ?_)); done)); replace AA : At v3 gA (fRow [a0, a1, a2, a3]) := At.below hB (by ((with_reducible repeat' (first | assumption | exact At.new1 _ _ _ | exact At.new2 _ _ _ _ | exact At.new3 _ _ _ _ _ | exact At.new5 _ _ _ _ _ _ _ | exact At.nx1 _ _ _ | exact At.nx2 _ _ _ _ | exact At.nx3 _ _ _ _ _ | exact At.ny1 _ _ _ _ | exact At.ny2 _ _ _ _ _ | exact At.ny3 _ _ _ _ _ _ | exact At.nz1 _ _ _ _ _ | exact At.nz2 _ _ _ _ _ _ | exact At.nz3 _ _ _ _ _ _ _ | exact Has.new1 _ _ _ | exact Has.new2 _ _ _ _ | exact Has.new3 _ _ _ _ _ | exact Has.nx1 _ _ _ | exact Has.nx2 _ _ _ _ | exact Has.nx3 _ _ _ _ _ | exact Has.ny1 _ _ _ _ | exact Has.ny2 _ _ _ _ _ | exact Has.ny3 _ _ _ _ _ _ | exact Has.nz1 _ _ _ _ _ | exact Has.nz2 _ _ _ _ _ _ | exact Has.nz3 _ _ _ _ _ _ _ | refine At.fill1 ?_ _ | refine At.fill2 ?_ _ _ | refine At.fill3 ?_ _ _ _ | refine At.swap ?_ (by first | omega | (simp; omega)) _ _ | refine At.alloc ?_ _ | refine At.drew ?_ | refine At.drewN ?_ _ | refine At.skip ?_ (by first | omega | (simp; omega)) _ _ | refine At.below (by assumption) ?_ | refine Has.alloc ?_ _ | refine Has.drew ?_ | refine Has.drewN ?_ _ | refine Has.set ?_ _ _ _ | refine Has.below (by assumption) ?_)); done)); replace PA : At v3 w.heap.size (sL a f mid m) := At.below hB (by ((with_reducible repeat' (first | assumption | exact At.new1 _ _ _ | exact At.new2 _ _ _ _ | exact At.new3 _ _ _ _ _ | exact At.new5 _ _ _ _ _ _ _ | exact At.nx1 _ _ _ | exact At.nx2 _ _ _ _ | exact At.nx3 _ _ _ _ _ | exact At.ny1 _ _ _ _ | exact At.ny2 _ _ _ _ _ | exact At.ny3 _ _ _ _ _ _ | exact At.nz1 _ _ _ _ _ | exact At.nz2 _ _ _ _ _ _ | exact At.nz3 _ _ _ _ _ _ _ | exact Has.new1 _ _ _ | exact Has.new2 _ _ _ _ | exact Has.new3 _ _ _ _ _ | exact Has.nx1 _ _ _ | exact Has.nx2 _ _ _ _ | exact Has.nx3 _ _ _ _ _ | exact Has.ny1 _ _ _ _ | exact Has.ny2 _ _ _ _ _ | exact Has.ny3 _ _ _ _ _ _ | exact Has.nz1 _ _ _ _ _ | exact Has.nz2 _ _ _ _ _ _ | exact Has.nz3 _ _ _ _ _ _ _ | refine At.fill1 ?_ _ | refine At.fill2 ?_ _ _ | refine At.fill3 ?_ _ _ _ | refine At.swap ?_ (by first | omega | (simp; omega)) _ _ | refine At.alloc ?_ _ | refine At.drew ?_ | refine At.drewN ?_ _ | refine At.skip ?_ (by first | omega | (simp; omega)) _ _ | refine At.below (by assumption) ?_ | refine Has.alloc ?_ _ | refine Has.drew ?_ | refine Has.drewN ?_ _ | refine Has.set ?_ _ _ _ | refine Has.below (by assumption) ?_)); done)); replace QA : At v3 (w.heap.size + 1 + 1) (wL t d u v) := At.below hB (by ((with_reducible repeat' (first | assumption | exact At.new1 _ _ _ | exact At.new2 _ _ _ _ | exact At.new3 _ _ _ _ _ | exact At.new5 _ _ _ _ _ _ _ | exact At.nx1 _ _ _ | exact At.nx2 _ _ _ _ | exact At.nx3 _ _ _ _ _ | exact At.ny1 _ _ _ _ | exact At.ny2 _ _ _ _ _ | exact At.ny3 _ _ _ _ _ _ | exact At.nz1 _ _ _ _ _ | exact At.nz2 _ _ _ _ _ _ | exact At.nz3 _ _ _ _ _ _ _ | exact Has.new1 _ _ _ | exact Has.new2 _ _ _ _ | exact Has.new3 _ _ _ _ _ | exact Has.nx1 _ _ _ | exact Has.nx2 _ _ _ _ | exact Has.nx3 _ _ _ _ _ | exact Has.ny1 _ _ _ _ | exact Has.ny2 _ _ _ _ _ | exact Has.ny3 _ _ _ _ _ _ | exact Has.nz1 _ _ _ _ _ | exact Has.nz2 _ _ _ _ _ _ | exact Has.nz3 _ _ _ _ _ _ _ | refine At.fill1 ?_ _ | refine At.fill2 ?_ _ _ | refine At.fill3 ?_ _ _ _ | refine At.swap ?_ (by first | omega | (simp; omega)) _ _ | refine At.alloc ?_ _ | refine At.drew ?_ | refine At.drewN ?_ _ | refine At.skip ?_ (by first | omega | (simp; omega)) _ _ | refine At.below (by assumption) ?_ | refine Has.alloc ?_ _ | refine Has.drew ?_ | refine Has.drewN ?_ _ | refine Has.set ?_ _ _ _ | refine Has.below (by assumption) ?_)); done)); replace LA : At v3 (w.heap.size + 1) (aL lon lat) := At.below hB (by ((with_reducible repeat' (first | assumption | exact At.new1 _ _ _ | exact At.new2 _ _ _ _ | exact At.new3 _ _ _ _ _ | exact At.new5 _ _ _ _ _ _ _ | exact At.nx1 _ _ _ | exact At.nx2 _ _ _ _ | exact At.nx3 _ _ _ _ _ | exact At.ny1 _ _ _ _ | exact At.ny2 _ _ _ _ _ | exact At.ny3 _ _ _ _ _ _ | exact At.nz1 _ _ _ _ _ | exact At.nz2 _ _ _ _ _ _ | exact At.nz3 _ _ _ _ _ _ _ | exact Has.new1 _ _ _ | exact Has.new2 _ _ _ _ | exact Has.new3 _ _ _ _ _ | exact Has.nx1 _ _ _ | exact Has.nx2 _ _ _ _ | exact Has.nx3 _ _ _ _ _ | exact Has.ny1 _ _ _ _ | exact Has.ny2 _ _ _ _ _ | exact Has.ny3 _ _ _ _ _ _ | exact Has.nz1 _ _ _ _ _ | exact Has.nz2 _ _ _ _ _ _ | exact Has.nz3 _ _ _ _ _ _ _ | refine At.fill1 ?_ _ | refine At.fill2 ?_ _ _ | refine At.fill3 ?_ _ _ _ | refine At.swap ?_ (by first | omega | (simp; omega)) _ _ | refine At.alloc ?_ _ | refine At.drew ?_ | refine At.drewN ?_ _ | refine At.skip ?_ (by first | omega | (simp; omega)) _ _ | refine At.below (by assumption) ?_ | refine Has.alloc ?_ _ | refine Has.drew ?_ | refine Has.drewN ?_ _ | refine Has.set ?_ _ _ _ | refine Has.below (by assumption) ?_)); done)); clear hB z0 z1 y0 y1 s0 s1 n0 n1 n2; obtain ⟨z0, z1⟩ := ZA.c2; obtain ⟨y0, y1⟩ := ZA.f2))
      all_goals
        go_wp2_with fail
        go_roundw
        case rel =>
          refine ⟨k + 1, x', y', by omega, rfl, ?_, ?_, At.fill2 (ZA.has rfl) _ _, (NA.skip nN _ _).skip nN _ _, (AA.skip nA _ _).skip nA _ _, (PA.skip nP _ _).skip nP _ _, (QA.skip nQ _ _).skip nQ _ _, (LA.skip nL _ _).skip nL _ _, (HC.set lW _ _).set lW _ _⟩
          · show GW (oA _ (oM _ (rcR (Go.Proofs.YtinopkmcddjgdaaGreatDoor.wr (2 * ((k : Int) + 1) * u)) (vkO (2 * ((k : Int) + 1)) oV)))) x'
            rw [E3.out, slO_get _ (by omega), ← HJ.out]
            exact hx'
          · show GW (oA _ (oM _ (rcI (Go.Proofs.YtinopkmcddjgdaaGreatDoor.wr (2 * ((k : Int) + 1) * u)) (vkO (2 * ((k : Int) + 1)) oV)))) y'
            rw [E3.out, slO_get _ (by omega), ← HJ.out]
            exact hy'
        case measure => have := HJ.out; simp [intOf]; omega
end Go.Proofs.YtinopkmcddjgdaaGreatDoor
