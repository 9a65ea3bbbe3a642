/-
  mercatorref2: OffStrip.
-/
import Derived.Test.YtinopkmcddjgdaaGreatDoorQWvK
import Derived.Test.YtinopkmcddjgdaaGreatDoorQWvX
import Derived.Test.YtinopkmcddjgdaaGreatDoorQFfQ
import Derived.Test.YtinopkmcddjgdaaGreatDoorQFfB
import Derived.Deep.RegionLaw
namespace Go.Proofs.YtinopkmcddjgdaaGreatDoor
open Go.RowKit FB
attribute [local go_sem] run_store_float

theorem wiO_got2 {o : Option Nat} {r r' : Nat} (h : Got o r) (h' : Got o r') (x : Nat) : inB (Op.negFloat .f64 r) r' x = wiO o x := by
  cases o with
  | none =>
    unfold inB leB
    have : Ieee.double.order x r' = none := order_nan_r h'
    show (geB x _ && (Ieee.double.order x r' == some Ordering.lt || Ieee.double.order x r' == some Ordering.eq)) = false
    rw [this]; simp
  | some q =>
    obtain rfl : r = q := h
    obtain rfl : r' = r := h'
    rfl
theorem ngO_get (s : Four) {k : Nat} (hk : k < 4) : (ngO s).get k = oN (s.get k) := by
  match k, hk with
  | 0, _ => rfl
  | 1, _ => rfl
  | 2, _ => rfl
  | 3, _ => rfl
noncomputable def rzR (a n m x y : Nat) : Option Nat := ripO rsR (upR a n m y) (uR a n m y) (upR a n m x) (ngO (rB n))
noncomputable def rzI (a n m x y : Nat) : Option Nat := ripO rsI (upR a n m x) (uR a n m y) (upR a n m x) (ngO (rB n))
noncomputable def eaR (zR zI : Option Nat) : Int := sgn (angC (kO zI) (some (cosV (nrm (wO zR)))))
noncomputable def isR (zR zI : Option Nat) : Option Nat := unO (oD (some (sinV (nrm (wO zR)))) (hyO (kO zI) (some (cosV (nrm (wO zR))))))
set_option maxHeartbeats 8000000 in
theorem offStrip_ok (a f n m x y : Nat) (mid : Int) (hf : Le 1021 f) (hn : nO f = some n) (hp : fcodeS a f n m x y = 0) (w : World) : Calls Tryz.prog 18 #[sV a f mid m, fV x y] w fun e w' => e = .returned (.tuple #[plV (sgn (nrm mid + eaR (rzR a n m x y) (rzI a n m x y))) (laP f (isR (rzR a n m x y) (rzI a n m x y))), .int .i64 0]) ∧ Gr w w' := by
  obtain ⟨mF, aF, sF, qF, mD, aD, sD, qD, hm, ha, hss, hq, gm, ga, gs, gq⟩ := ops
  have hng := hnegA
  have hs0 : scode a f m = 0 := by
    unfold fcodeS at hp
    by_cases h : scode a f m = 0
    · exact h
    · rw [if_neg h] at hp; exact absurd hp h
  have hon : onS a n m x y = true := by
    unfold fcodeS at hp
    rw [if_pos hs0] at hp
    cases h : onS a n m x y with
    | true => rfl
    | false => rw [h] at hp; cases hp
  unfold onS at hon
  rw [Bool.and_eq_true] at hon
  obtain ⟨ho1, ho2⟩ := hon
  have HO1 := hid ho1
  have HO2 := hid ho2
  have HK := hid (fun w => stripError_any a f m mid w)
  rw [hs0] at HK
  have HS := hid (fun w => numbersOf_any a f n hn w)
  clear hp hn hs0 ho1 ho2
  obtain ⟨lo, hlo⟩ : ∃ l, sgn (nrm mid + eaR (rzR a n m x y) (rzI a n m x y)) = l := ⟨_, rfl⟩
  obtain ⟨la, hla⟩ : ∃ l, laP f (isR (rzR a n m x y) (rzI a n m x y)) = l := ⟨_, rfl⟩
  rw [hlo, hla]
  unfold eaR rzR rzI wO uR upR at hlo
  unfold laP isR rzR rzI wO uR upR at hla
  rw [← ripK_four, ← ripK_four] at hlo hla
  have HLO := hid hlo
  have HLA := hid hla
  clear hlo hla
  go_enter Tryz.func18, Tryz.ntmps18
  go_wp2_with fail
  refine (HK.out _).mono ?_
  rintro e w0 ⟨rfl, hB⟩
  have PA : At w0 w.heap.size (sL a f mid m) := At.below hB (((At.new4 w _ _ _ _ _).alloc _).alloc _)
  have QA : At w0 (w.heap.size + 1) (fL x y) := At.below hB (by ((with_reducible repeat' (first | assumption | exact At.new1 _ _ _ | exact At.new2 _ _ _ _ | exact At.new3 _ _ _ _ _ | exact At.new5 _ _ _ _ _ _ _ | exact At.nx1 _ _ _ | exact At.nx2 _ _ _ _ | exact At.nx3 _ _ _ _ _ | exact At.ny1 _ _ _ _ | exact At.ny2 _ _ _ _ _ | exact At.ny3 _ _ _ _ _ _ | exact At.nz1 _ _ _ _ _ | exact At.nz2 _ _ _ _ _ _ | exact At.nz3 _ _ _ _ _ _ _ | exact Has.new1 _ _ _ | exact Has.new2 _ _ _ _ | exact Has.new3 _ _ _ _ _ | exact Has.nx1 _ _ _ | exact Has.nx2 _ _ _ _ | exact Has.nx3 _ _ _ _ _ | exact Has.ny1 _ _ _ _ | exact Has.ny2 _ _ _ _ _ | exact Has.ny3 _ _ _ _ _ _ | exact Has.nz1 _ _ _ _ _ | exact Has.nz2 _ _ _ _ _ _ | exact Has.nz3 _ _ _ _ _ _ _ | refine At.fill1 ?_ _ | refine At.fill2 ?_ _ _ | refine At.fill3 ?_ _ _ _ | refine At.swap ?_ (by first | omega | (simp; omega)) _ _ | refine At.alloc ?_ _ | refine At.drew ?_ | refine At.drewN ?_ _ | refine At.skip ?_ (by first | omega | (simp; omega)) _ _ | refine At.below (by assumption) ?_ | refine Has.alloc ?_ _ | refine Has.drew ?_ | refine Has.drewN ?_ _ | refine Has.set ?_ _ _ _ | refine Has.below (by assumption) ?_)); done))
  have RA : At w0 (w.heap.size + 1 + 1) (aL 0 0) := At.below hB (by ((with_reducible repeat' (first | assumption | exact At.new1 _ _ _ | exact At.new2 _ _ _ _ | exact At.new3 _ _ _ _ _ | exact At.new5 _ _ _ _ _ _ _ | exact At.nx1 _ _ _ | exact At.nx2 _ _ _ _ | exact At.nx3 _ _ _ _ _ | exact At.ny1 _ _ _ _ | exact At.ny2 _ _ _ _ _ | exact At.ny3 _ _ _ _ _ _ | exact At.nz1 _ _ _ _ _ | exact At.nz2 _ _ _ _ _ _ | exact At.nz3 _ _ _ _ _ _ _ | exact Has.new1 _ _ _ | exact Has.new2 _ _ _ _ | exact Has.new3 _ _ _ _ _ | exact Has.nx1 _ _ _ | exact Has.nx2 _ _ _ _ | exact Has.nx3 _ _ _ _ _ | exact Has.ny1 _ _ _ _ | exact Has.ny2 _ _ _ _ _ | exact Has.ny3 _ _ _ _ _ _ | exact Has.nz1 _ _ _ _ _ | exact Has.nz2 _ _ _ _ _ _ | exact Has.nz3 _ _ _ _ _ _ _ | refine At.fill1 ?_ _ | refine At.fill2 ?_ _ _ | refine At.fill3 ?_ _ _ _ | refine At.swap ?_ (by first | omega | (simp; omega)) _ _ | refine At.alloc ?_ _ | refine At.drew ?_ | refine At.drewN ?_ _ | refine At.skip ?_ (by first | omega | (simp; omega)) _ _ | refine At.below (by assumption) ?_ | refine Has.alloc ?_ _ | refine Has.drew ?_ | refine Has.drewN ?_ _ | refine Has.set ?_ _ _ _ | refine Has.below (by assumption) ?_)); done))
  have HC : Gr w w0 := Gr.step (by ((with_reducible repeat' (first | assumption | refine Gr.drew ?_ | refine Gr.drewN ?_ _ | refine Gr.alloc ?_ _ | refine Gr.set ?_ (by first | omega | (simp; omega)) _ _ | exact Gr.refl _)); done)) hB
  clear hB HK
  obtain ⟨p0, p1, p2, p3⟩ := PA.c4
  go_wp2_with fail
  refine (HS.out _).mono ?_
  rintro e w1 ⟨r, a0, a1, a2, a3, b0, b1, b2, b3, gA, cA, gB, cB, rfl, hcA, hcB, hr, hA, hBf, AA, BA, hB⟩
  replace HC : Gr w w1 := Gr.step HC hB
  replace PA := At.below hB PA
  replace QA := At.below hB QA
  replace RA := At.below hB RA
  clear hB HS AA hA a0 a1 a2 a3 p0 p1 p2 p3
  go_upto_region 5 with fail
  have NA : At (w1.alloc (.cells #[.float .f64 r, .slice (some ⟨gA, 0, none⟩) 4 cA, .slice (some ⟨gB, 0, none⟩) 4 cB] 88)) w1.heap.size [.float .f64 r, .slice (some ⟨gA, 0, none⟩) 4 cA, .slice (some ⟨gB, 0, none⟩) 4 cB] := At.new3 _ _ _ _ _
  replace HC := HC.alloc (.cells #[.float .f64 r, .slice (some ⟨gA, 0, none⟩) 4 cA, .slice (some ⟨gB, 0, none⟩) 4 cB] 88)
  replace PA := PA.alloc (.cells #[.float .f64 r, .slice (some ⟨gA, 0, none⟩) 4 cA, .slice (some ⟨gB, 0, none⟩) 4 cB] 88)
  replace QA := QA.alloc (.cells #[.float .f64 r, .slice (some ⟨gA, 0, none⟩) 4 cA, .slice (some ⟨gB, 0, none⟩) 4 cB] 88)
  replace RA := RA.alloc (.cells #[.float .f64 r, .slice (some ⟨gA, 0, none⟩) 4 cA, .slice (some ⟨gB, 0, none⟩) 4 cB] 88)
  replace BA := BA.alloc (.cells #[.float .f64 r, .slice (some ⟨gA, 0, none⟩) 4 cA, .slice (some ⟨gB, 0, none⟩) 4 cB] 88)
  generalize hwd : w1.alloc (.cells #[.float .f64 r, .slice (some ⟨gA, 0, none⟩) 4 cA, .slice (some ⟨gB, 0, none⟩) 4 cB] 88) = w2 at HC PA QA RA BA NA ⊢
  clear hwd
  generalize hNN : w1.heap.size = N at NA ⊢
  clear hNN
  obtain ⟨p0, p1, p2, p3⟩ := PA.c4
  obtain ⟨q0, q1⟩ := QA.c2
  obtain ⟨n0, n1, n2⟩ := NA.c3
  go_wp2_with fail
  generalize hrr1 : mF r m w2 = rr
  have hrr : GW (srO a n m) rr := by rw [← hrr1]; exact gm _ _ _ _ _ hr.1 (gsm m)
  clear hrr1
  refine (between_any _ _ _ _).mono ?_
  rintro e w3 ⟨rfl, rfl⟩
  rw [wiO_got hrr.1, HO1.out]
  go_wp2_with fail
  refine (between_any _ _ _ _).mono ?_
  rintro e w4 ⟨rfl, rfl⟩
  rw [wiO_got2 (gm _ _ _ _ _ (gsm _) hrr.1).1 (gm _ _ _ _ _ (gsm _) hrr.1).1, HO2.out]
  clear p0 p1 p2 p3 q0 q1 n0 n1 n2
  go_upto_region 10 with fail
  generalize hwd : w2.drewN (mD r m + mD 4609884578576439706 rr + mD 4609884578576439706 rr) = v0
  replace HC : Gr w v0 := by rw [← hwd]; exact HC.drewN _
  replace BA : At v0 gB (rL b0 b1 b2 b3) := by rw [← hwd]; exact BA.drewN _
  replace PA : At v0 w.heap.size (sL a f mid m) := by rw [← hwd]; exact PA.drewN _
  replace QA : At v0 (w.heap.size + 1) (fL x y) := by rw [← hwd]; exact QA.drewN _
  replace RA : At v0 (w.heap.size + 1 + 1) (aL 0 0) := by rw [← hwd]; exact RA.drewN _
  replace NA : At v0 N [.float .f64 r, .slice (some ⟨gA, 0, none⟩) 4 cA, .slice (some ⟨gB, 0, none⟩) 4 cB] := by rw [← hwd]; exact NA.drewN _
  clear hwd
  have za : ∀ k, At ((v0.drewN k).alloc (.cells #[.float .f64 0, .float .f64 0] 91)) v0.heap.size (fL 0 0) := fun k => At.new2 (v0.drewN k) _ _ _
  have za0 := fun k => (za k).c2.1
  have za1 := fun k => (za k).c2.2
  have zf0 := fun k => (za k).f2.1
  have zf1 := fun k => (za k).f2.2
  clear za
  obtain ⟨q0, q1⟩ := QA.c2
  go_upto_region 11 with fail
  clear za0 za1 zf0 zf1 q0 q1 QA
  have hyr := gq _ _ _ _ v0 (gsm y) hrr.1
  have hxr := gq _ _ _ _ (v0.drewN (qD y rr)) (gsm x) hrr.1
  generalize qF y rr v0 = yr at hyr ⊢
  generalize qF x rr (v0.drewN (qD y rr)) = xr at hxr ⊢
  generalize qD y rr + qD x rr = q2
  have lN := NA.lt
  have lP := PA.lt
  have lR := RA.lt
  have lB := BA.lt
  have lW := HC.out.size
  generalize hwd : World.setCell (World.setCell _ _ _) _ _ = w5
  have ZA : At w5 v0.heap.size (fL yr xr) := by rw [← hwd]; exact At.fill2 (Has.new2 (v0.drewN q2) _ _ _) _ _
  replace NA := show At w5 N [.float .f64 r, .slice (some ⟨gA, 0, none⟩) 4 cA, .slice (some ⟨gB, 0, none⟩) 4 cB] by rw [← hwd]; exact (((NA.drewN _).alloc _).skip (by omega) _ _).skip (by omega) _ _
  replace PA := show At w5 w.heap.size (sL a f mid m) by rw [← hwd]; exact (((PA.drewN _).alloc _).skip (by omega) _ _).skip (by omega) _ _
  replace RA := show At w5 (w.heap.size + 1 + 1) (aL 0 0) by rw [← hwd]; exact (((RA.drewN _).alloc _).skip (by omega) _ _).skip (by omega) _ _
  replace BA := show At w5 gB (rL b0 b1 b2 b3) by rw [← hwd]; exact (((BA.drewN _).alloc _).skip (by omega) _ _).skip (by omega) _ _
  replace HC : Gr w w5 := by rw [← hwd]; exact (((HC.drewN _).alloc _).set (by omega) _ _).set (by omega) _ _
  clear hwd
  generalize hZZ : v0.heap.size = Z at ZA lN lP lR lB lW ⊢
  clear hZZ q2
  have nN : ¬ Z = N := by omega
  have nP : ¬ Z = w.heap.size := by omega
  have nR : ¬ Z = w.heap.size + 1 + 1 := by omega
  have nB : ¬ Z = gB := by omega
  clear lN lP lR lB
  generalize srO a n m = oR at hrr hyr hxr HLO HLA
  generalize oD (some y) oR = oU at hyr HLO HLA
  generalize oD (some x) oR = oV at hxr HLO HLA
  obtain ⟨u, hu⟩ : ∃ u, nrI (oD oU (some radW)) = u := ⟨_, rfl⟩
  rw [hu] at HLO HLA
  have HUU := hid hu
  clear hu
  obtain ⟨z0, z1⟩ := ZA.c2
  go_wp2_with fail
  refine (nearestTo_any _ _ hyr.1 _).mono ?_
  rintro e w6 ⟨rfl, hB⟩
  rw [HUU.out]
  replace HC : Gr w w6 := Gr.step HC hB
  replace NA := At.below hB NA
  replace PA := At.below hB PA
  replace RA := At.below hB RA
  replace BA := At.below hB BA
  replace ZA := At.below hB ZA
  clear hB z0 z1 HUU
  obtain ⟨z0, z1⟩ := ZA.c2
  generalize rB n = sB at hBf HLO HLA
  go_wp2
  clear z0 z1
  go_loopw [14] (fun j wr => ∃ (k x y : Nat), k ≤ 4 ∧ j = .int .i64 ((k : Int) + 1) ∧ GW (ripK rsR oU u oV (ngO sB) k) x ∧ GW (ripK rsI oV u oV (ngO sB) k) y ∧ At wr Z (fL x y) ∧ At wr N [.float .f64 r, .slice (some ⟨gA, 0, none⟩) 4 cA, .slice (some ⟨gB, 0, none⟩) 4 cB] ∧ At wr gB (fRow [b0, b1, b2, b3]) ∧ At wr w.heap.size (sL a f mid m) ∧ At wr (w.heap.size + 1 + 1) (aL 0 0) ∧ Gr w wr) (fun j _ => (5 - intOf j).toNat)
  case atStart => exact ⟨0, yr, xr, by omega, rfl, hyr, hxr, ZA, NA, BA, PA, RA, HC⟩
  case round =>
    clear ZA NA BA PA RA HC
    obtain ⟨k, zx, zy, hk, rfl, hx, hy, ZA, NA, BA, PA, RA, HC⟩ := hrel
    by_cases h4 : k = 4
    · subst h4
      generalize ripK rsR oU u oV (ngO sB) 4 = oZ at hx HLO HLA
      generalize ripK rsI oV u oV (ngO sB) 4 = oI at hy HLO HLA
      clear hBf hyr hxr hrr hr
      obtain ⟨z0, z1⟩ := ZA.c2
      go_wp2_with fail
      refine (expRw _ _ hy _).mono ?_
      rintro e v1 ⟨p, rfl, hp, hB⟩
      replace HC : Gr w v1 := Gr.step HC hB
      replace ZA := At.below hB ZA
      replace PA := At.below hB PA
      replace RA := At.below hB RA
      clear hB z0 z1 NA BA
      go_upto_region 20 with fail
      generalize hx1 : qF 4607182418800017408 p _ = x1
      have gx1 : GW (oD (some oneW) (oXw oI)) x1 := by rw [← hx1]; exact gq _ _ _ _ _ (gsm _) hp
      clear hx1
      generalize hx2 : sF p x1 _ = x2
      have gx2 : GW (oS (oXw oI) (oD (some oneW) (oXw oI))) x2 := by rw [← hx2]; exact gs _ _ _ _ _ hp gx1.1
      clear hx2
      generalize hx3 : qF x2 4611686018427387904 _ = kk
      have hkk : GW (kO oI) kk := by rw [← hx3]; exact gq _ _ _ _ _ gx2.1 (gsm _)
      clear hx3
      generalize hwd : World.drewN v1 _ = v2
      replace HC : Gr w v2 := by rw [← hwd]; exact HC.drewN _
      replace ZA : At v2 Z (fL zx zy) := by rw [← hwd]; exact ZA.drewN _
      replace PA : At v2 w.heap.size (sL a f mid m) := by rw [← hwd]; exact PA.drewN _
      replace RA : At v2 (w.heap.size + 1 + 1) (aL 0 0) := by rw [← hwd]; exact RA.drewN _
      clear hwd gx1 gx2 hp
      generalize kO oI = oK at hkk HLO HLA
      obtain ⟨z0, z1⟩ := ZA.c2
      go_wp2_with fail
      refine (nearestTo_any _ _ hx.1 _).mono ?_
      rintro e v3 ⟨rfl, hB⟩
      obtain ⟨wI, hwI⟩ : ∃ u, nrI (oD oZ (some radW)) = u := ⟨_, rfl⟩
      rw [hwI]
      rw [hwI] at HLO HLA
      clear hwI
      replace HC : Gr w v3 := Gr.step HC hB
      replace PA := At.below hB PA
      replace RA := At.below hB RA
      clear hB z0 z1 ZA
      go_wp2_with fail
      refine (sinCos_any _ _).mono ?_
      rintro e v4 ⟨rfl, rfl⟩
      have hcl : cosV (nrm wI) < 18446744073709551616 := by
        obtain ⟨k0, k1⟩ := nrm_lt wI
        exact (sinV_le (nrm wI) k0 k1).2.1
      generalize cosV (nrm wI) = c at hcl HLO HLA ⊢
      generalize sinV (nrm wI) = sn at HLA ⊢
      go_wp2_with fail
      refine (plusO _ _ _ _ _ _ (gm _ _ _ _ _ hkk.1 hkk.1).1 (gsm c) (gsm c) _).mono ?_
      rintro e v5 ⟨q1, rfl, hq1, hB⟩
      replace HC : Gr w v5 := Gr.step (HC.drewN _) hB
      replace PA := At.below hB (PA.drewN _)
      replace RA := At.below hB (RA.drewN _)
      clear hB
      go_wp2_with fail
      refine (sqrtO _ _ hq1.1 _).mono ?_
      rintro e v6 ⟨rt, kn, rfl, hrt, rfl⟩
      replace hrt : GW (hyO oK (some c)) rt := hrt
      replace HC := HC.drewN kn
      replace PA := PA.drewN kn
      replace RA := RA.drewN kn
      generalize v5.drewN kn = v6 at HC PA RA ⊢
      go_wp2_with fail
      refine (angR_any _ _ hkk.2 hcl _).mono ?_
      rintro e v7 ⟨rfl, hB⟩
      rw [angC_got hkk.1 (show Got (some c) c from rfl)]
      replace HC : Gr w v7 := Gr.step HC hB
      replace PA := At.below hB PA
      replace RA := At.below hB RA
      clear hB
      go_wp2_with fail
      refine (signedAngle_any _ _).mono ?_
      rintro e v8 ⟨rfl, rfl⟩
      have hw2 : IntKind.i64.wrap (nrm mid + sgn (angC oK (some c))) = nrm mid + sgn (angC oK (some c)) := wrap_mid (by
        have h1 := nrm_lt (angC oK (some c))
        unfold sgn
        split <;> omega)
      generalize sgn (angC oK (some c)) = ea at hw2 HLO ⊢
      obtain ⟨r0, r1⟩ := RA.c2
      obtain ⟨f0, f1⟩ := RA.f2
      go_upto_region 24 with fail
      go_region_held (fun w' => w'.cell? ⟨w.heap.size, 0, none⟩ = some (.float .f64 a) ∧ w'.cell? ⟨w.heap.size, 1, none⟩ = some (.float .f64 f) ∧ w'.cell? ⟨w.heap.size, 2, none⟩ = some (.int .i64 mid) ∧ w'.cell? ⟨w.heap.size, 3, none⟩ = some (.float .f64 m))
        ((refine At.c4 (a := .float .f64 a) (b := .float .f64 f) (c := .int .i64 mid) (d := .float .f64 m) ?_; ((with_reducible repeat' (first | assumption | exact At.new1 _ _ _ | exact At.new2 _ _ _ _ | exact At.new3 _ _ _ _ _ | exact At.new5 _ _ _ _ _ _ _ | exact At.nx1 _ _ _ | exact At.nx2 _ _ _ _ | exact At.nx3 _ _ _ _ _ | exact At.ny1 _ _ _ _ | exact At.ny2 _ _ _ _ _ | exact At.ny3 _ _ _ _ _ _ | exact At.nz1 _ _ _ _ _ | exact At.nz2 _ _ _ _ _ _ | exact At.nz3 _ _ _ _ _ _ _ | exact Has.new1 _ _ _ | exact Has.new2 _ _ _ _ | exact Has.new3 _ _ _ _ _ | exact Has.nx1 _ _ _ | exact Has.nx2 _ _ _ _ | exact Has.nx3 _ _ _ _ _ | exact Has.ny1 _ _ _ _ | exact Has.ny2 _ _ _ _ _ | exact Has.ny3 _ _ _ _ _ _ | exact Has.nz1 _ _ _ _ _ | exact Has.nz2 _ _ _ _ _ _ | exact Has.nz3 _ _ _ _ _ _ _ | refine At.fill1 ?_ _ | refine At.fill2 ?_ _ _ | refine At.fill3 ?_ _ _ _ | refine At.swap ?_ (by first | omega | (simp; omega)) _ _ | refine At.alloc ?_ _ | refine At.drew ?_ | refine At.drewN ?_ _ | refine At.skip ?_ (by first | omega | (simp; omega)) _ _ | refine At.below (by assumption) ?_ | refine Has.alloc ?_ _ | refine Has.drew ?_ | refine Has.drewN ?_ _ | refine Has.set ?_ _ _ _ | refine Has.below (by assumption) ?_)); done)))
        ((first
          | (go_at_call 35; refine (normOf_any _ _).mono ?_; rintro e x3 ⟨rfl, rfl⟩)
          | (go_at_call 36; refine (signedAngle_any _ _).mono ?_; rintro e x4 ⟨rfl, rfl⟩; rw [HLO.out])
          | (go_at_call 43; refine (sinhBack_any _ _ (gq _ _ _ _ _ (gsm sn) hrt.1) _).mono ?_; rintro e x5 ⟨iso, rfl, hiso, hB3⟩; replace HC : Gr w x5 := Gr.step (by ((with_reducible repeat' (first | assumption | refine Gr.drew ?_ | refine Gr.drewN ?_ _ | refine Gr.alloc ?_ _ | refine Gr.set ?_ (by first | omega | (simp; omega)) _ _ | exact Gr.refl _)); done)) hB3; replace PA : At x5 w.heap.size (sL a f mid m) := At.below hB3 (by ((with_reducible repeat' (first | assumption | exact At.new1 _ _ _ | exact At.new2 _ _ _ _ | exact At.new3 _ _ _ _ _ | exact At.new5 _ _ _ _ _ _ _ | exact At.nx1 _ _ _ | exact At.nx2 _ _ _ _ | exact At.nx3 _ _ _ _ _ | exact At.ny1 _ _ _ _ | exact At.ny2 _ _ _ _ _ | exact At.ny3 _ _ _ _ _ _ | exact At.nz1 _ _ _ _ _ | exact At.nz2 _ _ _ _ _ _ | exact At.nz3 _ _ _ _ _ _ _ | exact Has.new1 _ _ _ | exact Has.new2 _ _ _ _ | exact Has.new3 _ _ _ _ _ | exact Has.nx1 _ _ _ | exact Has.nx2 _ _ _ _ | exact Has.nx3 _ _ _ _ _ | exact Has.ny1 _ _ _ _ | exact Has.ny2 _ _ _ _ _ | exact Has.ny3 _ _ _ _ _ _ | exact Has.nz1 _ _ _ _ _ | exact Has.nz2 _ _ _ _ _ _ | exact Has.nz3 _ _ _ _ _ _ _ | refine At.fill1 ?_ _ | refine At.fill2 ?_ _ _ | refine At.fill3 ?_ _ _ _ | refine At.swap ?_ (by first | omega | (simp; omega)) _ _ | refine At.alloc ?_ _ | refine At.drew ?_ | refine At.drewN ?_ _ | refine At.skip ?_ (by first | omega | (simp; omega)) _ _ | refine At.below (by assumption) ?_ | refine Has.alloc ?_ _ | refine Has.drew ?_ | refine Has.drewN ?_ _ | refine Has.set ?_ _ _ _ | refine Has.below (by assumption) ?_)); done)); replace RA : At x5 (w.heap.size + 1 + 1) (aL 0 0) := At.below hB3 (by ((with_reducible repeat' (first | assumption | exact At.new1 _ _ _ | exact At.new2 _ _ _ _ | exact At.new3 _ _ _ _ _ | exact At.new5 _ _ _ _ _ _ _ | exact At.nx1 _ _ _ | exact At.nx2 _ _ _ _ | exact At.nx3 _ _ _ _ _ | exact At.ny1 _ _ _ _ | exact At.ny2 _ _ _ _ _ | exact At.ny3 _ _ _ _ _ _ | exact At.nz1 _ _ _ _ _ | exact At.nz2 _ _ _ _ _ _ | exact At.nz3 _ _ _ _ _ _ _ | exact Has.new1 _ _ _ | exact Has.new2 _ _ _ _ | exact Has.new3 _ _ _ _ _ | exact Has.nx1 _ _ _ | exact Has.nx2 _ _ _ _ | exact Has.nx3 _ _ _ _ _ | exact Has.ny1 _ _ _ _ | exact Has.ny2 _ _ _ _ _ | exact Has.ny3 _ _ _ _ _ _ | exact Has.nz1 _ _ _ _ _ | exact Has.nz2 _ _ _ _ _ _ | exact Has.nz3 _ _ _ _ _ _ _ | refine At.fill1 ?_ _ | refine At.fill2 ?_ _ _ | refine At.fill3 ?_ _ _ _ | refine At.swap ?_ (by first | omega | (simp; omega)) _ _ | refine At.alloc ?_ _ | refine At.drew ?_ | refine At.drewN ?_ _ | refine At.skip ?_ (by first | omega | (simp; omega)) _ _ | refine At.below (by assumption) ?_ | refine Has.alloc ?_ _ | refine Has.drew ?_ | refine Has.drewN ?_ _ | refine Has.set ?_ _ _ _ | refine Has.below (by assumption) ?_)); done)); clear hB3 r0 r1 f0 f1; obtain ⟨r0, r1⟩ := RA.c2; obtain ⟨f0, f1⟩ := RA.f2)
          | (go_at_call 56; refine (latOf_any a f _ _ hf hiso.1 _).mono ?_; rintro e x6 ⟨rfl, hB3⟩; rw [HLA.out]; replace HC : Gr w x6 := Gr.step (by ((with_reducible repeat' (first | assumption | refine Gr.drew ?_ | refine Gr.drewN ?_ _ | refine Gr.alloc ?_ _ | refine Gr.set ?_ (by first | omega | (simp; omega)) _ _ | exact Gr.refl _)); done)) hB3; replace PA : At x6 w.heap.size (sL a f mid m) := At.below hB3 (by ((with_reducible repeat' (first | assumption | exact At.new1 _ _ _ | exact At.new2 _ _ _ _ | exact At.new3 _ _ _ _ _ | exact At.new5 _ _ _ _ _ _ _ | exact At.nx1 _ _ _ | exact At.nx2 _ _ _ _ | exact At.nx3 _ _ _ _ _ | exact At.ny1 _ _ _ _ | exact At.ny2 _ _ _ _ _ | exact At.ny3 _ _ _ _ _ _ | exact At.nz1 _ _ _ _ _ | exact At.nz2 _ _ _ _ _ _ | exact At.nz3 _ _ _ _ _ _ _ | exact Has.new1 _ _ _ | exact Has.new2 _ _ _ _ | exact Has.new3 _ _ _ _ _ | exact Has.nx1 _ _ _ | exact Has.nx2 _ _ _ _ | exact Has.nx3 _ _ _ _ _ | exact Has.ny1 _ _ _ _ | exact Has.ny2 _ _ _ _ _ | exact Has.ny3 _ _ _ _ _ _ | exact Has.nz1 _ _ _ _ _ | exact Has.nz2 _ _ _ _ _ _ | exact Has.nz3 _ _ _ _ _ _ _ | refine At.fill1 ?_ _ | refine At.fill2 ?_ _ _ | refine At.fill3 ?_ _ _ _ | refine At.swap ?_ (by first | omega | (simp; omega)) _ _ | refine At.alloc ?_ _ | refine At.drew ?_ | refine At.drewN ?_ _ | refine At.skip ?_ (by first | omega | (simp; omega)) _ _ | refine At.below (by assumption) ?_ | refine Has.alloc ?_ _ | refine Has.drew ?_ | refine Has.drewN ?_ _ | refine Has.set ?_ _ _ _ | refine Has.below (by assumption) ?_)); done)); replace RA : At x6 (w.heap.size + 1 + 1) (aL 0 0) := At.below hB3 (by ((with_reducible repeat' (first | assumption | exact At.new1 _ _ _ | exact At.new2 _ _ _ _ | exact At.new3 _ _ _ _ _ | exact At.new5 _ _ _ _ _ _ _ | exact At.nx1 _ _ _ | exact At.nx2 _ _ _ _ | exact At.nx3 _ _ _ _ _ | exact At.ny1 _ _ _ _ | exact At.ny2 _ _ _ _ _ | exact At.ny3 _ _ _ _ _ _ | exact At.nz1 _ _ _ _ _ | exact At.nz2 _ _ _ _ _ _ | exact At.nz3 _ _ _ _ _ _ _ | exact Has.new1 _ _ _ | exact Has.new2 _ _ _ _ | exact Has.new3 _ _ _ _ _ | exact Has.nx1 _ _ _ | exact Has.nx2 _ _ _ _ | exact Has.nx3 _ _ _ _ _ | exact Has.ny1 _ _ _ _ | exact Has.ny2 _ _ _ _ _ | exact Has.ny3 _ _ _ _ _ _ | exact Has.nz1 _ _ _ _ _ | exact Has.nz2 _ _ _ _ _ _ | exact Has.nz3 _ _ _ _ _ _ _ | refine At.fill1 ?_ _ | refine At.fill2 ?_ _ _ | refine At.fill3 ?_ _ _ _ | refine At.swap ?_ (by first | omega | (simp; omega)) _ _ | refine At.alloc ?_ _ | refine At.drew ?_ | refine At.drewN ?_ _ | refine At.skip ?_ (by first | omega | (simp; omega)) _ _ | refine At.below (by assumption) ?_ | refine Has.alloc ?_ _ | refine Has.drew ?_ | refine Has.drewN ?_ _ | refine Has.set ?_ _ _ _ | refine Has.below (by assumption) ?_)); done)); clear hB3 r0 r1 f0 f1; obtain ⟨r0, r1⟩ := RA.c2; obtain ⟨f0, f1⟩ := RA.f2)))
      all_goals
        go_wp2
        exact bodyPost_ret (v := .tuple #[plV lo la, .int .i64 0]) (by simp [results, Tryz.results18, go_sem, r0, r1]) rfl ⟨rfl, by ((with_reducible repeat' (first | assumption | refine Gr.drew ?_ | refine Gr.drewN ?_ _ | refine Gr.alloc ?_ _ | refine Gr.set ?_ (by first | omega | (simp; omega)) _ _ | exact Gr.refl _)); done)⟩
    · obtain ⟨j, hj⟩ : ∃ j : Int, j = (k : Int) + 1 := ⟨_, rfl⟩
      rw [← hj]
      have j1 : 1 ≤ j := by omega
      have j2 : j ≤ 4 := by omega
      have e1 : IntKind.i64.wrap (2 * j) = 2 * j := by simp [IntKind.wrap, IntKind.signed, IntKind.bits]; omega
      have e2 : IntKind.i64.wrap (j - 1) = (k : Int) := by simp [IntKind.wrap, IntKind.signed, IntKind.bits]; omega
      have hkn : (k : Int) < 4 := by omega
      have e4 : IntKind.i64.wrap (j + 1) = ((k + 1 : Nat) : Int) + 1 := by simp [IntKind.wrap, IntKind.signed, IntKind.bits]; omega
      obtain ⟨uk, e3⟩ : ∃ p, IntKind.i64.wrap (2 * j * u) = p := ⟨_, rfl⟩
      have E3 : Hid (Go.Proofs.YtinopkmcddjgdaaGreatDoor.wr ((2 * ((k : Int) + 1)) * u) = uk) := by rw [← hj]; exact e3
      have HJ := hid hj
      clear hj
      go_wp2_with fail
      refine (sineOf_any uk (vkO (2 * j) oV) _ (gm _ _ _ _ _ (gsm _) hxr.1) _).mono ?_
      rintro e v1 ⟨sr, si, cr, ci, rfl, hsr, hsi, hcr, hci, hB⟩
      replace HC : Gr w v1 := Gr.step (by ((with_reducible repeat' (first | assumption | refine Gr.drew ?_ | refine Gr.drewN ?_ _ | refine Gr.alloc ?_ _ | refine Gr.set ?_ (by first | omega | (simp; omega)) _ _ | exact Gr.refl _)); done)) hB
      replace ZA : At v1 Z (fL zx zy) := At.below hB (by ((with_reducible repeat' (first | assumption | exact At.new1 _ _ _ | exact At.new2 _ _ _ _ | exact At.new3 _ _ _ _ _ | exact At.new5 _ _ _ _ _ _ _ | exact At.nx1 _ _ _ | exact At.nx2 _ _ _ _ | exact At.nx3 _ _ _ _ _ | exact At.ny1 _ _ _ _ | exact At.ny2 _ _ _ _ _ | exact At.ny3 _ _ _ _ _ _ | exact At.nz1 _ _ _ _ _ | exact At.nz2 _ _ _ _ _ _ | exact At.nz3 _ _ _ _ _ _ _ | exact Has.new1 _ _ _ | exact Has.new2 _ _ _ _ | exact Has.new3 _ _ _ _ _ | exact Has.nx1 _ _ _ | exact Has.nx2 _ _ _ _ | exact Has.nx3 _ _ _ _ _ | exact Has.ny1 _ _ _ _ | exact Has.ny2 _ _ _ _ _ | exact Has.ny3 _ _ _ _ _ _ | exact Has.nz1 _ _ _ _ _ | exact Has.nz2 _ _ _ _ _ _ | exact Has.nz3 _ _ _ _ _ _ _ | refine At.fill1 ?_ _ | refine At.fill2 ?_ _ _ | refine At.fill3 ?_ _ _ _ | refine At.swap ?_ (by first | omega | (simp; omega)) _ _ | refine At.alloc ?_ _ | refine At.drew ?_ | refine At.drewN ?_ _ | refine At.skip ?_ (by first | omega | (simp; omega)) _ _ | refine At.below (by assumption) ?_ | refine Has.alloc ?_ _ | refine Has.drew ?_ | refine Has.drewN ?_ _ | refine Has.set ?_ _ _ _ | refine Has.below (by assumption) ?_)); done))
      replace NA := At.below hB (NA.drewN _)
      replace BA := At.below hB (BA.drewN _)
      replace PA := At.below hB (PA.drewN _)
      replace RA := At.below hB (RA.drewN _)
      clear hB hcr hci
      go_upto_region 17 with fail
      have lZ := ZA.lt
      have SA : At ((v1.alloc (.cells #[.float .f64 sr, .float .f64 si] 91)).alloc (.cells #[.float .f64 cr, .float .f64 ci] 91)) v1.heap.size (fL sr si) := (At.new2 v1 _ _ _).alloc _
      replace ZA := (ZA.alloc (.cells #[.float .f64 sr, .float .f64 si] 91)).alloc (.cells #[.float .f64 cr, .float .f64 ci] 91)
      replace NA := (NA.alloc (.cells #[.float .f64 sr, .float .f64 si] 91)).alloc (.cells #[.float .f64 cr, .float .f64 ci] 91)
      replace BA := (BA.alloc (.cells #[.float .f64 sr, .float .f64 si] 91)).alloc (.cells #[.float .f64 cr, .float .f64 ci] 91)
      replace PA := (PA.alloc (.cells #[.float .f64 sr, .float .f64 si] 91)).alloc (.cells #[.float .f64 cr, .float .f64 ci] 91)
      replace RA := (RA.alloc (.cells #[.float .f64 sr, .float .f64 si] 91)).alloc (.cells #[.float .f64 cr, .float .f64 ci] 91)
      replace HC := (HC.alloc (.cells #[.float .f64 sr, .float .f64 si] 91)).alloc (.cells #[.float .f64 cr, .float .f64 ci] 91)
      generalize hwd : (v1.alloc (.cells #[.float .f64 sr, .float .f64 si] 91)).alloc (.cells #[.float .f64 cr, .float .f64 ci] 91) = v2 at SA ZA NA BA PA RA HC ⊢
      clear hwd
      generalize hSS : v1.heap.size = S at SA lZ ⊢
      clear hSS
      have nS : ¬ Z = S := by omega
      have hkl : k < [b0, b1, b2, b3].length := by simp; omega
      have ck := fRow_cell BA hkl
      have hak := hBf.get hkl
      generalize [b0, b1, b2, b3][k] = ak at ck hak
      obtain ⟨z0, z1⟩ := ZA.c2
      obtain ⟨y0, y1⟩ := ZA.f2
      obtain ⟨s0, s1⟩ := SA.c2
      obtain ⟨n0, n1, n2⟩ := NA.c3
      have HP := hid (fun ww => plusC_any _ _ _ _ _ _ _ _ _ _ hx.1 hy.1 (got_neg hak).1 hsr.1 hsi.1 ww)
      go_region_law ((go_simp; go_at_call 46; refine (HP.out _).mono ?_; rintro e v3 ⟨x', y', rfl, hx', hy', hB⟩; replace HC : Gr w v3 := Gr.step (by ((with_reducible repeat' (first | assumption | refine Gr.drew ?_ | refine Gr.drewN ?_ _ | refine Gr.alloc ?_ _ | refine Gr.set ?_ (by first | omega | (simp; omega)) _ _ | exact Gr.refl _)); done)) hB; replace ZA : At v3 Z (fL zx zy) := At.below hB (by ((with_reducible repeat' (first | assumption | exact At.new1 _ _ _ | exact At.new2 _ _ _ _ | exact At.new3 _ _ _ _ _ | exact At.new5 _ _ _ _ _ _ _ | exact At.nx1 _ _ _ | exact At.nx2 _ _ _ _ | exact At.nx3 _ _ _ _ _ | exact At.ny1 _ _ _ _ | exact At.ny2 _ _ _ _ _ | exact At.ny3 _ _ _ _ _ _ | exact At.nz1 _ _ _ _ _ | exact At.nz2 _ _ _ _ _ _ | exact At.nz3 _ _ _ _ _ _ _ | exact Has.new1 _ _ _ | exact Has.new2 _ _ _ _ | exact Has.new3 _ _ _ _ _ | exact Has.nx1 _ _ _ | exact Has.nx2 _ _ _ _ | exact Has.nx3 _ _ _ _ _ | exact Has.ny1 _ _ _ _ | exact Has.ny2 _ _ _ _ _ | exact Has.ny3 _ _ _ _ _ _ | exact Has.nz1 _ _ _ _ _ | exact Has.nz2 _ _ _ _ _ _ | exact Has.nz3 _ _ _ _ _ _ _ | refine At.fill1 ?_ _ | refine At.fill2 ?_ _ _ | refine At.fill3 ?_ _ _ _ | refine At.swap ?_ (by first | omega | (simp; omega)) _ _ | refine At.alloc ?_ _ | refine At.drew ?_ | refine At.drewN ?_ _ | refine At.skip ?_ (by first | omega | (simp; omega)) _ _ | refine At.below (by assumption) ?_ | refine Has.alloc ?_ _ | refine Has.drew ?_ | refine Has.drewN ?_ _ | refine Has.set ?_ _ _ _ | refine Has.below (by assumption) ?_)); done)); replace NA := At.below hB NA; replace BA := At.below hB BA; replace PA := At.below hB PA; replace RA := At.below hB RA; clear hB z0 z1 y0 y1 s0 s1 n0 n1 n2; obtain ⟨z0, z1⟩ := ZA.c2; obtain ⟨y0, y1⟩ := ZA.f2))
      all_goals
        go_wp2_with fail
        go_roundw
        case rel =>
          refine ⟨k + 1, x', y', by omega, rfl, ?_, ?_, At.fill2 (ZA.has rfl) _ _, (NA.skip nN _ _).skip nN _ _, (BA.skip nB _ _).skip nB _ _, (PA.skip nP _ _).skip nP _ _, (RA.skip nR _ _).skip nR _ _, (HC.set lW _ _).set lW _ _⟩
          · show GW (oA _ (oM _ (rsR (Go.Proofs.YtinopkmcddjgdaaGreatDoor.wr (2 * ((k : Int) + 1) * u)) (vkO (2 * ((k : Int) + 1)) oV)))) x'
            rw [E3.out, ngO_get _ (by omega), ← HJ.out]
            exact hx'
          · show GW (oA _ (oM _ (rsI (Go.Proofs.YtinopkmcddjgdaaGreatDoor.wr (2 * ((k : Int) + 1) * u)) (vkO (2 * ((k : Int) + 1)) oV)))) y'
            rw [E3.out, ngO_get _ (by omega), ← HJ.out]
            exact hy'
        case measure => have := HJ.out; simp [intOf]; omega
end Go.Proofs.YtinopkmcddjgdaaGreatDoor
