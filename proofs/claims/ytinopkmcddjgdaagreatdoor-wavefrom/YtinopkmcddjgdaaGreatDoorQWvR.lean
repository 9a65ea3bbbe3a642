/-
  wave.Strip: From.
-/
import Derived.Test.YtinopkmcddjgdaaGreatDoorQWvJ
import Derived.BigQuiet
import Derived.Deep.RegionLaw
namespace Go.Proofs.YtinopkmcddjgdaaGreatDoor
open Go.RowKit FB
attribute [local go_sem] run_store_float

/-- Within a bound, to both sides of 0. -/
def wiO (o : Option Nat) (x : Nat) : Bool := match o with | some r => inB (Op.negFloat .f64 r) r x | none => false
theorem wiO_got {o : Option Nat} {r : Nat} (h : Got o r) (x : Nat) : inB (Op.negFloat .f64 r) r x = wiO o x := by
  cases o with
  | none =>
    unfold inB leB
    have : Ieee.double.order x r = none := order_nan_r h
    show (geB x _ && (Ieee.double.order x r == some Ordering.lt || Ieee.double.order x r == some Ordering.eq)) = false
    rw [this]; simp
  | some q => obtain rfl : r = q := h; rfl
theorem withinW_any (o : Option Nat) (x r : Nat) (h : Got o r) (w : World) : Calls Tryz.prog 48 #[.float .f64 x, .float .f64 r] w fun e w' => e = .returned (.bool (wiO o x)) ∧ w' = w := by
  rw [← wiO_got h x]
  clear h
  have hng := hnegA
  unfold inB geB leB
  cases h1 : (FloatKind.f64.format.order x (Op.negFloat .f64 r) == some Ordering.gt || FloatKind.f64.format.order x (Op.negFloat .f64 r) == some Ordering.eq) with
  | false =>
    go_enter Tryz.func48, Tryz.ntmps48
    go_wp2
    go_ret
    exact ⟨rfl, rfl⟩
  | true =>
    cases h2 : (FloatKind.f64.format.order x r == some Ordering.lt || FloatKind.f64.format.order x r == some Ordering.eq)
    all_goals
      go_enter Tryz.func48, Tryz.ntmps48
      go_wp2
      go_ret
      exact ⟨rfl, rfl⟩
/-- Of which place a point is. -/
def ngO (s : Four) : Four := ⟨oN s.a, oN s.b, oN s.c, oN s.d⟩
def onS (a n m x y : Nat) : Bool := wiO (srO a n m) x && wiO (oM (some 4609884578576439706) (srO a n m)) y
def fcodeS (a f n m x y : Nat) : Nat := if scode a f m = 0 then (if onS a n m x y = true then 0 else 4) else scode a f m
def upR (a n m y : Nat) : Option Nat := oD (some y) (srO a n m)
def uR (a n m y : Nat) : Int := nrI (oD (upR a n m y) (some radW))
noncomputable def pzR (a n m x y : Nat) : Option Nat := ripO snR (upR a n m y) (uR a n m y) (upR a n m x) (ngO (bS n))
noncomputable def pzI (a n m x y : Nat) : Option Nat := ripO snI (upR a n m x) (uR a n m y) (upR a n m x) (ngO (bS n))
/-- The place, by the number that lies there. -/
noncomputable def wO (zR : Option Nat) : Int := nrI (oD zR (some radW))
noncomputable def eaP (zR zI : Option Nat) : Int := angC (kO zI) (some (uz (cosV (nrm (wO zR)))))
noncomputable def isP (zR zI : Option Nat) : Option Nat := unO (oD (some (uz (sinV (nrm (wO zR))))) (hyO (kO zI) (some (uz (cosV (nrm (wO zR)))))))
noncomputable def laP (f : Nat) (o : Option Nat) : Int := srch fun m' => leO (isO f m') o
abbrev plV (lon lat : Int) : Value := .agg #[.int .i64 lon, .int .i64 lat]
set_option maxHeartbeats 8000000 in
theorem sfrom_ok (g : Nat → Addr) (a f n m x y : Nat) (mid : Int) (hf : Le 1021 f) (hn : nO f = some n) (hp : fcodeS a f (uz n) m x y = 0) (w : World) (hl : Laid w g) : Calls Tryz.prog 17 #[sV a f mid m, fV x y] w fun e w' => e = .returned (.tuple #[plV (sgn (nrm mid + eaP (pzR a (uz n) m x y) (pzI a (uz n) m x y))) (laP f (isP (pzR a (uz n) m x y) (pzI a (uz n) m x y))), .nilIface]) ∧ Gr w w' := by
  obtain ⟨mF, aF, sF, qF, mD, aD, sD, qD, hm, ha, hss, hq, gm, ga, gs, gq⟩ := ops
  have hng := hnegA
  have hs0 : scode a f m = 0 := by
    unfold fcodeS at hp
    by_cases h : scode a f m = 0
    · exact h
    · rw [if_neg h] at hp; exact absurd hp h
  have hon : onS a (uz n) m x y = true := by
    unfold fcodeS at hp
    rw [if_pos hs0] at hp
    cases h : onS a (uz n) m x y with
    | true => rfl
    | false => rw [h] at hp; cases hp
  unfold onS at hon
  rw [Bool.and_eq_true] at hon
  obtain ⟨ho1, ho2⟩ := hon
  have HO1 := hid ho1
  have HO2 := hid ho2
  have HL := hid hl
  have HK := hid (fun w hl => svalid_at g a f m mid w hl)
  rw [hs0] at HK
  have HS := hid (fun w => sseries_ok a f n m mid hn (scode_ok hs0).1 w)
  clear hl hp hn hs0 ho1 ho2
  obtain ⟨lo, hlo⟩ : ∃ l, sgn (nrm mid + eaP (pzR a (uz n) m x y) (pzI a (uz n) m x y)) = l := ⟨_, rfl⟩
  obtain ⟨la, hla⟩ : ∃ l, laP f (isP (pzR a (uz n) m x y) (pzI a (uz n) m x y)) = l := ⟨_, rfl⟩
  rw [hlo, hla]
  unfold eaP pzR pzI wO uR upR at hlo
  unfold laP isP pzR pzI wO uR upR at hla
  have HLO := hid hlo
  have HLA := hid hla
  clear hlo hla
  go_enter Tryz.func17, Tryz.ntmps17
  go_wp2_with fail
  refine (HK.out _ (HL.out.below (Gr.out (by ((with_reducible repeat' (first | assumption | refine Gr.drew ?_ | refine Gr.drewN ?_ _ | refine Gr.alloc ?_ _ | refine Gr.set ?_ (by first | omega | (simp; omega)) _ _ | exact Gr.refl _)); done))))).mono ?_
  rintro e w1 ⟨rfl, hB⟩
  have PA : At w1 w.heap.size (sL a f mid m) := At.below hB (((At.new4 w _ _ _ _ _).alloc _).alloc _)
  have QA : At w1 (w.heap.size + 1) (fL x y) := At.below hB (by ((with_reducible repeat' (first | assumption | exact At.new1 _ _ _ | exact At.new2 _ _ _ _ | exact At.new3 _ _ _ _ _ | exact At.new5 _ _ _ _ _ _ _ | exact At.nx1 _ _ _ | exact At.nx2 _ _ _ _ | exact At.nx3 _ _ _ _ _ | exact At.ny1 _ _ _ _ | exact At.ny2 _ _ _ _ _ | exact At.ny3 _ _ _ _ _ _ | exact At.nz1 _ _ _ _ _ | exact At.nz2 _ _ _ _ _ _ | exact At.nz3 _ _ _ _ _ _ _ | exact Has.new1 _ _ _ | exact Has.new2 _ _ _ _ | exact Has.new3 _ _ _ _ _ | exact Has.nx1 _ _ _ | exact Has.nx2 _ _ _ _ | exact Has.nx3 _ _ _ _ _ | exact Has.ny1 _ _ _ _ | exact Has.ny2 _ _ _ _ _ | exact Has.ny3 _ _ _ _ _ _ | exact Has.nz1 _ _ _ _ _ | exact Has.nz2 _ _ _ _ _ _ | exact Has.nz3 _ _ _ _ _ _ _ | refine At.fill1 ?_ _ | refine At.fill2 ?_ _ _ | refine At.fill3 ?_ _ _ _ | refine At.swap ?_ (by first | omega | (simp; omega)) _ _ | refine At.alloc ?_ _ | refine At.drew ?_ | refine At.drewN ?_ _ | refine At.skip ?_ (by first | omega | (simp; omega)) _ _ | refine At.below (by assumption) ?_ | refine Has.alloc ?_ _ | refine Has.drew ?_ | refine Has.drewN ?_ _ | refine Has.set ?_ _ _ _ | refine Has.below (by assumption) ?_)); done))
  have RA : At w1 (w.heap.size + 1 + 1) (aL 0 0) := At.below hB (by ((with_reducible repeat' (first | assumption | exact At.new1 _ _ _ | exact At.new2 _ _ _ _ | exact At.new3 _ _ _ _ _ | exact At.new5 _ _ _ _ _ _ _ | exact At.nx1 _ _ _ | exact At.nx2 _ _ _ _ | exact At.nx3 _ _ _ _ _ | exact At.ny1 _ _ _ _ | exact At.ny2 _ _ _ _ _ | exact At.ny3 _ _ _ _ _ _ | exact At.nz1 _ _ _ _ _ | exact At.nz2 _ _ _ _ _ _ | exact At.nz3 _ _ _ _ _ _ _ | exact Has.new1 _ _ _ | exact Has.new2 _ _ _ _ | exact Has.new3 _ _ _ _ _ | exact Has.nx1 _ _ _ | exact Has.nx2 _ _ _ _ | exact Has.nx3 _ _ _ _ _ | exact Has.ny1 _ _ _ _ | exact Has.ny2 _ _ _ _ _ | exact Has.ny3 _ _ _ _ _ _ | exact Has.nz1 _ _ _ _ _ | exact Has.nz2 _ _ _ _ _ _ | exact Has.nz3 _ _ _ _ _ _ _ | refine At.fill1 ?_ _ | refine At.fill2 ?_ _ _ | refine At.fill3 ?_ _ _ _ | refine At.swap ?_ (by first | omega | (simp; omega)) _ _ | refine At.alloc ?_ _ | refine At.drew ?_ | refine At.drewN ?_ _ | refine At.skip ?_ (by first | omega | (simp; omega)) _ _ | refine At.below (by assumption) ?_ | refine Has.alloc ?_ _ | refine Has.drew ?_ | refine Has.drewN ?_ _ | refine Has.set ?_ _ _ _ | refine Has.below (by assumption) ?_)); done))
  have HC : Gr w w1 := Gr.step (by ((with_reducible repeat' (first | assumption | refine Gr.drew ?_ | refine Gr.drewN ?_ _ | refine Gr.alloc ?_ _ | refine Gr.set ?_ (by first | omega | (simp; omega)) _ _ | exact Gr.refl _)); done)) hB
  clear hB HK HL
  rw [show evOf g 0 = .nilIface from rfl]
  obtain ⟨p0, p1, p2, p3⟩ := PA.c4
  go_wp2_with fail
  refine (HS.out _).mono ?_
  rintro e w3 ⟨rr, a0, a1, a2, a3, b0, b1, b2, b3, rfl, hrr, hA, hBf, hB⟩
  replace HC : Gr w w3 := Gr.step HC hB
  replace PA := At.below hB PA
  replace QA := At.below hB QA
  replace RA := At.below hB RA
  clear hB HS p0 p1 p2 p3 hA
  go_upto_region 5 with fail
  have lP := PA.lt
  have lQ := QA.lt
  have lR := RA.lt
  have BA : At ((w3.alloc (.cells #[.float .f64 a0, .float .f64 a1, .float .f64 a2, .float .f64 a3] 69)).alloc (.cells #[.float .f64 b0, .float .f64 b1, .float .f64 b2, .float .f64 b3] 69)) (w3.heap.size + 1) (rL b0 b1 b2 b3) := by
    have := At.new4 (w3.alloc (.cells #[.float .f64 a0, .float .f64 a1, .float .f64 a2, .float .f64 a3] 69)) (.float .f64 b0) (.float .f64 b1) (.float .f64 b2) (.float .f64 b3) 69
    simpa using this
  replace HC := (HC.alloc (.cells #[.float .f64 a0, .float .f64 a1, .float .f64 a2, .float .f64 a3] 69)).alloc (.cells #[.float .f64 b0, .float .f64 b1, .float .f64 b2, .float .f64 b3] 69)
  replace PA := (PA.alloc (.cells #[.float .f64 a0, .float .f64 a1, .float .f64 a2, .float .f64 a3] 69)).alloc (.cells #[.float .f64 b0, .float .f64 b1, .float .f64 b2, .float .f64 b3] 69)
  replace QA := (QA.alloc (.cells #[.float .f64 a0, .float .f64 a1, .float .f64 a2, .float .f64 a3] 69)).alloc (.cells #[.float .f64 b0, .float .f64 b1, .float .f64 b2, .float .f64 b3] 69)
  replace RA := (RA.alloc (.cells #[.float .f64 a0, .float .f64 a1, .float .f64 a2, .float .f64 a3] 69)).alloc (.cells #[.float .f64 b0, .float .f64 b1, .float .f64 b2, .float .f64 b3] 69)
  generalize hwd : (w3.alloc (.cells #[.float .f64 a0, .float .f64 a1, .float .f64 a2, .float .f64 a3] 69)).alloc (.cells #[.float .f64 b0, .float .f64 b1, .float .f64 b2, .float .f64 b3] 69) = w4 at HC BA PA QA RA ⊢
  clear hwd
  generalize hDD : w3.heap.size = D at BA lP lQ lR ⊢
  clear hDD
  have nP : ¬ D + 1 = w.heap.size := by omega
  have nQ : ¬ D + 1 = w.heap.size + 1 := by omega
  have nR : ¬ D + 1 = w.heap.size + 1 + 1 := by omega
  have nW : w.heap.size ≤ D + 1 := by omega
  clear lP lQ lR
  obtain ⟨q0, q1⟩ := QA.c2
  go_wp2_with fail
  refine (withinW_any _ _ _ hrr.1 _).mono ?_
  rintro e w5 ⟨rfl, rfl⟩
  rw [HO1.out]
  go_wp2_with fail
  refine (withinW_any _ _ _ (gm _ _ _ _ _ (gsm _) hrr.1).1 _).mono ?_
  rintro e w6 ⟨rfl, rfl⟩
  rw [HO2.out]
  clear q0 q1
  go_upto_region 7 with fail
  generalize hwd : World.drewN w5 _ = v0
  replace HC : Gr w v0 := by rw [← hwd]; exact HC.drewN _
  replace BA : At v0 (D + 1) (rL b0 b1 b2 b3) := by rw [← hwd]; exact BA.drewN _
  replace PA : At v0 w.heap.size (sL a f mid m) := by rw [← hwd]; exact PA.drewN _
  replace QA : At v0 (w.heap.size + 1) (fL x y) := by rw [← hwd]; exact QA.drewN _
  replace RA : At v0 (w.heap.size + 1 + 1) (aL 0 0) := by rw [← hwd]; exact RA.drewN _
  clear hwd
  go_wp2_with fail
  refine wp_loop_rounds 5 ?_
  rw [rounds_succ]
  obtain ⟨r0, r1, r2, r3⟩ := BA.c4
  obtain ⟨f0, f1, f2, f3⟩ := BA.f4
  go_wp2_with fail
  clear r0 r1 r2 r3 f0 f1 f2 f3
  generalize hwd : World.setCell v0 _ _ = v1
  replace HC : Gr w v1 := by rw [← hwd]; exact HC.set nW 0 _
  replace BA : At v1 (D + 1) (rL (Op.negFloat .f64 b0) b1 b2 b3) := by rw [← hwd]; exact BA.put 0 _
  replace PA : At v1 w.heap.size (sL a f mid m) := by rw [← hwd]; exact PA.skip nP 0 _
  replace QA : At v1 (w.heap.size + 1) (fL x y) := by rw [← hwd]; exact QA.skip nQ 0 _
  replace RA : At v1 (w.heap.size + 1 + 1) (aL 0 0) := by rw [← hwd]; exact RA.skip nR 0 _
  clear hwd
  rw [rounds_succ]
  obtain ⟨r0, r1, r2, r3⟩ := BA.c4
  obtain ⟨f0, f1, f2, f3⟩ := BA.f4
  go_wp2_with fail
  clear r0 r1 r2 r3 f0 f1 f2 f3
  generalize hwd : World.setCell v1 _ _ = v2
  replace HC : Gr w v2 := by rw [← hwd]; exact HC.set nW 1 _
  replace BA : At v2 (D + 1) (rL (Op.negFloat .f64 b0) (Op.negFloat .f64 b1) b2 b3) := by rw [← hwd]; exact BA.put 1 _
  replace PA : At v2 w.heap.size (sL a f mid m) := by rw [← hwd]; exact PA.skip nP 1 _
  replace QA : At v2 (w.heap.size + 1) (fL x y) := by rw [← hwd]; exact QA.skip nQ 1 _
  replace RA : At v2 (w.heap.size + 1 + 1) (aL 0 0) := by rw [← hwd]; exact RA.skip nR 1 _
  clear hwd
  rw [rounds_succ]
  obtain ⟨r0, r1, r2, r3⟩ := BA.c4
  obtain ⟨f0, f1, f2, f3⟩ := BA.f4
  go_wp2_with fail
  clear r0 r1 r2 r3 f0 f1 f2 f3
  generalize hwd : World.setCell v2 _ _ = v3
  replace HC : Gr w v3 := by rw [← hwd]; exact HC.set nW 2 _
  replace BA : At v3 (D + 1) (rL (Op.negFloat .f64 b0) (Op.negFloat .f64 b1) (Op.negFloat .f64 b2) b3) := by rw [← hwd]; exact BA.put 2 _
  replace PA : At v3 w.heap.size (sL a f mid m) := by rw [← hwd]; exact PA.skip nP 2 _
  replace QA : At v3 (w.heap.size + 1) (fL x y) := by rw [← hwd]; exact QA.skip nQ 2 _
  replace RA : At v3 (w.heap.size + 1 + 1) (aL 0 0) := by rw [← hwd]; exact RA.skip nR 2 _
  clear hwd
  rw [rounds_succ]
  obtain ⟨r0, r1, r2, r3⟩ := BA.c4
  obtain ⟨f0, f1, f2, f3⟩ := BA.f4
  go_wp2_with fail
  clear r0 r1 r2 r3 f0 f1 f2 f3
  generalize hwd : World.setCell v3 _ _ = v4
  replace HC : Gr w v4 := by rw [← hwd]; exact HC.set nW 3 _
  replace BA : At v4 (D + 1) (rL (Op.negFloat .f64 b0) (Op.negFloat .f64 b1) (Op.negFloat .f64 b2) (Op.negFloat .f64 b3)) := by rw [← hwd]; exact BA.put 3 _
  replace PA : At v4 w.heap.size (sL a f mid m) := by rw [← hwd]; exact PA.skip nP 3 _
  replace QA : At v4 (w.heap.size + 1) (fL x y) := by rw [← hwd]; exact QA.skip nQ 3 _
  replace RA : At v4 (w.heap.size + 1 + 1) (aL 0 0) := by rw [← hwd]; exact RA.skip nR 3 _
  clear hwd
  rw [rounds_succ]
  have hBn : GF (ngO (bS (uz n))) (Op.negFloat .f64 b0) (Op.negFloat .f64 b1) (Op.negFloat .f64 b2) (Op.negFloat .f64 b3) := ⟨got_neg hBf.1, got_neg hBf.2.1, got_neg hBf.2.2.1, got_neg hBf.2.2.2⟩
  generalize Op.negFloat .f64 b0 = c0 at BA hBn
  generalize Op.negFloat .f64 b1 = c1 at BA hBn
  generalize Op.negFloat .f64 b2 = c2 at BA hBn
  generalize Op.negFloat .f64 b3 = c3 at BA hBn
  clear hBf
  go_upto_region 12 with fail
  generalize bS (uz n) = sB at hBn HLO HLA
  generalize srO a (uz n) m = oR at hrr HLO HLA
  go_cut [11, 12] from 58 to 65 (fun s11 s12 wx => ∃ p q, s11 = .float .f64 p ∧ s12 = .float .f64 q ∧ GW (oD (some y) oR) p ∧ GW (oD (some x) oR) q ∧ At wx (D + 1) (rL c0 c1 c2 c3) ∧ At wx w.heap.size (sL a f mid m) ∧ At wx (w.heap.size + 1 + 1) (aL 0 0) ∧ Gr w wx)
  case first =>
    go_region_held (fun w' => w'.cell? ⟨w.heap.size + 1, 0, none⟩ = some (.float .f64 x) ∧ w'.cell? ⟨w.heap.size + 1, 1, none⟩ = some (.float .f64 y))
      ((refine At.c2 (a := .float .f64 x) (b := .float .f64 y) ?_; ((with_reducible repeat' (first | assumption | exact At.new1 _ _ _ | exact At.new2 _ _ _ _ | exact At.new3 _ _ _ _ _ | exact At.new5 _ _ _ _ _ _ _ | exact At.nx1 _ _ _ | exact At.nx2 _ _ _ _ | exact At.nx3 _ _ _ _ _ | exact At.ny1 _ _ _ _ | exact At.ny2 _ _ _ _ _ | exact At.ny3 _ _ _ _ _ _ | exact At.nz1 _ _ _ _ _ | exact At.nz2 _ _ _ _ _ _ | exact At.nz3 _ _ _ _ _ _ _ | exact Has.new1 _ _ _ | exact Has.new2 _ _ _ _ | exact Has.new3 _ _ _ _ _ | exact Has.nx1 _ _ _ | exact Has.nx2 _ _ _ _ | exact Has.nx3 _ _ _ _ _ | exact Has.ny1 _ _ _ _ | exact Has.ny2 _ _ _ _ _ | exact Has.ny3 _ _ _ _ _ _ | exact Has.nz1 _ _ _ _ _ | exact Has.nz2 _ _ _ _ _ _ | exact Has.nz3 _ _ _ _ _ _ _ | refine At.fill1 ?_ _ | refine At.fill2 ?_ _ _ | refine At.fill3 ?_ _ _ _ | refine At.swap ?_ (by first | omega | (simp; omega)) _ _ | refine At.alloc ?_ _ | refine At.drew ?_ | refine At.drewN ?_ _ | refine At.skip ?_ (by first | omega | (simp; omega)) _ _ | refine At.below (by assumption) ?_ | refine Has.alloc ?_ _ | refine Has.drew ?_ | refine Has.drewN ?_ _ | refine Has.set ?_ _ _ _ | refine Has.below (by assumption) ?_)); done)))
      (fail)
    all_goals
      go_wp2_with fail
      go_meet
      exact ⟨_, _, rfl, rfl, gq _ _ _ _ _ (gsm _) hrr.1, gq _ _ _ _ _ (gsm _) hrr.1, by ((with_reducible repeat' (first | assumption | exact At.new1 _ _ _ | exact At.new2 _ _ _ _ | exact At.new3 _ _ _ _ _ | exact At.new5 _ _ _ _ _ _ _ | exact At.nx1 _ _ _ | exact At.nx2 _ _ _ _ | exact At.nx3 _ _ _ _ _ | exact At.ny1 _ _ _ _ | exact At.ny2 _ _ _ _ _ | exact At.ny3 _ _ _ _ _ _ | exact At.nz1 _ _ _ _ _ | exact At.nz2 _ _ _ _ _ _ | exact At.nz3 _ _ _ _ _ _ _ | exact Has.new1 _ _ _ | exact Has.new2 _ _ _ _ | exact Has.new3 _ _ _ _ _ | exact Has.nx1 _ _ _ | exact Has.nx2 _ _ _ _ | exact Has.nx3 _ _ _ _ _ | exact Has.ny1 _ _ _ _ | exact Has.ny2 _ _ _ _ _ | exact Has.ny3 _ _ _ _ _ _ | exact Has.nz1 _ _ _ _ _ | exact Has.nz2 _ _ _ _ _ _ | exact Has.nz3 _ _ _ _ _ _ _ | refine At.fill1 ?_ _ | refine At.fill2 ?_ _ _ | refine At.fill3 ?_ _ _ _ | refine At.swap ?_ (by first | omega | (simp; omega)) _ _ | refine At.alloc ?_ _ | refine At.drew ?_ | refine At.drewN ?_ _ | refine At.skip ?_ (by first | omega | (simp; omega)) _ _ | refine At.below (by assumption) ?_ | refine Has.alloc ?_ _ | refine Has.drew ?_ | refine Has.drewN ?_ _ | refine Has.set ?_ _ _ _ | refine Has.below (by assumption) ?_)); done), by ((with_reducible repeat' (first | assumption | exact At.new1 _ _ _ | exact At.new2 _ _ _ _ | exact At.new3 _ _ _ _ _ | exact At.new5 _ _ _ _ _ _ _ | exact At.nx1 _ _ _ | exact At.nx2 _ _ _ _ | exact At.nx3 _ _ _ _ _ | exact At.ny1 _ _ _ _ | exact At.ny2 _ _ _ _ _ | exact At.ny3 _ _ _ _ _ _ | exact At.nz1 _ _ _ _ _ | exact At.nz2 _ _ _ _ _ _ | exact At.nz3 _ _ _ _ _ _ _ | exact Has.new1 _ _ _ | exact Has.new2 _ _ _ _ | exact Has.new3 _ _ _ _ _ | exact Has.nx1 _ _ _ | exact Has.nx2 _ _ _ _ | exact Has.nx3 _ _ _ _ _ | exact Has.ny1 _ _ _ _ | exact Has.ny2 _ _ _ _ _ | exact Has.ny3 _ _ _ _ _ _ | exact Has.nz1 _ _ _ _ _ | exact Has.nz2 _ _ _ _ _ _ | exact Has.nz3 _ _ _ _ _ _ _ | refine At.fill1 ?_ _ | refine At.fill2 ?_ _ _ | refine At.fill3 ?_ _ _ _ | refine At.swap ?_ (by first | omega | (simp; omega)) _ _ | refine At.alloc ?_ _ | refine At.drew ?_ | refine At.drewN ?_ _ | refine At.skip ?_ (by first | omega | (simp; omega)) _ _ | refine At.below (by assumption) ?_ | refine Has.alloc ?_ _ | refine Has.drew ?_ | refine Has.drewN ?_ _ | refine Has.set ?_ _ _ _ | refine Has.below (by assumption) ?_)); done), by ((with_reducible repeat' (first | assumption | exact At.new1 _ _ _ | exact At.new2 _ _ _ _ | exact At.new3 _ _ _ _ _ | exact At.new5 _ _ _ _ _ _ _ | exact At.nx1 _ _ _ | exact At.nx2 _ _ _ _ | exact At.nx3 _ _ _ _ _ | exact At.ny1 _ _ _ _ | exact At.ny2 _ _ _ _ _ | exact At.ny3 _ _ _ _ _ _ | exact At.nz1 _ _ _ _ _ | exact At.nz2 _ _ _ _ _ _ | exact At.nz3 _ _ _ _ _ _ _ | exact Has.new1 _ _ _ | exact Has.new2 _ _ _ _ | exact Has.new3 _ _ _ _ _ | exact Has.nx1 _ _ _ | exact Has.nx2 _ _ _ _ | exact Has.nx3 _ _ _ _ _ | exact Has.ny1 _ _ _ _ | exact Has.ny2 _ _ _ _ _ | exact Has.ny3 _ _ _ _ _ _ | exact Has.nz1 _ _ _ _ _ | exact Has.nz2 _ _ _ _ _ _ | exact Has.nz3 _ _ _ _ _ _ _ | refine At.fill1 ?_ _ | refine At.fill2 ?_ _ _ | refine At.fill3 ?_ _ _ _ | refine At.swap ?_ (by first | omega | (simp; omega)) _ _ | refine At.alloc ?_ _ | refine At.drew ?_ | refine At.drewN ?_ _ | refine At.skip ?_ (by first | omega | (simp; omega)) _ _ | refine At.below (by assumption) ?_ | refine Has.alloc ?_ _ | refine Has.drew ?_ | refine Has.drewN ?_ _ | refine Has.set ?_ _ _ _ | refine Has.below (by assumption) ?_)); done), by ((with_reducible repeat' (first | assumption | refine Gr.drew ?_ | refine Gr.drewN ?_ _ | refine Gr.alloc ?_ _ | refine Gr.set ?_ (by first | omega | (simp; omega)) _ _ | exact Gr.refl _)); done)⟩
  case rest =>
    clear BA PA QA RA HC
    obtain ⟨p, q, rfl, rfl, hup, has, BA, PA, RA, HC⟩ := hcut
    generalize oD (some y) oR = oU at hup HLO HLA
    generalize oD (some x) oR = oA' at has HLO HLA
    obtain ⟨uu, huu⟩ : ∃ u, nrI (oD oU (some radW)) = u := ⟨_, rfl⟩
    rw [huu] at HLO HLA
    have HUU := hid huu
    clear huu
    go_upto_region 13 with fail
    go_cut [13] from 66 to 73 (fun s13 wx => ∃ zr zi, s13 = cV zr zi ∧ GW (ripO snR oU uu oA' (ngO sB)) zr ∧ GW (ripO snI oA' uu oA' (ngO sB)) zi ∧ At wx w.heap.size (sL a f mid m) ∧ At wx (w.heap.size + 1 + 1) (aL 0 0) ∧ Gr w wx)
    case first =>
      go_region_held (fun w' => w'.cell? ⟨D + 1, 0, none⟩ = some (.float .f64 c0) ∧ w'.cell? ⟨D + 1, 1, none⟩ = some (.float .f64 c1) ∧ w'.cell? ⟨D + 1, 2, none⟩ = some (.float .f64 c2) ∧ w'.cell? ⟨D + 1, 3, none⟩ = some (.float .f64 c3))
        ((refine At.c4 (a := .float .f64 c0) (b := .float .f64 c1) (c := .float .f64 c2) (d := .float .f64 c3) ?_; ((with_reducible repeat' (first | assumption | exact At.new1 _ _ _ | exact At.new2 _ _ _ _ | exact At.new3 _ _ _ _ _ | exact At.new5 _ _ _ _ _ _ _ | exact At.nx1 _ _ _ | exact At.nx2 _ _ _ _ | exact At.nx3 _ _ _ _ _ | exact At.ny1 _ _ _ _ | exact At.ny2 _ _ _ _ _ | exact At.ny3 _ _ _ _ _ _ | exact At.nz1 _ _ _ _ _ | exact At.nz2 _ _ _ _ _ _ | exact At.nz3 _ _ _ _ _ _ _ | exact Has.new1 _ _ _ | exact Has.new2 _ _ _ _ | exact Has.new3 _ _ _ _ _ | exact Has.nx1 _ _ _ | exact Has.nx2 _ _ _ _ | exact Has.nx3 _ _ _ _ _ | exact Has.ny1 _ _ _ _ | exact Has.ny2 _ _ _ _ _ | exact Has.ny3 _ _ _ _ _ _ | exact Has.nz1 _ _ _ _ _ | exact Has.nz2 _ _ _ _ _ _ | exact Has.nz3 _ _ _ _ _ _ _ | refine At.fill1 ?_ _ | refine At.fill2 ?_ _ _ | refine At.fill3 ?_ _ _ _ | refine At.swap ?_ (by first | omega | (simp; omega)) _ _ | refine At.alloc ?_ _ | refine At.drew ?_ | refine At.drewN ?_ _ | refine At.skip ?_ (by first | omega | (simp; omega)) _ _ | refine At.below (by assumption) ?_ | refine Has.alloc ?_ _ | refine Has.drew ?_ | refine Has.drewN ?_ _ | refine Has.set ?_ _ _ _ | refine Has.below (by assumption) ?_)); done)))
        ((first
          | (go_at_call 49; refine (nearest_any _ _ hup.1 _).mono ?_; rintro e x1 ⟨rfl, hB3⟩; rw [HUU.out]; replace HC : Gr w x1 := Gr.step (by ((with_reducible repeat' (first | assumption | refine Gr.drew ?_ | refine Gr.drewN ?_ _ | refine Gr.alloc ?_ _ | refine Gr.set ?_ (by first | omega | (simp; omega)) _ _ | exact Gr.refl _)); done)) hB3; replace PA : At x1 w.heap.size (sL a f mid m) := At.below hB3 (by ((with_reducible repeat' (first | assumption | exact At.new1 _ _ _ | exact At.new2 _ _ _ _ | exact At.new3 _ _ _ _ _ | exact At.new5 _ _ _ _ _ _ _ | exact At.nx1 _ _ _ | exact At.nx2 _ _ _ _ | exact At.nx3 _ _ _ _ _ | exact At.ny1 _ _ _ _ | exact At.ny2 _ _ _ _ _ | exact At.ny3 _ _ _ _ _ _ | exact At.nz1 _ _ _ _ _ | exact At.nz2 _ _ _ _ _ _ | exact At.nz3 _ _ _ _ _ _ _ | exact Has.new1 _ _ _ | exact Has.new2 _ _ _ _ | exact Has.new3 _ _ _ _ _ | exact Has.nx1 _ _ _ | exact Has.nx2 _ _ _ _ | exact Has.nx3 _ _ _ _ _ | exact Has.ny1 _ _ _ _ | exact Has.ny2 _ _ _ _ _ | exact Has.ny3 _ _ _ _ _ _ | exact Has.nz1 _ _ _ _ _ | exact Has.nz2 _ _ _ _ _ _ | exact Has.nz3 _ _ _ _ _ _ _ | refine At.fill1 ?_ _ | refine At.fill2 ?_ _ _ | refine At.fill3 ?_ _ _ _ | refine At.swap ?_ (by first | omega | (simp; omega)) _ _ | refine At.alloc ?_ _ | refine At.drew ?_ | refine At.drewN ?_ _ | refine At.skip ?_ (by first | omega | (simp; omega)) _ _ | refine At.below (by assumption) ?_ | refine Has.alloc ?_ _ | refine Has.drew ?_ | refine Has.drewN ?_ _ | refine Has.set ?_ _ _ _ | refine Has.below (by assumption) ?_)); done)); replace RA : At x1 (w.heap.size + 1 + 1) (aL 0 0) := At.below hB3 (by ((with_reducible repeat' (first | assumption | exact At.new1 _ _ _ | exact At.new2 _ _ _ _ | exact At.new3 _ _ _ _ _ | exact At.new5 _ _ _ _ _ _ _ | exact At.nx1 _ _ _ | exact At.nx2 _ _ _ _ | exact At.nx3 _ _ _ _ _ | exact At.ny1 _ _ _ _ | exact At.ny2 _ _ _ _ _ | exact At.ny3 _ _ _ _ _ _ | exact At.nz1 _ _ _ _ _ | exact At.nz2 _ _ _ _ _ _ | exact At.nz3 _ _ _ _ _ _ _ | exact Has.new1 _ _ _ | exact Has.new2 _ _ _ _ | exact Has.new3 _ _ _ _ _ | exact Has.nx1 _ _ _ | exact Has.nx2 _ _ _ _ | exact Has.nx3 _ _ _ _ _ | exact Has.ny1 _ _ _ _ | exact Has.ny2 _ _ _ _ _ | exact Has.ny3 _ _ _ _ _ _ | exact Has.nz1 _ _ _ _ _ | exact Has.nz2 _ _ _ _ _ _ | exact Has.nz3 _ _ _ _ _ _ _ | refine At.fill1 ?_ _ | refine At.fill2 ?_ _ _ | refine At.fill3 ?_ _ _ _ | refine At.swap ?_ (by first | omega | (simp; omega)) _ _ | refine At.alloc ?_ _ | refine At.drew ?_ | refine At.drewN ?_ _ | refine At.skip ?_ (by first | omega | (simp; omega)) _ _ | refine At.below (by assumption) ?_ | refine Has.alloc ?_ _ | refine Has.drew ?_ | refine Has.drewN ?_ _ | refine Has.set ?_ _ _ _ | refine Has.below (by assumption) ?_)); done)); replace BA : At x1 (D + 1) (rL c0 c1 c2 c3) := At.below hB3 (by ((with_reducible repeat' (first | assumption | exact At.new1 _ _ _ | exact At.new2 _ _ _ _ | exact At.new3 _ _ _ _ _ | exact At.new5 _ _ _ _ _ _ _ | exact At.nx1 _ _ _ | exact At.nx2 _ _ _ _ | exact At.nx3 _ _ _ _ _ | exact At.ny1 _ _ _ _ | exact At.ny2 _ _ _ _ _ | exact At.ny3 _ _ _ _ _ _ | exact At.nz1 _ _ _ _ _ | exact At.nz2 _ _ _ _ _ _ | exact At.nz3 _ _ _ _ _ _ _ | exact Has.new1 _ _ _ | exact Has.new2 _ _ _ _ | exact Has.new3 _ _ _ _ _ | exact Has.nx1 _ _ _ | exact Has.nx2 _ _ _ _ | exact Has.nx3 _ _ _ _ _ | exact Has.ny1 _ _ _ _ | exact Has.ny2 _ _ _ _ _ | exact Has.ny3 _ _ _ _ _ _ | exact Has.nz1 _ _ _ _ _ | exact Has.nz2 _ _ _ _ _ _ | exact Has.nz3 _ _ _ _ _ _ _ | refine At.fill1 ?_ _ | refine At.fill2 ?_ _ _ | refine At.fill3 ?_ _ _ _ | refine At.swap ?_ (by first | omega | (simp; omega)) _ _ | refine At.alloc ?_ _ | refine At.drew ?_ | refine At.drewN ?_ _ | refine At.skip ?_ (by first | omega | (simp; omega)) _ _ | refine At.below (by assumption) ?_ | refine Has.alloc ?_ _ | refine Has.drew ?_ | refine Has.drewN ?_ _ | refine Has.set ?_ _ _ _ | refine Has.below (by assumption) ?_)); done)); clear hB3)
          | (go_at_call 26; refine (ripple_sine uu oU oA' oA' (ngO sB) _ _ _ _ _ _ _ hup.1 has.1 has.1 hBn _).mono ?_; rintro e x2 ⟨zr, zi, rfl, hzr, hzi, hB3⟩; replace HC : Gr w x2 := Gr.step (by ((with_reducible repeat' (first | assumption | refine Gr.drew ?_ | refine Gr.drewN ?_ _ | refine Gr.alloc ?_ _ | refine Gr.set ?_ (by first | omega | (simp; omega)) _ _ | exact Gr.refl _)); done)) hB3; replace PA : At x2 w.heap.size (sL a f mid m) := At.below hB3 (by ((with_reducible repeat' (first | assumption | exact At.new1 _ _ _ | exact At.new2 _ _ _ _ | exact At.new3 _ _ _ _ _ | exact At.new5 _ _ _ _ _ _ _ | exact At.nx1 _ _ _ | exact At.nx2 _ _ _ _ | exact At.nx3 _ _ _ _ _ | exact At.ny1 _ _ _ _ | exact At.ny2 _ _ _ _ _ | exact At.ny3 _ _ _ _ _ _ | exact At.nz1 _ _ _ _ _ | exact At.nz2 _ _ _ _ _ _ | exact At.nz3 _ _ _ _ _ _ _ | exact Has.new1 _ _ _ | exact Has.new2 _ _ _ _ | exact Has.new3 _ _ _ _ _ | exact Has.nx1 _ _ _ | exact Has.nx2 _ _ _ _ | exact Has.nx3 _ _ _ _ _ | exact Has.ny1 _ _ _ _ | exact Has.ny2 _ _ _ _ _ | exact Has.ny3 _ _ _ _ _ _ | exact Has.nz1 _ _ _ _ _ | exact Has.nz2 _ _ _ _ _ _ | exact Has.nz3 _ _ _ _ _ _ _ | refine At.fill1 ?_ _ | refine At.fill2 ?_ _ _ | refine At.fill3 ?_ _ _ _ | refine At.swap ?_ (by first | omega | (simp; omega)) _ _ | refine At.alloc ?_ _ | refine At.drew ?_ | refine At.drewN ?_ _ | refine At.skip ?_ (by first | omega | (simp; omega)) _ _ | refine At.below (by assumption) ?_ | refine Has.alloc ?_ _ | refine Has.drew ?_ | refine Has.drewN ?_ _ | refine Has.set ?_ _ _ _ | refine Has.below (by assumption) ?_)); done)); replace RA : At x2 (w.heap.size + 1 + 1) (aL 0 0) := At.below hB3 (by ((with_reducible repeat' (first | assumption | exact At.new1 _ _ _ | exact At.new2 _ _ _ _ | exact At.new3 _ _ _ _ _ | exact At.new5 _ _ _ _ _ _ _ | exact At.nx1 _ _ _ | exact At.nx2 _ _ _ _ | exact At.nx3 _ _ _ _ _ | exact At.ny1 _ _ _ _ | exact At.ny2 _ _ _ _ _ | exact At.ny3 _ _ _ _ _ _ | exact At.nz1 _ _ _ _ _ | exact At.nz2 _ _ _ _ _ _ | exact At.nz3 _ _ _ _ _ _ _ | exact Has.new1 _ _ _ | exact Has.new2 _ _ _ _ | exact Has.new3 _ _ _ _ _ | exact Has.nx1 _ _ _ | exact Has.nx2 _ _ _ _ | exact Has.nx3 _ _ _ _ _ | exact Has.ny1 _ _ _ _ | exact Has.ny2 _ _ _ _ _ | exact Has.ny3 _ _ _ _ _ _ | exact Has.nz1 _ _ _ _ _ | exact Has.nz2 _ _ _ _ _ _ | exact Has.nz3 _ _ _ _ _ _ _ | refine At.fill1 ?_ _ | refine At.fill2 ?_ _ _ | refine At.fill3 ?_ _ _ _ | refine At.swap ?_ (by first | omega | (simp; omega)) _ _ | refine At.alloc ?_ _ | refine At.drew ?_ | refine At.drewN ?_ _ | refine At.skip ?_ (by first | omega | (simp; omega)) _ _ | refine At.below (by assumption) ?_ | refine Has.alloc ?_ _ | refine Has.drew ?_ | refine Has.drewN ?_ _ | refine Has.set ?_ _ _ _ | refine Has.below (by assumption) ?_)); done)); replace BA : At x2 (D + 1) (rL c0 c1 c2 c3) := At.below hB3 (by ((with_reducible repeat' (first | assumption | exact At.new1 _ _ _ | exact At.new2 _ _ _ _ | exact At.new3 _ _ _ _ _ | exact At.new5 _ _ _ _ _ _ _ | exact At.nx1 _ _ _ | exact At.nx2 _ _ _ _ | exact At.nx3 _ _ _ _ _ | exact At.ny1 _ _ _ _ | exact At.ny2 _ _ _ _ _ | exact At.ny3 _ _ _ _ _ _ | exact At.nz1 _ _ _ _ _ | exact At.nz2 _ _ _ _ _ _ | exact At.nz3 _ _ _ _ _ _ _ | exact Has.new1 _ _ _ | exact Has.new2 _ _ _ _ | exact Has.new3 _ _ _ _ _ | exact Has.nx1 _ _ _ | exact Has.nx2 _ _ _ _ | exact Has.nx3 _ _ _ _ _ | exact Has.ny1 _ _ _ _ | exact Has.ny2 _ _ _ _ _ | exact Has.ny3 _ _ _ _ _ _ | exact Has.nz1 _ _ _ _ _ | exact Has.nz2 _ _ _ _ _ _ | exact Has.nz3 _ _ _ _ _ _ _ | refine At.fill1 ?_ _ | refine At.fill2 ?_ _ _ | refine At.fill3 ?_ _ _ _ | refine At.swap ?_ (by first | omega | (simp; omega)) _ _ | refine At.alloc ?_ _ | refine At.drew ?_ | refine At.drewN ?_ _ | refine At.skip ?_ (by first | omega | (simp; omega)) _ _ | refine At.below (by assumption) ?_ | refine Has.alloc ?_ _ | refine Has.drew ?_ | refine Has.drewN ?_ _ | refine Has.set ?_ _ _ _ | refine Has.below (by assumption) ?_)); done)); clear hB3)))
      all_goals
        go_wp2_with fail
        go_meet
        exact ⟨_, _, rfl, hzr, hzi, by ((with_reducible repeat' (first | assumption | exact At.new1 _ _ _ | exact At.new2 _ _ _ _ | exact At.new3 _ _ _ _ _ | exact At.new5 _ _ _ _ _ _ _ | exact At.nx1 _ _ _ | exact At.nx2 _ _ _ _ | exact At.nx3 _ _ _ _ _ | exact At.ny1 _ _ _ _ | exact At.ny2 _ _ _ _ _ | exact At.ny3 _ _ _ _ _ _ | exact At.nz1 _ _ _ _ _ | exact At.nz2 _ _ _ _ _ _ | exact At.nz3 _ _ _ _ _ _ _ | exact Has.new1 _ _ _ | exact Has.new2 _ _ _ _ | exact Has.new3 _ _ _ _ _ | exact Has.nx1 _ _ _ | exact Has.nx2 _ _ _ _ | exact Has.nx3 _ _ _ _ _ | exact Has.ny1 _ _ _ _ | exact Has.ny2 _ _ _ _ _ | exact Has.ny3 _ _ _ _ _ _ | exact Has.nz1 _ _ _ _ _ | exact Has.nz2 _ _ _ _ _ _ | exact Has.nz3 _ _ _ _ _ _ _ | refine At.fill1 ?_ _ | refine At.fill2 ?_ _ _ | refine At.fill3 ?_ _ _ _ | refine At.swap ?_ (by first | omega | (simp; omega)) _ _ | refine At.alloc ?_ _ | refine At.drew ?_ | refine At.drewN ?_ _ | refine At.skip ?_ (by first | omega | (simp; omega)) _ _ | refine At.below (by assumption) ?_ | refine Has.alloc ?_ _ | refine Has.drew ?_ | refine Has.drewN ?_ _ | refine Has.set ?_ _ _ _ | refine Has.below (by assumption) ?_)); done), by ((with_reducible repeat' (first | assumption | exact At.new1 _ _ _ | exact At.new2 _ _ _ _ | exact At.new3 _ _ _ _ _ | exact At.new5 _ _ _ _ _ _ _ | exact At.nx1 _ _ _ | exact At.nx2 _ _ _ _ | exact At.nx3 _ _ _ _ _ | exact At.ny1 _ _ _ _ | exact At.ny2 _ _ _ _ _ | exact At.ny3 _ _ _ _ _ _ | exact At.nz1 _ _ _ _ _ | exact At.nz2 _ _ _ _ _ _ | exact At.nz3 _ _ _ _ _ _ _ | exact Has.new1 _ _ _ | exact Has.new2 _ _ _ _ | exact Has.new3 _ _ _ _ _ | exact Has.nx1 _ _ _ | exact Has.nx2 _ _ _ _ | exact Has.nx3 _ _ _ _ _ | exact Has.ny1 _ _ _ _ | exact Has.ny2 _ _ _ _ _ | exact Has.ny3 _ _ _ _ _ _ | exact Has.nz1 _ _ _ _ _ | exact Has.nz2 _ _ _ _ _ _ | exact Has.nz3 _ _ _ _ _ _ _ | refine At.fill1 ?_ _ | refine At.fill2 ?_ _ _ | refine At.fill3 ?_ _ _ _ | refine At.swap ?_ (by first | omega | (simp; omega)) _ _ | refine At.alloc ?_ _ | refine At.drew ?_ | refine At.drewN ?_ _ | refine At.skip ?_ (by first | omega | (simp; omega)) _ _ | refine At.below (by assumption) ?_ | refine Has.alloc ?_ _ | refine Has.drew ?_ | refine Has.drewN ?_ _ | refine Has.set ?_ _ _ _ | refine Has.below (by assumption) ?_)); done), by ((with_reducible repeat' (first | assumption | refine Gr.drew ?_ | refine Gr.drewN ?_ _ | refine Gr.alloc ?_ _ | refine Gr.set ?_ (by first | omega | (simp; omega)) _ _ | exact Gr.refl _)); done)⟩
    case rest =>
      clear BA PA RA HC
      obtain ⟨zr, zi, rfl, hzr, hzi, PA, RA, HC⟩ := hcut
      generalize ripO snR oU uu oA' (ngO sB) = oZ at hzr HLO HLA
      generalize ripO snI oA' uu oA' (ngO sB) = oI at hzi HLO HLA
      clear hBn hup has hrr HUU
      go_wp2_with fail
      refine (nearest_any _ _ hzr.1 _).mono ?_
      rintro e y1 ⟨rfl, hB3⟩
      obtain ⟨wI, hwI⟩ : ∃ u, nrI (oD oZ (some radW)) = u := ⟨_, rfl⟩
      rw [hwI]
      rw [hwI] at HLO HLA
      clear hwI
      replace HC : Gr w y1 := Gr.step HC hB3
      replace PA := At.below hB3 PA
      replace RA := At.below hB3 RA
      clear hB3
      go_wp2_with fail
      refine (halves_any _ _ hzi _).mono ?_
      rintro e y2 ⟨hh, kk, rfl, hhh, hkk, hB3⟩
      replace HC : Gr w y2 := Gr.step HC hB3
      replace PA := At.below hB3 PA
      replace RA := At.below hB3 RA
      clear hB3 hhh
      generalize kO oI = oK at hkk HLO HLA
      go_wp2_with fail
      refine (cos_any _ _).mono ?_
      rintro e y3 ⟨rfl, hB3⟩
      replace HC : Gr w y3 := Gr.step HC hB3
      replace PA := At.below hB3 PA
      replace RA := At.below hB3 RA
      clear hB3
      have hcl : uz (cosV (nrm wI)) < 18446744073709551616 := by
        obtain ⟨k0, k1⟩ := nrm_lt wI
        exact uz_lt (sinV_le (nrm wI) k0 k1).2.1
      generalize uz (cosV (nrm wI)) = c at hcl HLO HLA ⊢
      go_wp2_with fail
      refine (angle_any _ _ hkk.2 hcl _).mono ?_
      rintro e y4 ⟨rfl, hB3⟩
      rw [angC_got hkk.1 (show Got (some c) c from rfl)]
      replace HC : Gr w y4 := Gr.step HC hB3
      replace PA := At.below hB3 PA
      replace RA := At.below hB3 RA
      clear hB3
      have hw2 : IntKind.i64.wrap (nrm mid + angC oK (some c)) = nrm mid + angC oK (some c) := wrap_mid (by have := angC_bd oK (some c); omega)
      generalize angC oK (some c) = ea at hw2 HLO ⊢
      go_wp2_with fail
      refine (sin_any _ _).mono ?_
      rintro e y5 ⟨rfl, hB3⟩
      replace HC : Gr w y5 := Gr.step HC hB3
      replace PA := At.below hB3 PA
      replace RA := At.below hB3 RA
      clear hB3
      generalize uz (sinV (nrm wI)) = sn at HLA ⊢
      go_wp2_with fail
      refine (hyp_any _ _ _ _ hkk.1 (gsm c) _).mono ?_
      rintro e y6 ⟨hy, rfl, hhy, hB3⟩
      replace HC : Gr w y6 := Gr.step HC hB3
      replace PA := At.below hB3 PA
      replace RA := At.below hB3 RA
      clear hB3
      go_wp2_with fail
      refine (unroll_any _ _ (gq _ _ _ _ _ (gsm sn) hhy.1) _).mono ?_
      rintro e y7 ⟨iso, rfl, hiso, hB3⟩
      replace HC : Gr w y7 := Gr.step (HC.drewN _) hB3
      replace PA := At.below hB3 (PA.drewN _)
      replace RA := At.below hB3 (RA.drewN _)
      clear hB3
      generalize unO (oD (some sn) (hyO oK (some c))) = oS at hiso HLA
      obtain ⟨r0, r1⟩ := RA.c2
      obtain ⟨f0, f1⟩ := RA.f2
      go_upto_region 19 with fail
      go_region_held (fun w' => w'.cell? ⟨w.heap.size, 0, none⟩ = some (.float .f64 a) ∧ w'.cell? ⟨w.heap.size, 1, none⟩ = some (.float .f64 f) ∧ w'.cell? ⟨w.heap.size, 2, none⟩ = some (.int .i64 mid) ∧ w'.cell? ⟨w.heap.size, 3, none⟩ = some (.float .f64 m))
        ((refine At.c4 (a := .float .f64 a) (b := .float .f64 f) (c := .int .i64 mid) (d := .float .f64 m) ?_; ((with_reducible repeat' (first | assumption | exact At.new1 _ _ _ | exact At.new2 _ _ _ _ | exact At.new3 _ _ _ _ _ | exact At.new5 _ _ _ _ _ _ _ | exact At.nx1 _ _ _ | exact At.nx2 _ _ _ _ | exact At.nx3 _ _ _ _ _ | exact At.ny1 _ _ _ _ | exact At.ny2 _ _ _ _ _ | exact At.ny3 _ _ _ _ _ _ | exact At.nz1 _ _ _ _ _ | exact At.nz2 _ _ _ _ _ _ | exact At.nz3 _ _ _ _ _ _ _ | exact Has.new1 _ _ _ | exact Has.new2 _ _ _ _ | exact Has.new3 _ _ _ _ _ | exact Has.nx1 _ _ _ | exact Has.nx2 _ _ _ _ | exact Has.nx3 _ _ _ _ _ | exact Has.ny1 _ _ _ _ | exact Has.ny2 _ _ _ _ _ | exact Has.ny3 _ _ _ _ _ _ | exact Has.nz1 _ _ _ _ _ | exact Has.nz2 _ _ _ _ _ _ | exact Has.nz3 _ _ _ _ _ _ _ | refine At.fill1 ?_ _ | refine At.fill2 ?_ _ _ | refine At.fill3 ?_ _ _ _ | refine At.swap ?_ (by first | omega | (simp; omega)) _ _ | refine At.alloc ?_ _ | refine At.drew ?_ | refine At.drewN ?_ _ | refine At.skip ?_ (by first | omega | (simp; omega)) _ _ | refine At.below (by assumption) ?_ | refine Has.alloc ?_ _ | refine Has.drew ?_ | refine Has.drewN ?_ _ | refine Has.set ?_ _ _ _ | refine Has.below (by assumption) ?_)); done)))
        ((first
          | (go_at_call 53; refine (norm_any _ _).mono ?_; rintro e x3 ⟨rfl, rfl⟩)
          | (go_at_call 34; refine (signed_any _ _).mono ?_; rintro e x4 ⟨rfl, rfl⟩; rw [HLO.out])
          | (go_at_call 54; refine (lat_any a f _ oS hf hiso.1 _).mono ?_; rintro e x5 ⟨rfl, hB3⟩; rw [HLA.out]; replace HC : Gr w x5 := Gr.step (by ((with_reducible repeat' (first | assumption | refine Gr.drew ?_ | refine Gr.drewN ?_ _ | refine Gr.alloc ?_ _ | refine Gr.set ?_ (by first | omega | (simp; omega)) _ _ | exact Gr.refl _)); done)) hB3; replace PA : At x5 w.heap.size (sL a f mid m) := At.below hB3 (by ((with_reducible repeat' (first | assumption | exact At.new1 _ _ _ | exact At.new2 _ _ _ _ | exact At.new3 _ _ _ _ _ | exact At.new5 _ _ _ _ _ _ _ | exact At.nx1 _ _ _ | exact At.nx2 _ _ _ _ | exact At.nx3 _ _ _ _ _ | exact At.ny1 _ _ _ _ | exact At.ny2 _ _ _ _ _ | exact At.ny3 _ _ _ _ _ _ | exact At.nz1 _ _ _ _ _ | exact At.nz2 _ _ _ _ _ _ | exact At.nz3 _ _ _ _ _ _ _ | exact Has.new1 _ _ _ | exact Has.new2 _ _ _ _ | exact Has.new3 _ _ _ _ _ | exact Has.nx1 _ _ _ | exact Has.nx2 _ _ _ _ | exact Has.nx3 _ _ _ _ _ | exact Has.ny1 _ _ _ _ | exact Has.ny2 _ _ _ _ _ | exact Has.ny3 _ _ _ _ _ _ | exact Has.nz1 _ _ _ _ _ | exact Has.nz2 _ _ _ _ _ _ | exact Has.nz3 _ _ _ _ _ _ _ | refine At.fill1 ?_ _ | refine At.fill2 ?_ _ _ | refine At.fill3 ?_ _ _ _ | refine At.swap ?_ (by first | omega | (simp; omega)) _ _ | refine At.alloc ?_ _ | refine At.drew ?_ | refine At.drewN ?_ _ | refine At.skip ?_ (by first | omega | (simp; omega)) _ _ | refine At.below (by assumption) ?_ | refine Has.alloc ?_ _ | refine Has.drew ?_ | refine Has.drewN ?_ _ | refine Has.set ?_ _ _ _ | refine Has.below (by assumption) ?_)); done)); replace RA : At x5 (w.heap.size + 1 + 1) (aL 0 0) := At.below hB3 (by ((with_reducible repeat' (first | assumption | exact At.new1 _ _ _ | exact At.new2 _ _ _ _ | exact At.new3 _ _ _ _ _ | exact At.new5 _ _ _ _ _ _ _ | exact At.nx1 _ _ _ | exact At.nx2 _ _ _ _ | exact At.nx3 _ _ _ _ _ | exact At.ny1 _ _ _ _ | exact At.ny2 _ _ _ _ _ | exact At.ny3 _ _ _ _ _ _ | exact At.nz1 _ _ _ _ _ | exact At.nz2 _ _ _ _ _ _ | exact At.nz3 _ _ _ _ _ _ _ | exact Has.new1 _ _ _ | exact Has.new2 _ _ _ _ | exact Has.new3 _ _ _ _ _ | exact Has.nx1 _ _ _ | exact Has.nx2 _ _ _ _ | exact Has.nx3 _ _ _ _ _ | exact Has.ny1 _ _ _ _ | exact Has.ny2 _ _ _ _ _ | exact Has.ny3 _ _ _ _ _ _ | exact Has.nz1 _ _ _ _ _ | exact Has.nz2 _ _ _ _ _ _ | exact Has.nz3 _ _ _ _ _ _ _ | refine At.fill1 ?_ _ | refine At.fill2 ?_ _ _ | refine At.fill3 ?_ _ _ _ | refine At.swap ?_ (by first | omega | (simp; omega)) _ _ | refine At.alloc ?_ _ | refine At.drew ?_ | refine At.drewN ?_ _ | refine At.skip ?_ (by first | omega | (simp; omega)) _ _ | refine At.below (by assumption) ?_ | refine Has.alloc ?_ _ | refine Has.drew ?_ | refine Has.drewN ?_ _ | refine Has.set ?_ _ _ _ | refine Has.below (by assumption) ?_)); done)); clear hB3 r0 r1 f0 f1; obtain ⟨r0, r1⟩ := RA.c2; obtain ⟨f0, f1⟩ := RA.f2)))
      all_goals
        go_wp2
        exact bodyPost_ret (v := .tuple #[plV lo la, .nilIface]) (by simp [results, Tryz.results17, go_sem, r0, r1]) rfl ⟨rfl, by ((with_reducible repeat' (first | assumption | refine Gr.drew ?_ | refine Gr.drewN ?_ _ | refine Gr.alloc ?_ _ | refine Gr.set ?_ (by first | omega | (simp; omega)) _ _ | exact Gr.refl _)); done)⟩
end Go.Proofs.YtinopkmcddjgdaaGreatDoor
