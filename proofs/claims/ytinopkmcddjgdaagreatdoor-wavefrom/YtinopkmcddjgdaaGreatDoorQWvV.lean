/-
  mercatorref2: OffStrip of what is no place; both sides of From are the same; the law WaveFrom: its walk.
-/
import Derived.Test.YtinopkmcddjgdaaGreatDoorQWvU
import Derived.Test.YtinopkmcddjgdaaGreatDoorQWvO
namespace Go.Proofs.YtinopkmcddjgdaaGreatDoor
open Go.RowKit FB
attribute [local go_sem] run_store_float

set_option maxHeartbeats 2000000 in
theorem offStrip_no1 (a f m x y c : Nat) (mid : Int) (hp : scode a f m = c) (hc : 0 < c) (w : World) : Calls Tryz.prog 18 #[sV a f mid m, fV x y] w fun e w' => e = .returned (.tuple #[plV 0 0, .int .i64 c]) ∧ Gr w w' := by
  have HS := hid (fun w => stripError_any a f m mid w)
  rw [hp] at HS
  clear hp
  have hpos : (0 : Int) < (c : Int) := by omega
  go_enter Tryz.func18, Tryz.ntmps18
  go_wp2_with fail
  refine (HS.out _).mono ?_
  rintro e w1 ⟨rfl, hB⟩
  have RA : At w1 (w.heap.size + 1 + 1) (aL 0 0) := At.below hB (by ((with_reducible repeat' (first | assumption | exact At.new1 _ _ _ | exact At.new2 _ _ _ _ | exact At.new3 _ _ _ _ _ | exact At.new5 _ _ _ _ _ _ _ | exact At.nx1 _ _ _ | exact At.nx2 _ _ _ _ | exact At.nx3 _ _ _ _ _ | exact At.ny1 _ _ _ _ | exact At.ny2 _ _ _ _ _ | exact At.ny3 _ _ _ _ _ _ | exact At.nz1 _ _ _ _ _ | exact At.nz2 _ _ _ _ _ _ | exact At.nz3 _ _ _ _ _ _ _ | exact Has.new1 _ _ _ | exact Has.new2 _ _ _ _ | exact Has.new3 _ _ _ _ _ | exact Has.nx1 _ _ _ | exact Has.nx2 _ _ _ _ | exact Has.nx3 _ _ _ _ _ | exact Has.ny1 _ _ _ _ | exact Has.ny2 _ _ _ _ _ | exact Has.ny3 _ _ _ _ _ _ | exact Has.nz1 _ _ _ _ _ | exact Has.nz2 _ _ _ _ _ _ | exact Has.nz3 _ _ _ _ _ _ _ | refine At.fill1 ?_ _ | refine At.fill2 ?_ _ _ | refine At.fill3 ?_ _ _ _ | refine At.swap ?_ (by first | omega | (simp; omega)) _ _ | refine At.alloc ?_ _ | refine At.drew ?_ | refine At.drewN ?_ _ | refine At.skip ?_ (by first | omega | (simp; omega)) _ _ | refine At.below (by assumption) ?_ | refine Has.alloc ?_ _ | refine Has.drew ?_ | refine Has.drewN ?_ _ | refine Has.set ?_ _ _ _ | refine Has.below (by assumption) ?_)); done))
  have HC : Gr w w1 := Gr.step (by ((with_reducible repeat' (first | assumption | refine Gr.drew ?_ | refine Gr.drewN ?_ _ | refine Gr.alloc ?_ _ | refine Gr.set ?_ (by first | omega | (simp; omega)) _ _ | exact Gr.refl _)); done)) hB
  clear hB HS
  obtain ⟨r0, r1⟩ := RA.c2
  obtain ⟨f0, f1⟩ := RA.f2
  have lr := RA.lt
  go_wp2_with fail
  exact bodyPost_ret (v := .tuple #[plV 0 0, .int .i64 c]) (by simp [results, Tryz.results18, go_sem, r0, r1]) rfl ⟨rfl, by ((with_reducible repeat' (first | assumption | refine Gr.drew ?_ | refine Gr.drewN ?_ _ | refine Gr.alloc ?_ _ | refine Gr.set ?_ (by first | omega | (simp; omega)) _ _ | exact Gr.refl _)); done)⟩
set_option maxHeartbeats 8000000 in
theorem offStrip_no2 (a f n m x y : Nat) (mid : Int) (hn : nO f = some n) (hs0 : scode a f m = 0) (hon : onS a n m x y = false) (w : World) : Calls Tryz.prog 18 #[sV a f mid m, fV x y] w fun e w' => e = .returned (.tuple #[plV 0 0, .int .i64 4]) ∧ Gr w w' := by
  obtain ⟨mF, aF, sF, qF, mD, aD, sD, qD, hm, ha, hss, hq, gm, ga, gs, gq⟩ := ops
  have hng := hnegA
  unfold onS at hon
  have HON := hid hon
  have HK := hid (fun w => stripError_any a f m mid w)
  rw [hs0] at HK
  have HS := hid (fun w => numbersOf_any a f n hn w)
  clear hn hs0 hon
  go_enter Tryz.func18, Tryz.ntmps18
  go_wp2_with fail
  refine (HK.out _).mono ?_
  rintro e w0 ⟨rfl, hB⟩
  have PA : At w0 w.heap.size (sL a f mid m) := At.below hB (((At.new4 w _ _ _ _ _).alloc _).alloc _)
  have QA : At w0 (w.heap.size + 1) (fL x y) := At.below hB (by ((with_reducible repeat' (first | assumption | exact At.new1 _ _ _ | exact At.new2 _ _ _ _ | exact At.new3 _ _ _ _ _ | exact At.new5 _ _ _ _ _ _ _ | exact At.nx1 _ _ _ | exact At.nx2 _ _ _ _ | exact At.nx3 _ _ _ _ _ | exact At.ny1 _ _ _ _ | exact At.ny2 _ _ _ _ _ | exact At.ny3 _ _ _ _ _ _ | exact At.nz1 _ _ _ _ _ | exact At.nz2 _ _ _ _ _ _ | exact At.nz3 _ _ _ _ _ _ _ | exact Has.new1 _ _ _ | exact Has.new2 _ _ _ _ | exact Has.new3 _ _ _ _ _ | exact Has.nx1 _ _ _ | exact Has.nx2 _ _ _ _ | exact Has.nx3 _ _ _ _ _ | exact Has.ny1 _ _ _ _ | exact Has.ny2 _ _ _ _ _ | exact Has.ny3 _ _ _ _ _ _ | exact Has.nz1 _ _ _ _ _ | exact Has.nz2 _ _ _ _ _ _ | exact Has.nz3 _ _ _ _ _ _ _ | refine At.fill1 ?_ _ | refine At.fill2 ?_ _ _ | refine At.fill3 ?_ _ _ _ | refine At.swap ?_ (by first | omega | (simp; omega)) _ _ | refine At.alloc ?_ _ | refine At.drew ?_ | refine At.drewN ?_ _ | refine At.skip ?_ (by first | omega | (simp; omega)) _ _ | refine At.below (by assumption) ?_ | refine Has.alloc ?_ _ | refine Has.drew ?_ | refine Has.drewN ?_ _ | refine Has.set ?_ _ _ _ | refine Has.below (by assumption) ?_)); done))
  have RA : At w0 (w.heap.size + 1 + 1) (aL 0 0) := At.below hB (by ((with_reducible repeat' (first | assumption | exact At.new1 _ _ _ | exact At.new2 _ _ _ _ | exact At.new3 _ _ _ _ _ | exact At.new5 _ _ _ _ _ _ _ | exact At.nx1 _ _ _ | exact At.nx2 _ _ _ _ | exact At.nx3 _ _ _ _ _ | exact At.ny1 _ _ _ _ | exact At.ny2 _ _ _ _ _ | exact At.ny3 _ _ _ _ _ _ | exact At.nz1 _ _ _ _ _ | exact At.nz2 _ _ _ _ _ _ | exact At.nz3 _ _ _ _ _ _ _ | exact Has.new1 _ _ _ | exact Has.new2 _ _ _ _ | exact Has.new3 _ _ _ _ _ | exact Has.nx1 _ _ _ | exact Has.nx2 _ _ _ _ | exact Has.nx3 _ _ _ _ _ | exact Has.ny1 _ _ _ _ | exact Has.ny2 _ _ _ _ _ | exact Has.ny3 _ _ _ _ _ _ | exact Has.nz1 _ _ _ _ _ | exact Has.nz2 _ _ _ _ _ _ | exact Has.nz3 _ _ _ _ _ _ _ | refine At.fill1 ?_ _ | refine At.fill2 ?_ _ _ | refine At.fill3 ?_ _ _ _ | refine At.swap ?_ (by first | omega | (simp; omega)) _ _ | refine At.alloc ?_ _ | refine At.drew ?_ | refine At.drewN ?_ _ | refine At.skip ?_ (by first | omega | (simp; omega)) _ _ | refine At.below (by assumption) ?_ | refine Has.alloc ?_ _ | refine Has.drew ?_ | refine Has.drewN ?_ _ | refine Has.set ?_ _ _ _ | refine Has.below (by assumption) ?_)); done))
  have HC : Gr w w0 := Gr.step (by ((with_reducible repeat' (first | assumption | refine Gr.drew ?_ | refine Gr.drewN ?_ _ | refine Gr.alloc ?_ _ | refine Gr.set ?_ (by first | omega | (simp; omega)) _ _ | exact Gr.refl _)); done)) hB
  clear hB HK
  obtain ⟨p0, p1, p2, p3⟩ := PA.c4
  go_wp2_with fail
  refine (HS.out _).mono ?_
  rintro e w1 ⟨r, a0, a1, a2, a3, b0, b1, b2, b3, gA, cA, gB, cB, rfl, hcA, hcB, hr, hA, hBf, AA, BA, hB⟩
  replace HC : Gr w w1 := Gr.step HC hB
  replace PA := At.below hB PA
  replace QA := At.below hB QA
  replace RA := At.below hB RA
  clear hB HS AA hA a0 a1 a2 a3 p0 p1 p2 p3 BA hBf b0 b1 b2 b3
  go_upto_region 5 with fail
  have NA : At (w1.alloc (.cells #[.float .f64 r, .slice (some ⟨gA, 0, none⟩) 4 cA, .slice (some ⟨gB, 0, none⟩) 4 cB] 88)) w1.heap.size [.float .f64 r, .slice (some ⟨gA, 0, none⟩) 4 cA, .slice (some ⟨gB, 0, none⟩) 4 cB] := At.new3 _ _ _ _ _
  replace HC := HC.alloc (.cells #[.float .f64 r, .slice (some ⟨gA, 0, none⟩) 4 cA, .slice (some ⟨gB, 0, none⟩) 4 cB] 88)
  replace PA := PA.alloc (.cells #[.float .f64 r, .slice (some ⟨gA, 0, none⟩) 4 cA, .slice (some ⟨gB, 0, none⟩) 4 cB] 88)
  replace QA := QA.alloc (.cells #[.float .f64 r, .slice (some ⟨gA, 0, none⟩) 4 cA, .slice (some ⟨gB, 0, none⟩) 4 cB] 88)
  replace RA := RA.alloc (.cells #[.float .f64 r, .slice (some ⟨gA, 0, none⟩) 4 cA, .slice (some ⟨gB, 0, none⟩) 4 cB] 88)
  generalize hwd : w1.alloc (.cells #[.float .f64 r, .slice (some ⟨gA, 0, none⟩) 4 cA, .slice (some ⟨gB, 0, none⟩) 4 cB] 88) = w2 at HC PA QA RA NA ⊢
  clear hwd
  generalize hNN : w1.heap.size = N at NA ⊢
  clear hNN
  obtain ⟨p0, p1, p2, p3⟩ := PA.c4
  obtain ⟨q0, q1⟩ := QA.c2
  obtain ⟨n0, n1, n2⟩ := NA.c3
  obtain ⟨r0, r1⟩ := RA.c2
  obtain ⟨f0, f1⟩ := RA.f2
  have lr := RA.lt
  go_wp2_with fail
  generalize hrr1 : mF r m w2 = rr
  have hrr : GW (srO a n m) rr := by rw [← hrr1]; exact gm _ _ _ _ _ hr.1 (gsm m)
  clear hrr1
  refine (between_any _ _ _ _).mono ?_
  rintro e w3 ⟨rfl, rfl⟩
  rw [wiO_got hrr.1]
  go_wp2_with fail
  refine (between_any _ _ _ _).mono ?_
  rintro e w4 ⟨rfl, rfl⟩
  rw [wiO_got2 (gm _ _ _ _ _ (gsm _) hrr.1).1 (gm _ _ _ _ _ (gsm _) hrr.1).1]
  have HO := HON.out
  clear HON
  cases h1 : wiO (srO a n m) x with
  | false =>
    go_wp2_with fail
    exact bodyPost_ret (v := .tuple #[plV 0 0, .int .i64 4]) (by simp [results, Tryz.results18, go_sem, r0, r1]) rfl ⟨rfl, by ((with_reducible repeat' (first | assumption | refine Gr.drew ?_ | refine Gr.drewN ?_ _ | refine Gr.alloc ?_ _ | refine Gr.set ?_ (by first | omega | (simp; omega)) _ _ | exact Gr.refl _)); done)⟩
  | true =>
    rw [h1, Bool.true_and] at HO
    rw [HO]
    go_wp2_with fail
    exact bodyPost_ret (v := .tuple #[plV 0 0, .int .i64 4]) (by simp [results, Tryz.results18, go_sem, r0, r1]) rfl ⟨rfl, by ((with_reducible repeat' (first | assumption | refine Gr.drew ?_ | refine Gr.drewN ?_ _ | refine Gr.alloc ?_ _ | refine Gr.set ?_ (by first | omega | (simp; omega)) _ _ | exact Gr.refl _)); done)⟩

/-- Both sides. -/
theorem whole_zr {z : Nat} (h : Zr z) : whole z = 0 := by rcases h with rfl | rfl <;> decide +kernel
theorem nrI_sim {o p : Option Nat} (h : Sim o p) : nrI o = nrI p := by
  rcases h with ⟨rfl, rfl⟩ | ⟨r, q, rfl, rfl, h⟩
  · rfl
  · show whole r = whole q
    rcases h with rfl | ⟨h1, h2⟩
    · rfl
    · rw [whole_zr h1, whole_zr h2]
theorem ngO_sim {s s' : Four} (h : S4 s s') : S4 (ngO s) (ngO s') := by
  refine ⟨?_, ?_, ?_, ?_⟩
  · show Sim (oN s.a) (oN s'.a); exact oN_sim h.a
  · show Sim (oN s.b) (oN s'.b); exact oN_sim h.b
  · show Sim (oN s.c) (oN s'.c); exact oN_sim h.c
  · show Sim (oN s.d) (oN s'.d); exact oN_sim h.d
theorem srO_uzW {a n m : Nat} (hl : n < 18446744073709551616) : srO a (uz n) m = srO a n m := by unfold srO; rw [raS_uz hl]
theorem pz_sim {a n m x y : Nat} (hn : Num n) (hl : n < 18446744073709551616) : Sim (pzR a (uz n) m x y) (rzR a n m x y) ∧ Sim (pzI a (uz n) m x y) (rzI a n m x y) := by
  unfold pzR pzI rzR rzI uR upR
  rw [srO_uzW hl]
  exact ⟨ripO_sim snR_sim (Sim.refl _) (ngO_sim (bS_sim hn hl)) rfl _, ripO_sim snI_sim (Sim.refl _) (ngO_sim (bS_sim hn hl)) rfl _⟩
theorem fcode_uz {a f n m x y : Nat} (hl : n < 18446744073709551616) : fcodeS a f (uz n) m x y = fcodeS a f n m x y := by
  unfold fcodeS onS
  rw [srO_uzW hl]
theorem sgn_add (mid e : Int) : sgn (nrm mid + sgn e) = sgn (nrm mid + e) := by
  have : nrm (nrm mid + sgn e) = nrm (nrm mid + e) := by
    unfold sgn nrm
    split <;> omega
  unfold sgn at this ⊢
  rw [this]
theorem place_same {a f n m x y : Nat} {mid : Int} (hn : Num n) (hl : n < 18446744073709551616) : sgn (nrm mid + eaP (pzR a (uz n) m x y) (pzI a (uz n) m x y)) = sgn (nrm mid + eaR (rzR a n m x y) (rzI a n m x y)) ∧ laP f (isP (pzR a (uz n) m x y) (pzI a (uz n) m x y)) = laP f (isR (rzR a n m x y) (rzI a n m x y)) := by
  obtain ⟨h1, h2⟩ := pz_sim (a := a) (m := m) (x := x) (y := y) hn hl
  have hw : wO (pzR a (uz n) m x y) = wO (rzR a n m x y) := nrI_sim (oD_sim h1)
  have hk : kO (pzI a (uz n) m x y) = kO (rzI a n m x y) := kO_sim h2
  constructor
  · unfold eaP eaR
    rw [sgn_add, hw, hk, angC_sim (Sim.refl _) (sim_z (uz_cos _))]
  · unfold isP isR
    rw [hw, hk, hyO_sim (Sim.refl _) (sim_z (uz_cos _)), unO_sim (oD_sim (sim_z (uz_sin _)))]
/-- What the law calls, and what is known of it. -/
structure WF (g : Nat → Addr) (a f m x y : Nat) (mid : Int) (dc : Nat) (A B : Int) : Prop where
  hdc : dc = 0 ∨ dc = 3 ∨ dc = 4 ∨ dc = 5
  pfrom : ∀ w, Laid w g → Calls Tryz.prog 17 #[sV a f mid m, fV x y] w fun e w' => e = .returned (.tuple #[plV A B, evOf g dc]) ∧ Gr w w'
  roff : ∀ w, Calls Tryz.prog 18 #[sV a f mid m, fV x y] w fun e w' => e = .returned (.tuple #[plV A B, .int .i64 dc]) ∧ Gr w w'
theorem waveFrom_facts (g : Nat → Addr) (a f m x y : Nat) (mid : Int) (ha : a < 18446744073709551616) (hf : f < 18446744073709551616) : ∃ dc A B, WF g a f m x y mid dc A B := by
  by_cases hs : scode a f m = 0
  · have hF : Le 1021 f := (okG_le ha hf (scode_ok hs).1).2.1
    obtain ⟨n, hn, h1, h2⟩ := n_num hF
    by_cases ho : onS a n m x y = true
    · have hc : fcodeS a f n m x y = 0 := by unfold fcodeS; rw [if_pos hs, if_pos ho]
      refine ⟨0, sgn (nrm mid + eaR (rzR a n m x y) (rzI a n m x y)), laP f (isR (rzR a n m x y) (rzI a n m x y)), .inl rfl, fun w hl => ?_, fun w => ?_⟩
      · obtain ⟨e1, e2⟩ := place_same (a := a) (f := f) (m := m) (x := x) (y := y) (mid := mid) h1 h2
        rw [← e1, ← e2]
        exact sfrom_ok g a f n m x y mid hF hn (by rw [fcode_uz h2]; exact hc) w hl
      · exact offStrip_ok a f n m x y mid hF hn hc w
    · have ho' : onS a n m x y = false := by simpa using ho
      refine ⟨4, 0, 0, by omega, fun w hl => ?_, fun w => ?_⟩
      · refine sfrom_no2 g a f n m x y mid hn hs ?_ w hl
        unfold onS at ho' ⊢
        rw [srO_uzW h2]; exact ho'
      · exact offStrip_no2 a f n m x y mid hn hs ho' w
  · have h3 : scode a f m = 3 := by have := scode_cases a f m; omega
    refine ⟨3, 0, 0, by omega, fun w hl => ?_, fun w => ?_⟩
    · exact sfrom_no1 g a f m x y 2 mid (by rw [h3]; rfl) w hl
    · exact offStrip_no1 a f m x y 3 mid h3 (by omega) w
set_option maxRecDepth 4000 in
set_option maxHeartbeats 8000000 in
theorem waveFrom_gen {g : Nat → Addr} {a f m x y : Nat} {mid : Int} {dc : Nat} {A B' : Int} (H : Hid (WF g a f m x y mid dc A B')) (w : World) (hl : Laid w g) : Calls Tryz.prog 4 #[sV a f mid m, fV x y] w fun e w' => e = .returned (.bool true) ∧ Gr w w' := by
  have HL := hid hl
  clear hl
  go_enter Tryz.func4, Tryz.ntmps4
  go_wp2_with fail
  refine (waved_any g _ (HL.out.below (Gr.out (by ((with_reducible repeat' (first | assumption | refine Gr.drew ?_ | refine Gr.drewN ?_ _ | refine Gr.alloc ?_ _ | refine Gr.set ?_ (by first | omega | (simp; omega)) _ _ | exact Gr.refl _)); done))))).mono ?_
  rintro e w1 ⟨rfl, hB⟩
  have PA : At w1 w.heap.size (sL a f mid m) := At.below hB ((At.new4 w _ _ _ _ _).alloc _)
  have QA : At w1 (w.heap.size + 1) (fL x y) := At.below hB (by ((with_reducible repeat' (first | assumption | exact At.new1 _ _ _ | exact At.new2 _ _ _ _ | exact At.new3 _ _ _ _ _ | exact At.new5 _ _ _ _ _ _ _ | exact At.nx1 _ _ _ | exact At.nx2 _ _ _ _ | exact At.nx3 _ _ _ _ _ | exact At.ny1 _ _ _ _ | exact At.ny2 _ _ _ _ _ | exact At.ny3 _ _ _ _ _ _ | exact At.nz1 _ _ _ _ _ | exact At.nz2 _ _ _ _ _ _ | exact At.nz3 _ _ _ _ _ _ _ | exact Has.new1 _ _ _ | exact Has.new2 _ _ _ _ | exact Has.new3 _ _ _ _ _ | exact Has.nx1 _ _ _ | exact Has.nx2 _ _ _ _ | exact Has.nx3 _ _ _ _ _ | exact Has.ny1 _ _ _ _ | exact Has.ny2 _ _ _ _ _ | exact Has.ny3 _ _ _ _ _ _ | exact Has.nz1 _ _ _ _ _ | exact Has.nz2 _ _ _ _ _ _ | exact Has.nz3 _ _ _ _ _ _ _ | refine At.fill1 ?_ _ | refine At.fill2 ?_ _ _ | refine At.fill3 ?_ _ _ _ | refine At.swap ?_ (by first | omega | (simp; omega)) _ _ | refine At.alloc ?_ _ | refine At.drew ?_ | refine At.drewN ?_ _ | refine At.skip ?_ (by first | omega | (simp; omega)) _ _ | refine At.below (by assumption) ?_ | refine Has.alloc ?_ _ | refine Has.drew ?_ | refine Has.drewN ?_ _ | refine Has.set ?_ _ _ _ | refine Has.below (by assumption) ?_)); done))
  have HC : Gr w w1 := Gr.step (by ((with_reducible repeat' (first | assumption | refine Gr.drew ?_ | refine Gr.drewN ?_ _ | refine Gr.alloc ?_ _ | refine Gr.set ?_ (by first | omega | (simp; omega)) _ _ | exact Gr.refl _)); done)) hB
  clear hB
  go_upto_region 4 with fail
  go_cut [6, 7] from 14 to 20 (fun s7 s8 wx => ∃ B, s7 = .pointer (some ⟨B, 0, none⟩) ∧ s8 = evOf g dc ∧ At wx B (aL A B') ∧ At wx w.heap.size (sL a f mid m) ∧ At wx (w.heap.size + 1) (fL x y) ∧ Gr w wx)
  case first =>
    have lq := QA.lt
    go_region_held (fun w' => w'.cell? ⟨w.heap.size, 0, none⟩ = some (.float .f64 a) ∧ w'.cell? ⟨w.heap.size, 1, none⟩ = some (.float .f64 f) ∧ w'.cell? ⟨w.heap.size, 2, none⟩ = some (.int .i64 mid) ∧ w'.cell? ⟨w.heap.size, 3, none⟩ = some (.float .f64 m) ∧ w'.cell? ⟨w.heap.size + 1, 0, none⟩ = some (.float .f64 x) ∧ w'.cell? ⟨w.heap.size + 1, 1, none⟩ = some (.float .f64 y))
      ((refine c42 (a := .float .f64 a) (b := .float .f64 f) (c := .int .i64 mid) (d := .float .f64 m) (x := .float .f64 x) (y := .float .f64 y) ?_ ?_; all_goals ((with_reducible repeat' (first | assumption | exact At.new1 _ _ _ | exact At.new2 _ _ _ _ | exact At.new3 _ _ _ _ _ | exact At.new5 _ _ _ _ _ _ _ | exact At.nx1 _ _ _ | exact At.nx2 _ _ _ _ | exact At.nx3 _ _ _ _ _ | exact At.ny1 _ _ _ _ | exact At.ny2 _ _ _ _ _ | exact At.ny3 _ _ _ _ _ _ | exact At.nz1 _ _ _ _ _ | exact At.nz2 _ _ _ _ _ _ | exact At.nz3 _ _ _ _ _ _ _ | exact Has.new1 _ _ _ | exact Has.new2 _ _ _ _ | exact Has.new3 _ _ _ _ _ | exact Has.nx1 _ _ _ | exact Has.nx2 _ _ _ _ | exact Has.nx3 _ _ _ _ _ | exact Has.ny1 _ _ _ _ | exact Has.ny2 _ _ _ _ _ | exact Has.ny3 _ _ _ _ _ _ | exact Has.nz1 _ _ _ _ _ | exact Has.nz2 _ _ _ _ _ _ | exact Has.nz3 _ _ _ _ _ _ _ | refine At.fill1 ?_ _ | refine At.fill2 ?_ _ _ | refine At.fill3 ?_ _ _ _ | refine At.swap ?_ (by first | omega | (simp; omega)) _ _ | refine At.alloc ?_ _ | refine At.drew ?_ | refine At.drewN ?_ _ | refine At.skip ?_ (by first | omega | (simp; omega)) _ _ | refine At.below (by assumption) ?_ | refine Has.alloc ?_ _ | refine Has.drew ?_ | refine Has.drewN ?_ _ | refine Has.set ?_ _ _ _ | refine Has.below (by assumption) ?_)); done)))
      ((first
        | (go_at_call 7; refine (strip_any _ _ _ _ _).mono ?_; rintro e w7 ⟨rfl, hB7, hs7⟩; obtain ⟨hc7, hf7⟩ := mcell hB7.out; obtain ⟨ha7, hn7, hm7⟩ := bless hs7; (try simp at hs7); have lw7 : w1.heap.size < w7.heap.size := (by omega); replace HC : Gr w w7 := Gr.step (by ((with_reducible repeat' (first | assumption | refine Gr.drew ?_ | refine Gr.drewN ?_ _ | refine Gr.alloc ?_ _ | refine Gr.set ?_ (by first | omega | (simp; omega)) _ _ | exact Gr.refl _)); done)) hB7; replace PA : At w7 w.heap.size (sL a f mid m) := At.below hB7 (by ((with_reducible repeat' (first | assumption | exact At.new1 _ _ _ | exact At.new2 _ _ _ _ | exact At.new3 _ _ _ _ _ | exact At.new5 _ _ _ _ _ _ _ | exact At.nx1 _ _ _ | exact At.nx2 _ _ _ _ | exact At.nx3 _ _ _ _ _ | exact At.ny1 _ _ _ _ | exact At.ny2 _ _ _ _ _ | exact At.ny3 _ _ _ _ _ _ | exact At.nz1 _ _ _ _ _ | exact At.nz2 _ _ _ _ _ _ | exact At.nz3 _ _ _ _ _ _ _ | exact Has.new1 _ _ _ | exact Has.new2 _ _ _ _ | exact Has.new3 _ _ _ _ _ | exact Has.nx1 _ _ _ | exact Has.nx2 _ _ _ _ | exact Has.nx3 _ _ _ _ _ | exact Has.ny1 _ _ _ _ | exact Has.ny2 _ _ _ _ _ | exact Has.ny3 _ _ _ _ _ _ | exact Has.nz1 _ _ _ _ _ | exact Has.nz2 _ _ _ _ _ _ | exact Has.nz3 _ _ _ _ _ _ _ | refine At.fill1 ?_ _ | refine At.fill2 ?_ _ _ | refine At.fill3 ?_ _ _ _ | refine At.swap ?_ (by first | omega | (simp; omega)) _ _ | refine At.alloc ?_ _ | refine At.drew ?_ | refine At.drewN ?_ _ | refine At.skip ?_ (by first | omega | (simp; omega)) _ _ | refine At.below (by assumption) ?_ | refine Has.alloc ?_ _ | refine Has.drew ?_ | refine Has.drewN ?_ _ | refine Has.set ?_ _ _ _ | refine Has.below (by assumption) ?_)); done)); replace QA : At w7 (w.heap.size + 1) (fL x y) := At.below hB7 (by ((with_reducible repeat' (first | assumption | exact At.new1 _ _ _ | exact At.new2 _ _ _ _ | exact At.new3 _ _ _ _ _ | exact At.new5 _ _ _ _ _ _ _ | exact At.nx1 _ _ _ | exact At.nx2 _ _ _ _ | exact At.nx3 _ _ _ _ _ | exact At.ny1 _ _ _ _ | exact At.ny2 _ _ _ _ _ | exact At.ny3 _ _ _ _ _ _ | exact At.nz1 _ _ _ _ _ | exact At.nz2 _ _ _ _ _ _ | exact At.nz3 _ _ _ _ _ _ _ | exact Has.new1 _ _ _ | exact Has.new2 _ _ _ _ | exact Has.new3 _ _ _ _ _ | exact Has.nx1 _ _ _ | exact Has.nx2 _ _ _ _ | exact Has.nx3 _ _ _ _ _ | exact Has.ny1 _ _ _ _ | exact Has.ny2 _ _ _ _ _ | exact Has.ny3 _ _ _ _ _ _ | exact Has.nz1 _ _ _ _ _ | exact Has.nz2 _ _ _ _ _ _ | exact Has.nz3 _ _ _ _ _ _ _ | refine At.fill1 ?_ _ | refine At.fill2 ?_ _ _ | refine At.fill3 ?_ _ _ _ | refine At.swap ?_ (by first | omega | (simp; omega)) _ _ | refine At.alloc ?_ _ | refine At.drew ?_ | refine At.drewN ?_ _ | refine At.skip ?_ (by first | omega | (simp; omega)) _ _ | refine At.below (by assumption) ?_ | refine Has.alloc ?_ _ | refine Has.drew ?_ | refine Has.drewN ?_ _ | refine Has.set ?_ _ _ _ | refine Has.below (by assumption) ?_)); done)))
        | (go_at_call 17; refine (H.out.pfrom _ (HL.out.below (Gr.out (by ((with_reducible repeat' (first | assumption | refine Gr.drew ?_ | refine Gr.drewN ?_ _ | refine Gr.alloc ?_ _ | refine Gr.set ?_ (by first | omega | (simp; omega)) _ _ | exact Gr.refl _)); done))))).mono ?_; rintro e w8 ⟨rfl, hB8⟩; obtain ⟨hc8, hf8⟩ := mcell hB8.out; have hs8 := hB8.out.size; (try simp at hs8); replace HC : Gr w w8 := Gr.step (by ((with_reducible repeat' (first | assumption | refine Gr.drew ?_ | refine Gr.drewN ?_ _ | refine Gr.alloc ?_ _ | refine Gr.set ?_ (by first | omega | (simp; omega)) _ _ | exact Gr.refl _)); done)) hB8; replace PA : At w8 w.heap.size (sL a f mid m) := At.below hB8 (by ((with_reducible repeat' (first | assumption | exact At.new1 _ _ _ | exact At.new2 _ _ _ _ | exact At.new3 _ _ _ _ _ | exact At.new5 _ _ _ _ _ _ _ | exact At.nx1 _ _ _ | exact At.nx2 _ _ _ _ | exact At.nx3 _ _ _ _ _ | exact At.ny1 _ _ _ _ | exact At.ny2 _ _ _ _ _ | exact At.ny3 _ _ _ _ _ _ | exact At.nz1 _ _ _ _ _ | exact At.nz2 _ _ _ _ _ _ | exact At.nz3 _ _ _ _ _ _ _ | exact Has.new1 _ _ _ | exact Has.new2 _ _ _ _ | exact Has.new3 _ _ _ _ _ | exact Has.nx1 _ _ _ | exact Has.nx2 _ _ _ _ | exact Has.nx3 _ _ _ _ _ | exact Has.ny1 _ _ _ _ | exact Has.ny2 _ _ _ _ _ | exact Has.ny3 _ _ _ _ _ _ | exact Has.nz1 _ _ _ _ _ | exact Has.nz2 _ _ _ _ _ _ | exact Has.nz3 _ _ _ _ _ _ _ | refine At.fill1 ?_ _ | refine At.fill2 ?_ _ _ | refine At.fill3 ?_ _ _ _ | refine At.swap ?_ (by first | omega | (simp; omega)) _ _ | refine At.alloc ?_ _ | refine At.drew ?_ | refine At.drewN ?_ _ | refine At.skip ?_ (by first | omega | (simp; omega)) _ _ | refine At.below (by assumption) ?_ | refine Has.alloc ?_ _ | refine Has.drew ?_ | refine Has.drewN ?_ _ | refine Has.set ?_ _ _ _ | refine Has.below (by assumption) ?_)); done)); replace QA : At w8 (w.heap.size + 1) (fL x y) := At.below hB8 (by ((with_reducible repeat' (first | assumption | exact At.new1 _ _ _ | exact At.new2 _ _ _ _ | exact At.new3 _ _ _ _ _ | exact At.new5 _ _ _ _ _ _ _ | exact At.nx1 _ _ _ | exact At.nx2 _ _ _ _ | exact At.nx3 _ _ _ _ _ | exact At.ny1 _ _ _ _ | exact At.ny2 _ _ _ _ _ | exact At.ny3 _ _ _ _ _ _ | exact At.nz1 _ _ _ _ _ | exact At.nz2 _ _ _ _ _ _ | exact At.nz3 _ _ _ _ _ _ _ | exact Has.new1 _ _ _ | exact Has.new2 _ _ _ _ | exact Has.new3 _ _ _ _ _ | exact Has.nx1 _ _ _ | exact Has.nx2 _ _ _ _ | exact Has.nx3 _ _ _ _ _ | exact Has.ny1 _ _ _ _ | exact Has.ny2 _ _ _ _ _ | exact Has.ny3 _ _ _ _ _ _ | exact Has.nz1 _ _ _ _ _ | exact Has.nz2 _ _ _ _ _ _ | exact Has.nz3 _ _ _ _ _ _ _ | refine At.fill1 ?_ _ | refine At.fill2 ?_ _ _ | refine At.fill3 ?_ _ _ _ | refine At.swap ?_ (by first | omega | (simp; omega)) _ _ | refine At.alloc ?_ _ | refine At.drew ?_ | refine At.drewN ?_ _ | refine At.skip ?_ (by first | omega | (simp; omega)) _ _ | refine At.below (by assumption) ?_ | refine Has.alloc ?_ _ | refine Has.drew ?_ | refine Has.drewN ?_ _ | refine Has.set ?_ _ _ _ | refine Has.below (by assumption) ?_)); done)))))
    · have FA : At (w8.alloc (.cells #[.int .i64 A, .int .i64 B'] 28)) w8.heap.size (aL A B') := At.new2 _ _ _ _
      go_wp2_with fail
      go_meet
      exact ⟨_, rfl, rfl, FA, PA.alloc _, QA.alloc _, HC.alloc _⟩
    · have FA : At w8 w7.heap.size (aL 0 0) := At.below hB8 (by ((with_reducible repeat' (first | assumption | exact At.new1 _ _ _ | exact At.new2 _ _ _ _ | exact At.new3 _ _ _ _ _ | exact At.new5 _ _ _ _ _ _ _ | exact At.nx1 _ _ _ | exact At.nx2 _ _ _ _ | exact At.nx3 _ _ _ _ _ | exact At.ny1 _ _ _ _ | exact At.ny2 _ _ _ _ _ | exact At.ny3 _ _ _ _ _ _ | exact At.nz1 _ _ _ _ _ | exact At.nz2 _ _ _ _ _ _ | exact At.nz3 _ _ _ _ _ _ _ | exact Has.new1 _ _ _ | exact Has.new2 _ _ _ _ | exact Has.new3 _ _ _ _ _ | exact Has.nx1 _ _ _ | exact Has.nx2 _ _ _ _ | exact Has.nx3 _ _ _ _ _ | exact Has.ny1 _ _ _ _ | exact Has.ny2 _ _ _ _ _ | exact Has.ny3 _ _ _ _ _ _ | exact Has.nz1 _ _ _ _ _ | exact Has.nz2 _ _ _ _ _ _ | exact Has.nz3 _ _ _ _ _ _ _ | refine At.fill1 ?_ _ | refine At.fill2 ?_ _ _ | refine At.fill3 ?_ _ _ _ | refine At.swap ?_ (by first | omega | (simp; omega)) _ _ | refine At.alloc ?_ _ | refine At.drew ?_ | refine At.drewN ?_ _ | refine At.skip ?_ (by first | omega | (simp; omega)) _ _ | refine At.below (by assumption) ?_ | refine Has.alloc ?_ _ | refine Has.drew ?_ | refine Has.drewN ?_ _ | refine Has.set ?_ _ _ _ | refine Has.below (by assumption) ?_)); done))
      have n1 : ¬ w7.heap.size = w.heap.size := by omega
      have n2 : ¬ w7.heap.size = w.heap.size + 1 := by omega
      have n3 : w.heap.size ≤ w7.heap.size := by omega
      go_wp2_with fail
      go_meet
      exact ⟨_, rfl, rfl, At.fill2 (FA.has rfl) _ _, (PA.skip n1 0 _).skip n1 1 _, (QA.skip n2 0 _).skip n2 1 _, (HC.set n3 0 _).set n3 1 _⟩
    · have FA : At w8 w1.heap.size (aL 0 0) := At.below hB8 (At.below hB7 (by ((with_reducible repeat' (first | assumption | exact At.new1 _ _ _ | exact At.new2 _ _ _ _ | exact At.new3 _ _ _ _ _ | exact At.new5 _ _ _ _ _ _ _ | exact At.nx1 _ _ _ | exact At.nx2 _ _ _ _ | exact At.nx3 _ _ _ _ _ | exact At.ny1 _ _ _ _ | exact At.ny2 _ _ _ _ _ | exact At.ny3 _ _ _ _ _ _ | exact At.nz1 _ _ _ _ _ | exact At.nz2 _ _ _ _ _ _ | exact At.nz3 _ _ _ _ _ _ _ | exact Has.new1 _ _ _ | exact Has.new2 _ _ _ _ | exact Has.new3 _ _ _ _ _ | exact Has.nx1 _ _ _ | exact Has.nx2 _ _ _ _ | exact Has.nx3 _ _ _ _ _ | exact Has.ny1 _ _ _ _ | exact Has.ny2 _ _ _ _ _ | exact Has.ny3 _ _ _ _ _ _ | exact Has.nz1 _ _ _ _ _ | exact Has.nz2 _ _ _ _ _ _ | exact Has.nz3 _ _ _ _ _ _ _ | refine At.fill1 ?_ _ | refine At.fill2 ?_ _ _ | refine At.fill3 ?_ _ _ _ | refine At.swap ?_ (by first | omega | (simp; omega)) _ _ | refine At.alloc ?_ _ | refine At.drew ?_ | refine At.drewN ?_ _ | refine At.skip ?_ (by first | omega | (simp; omega)) _ _ | refine At.below (by assumption) ?_ | refine Has.alloc ?_ _ | refine Has.drew ?_ | refine Has.drewN ?_ _ | refine Has.set ?_ _ _ _ | refine Has.below (by assumption) ?_)); done)))
      have n1 : ¬ w1.heap.size = w.heap.size := by omega
      have n2 : ¬ w1.heap.size = w.heap.size + 1 := by omega
      have n3 : w.heap.size ≤ w1.heap.size := by omega
      go_wp2_with fail
      go_meet
      exact ⟨_, rfl, rfl, At.fill2 (FA.has rfl) _ _, (PA.skip n1 0 _).skip n1 1 _, (QA.skip n2 0 _).skip n2 1 _, (HC.set n3 0 _).set n3 1 _⟩
  case rest =>
    clear PA QA HC
    obtain ⟨B, rfl, rfl, FA, PA, QA, HC⟩ := hcut
    obtain ⟨c0, c1, c2, c3⟩ := PA.c4
    obtain ⟨d0, d1⟩ := QA.c2
    go_wp2_with fail
    refine (H.out.roff _).mono ?_
    rintro e w3 ⟨rfl, hB3⟩
    replace HC : Gr w w3 := Gr.step HC hB3
    replace FA := At.below hB3 FA
    clear hB3 c0 c1 c2 c3 d0 d1 PA QA
    go_upto_region 6 with fail
    have GA : At (w3.alloc (.cells #[.int .i64 A, .int .i64 B'] 28)) w3.heap.size (aL A B') := At.new2 _ _ _ _
    replace FA := FA.alloc (.cells #[.int .i64 A, .int .i64 B'] 28)
    replace HC := HC.alloc (.cells #[.int .i64 A, .int .i64 B'] 28)
    generalize w3.heap.size = B9 at GA ⊢
    generalize w3.alloc (.cells #[.int .i64 A, .int .i64 B'] 28) = w4 at *
    go_wp2_with fail
    refine (coded_p g dc H.out.hdc _ (HL.out.below HC)).mono ?_
    rintro e w5 ⟨rfl, hB3⟩
    replace FA : At w5 B (aL A B') := At.below hB3 (by ((with_reducible repeat' (first | assumption | exact At.new1 _ _ _ | exact At.new2 _ _ _ _ | exact At.new3 _ _ _ _ _ | exact At.new5 _ _ _ _ _ _ _ | exact At.nx1 _ _ _ | exact At.nx2 _ _ _ _ | exact At.nx3 _ _ _ _ _ | exact At.ny1 _ _ _ _ | exact At.ny2 _ _ _ _ _ | exact At.ny3 _ _ _ _ _ _ | exact At.nz1 _ _ _ _ _ | exact At.nz2 _ _ _ _ _ _ | exact At.nz3 _ _ _ _ _ _ _ | exact Has.new1 _ _ _ | exact Has.new2 _ _ _ _ | exact Has.new3 _ _ _ _ _ | exact Has.nx1 _ _ _ | exact Has.nx2 _ _ _ _ | exact Has.nx3 _ _ _ _ _ | exact Has.ny1 _ _ _ _ | exact Has.ny2 _ _ _ _ _ | exact Has.ny3 _ _ _ _ _ _ | exact Has.nz1 _ _ _ _ _ | exact Has.nz2 _ _ _ _ _ _ | exact Has.nz3 _ _ _ _ _ _ _ | refine At.fill1 ?_ _ | refine At.fill2 ?_ _ _ | refine At.fill3 ?_ _ _ _ | refine At.swap ?_ (by first | omega | (simp; omega)) _ _ | refine At.alloc ?_ _ | refine At.drew ?_ | refine At.drewN ?_ _ | refine At.skip ?_ (by first | omega | (simp; omega)) _ _ | refine At.below (by assumption) ?_ | refine Has.alloc ?_ _ | refine Has.drew ?_ | refine Has.drewN ?_ _ | refine Has.set ?_ _ _ _ | refine Has.below (by assumption) ?_)); done))
    replace GA : At w5 B9 (aL A B') := At.below hB3 (by ((with_reducible repeat' (first | assumption | exact At.new1 _ _ _ | exact At.new2 _ _ _ _ | exact At.new3 _ _ _ _ _ | exact At.new5 _ _ _ _ _ _ _ | exact At.nx1 _ _ _ | exact At.nx2 _ _ _ _ | exact At.nx3 _ _ _ _ _ | exact At.ny1 _ _ _ _ | exact At.ny2 _ _ _ _ _ | exact At.ny3 _ _ _ _ _ _ | exact At.nz1 _ _ _ _ _ | exact At.nz2 _ _ _ _ _ _ | exact At.nz3 _ _ _ _ _ _ _ | exact Has.new1 _ _ _ | exact Has.new2 _ _ _ _ | exact Has.new3 _ _ _ _ _ | exact Has.nx1 _ _ _ | exact Has.nx2 _ _ _ _ | exact Has.nx3 _ _ _ _ _ | exact Has.ny1 _ _ _ _ | exact Has.ny2 _ _ _ _ _ | exact Has.ny3 _ _ _ _ _ _ | exact Has.nz1 _ _ _ _ _ | exact Has.nz2 _ _ _ _ _ _ | exact Has.nz3 _ _ _ _ _ _ _ | refine At.fill1 ?_ _ | refine At.fill2 ?_ _ _ | refine At.fill3 ?_ _ _ _ | refine At.swap ?_ (by first | omega | (simp; omega)) _ _ | refine At.alloc ?_ _ | refine At.drew ?_ | refine At.drewN ?_ _ | refine At.skip ?_ (by first | omega | (simp; omega)) _ _ | refine At.below (by assumption) ?_ | refine Has.alloc ?_ _ | refine Has.drew ?_ | refine Has.drewN ?_ _ | refine Has.set ?_ _ _ _ | refine Has.below (by assumption) ?_)); done))
    replace HC : Gr w w5 := Gr.step (by ((with_reducible repeat' (first | assumption | refine Gr.drew ?_ | refine Gr.drewN ?_ _ | refine Gr.alloc ?_ _ | refine Gr.set ?_ (by first | omega | (simp; omega)) _ _ | exact Gr.refl _)); done)) hB3
    clear hB3
    obtain ⟨a0, a1⟩ := FA.c2
    obtain ⟨b0, b1⟩ := GA.c2
    go_wp2
    go_ret
    exact ⟨rfl, by ((with_reducible repeat' (first | assumption | refine Gr.drew ?_ | refine Gr.drewN ?_ _ | refine Gr.alloc ?_ _ | refine Gr.set ?_ (by first | omega | (simp; omega)) _ _ | exact Gr.refl _)); done)⟩
theorem waveFrom_walk (g : Nat → Addr) (a f m x y : Nat) (mid : Int) (ha : a < 18446744073709551616) (hf : f < 18446744073709551616) (w : World) (hl : Laid w g) : Calls Tryz.prog 4 #[sV a f mid m, fV x y] w fun e w' => e = .returned (.bool true) ∧ Gr w w' := by
  obtain ⟨dc, A, B, H⟩ := waveFrom_facts g a f m x y mid ha hf
  exact waveFrom_gen (hid H) w hl
end Go.Proofs.YtinopkmcddjgdaaGreatDoor
