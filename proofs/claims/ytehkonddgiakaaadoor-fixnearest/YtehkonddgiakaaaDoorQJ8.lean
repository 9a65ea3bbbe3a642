/-
  FixNearest: one of its ways (genFnF.py).; FixNearest: one of its ways (genFnF.py).; FixNearest: one of its ways (genFnF.py).; FixNearest: one of its ways (genFnF.py).
-/
import Derived.Test.YtehkonddgiakaaaDoorQFnF
import Derived.Deep.DrawnRows
namespace Go.Proofs.YtehkonddgiakaaaDoor
open Go.RowKit
attribute [local go_sem ↓] Go.wp_at_zero Go.wp_at_succ

set_option maxRecDepth 4000 in
set_option maxHeartbeats 16000000 in
theorem fixNearest_1 (g : Nat → Addr) (ad : Option Addr) (b0 o cap : Nat) (l : List Rg) (a b c d x y mi : Int) (w : World) (hl : Laid w g) (h : RSo w ad b0 o cap l) (ll : l.length ≤ 70) (i : Nat) (hi : i < 8) (hr : rerr g l = errV g i) (hrc : rcode l = i + 1) : Calls Tryd.prog 4 #[.slice ad l.length cap, boV a b c d, spV x y, .int .i64 mi] w fun e w' => e = .returned (.bool true) ∧ Gr w w' := by
  have CF := hidb (fun W (hG : Gr w W) => fixes_any g W (hl.below hG.out))
  have CE := hidb (fun W (hG : Gr w W) => rangesErrorO ad b0 o cap l W (h.below hG.out) (by omega))
  rw [hrc] at CE
  have CRg := hidb (fun W (hG : Gr w W) => rangesO ad b0 o cap l W (h.below hG.out) (by omega))
  have CP := hidb (fun W => isPlace_any x y W)
  have CB := hidb (fun W => isBox_any a b c d W)
  have P := hidb (PvP.new w a b c d x y 47 45)
  have l70 : ¬ 70 < (l.length : Int) := by omega
  have CM := hidb (fun W (hG : Gr w W) ad' b' cap' hR => miss_bad1 g ad' b' cap' l x y W hR ll (hl.below hG.out) i hr)
  have CN : Hid (∀ W, Gr w W → ∀ ad' b' cap', RSl 30 W ad' b' cap' l → Calls Tryd.prog 18 #[.slice ad' l.length cap', boV a b c d] W fun e w' => e = .returned (.tuple #[spV 0 0, .int .i64 0, errV g i]) ∧ Gr W w') := fun W hG ad' b' cap' hR => nearest_no1 g ad' b' cap' l a b c d W hR ll (hl.below hG.out) i hr
  have CV : Hid (∀ W, Gr w W → ∀ ad' b' cap', RSl 30 W ad' b' cap' l → Calls Tryd.prog 19 #[.slice ad' l.length cap', boV a b c d, spV x y, .int .i64 mi] W fun e w' => e = .returned (.bool false) ∧ Gr W w') := fun W hG ad' b' cap' hR => by
    by_cases k : pin a b c d x y
    · exact proved_err g i _ a b c d x y mi 0 0 0 W k (fun W2 hG2 => CN.out W2 (Gr.step hG hG2.out) ad' b' cap' (hR.below hG2.out))
    · exact proved_out _ a b c d x y mi W k
  have sps := fun W => spot_same 0 0 W
  have HL := hidb hl
  have CD := hidb (fun W (hG : Gr w W) => coded_i g i hi ((i : Int) + 1) rfl W (hl.below hG.out))
  obtain ⟨zi, hzi⟩ : ∃ z : Int, z = (i : Int) + 1 := ⟨_, rfl⟩
  rw [show (((i + 1 : Nat) : Nat) : Int) = zi by omega] at CE
  rw [← hzi] at CD
  have z0 : (zi == 0) = false := by simp; omega
  have z1 : ¬ zi = 0 := by omega
  have z2 : 0 < zi := by omega
  clear h ll hl hr hrc hi hzi
  obtain ⟨pl, hpl⟩ : ∃ t : Bool, t = decide (inP x y) := ⟨_, rfl⟩
  rw [← hpl] at CP
  generalize okB a b c d = ob at *
  clear hpl
  go_enter Tryd.func4, Tryd.ntmps4
  go_wp2_with fail
  refine (CF.out _ P.out.gr).mono ?_
  rintro e w1 ⟨rfl, hB⟩
  replace P := hidb (P.out.below hB.out)
  clear hB
  go_wp2_with fail
  refine (CE.out _ P.out.gr).mono ?_
  rintro e w2 ⟨rfl, hB⟩
  replace P := hidb (P.out.below hB.out)
  clear hB
  go_upto_region 5 with fail
  go_cut [11, 12] from 38 to 44 (fun s11 s12 wx => s11 = .int .i64 0 ∧ s12 = errV g i ∧ Hid (PvP w wx a b c d x y))
  case first =>
    have E := P.out
    clear P
    go_region_held (fun w' => (w'.cell? ⟨w.heap.size, 0, none⟩ = some (.int .i64 a) ∧ w'.cell? ⟨w.heap.size, 1, none⟩ = some (.int .i64 b) ∧ w'.cell? ⟨w.heap.size, 2, none⟩ = some (.int .i64 c) ∧ w'.cell? ⟨w.heap.size, 3, none⟩ = some (.int .i64 d)) ∧ w'.cell? ⟨w.heap.size + 1, 0, none⟩ = some (.int .i64 x) ∧ w'.cell? ⟨w.heap.size + 1, 1, none⟩ = some (.int .i64 y))
      (with_reducible first | exact E.all | exact E.drew.all)
      ((first
        | (go_at_call 8; with_reducible refine (CRg.out _ (by with_reducible first | exact E.gr | exact E.drew.gr)).mono ?_; rintro e w8 ⟨ad8, b8, cap8, rfl, hR8, hB8⟩; (with_reducible first | replace E := E.below hB8.out | replace E := E.drew.below hB8.out); clear hB8)
        | (go_at_call 14; with_reducible refine (CM.out _ E.gr _ _ _ hR8).mono ?_; rintro e w9 ⟨rfl, hB8⟩; replace E := E.below hB8.out; clear hB8)))
    all_goals
      go_wp2_with fail
      go_meet
      exact ⟨rfl, rfl, E⟩
  case rest =>
  clear P
  obtain ⟨rfl, rfl, P⟩ := hcut
  obtain ⟨y0, y1⟩ := P.out.a1.c2
  go_wp2_with fail
  refine (CP.out _).mono ?_
  rintro e w3 ⟨rfl, hB, _⟩
  replace P := hidb (P.out.below hB.out)
  clear hB y0 y1
  go_wp2_with fail
  refine (CD.out _ P.out.gr).mono ?_
  rintro e w4 ⟨rfl, hB⟩
  replace P := hidb (P.out.below hB.out)
  clear hB
  obtain ⟨b0, b1, b2, b3⟩ := P.out.a0.c4
  go_wp2_with fail
  refine (CB.out _).mono ?_
  rintro e w5 ⟨rfl, hB⟩
  replace P := hidb (P.out.below hB.out)
  clear hB b0 b1 b2 b3
  cases ob
  all_goals
    go_upto_region 15 with fail
    go_cut [16, 17, 12] from 85 to 92 (fun s16 s17 s12 wx => ∃ B, s16 = .pointer (some ⟨B, 0, none⟩) ∧ s17 = .int .i64 0 ∧ s12 = errV g i ∧ Hid (LwF w wx B a b c d x y 0 0))
    case first =>
      have E := P.out
      clear P
      have q1 := E.a1.lt
      go_region_held (fun w' => (w'.cell? ⟨w.heap.size, 0, none⟩ = some (.int .i64 a) ∧ w'.cell? ⟨w.heap.size, 1, none⟩ = some (.int .i64 b) ∧ w'.cell? ⟨w.heap.size, 2, none⟩ = some (.int .i64 c) ∧ w'.cell? ⟨w.heap.size, 3, none⟩ = some (.int .i64 d)) ∧ w'.cell? ⟨w.heap.size + 1, 0, none⟩ = some (.int .i64 x) ∧ w'.cell? ⟨w.heap.size + 1, 1, none⟩ = some (.int .i64 y))
        (with_reducible first | exact E.all | exact E.drew.all | exact (E.alloc _).all | exact (E.alloc _).drew.all | exact ((E.set q8 _ _).set q8 _ _).all | exact ((E.set q1 _ _).set q1 _ _).all)
        ((first
          | (go_at_call 8; with_reducible refine (CRg.out _ (by with_reducible repeat' (first | exact E.gr | refine Gr.drew ?_ | refine Gr.alloc ?_ _))).mono ?_; rintro e w8 ⟨ad8, b8, cap8, rfl, hR8, hB8⟩; (with_reducible first | have A8 := At.below hB8.out (At.new2 _ _ _ _) | have A8 := At.below hB8.out (At.new2 _ _ _ _).drew | skip); (with_reducible first | replace E := E.below hB8.out | replace E := E.drew.below hB8.out | replace E := (E.alloc _).below hB8.out | replace E := (E.alloc _).drew.below hB8.out); have q8 := E.a1.lt; clear hB8)
          | (go_at_call 18; with_reducible refine (CN.out _ (by with_reducible repeat' (first | exact E.gr | refine Gr.drew ?_ | refine Gr.alloc ?_ _)) _ _ _ (by with_reducible first | exact hR8 | exact hR8.below ((Below.refl _ _).alloc (Nat.le_refl _) _))).mono ?_; rintro e w9 ⟨rfl, hB8⟩; (with_reducible first | replace A8 := At.below hB8.out A8 | have A8 := At.below hB8.out (At.new2 _ _ _ _) | skip); (with_reducible first | replace E := E.below hB8.out | replace E := (E.alloc _).below hB8.out); have q9 := E.a1.lt; clear hB8; (try (obtain ⟨f80, f81⟩ := A8.f2; obtain ⟨c80, c81⟩ := A8.c2; have H8 := A8.has (n := 2) rfl)))))
      all_goals
        go_wp2_with fail
        go_meet
        with_reducible first
          | exact ⟨_, rfl, rfl, rfl, hidb ⟨E.alloc _, At.new2 _ _ _ _, q9⟩⟩
          | exact ⟨_, rfl, rfl, rfl, hidb ⟨(E.set q8 _ _).set q8 _ _, At.fill2 H8 _ _, q8⟩⟩
          | exact ⟨_, rfl, rfl, rfl, hidb ⟨(E.set q1 _ _).set q1 _ _, At.fill2 H8 _ _, q1⟩⟩
    case rest =>
    clear P
    obtain ⟨B, rfl, rfl, rfl, P⟩ := hcut
    go_upto_region 16 with fail
    go_cut [18] from 93 to 98 (fun s18 wx => s18 = .bool false ∧ Hid (LwF w wx B a b c d x y 0 0))
    case first =>
      have E := P.out
      clear P
      go_region_held (fun w' => (w'.cell? ⟨w.heap.size, 0, none⟩ = some (.int .i64 a) ∧ w'.cell? ⟨w.heap.size, 1, none⟩ = some (.int .i64 b) ∧ w'.cell? ⟨w.heap.size, 2, none⟩ = some (.int .i64 c) ∧ w'.cell? ⟨w.heap.size, 3, none⟩ = some (.int .i64 d)) ∧ w'.cell? ⟨w.heap.size + 1, 0, none⟩ = some (.int .i64 x) ∧ w'.cell? ⟨w.heap.size + 1, 1, none⟩ = some (.int .i64 y))
        (with_reducible first | exact E.pr.all | exact E.drew.pr.all)
        ((first
          | (go_at_call 8; with_reducible refine (CRg.out _ (by with_reducible first | exact E.pr.gr | exact E.drew.pr.gr)).mono ?_; rintro e w8 ⟨ad8, b8, cap8, rfl, hR8, hB8⟩; (with_reducible first | replace E := E.below hB8.out | replace E := E.drew.below hB8.out); clear hB8)
          | (go_at_call 19; with_reducible refine (CV.out _ E.pr.gr _ _ _ hR8).mono ?_; rintro e w9 ⟨rfl, hB8⟩; replace E := E.below hB8.out; clear hB8)))
      all_goals
        go_wp2_with fail
        go_meet
        exact ⟨rfl, E⟩
    case rest =>
    clear P
    obtain ⟨rfl, P⟩ := hcut
    obtain ⟨r0, r1⟩ := P.out.p0.c2
    go_wp2_with fail
    refine (CD.out _ P.out.pr.gr).mono ?_
    rintro e w10 ⟨rfl, hB⟩
    replace P := hidb (P.out.below hB.out)
    clear hB r0 r1
    obtain ⟨r0, r1⟩ := P.out.p0.c2
    go_wp2
    go_ret
    exact ⟨rfl, P.out.pr.gr⟩
end Go.Proofs.YtehkonddgiakaaaDoor
namespace Go.Proofs.YtehkonddgiakaaaDoor
open Go.RowKit
attribute [local go_sem ↓] Go.wp_at_zero Go.wp_at_succ

set_option maxRecDepth 4000 in
set_option maxHeartbeats 16000000 in
theorem fixNearest_2 (g : Nat → Addr) (ad : Option Addr) (b0 o cap : Nat) (l : List Rg) (a b c d x y mi : Int) (w : World) (hl : Laid w g) (h : RSo w ad b0 o cap l) (ll : l.length ≤ 70) (hr : rerr g l = .nilIface) (hrc : rcode l = 0) (hok : ∀ r ∈ l, okR r) (hb : okB a b c d = false) : Calls Tryd.prog 4 #[.slice ad l.length cap, boV a b c d, spV x y, .int .i64 mi] w fun e w' => e = .returned (.bool true) ∧ Gr w w' := by
  have CF := hidb (fun W (hG : Gr w W) => fixes_any g W (hl.below hG.out))
  have CE := hidb (fun W (hG : Gr w W) => rangesErrorO ad b0 o cap l W (h.below hG.out) (by omega))
  rw [hrc] at CE
  have CRg := hidb (fun W (hG : Gr w W) => rangesO ad b0 o cap l W (h.below hG.out) (by omega))
  have CP := hidb (fun W => isPlace_any x y W)
  have CB := hidb (fun W => isBox_any a b c d W)
  have P := hidb (PvP.new w a b c d x y 47 45)
  have l70 : ¬ 70 < (l.length : Int) := by omega
  have CM1 := hidb (fun W (hG : Gr w W) ad' b' cap' hR (hp : ¬ inP x y) => miss_bad2 g ad' b' cap' l x y W hR ll (hl.below hG.out) hr hp)
  have CM2 := hidb (fun W (hG : Gr w W) ad' b' cap' hR (hp : inP x y) => miss_ok g ad' b' cap' l x y W hR ll (hl.below hG.out) hr hok hp)
  have CO := hidb (fun x y (hp : inP x y) W (hG : Gr w W) => missOfO ad b0 o cap l x y W (h.below hG.out) ll hok hp)
  rw [hb] at CB
  have CN : Hid (∀ W, Gr w W → ∀ ad' b' cap', RSl 30 W ad' b' cap' l → Calls Tryd.prog 18 #[.slice ad' l.length cap', boV a b c d] W fun e w' => e = .returned (.tuple #[spV 0 0, .int .i64 0, errV g 2]) ∧ Gr W w') := fun W hG ad' b' cap' hR => nearest_no2 g ad' b' cap' l a b c d W hR ll (hl.below hG.out) hr hb
  have CV : Hid (∀ W, Gr w W → ∀ ad' b' cap', RSl 30 W ad' b' cap' l → Calls Tryd.prog 19 #[.slice ad' l.length cap', boV a b c d, spV x y, .int .i64 mi] W fun e w' => e = .returned (.bool false) ∧ Gr W w') := fun W hG ad' b' cap' hR => by
    by_cases k : pin a b c d x y
    · exact proved_err g 2 _ a b c d x y mi 0 0 0 W k (fun W2 hG2 => CN.out W2 (Gr.step hG hG2.out) ad' b' cap' (hR.below hG2.out))
    · exact proved_out _ a b c d x y mi W k
  have sps := fun W => spot_same 0 0 W
  have HL := hidb hl
  have CD3 := hidb (fun W (hG : Gr w W) => coded_i g 2 (by decide) 3 (by decide) W (hl.below hG.out))
  clear h ll hl hr hrc hok hb
  by_cases hp : inP x y
  · rw [decide_eq_true hp] at CP
    replace CM2 := hidb (fun W hG ad' b' cap' hR => CM2.out W hG ad' b' cap' hR hp)
    have KO := hidb (CO.out x y hp)
    obtain ⟨z, hz⟩ : ∃ z, z = mss l x y := ⟨_, rfl⟩
    rw [← hz] at CM2 KO
    have HZ := hidb hz
    clear CM1 hz
    go_enter Tryd.func4, Tryd.ntmps4
    go_wp2_with fail
    refine (CF.out _ P.out.gr).mono ?_
    rintro e w1 ⟨rfl, hB⟩
    replace P := hidb (P.out.below hB.out)
    clear hB
    go_wp2_with fail
    refine (CE.out _ P.out.gr).mono ?_
    rintro e w2 ⟨rfl, hB⟩
    replace P := hidb (P.out.below hB.out)
    clear hB
    go_upto_region 5 with fail
    go_cut [11, 12] from 38 to 44 (fun s11 s12 wx => s11 = .int .i64 z ∧ s12 = .nilIface ∧ Hid (PvP w wx a b c d x y))
    case first =>
      have E := P.out
      clear P
      go_region_held (fun w' => (w'.cell? ⟨w.heap.size, 0, none⟩ = some (.int .i64 a) ∧ w'.cell? ⟨w.heap.size, 1, none⟩ = some (.int .i64 b) ∧ w'.cell? ⟨w.heap.size, 2, none⟩ = some (.int .i64 c) ∧ w'.cell? ⟨w.heap.size, 3, none⟩ = some (.int .i64 d)) ∧ w'.cell? ⟨w.heap.size + 1, 0, none⟩ = some (.int .i64 x) ∧ w'.cell? ⟨w.heap.size + 1, 1, none⟩ = some (.int .i64 y))
        (with_reducible first | exact E.all | exact E.drew.all)
        ((first
          | (go_at_call 8; with_reducible refine (CRg.out _ (by with_reducible first | exact E.gr | exact E.drew.gr)).mono ?_; rintro e w8 ⟨ad8, b8, cap8, rfl, hR8, hB8⟩; (with_reducible first | replace E := E.below hB8.out | replace E := E.drew.below hB8.out); clear hB8)
          | (go_at_call 14; with_reducible refine (CM2.out _ E.gr _ _ _ hR8).mono ?_; rintro e w9 ⟨rfl, hB8⟩; replace E := E.below hB8.out; clear hB8)))
      all_goals
        go_wp2_with fail
        go_meet
        exact ⟨rfl, rfl, E⟩
    case rest =>
    clear P
    obtain ⟨rfl, rfl, P⟩ := hcut
    obtain ⟨y0, y1⟩ := P.out.a1.c2
    go_wp2_with fail
    refine (CP.out _).mono ?_
    rintro e w3 ⟨rfl, hB, _⟩
    replace P := hidb (P.out.below hB.out)
    clear hB y0 y1
    go_wp2_with fail
    refine (coded_0 _).mono ?_
    rintro e w4 ⟨rfl, hB⟩
    replace P := hidb (P.out.below hB.out)
    clear hB
    obtain ⟨y0, y1⟩ := P.out.a1.c2
    go_wp2_with fail
    refine (KO.out _ P.out.gr).mono ?_
    rintro e w4' ⟨rfl, hB⟩
    replace P := hidb (P.out.below hB.out)
    clear hB y0 y1
    obtain ⟨b0, b1, b2, b3⟩ := P.out.a0.c4
    go_wp2_with fail
    refine (CB.out _).mono ?_
    rintro e w5 ⟨rfl, hB⟩
    replace P := hidb (P.out.below hB.out)
    clear hB b0 b1 b2 b3
    go_upto_region 15 with fail
    go_cut [16, 17, 12] from 85 to 92 (fun s16 s17 s12 wx => ∃ B, s16 = .pointer (some ⟨B, 0, none⟩) ∧ s17 = .int .i64 0 ∧ s12 = errV g 2 ∧ Hid (LwF w wx B a b c d x y 0 0))
    case first =>
      have E := P.out
      clear P
      have q1 := E.a1.lt
      go_region_held (fun w' => (w'.cell? ⟨w.heap.size, 0, none⟩ = some (.int .i64 a) ∧ w'.cell? ⟨w.heap.size, 1, none⟩ = some (.int .i64 b) ∧ w'.cell? ⟨w.heap.size, 2, none⟩ = some (.int .i64 c) ∧ w'.cell? ⟨w.heap.size, 3, none⟩ = some (.int .i64 d)) ∧ w'.cell? ⟨w.heap.size + 1, 0, none⟩ = some (.int .i64 x) ∧ w'.cell? ⟨w.heap.size + 1, 1, none⟩ = some (.int .i64 y))
        (with_reducible first | exact E.all | exact E.drew.all | exact (E.alloc _).all | exact (E.alloc _).drew.all | exact ((E.set q8 _ _).set q8 _ _).all | exact ((E.set q1 _ _).set q1 _ _).all)
        ((first
          | (go_at_call 8; with_reducible refine (CRg.out _ (by with_reducible repeat' (first | exact E.gr | refine Gr.drew ?_ | refine Gr.alloc ?_ _))).mono ?_; rintro e w8 ⟨ad8, b8, cap8, rfl, hR8, hB8⟩; (with_reducible first | have A8 := At.below hB8.out (At.new2 _ _ _ _) | have A8 := At.below hB8.out (At.new2 _ _ _ _).drew | skip); (with_reducible first | replace E := E.below hB8.out | replace E := E.drew.below hB8.out | replace E := (E.alloc _).below hB8.out | replace E := (E.alloc _).drew.below hB8.out); have q8 := E.a1.lt; clear hB8)
          | (go_at_call 18; with_reducible refine (CN.out _ (by with_reducible repeat' (first | exact E.gr | refine Gr.drew ?_ | refine Gr.alloc ?_ _)) _ _ _ (by with_reducible first | exact hR8 | exact hR8.below ((Below.refl _ _).alloc (Nat.le_refl _) _))).mono ?_; rintro e w9 ⟨rfl, hB8⟩; (with_reducible first | replace A8 := At.below hB8.out A8 | have A8 := At.below hB8.out (At.new2 _ _ _ _) | skip); (with_reducible first | replace E := E.below hB8.out | replace E := (E.alloc _).below hB8.out); have q9 := E.a1.lt; clear hB8; (try (obtain ⟨f80, f81⟩ := A8.f2; obtain ⟨c80, c81⟩ := A8.c2; have H8 := A8.has (n := 2) rfl)))))
      all_goals
        go_wp2_with fail
        go_meet
        with_reducible first
          | exact ⟨_, rfl, rfl, rfl, hidb ⟨E.alloc _, At.new2 _ _ _ _, q9⟩⟩
          | exact ⟨_, rfl, rfl, rfl, hidb ⟨(E.set q8 _ _).set q8 _ _, At.fill2 H8 _ _, q8⟩⟩
          | exact ⟨_, rfl, rfl, rfl, hidb ⟨(E.set q1 _ _).set q1 _ _, At.fill2 H8 _ _, q1⟩⟩
    case rest =>
    clear P
    obtain ⟨B, rfl, rfl, rfl, P⟩ := hcut
    go_upto_region 16 with fail
    go_cut [18] from 93 to 98 (fun s18 wx => s18 = .bool false ∧ Hid (LwF w wx B a b c d x y 0 0))
    case first =>
      have E := P.out
      clear P
      go_region_held (fun w' => (w'.cell? ⟨w.heap.size, 0, none⟩ = some (.int .i64 a) ∧ w'.cell? ⟨w.heap.size, 1, none⟩ = some (.int .i64 b) ∧ w'.cell? ⟨w.heap.size, 2, none⟩ = some (.int .i64 c) ∧ w'.cell? ⟨w.heap.size, 3, none⟩ = some (.int .i64 d)) ∧ w'.cell? ⟨w.heap.size + 1, 0, none⟩ = some (.int .i64 x) ∧ w'.cell? ⟨w.heap.size + 1, 1, none⟩ = some (.int .i64 y))
        (with_reducible first | exact E.pr.all | exact E.drew.pr.all)
        ((first
          | (go_at_call 8; with_reducible refine (CRg.out _ (by with_reducible first | exact E.pr.gr | exact E.drew.pr.gr)).mono ?_; rintro e w8 ⟨ad8, b8, cap8, rfl, hR8, hB8⟩; (with_reducible first | replace E := E.below hB8.out | replace E := E.drew.below hB8.out); clear hB8)
          | (go_at_call 19; with_reducible refine (CV.out _ E.pr.gr _ _ _ hR8).mono ?_; rintro e w9 ⟨rfl, hB8⟩; replace E := E.below hB8.out; clear hB8)))
      all_goals
        go_wp2_with fail
        go_meet
        exact ⟨rfl, E⟩
    case rest =>
    clear P
    obtain ⟨rfl, P⟩ := hcut
    obtain ⟨r0, r1⟩ := P.out.p0.c2
    go_wp2_with fail
    refine (CD3.out _ P.out.pr.gr).mono ?_
    rintro e w10 ⟨rfl, hB⟩
    replace P := hidb (P.out.below hB.out)
    clear hB r0 r1
    obtain ⟨r0, r1⟩ := P.out.p0.c2
    go_wp2
    go_ret
    exact ⟨rfl, P.out.pr.gr⟩
  · rw [decide_eq_false hp] at CP
    have hp' := hp
    clear CM2
    go_enter Tryd.func4, Tryd.ntmps4
    go_wp2_with fail
    refine (CF.out _ P.out.gr).mono ?_
    rintro e w1 ⟨rfl, hB⟩
    replace P := hidb (P.out.below hB.out)
    clear hB
    go_wp2_with fail
    refine (CE.out _ P.out.gr).mono ?_
    rintro e w2 ⟨rfl, hB⟩
    replace P := hidb (P.out.below hB.out)
    clear hB
    go_upto_region 5 with fail
    go_cut [11, 12] from 38 to 44 (fun s11 s12 wx => s11 = .int .i64 0 ∧ s12 = errV g 2 ∧ Hid (PvP w wx a b c d x y))
    case first =>
      have E := P.out
      clear P
      go_region_held (fun w' => (w'.cell? ⟨w.heap.size, 0, none⟩ = some (.int .i64 a) ∧ w'.cell? ⟨w.heap.size, 1, none⟩ = some (.int .i64 b) ∧ w'.cell? ⟨w.heap.size, 2, none⟩ = some (.int .i64 c) ∧ w'.cell? ⟨w.heap.size, 3, none⟩ = some (.int .i64 d)) ∧ w'.cell? ⟨w.heap.size + 1, 0, none⟩ = some (.int .i64 x) ∧ w'.cell? ⟨w.heap.size + 1, 1, none⟩ = some (.int .i64 y))
        (with_reducible first | exact E.all | exact E.drew.all)
        ((first
          | (go_at_call 8; with_reducible refine (CRg.out _ (by with_reducible first | exact E.gr | exact E.drew.gr)).mono ?_; rintro e w8 ⟨ad8, b8, cap8, rfl, hR8, hB8⟩; (with_reducible first | replace E := E.below hB8.out | replace E := E.drew.below hB8.out); clear hB8)
          | (go_at_call 14; with_reducible refine (CM1.out _ E.gr _ _ _ hR8 hp).mono ?_; rintro e w9 ⟨rfl, hB8⟩; replace E := E.below hB8.out; clear hB8)))
      all_goals
        go_wp2_with fail
        go_meet
        exact ⟨rfl, rfl, E⟩
    case rest =>
    clear P
    obtain ⟨rfl, rfl, P⟩ := hcut
    obtain ⟨y0, y1⟩ := P.out.a1.c2
    go_wp2_with fail
    refine (CP.out _).mono ?_
    rintro e w3 ⟨rfl, hB, _⟩
    replace P := hidb (P.out.below hB.out)
    clear hB y0 y1
    go_wp2_with fail
    refine (CD3.out _ P.out.gr).mono ?_
    rintro e w4 ⟨rfl, hB⟩
    replace P := hidb (P.out.below hB.out)
    clear hB
    obtain ⟨b0, b1, b2, b3⟩ := P.out.a0.c4
    go_wp2_with fail
    refine (CB.out _).mono ?_
    rintro e w5 ⟨rfl, hB⟩
    replace P := hidb (P.out.below hB.out)
    clear hB b0 b1 b2 b3
    go_upto_region 15 with fail
    go_cut [16, 17, 12] from 85 to 92 (fun s16 s17 s12 wx => ∃ B, s16 = .pointer (some ⟨B, 0, none⟩) ∧ s17 = .int .i64 0 ∧ s12 = errV g 2 ∧ Hid (LwF w wx B a b c d x y 0 0))
    case first =>
      have E := P.out
      clear P
      have q1 := E.a1.lt
      go_region_held (fun w' => (w'.cell? ⟨w.heap.size, 0, none⟩ = some (.int .i64 a) ∧ w'.cell? ⟨w.heap.size, 1, none⟩ = some (.int .i64 b) ∧ w'.cell? ⟨w.heap.size, 2, none⟩ = some (.int .i64 c) ∧ w'.cell? ⟨w.heap.size, 3, none⟩ = some (.int .i64 d)) ∧ w'.cell? ⟨w.heap.size + 1, 0, none⟩ = some (.int .i64 x) ∧ w'.cell? ⟨w.heap.size + 1, 1, none⟩ = some (.int .i64 y))
        (with_reducible first | exact E.all | exact E.drew.all | exact (E.alloc _).all | exact (E.alloc _).drew.all | exact ((E.set q8 _ _).set q8 _ _).all | exact ((E.set q1 _ _).set q1 _ _).all)
        ((first
          | (go_at_call 8; with_reducible refine (CRg.out _ (by with_reducible repeat' (first | exact E.gr | refine Gr.drew ?_ | refine Gr.alloc ?_ _))).mono ?_; rintro e w8 ⟨ad8, b8, cap8, rfl, hR8, hB8⟩; (with_reducible first | have A8 := At.below hB8.out (At.new2 _ _ _ _) | have A8 := At.below hB8.out (At.new2 _ _ _ _).drew | skip); (with_reducible first | replace E := E.below hB8.out | replace E := E.drew.below hB8.out | replace E := (E.alloc _).below hB8.out | replace E := (E.alloc _).drew.below hB8.out); have q8 := E.a1.lt; clear hB8)
          | (go_at_call 18; with_reducible refine (CN.out _ (by with_reducible repeat' (first | exact E.gr | refine Gr.drew ?_ | refine Gr.alloc ?_ _)) _ _ _ (by with_reducible first | exact hR8 | exact hR8.below ((Below.refl _ _).alloc (Nat.le_refl _) _))).mono ?_; rintro e w9 ⟨rfl, hB8⟩; (with_reducible first | replace A8 := At.below hB8.out A8 | have A8 := At.below hB8.out (At.new2 _ _ _ _) | skip); (with_reducible first | replace E := E.below hB8.out | replace E := (E.alloc _).below hB8.out); have q9 := E.a1.lt; clear hB8; (try (obtain ⟨f80, f81⟩ := A8.f2; obtain ⟨c80, c81⟩ := A8.c2; have H8 := A8.has (n := 2) rfl)))))
      all_goals
        go_wp2_with fail
        go_meet
        with_reducible first
          | exact ⟨_, rfl, rfl, rfl, hidb ⟨E.alloc _, At.new2 _ _ _ _, q9⟩⟩
          | exact ⟨_, rfl, rfl, rfl, hidb ⟨(E.set q8 _ _).set q8 _ _, At.fill2 H8 _ _, q8⟩⟩
          | exact ⟨_, rfl, rfl, rfl, hidb ⟨(E.set q1 _ _).set q1 _ _, At.fill2 H8 _ _, q1⟩⟩
    case rest =>
    clear P
    obtain ⟨B, rfl, rfl, rfl, P⟩ := hcut
    go_upto_region 16 with fail
    go_cut [18] from 93 to 98 (fun s18 wx => s18 = .bool false ∧ Hid (LwF w wx B a b c d x y 0 0))
    case first =>
      have E := P.out
      clear P
      go_region_held (fun w' => (w'.cell? ⟨w.heap.size, 0, none⟩ = some (.int .i64 a) ∧ w'.cell? ⟨w.heap.size, 1, none⟩ = some (.int .i64 b) ∧ w'.cell? ⟨w.heap.size, 2, none⟩ = some (.int .i64 c) ∧ w'.cell? ⟨w.heap.size, 3, none⟩ = some (.int .i64 d)) ∧ w'.cell? ⟨w.heap.size + 1, 0, none⟩ = some (.int .i64 x) ∧ w'.cell? ⟨w.heap.size + 1, 1, none⟩ = some (.int .i64 y))
        (with_reducible first | exact E.pr.all | exact E.drew.pr.all)
        ((first
          | (go_at_call 8; with_reducible refine (CRg.out _ (by with_reducible first | exact E.pr.gr | exact E.drew.pr.gr)).mono ?_; rintro e w8 ⟨ad8, b8, cap8, rfl, hR8, hB8⟩; (with_reducible first | replace E := E.below hB8.out | replace E := E.drew.below hB8.out); clear hB8)
          | (go_at_call 19; with_reducible refine (CV.out _ E.pr.gr _ _ _ hR8).mono ?_; rintro e w9 ⟨rfl, hB8⟩; replace E := E.below hB8.out; clear hB8)))
      all_goals
        go_wp2_with fail
        go_meet
        exact ⟨rfl, E⟩
    case rest =>
    clear P
    obtain ⟨rfl, P⟩ := hcut
    obtain ⟨r0, r1⟩ := P.out.p0.c2
    go_wp2_with fail
    refine (CD3.out _ P.out.pr.gr).mono ?_
    rintro e w10 ⟨rfl, hB⟩
    replace P := hidb (P.out.below hB.out)
    clear hB r0 r1
    obtain ⟨r0, r1⟩ := P.out.p0.c2
    go_wp2
    go_ret
    exact ⟨rfl, P.out.pr.gr⟩
end Go.Proofs.YtehkonddgiakaaaDoor
namespace Go.Proofs.YtehkonddgiakaaaDoor
open Go.RowKit
attribute [local go_sem ↓] Go.wp_at_zero Go.wp_at_succ

set_option maxRecDepth 4000 in
set_option maxHeartbeats 16000000 in
theorem fixNearest_3 (g : Nat → Addr) (ad : Option Addr) (b0 o cap : Nat) (l : List Rg) (a b c d x y mi : Int) (w : World) (hl : Laid w g) (h : RSo w ad b0 o cap l) (ll : l.length ≤ 70) (hr : rerr g l = .nilIface) (hrc : rcode l = 0) (hok : ∀ r ∈ l, okR r) (hb : okB a b c d = true) (hc : 100000 < cnt a b c d) : Calls Tryd.prog 4 #[.slice ad l.length cap, boV a b c d, spV x y, .int .i64 mi] w fun e w' => e = .returned (.bool true) ∧ Gr w w' := by
  have CF := hidb (fun W (hG : Gr w W) => fixes_any g W (hl.below hG.out))
  have CE := hidb (fun W (hG : Gr w W) => rangesErrorO ad b0 o cap l W (h.below hG.out) (by omega))
  rw [hrc] at CE
  have CRg := hidb (fun W (hG : Gr w W) => rangesO ad b0 o cap l W (h.below hG.out) (by omega))
  have CP := hidb (fun W => isPlace_any x y W)
  have CB := hidb (fun W => isBox_any a b c d W)
  have P := hidb (PvP.new w a b c d x y 47 45)
  have l70 : ¬ 70 < (l.length : Int) := by omega
  have CM1 := hidb (fun W (hG : Gr w W) ad' b' cap' hR (hp : ¬ inP x y) => miss_bad2 g ad' b' cap' l x y W hR ll (hl.below hG.out) hr hp)
  have CM2 := hidb (fun W (hG : Gr w W) ad' b' cap' hR (hp : inP x y) => miss_ok g ad' b' cap' l x y W hR ll (hl.below hG.out) hr hok hp)
  have CO := hidb (fun x y (hp : inP x y) W (hG : Gr w W) => missOfO ad b0 o cap l x y W (h.below hG.out) ll hok hp)
  rw [hb] at CB
  have CN : Hid (∀ W, Gr w W → ∀ ad' b' cap', RSl 30 W ad' b' cap' l → Calls Tryd.prog 18 #[.slice ad' l.length cap', boV a b c d] W fun e w' => e = .returned (.tuple #[spV 0 0, .int .i64 0, errV g 1]) ∧ Gr W w') := fun W hG ad' b' cap' hR => nearest_no3 g ad' b' cap' l a b c d W hR ll (hl.below hG.out) hr hb hc
  have CV : Hid (∀ W, Gr w W → ∀ ad' b' cap', RSl 30 W ad' b' cap' l → Calls Tryd.prog 19 #[.slice ad' l.length cap', boV a b c d, spV x y, .int .i64 mi] W fun e w' => e = .returned (.bool false) ∧ Gr W w') := fun W hG ad' b' cap' hR => by
    by_cases k : pin a b c d x y
    · exact proved_err g 1 _ a b c d x y mi 0 0 0 W k (fun W2 hG2 => CN.out W2 (Gr.step hG hG2.out) ad' b' cap' (hR.below hG2.out))
    · exact proved_out _ a b c d x y mi W k
  have sps := fun W => spot_same 0 0 W
  have HL := hidb hl
  obtain ⟨ct, hct⟩ : ∃ z, z = cnt a b c d := ⟨_, rfl⟩
  rw [← hct] at hc
  obtain ⟨u, u1, v, v1, ⟨-, e1⟩, ⟨-, e2⟩, ⟨-, e3⟩, ⟨-, e4⟩, e5, -, -⟩ := cnt_wr hb
  rw [← hct] at e5
  have CD3 := hidb (fun W (hG : Gr w W) => coded_i g 2 (by decide) 3 (by decide) W (hl.below hG.out))
  have CD2 := hidb (fun W (hG : Gr w W) => coded_i g 1 (by decide) 2 (by decide) W (hl.below hG.out))
  clear h ll hl hr hrc hok hb hct
  by_cases hp : inP x y
  · rw [decide_eq_true hp] at CP
    replace CM2 := hidb (fun W hG ad' b' cap' hR => CM2.out W hG ad' b' cap' hR hp)
    have KO := hidb (CO.out x y hp)
    obtain ⟨z, hz⟩ : ∃ z, z = mss l x y := ⟨_, rfl⟩
    rw [← hz] at CM2 KO
    have HZ := hidb hz
    clear CM1 hz
    go_enter Tryd.func4, Tryd.ntmps4
    go_wp2_with fail
    refine (CF.out _ P.out.gr).mono ?_
    rintro e w1 ⟨rfl, hB⟩
    replace P := hidb (P.out.below hB.out)
    clear hB
    go_wp2_with fail
    refine (CE.out _ P.out.gr).mono ?_
    rintro e w2 ⟨rfl, hB⟩
    replace P := hidb (P.out.below hB.out)
    clear hB
    go_upto_region 5 with fail
    go_cut [11, 12] from 38 to 44 (fun s11 s12 wx => s11 = .int .i64 z ∧ s12 = .nilIface ∧ Hid (PvP w wx a b c d x y))
    case first =>
      have E := P.out
      clear P
      go_region_held (fun w' => (w'.cell? ⟨w.heap.size, 0, none⟩ = some (.int .i64 a) ∧ w'.cell? ⟨w.heap.size, 1, none⟩ = some (.int .i64 b) ∧ w'.cell? ⟨w.heap.size, 2, none⟩ = some (.int .i64 c) ∧ w'.cell? ⟨w.heap.size, 3, none⟩ = some (.int .i64 d)) ∧ w'.cell? ⟨w.heap.size + 1, 0, none⟩ = some (.int .i64 x) ∧ w'.cell? ⟨w.heap.size + 1, 1, none⟩ = some (.int .i64 y))
        (with_reducible first | exact E.all | exact E.drew.all)
        ((first
          | (go_at_call 8; with_reducible refine (CRg.out _ (by with_reducible first | exact E.gr | exact E.drew.gr)).mono ?_; rintro e w8 ⟨ad8, b8, cap8, rfl, hR8, hB8⟩; (with_reducible first | replace E := E.below hB8.out | replace E := E.drew.below hB8.out); clear hB8)
          | (go_at_call 14; with_reducible refine (CM2.out _ E.gr _ _ _ hR8).mono ?_; rintro e w9 ⟨rfl, hB8⟩; replace E := E.below hB8.out; clear hB8)))
      all_goals
        go_wp2_with fail
        go_meet
        exact ⟨rfl, rfl, E⟩
    case rest =>
    clear P
    obtain ⟨rfl, rfl, P⟩ := hcut
    obtain ⟨y0, y1⟩ := P.out.a1.c2
    go_wp2_with fail
    refine (CP.out _).mono ?_
    rintro e w3 ⟨rfl, hB, _⟩
    replace P := hidb (P.out.below hB.out)
    clear hB y0 y1
    go_wp2_with fail
    refine (coded_0 _).mono ?_
    rintro e w4 ⟨rfl, hB⟩
    replace P := hidb (P.out.below hB.out)
    clear hB
    obtain ⟨y0, y1⟩ := P.out.a1.c2
    go_wp2_with fail
    refine (KO.out _ P.out.gr).mono ?_
    rintro e w4' ⟨rfl, hB⟩
    replace P := hidb (P.out.below hB.out)
    clear hB y0 y1
    obtain ⟨b0, b1, b2, b3⟩ := P.out.a0.c4
    go_wp2_with fail
    refine (CB.out _).mono ?_
    rintro e w5 ⟨rfl, hB⟩
    replace P := hidb (P.out.below hB.out)
    clear hB b0 b1 b2 b3
    go_upto_region 15 with fail
    go_cut [16, 17, 12] from 85 to 92 (fun s16 s17 s12 wx => ∃ B, s16 = .pointer (some ⟨B, 0, none⟩) ∧ s17 = .int .i64 0 ∧ s12 = errV g 1 ∧ Hid (LwF w wx B a b c d x y 0 0))
    case first =>
      have E := P.out
      clear P
      have q1 := E.a1.lt
      go_region_held (fun w' => (w'.cell? ⟨w.heap.size, 0, none⟩ = some (.int .i64 a) ∧ w'.cell? ⟨w.heap.size, 1, none⟩ = some (.int .i64 b) ∧ w'.cell? ⟨w.heap.size, 2, none⟩ = some (.int .i64 c) ∧ w'.cell? ⟨w.heap.size, 3, none⟩ = some (.int .i64 d)) ∧ w'.cell? ⟨w.heap.size + 1, 0, none⟩ = some (.int .i64 x) ∧ w'.cell? ⟨w.heap.size + 1, 1, none⟩ = some (.int .i64 y))
        (with_reducible first | exact E.all | exact E.drew.all | exact (E.alloc _).all | exact (E.alloc _).drew.all | exact ((E.set q8 _ _).set q8 _ _).all | exact ((E.set q1 _ _).set q1 _ _).all)
        ((first
          | (go_at_call 8; with_reducible refine (CRg.out _ (by with_reducible repeat' (first | exact E.gr | refine Gr.drew ?_ | refine Gr.alloc ?_ _))).mono ?_; rintro e w8 ⟨ad8, b8, cap8, rfl, hR8, hB8⟩; (with_reducible first | have A8 := At.below hB8.out (At.new2 _ _ _ _) | have A8 := At.below hB8.out (At.new2 _ _ _ _).drew | skip); (with_reducible first | replace E := E.below hB8.out | replace E := E.drew.below hB8.out | replace E := (E.alloc _).below hB8.out | replace E := (E.alloc _).drew.below hB8.out); have q8 := E.a1.lt; clear hB8)
          | (go_at_call 18; with_reducible refine (CN.out _ (by with_reducible repeat' (first | exact E.gr | refine Gr.drew ?_ | refine Gr.alloc ?_ _)) _ _ _ (by with_reducible first | exact hR8 | exact hR8.below ((Below.refl _ _).alloc (Nat.le_refl _) _))).mono ?_; rintro e w9 ⟨rfl, hB8⟩; (with_reducible first | replace A8 := At.below hB8.out A8 | have A8 := At.below hB8.out (At.new2 _ _ _ _) | skip); (with_reducible first | replace E := E.below hB8.out | replace E := (E.alloc _).below hB8.out); have q9 := E.a1.lt; clear hB8; (try (obtain ⟨f80, f81⟩ := A8.f2; obtain ⟨c80, c81⟩ := A8.c2; have H8 := A8.has (n := 2) rfl)))))
      all_goals
        go_wp2_with fail
        go_meet
        with_reducible first
          | exact ⟨_, rfl, rfl, rfl, hidb ⟨E.alloc _, At.new2 _ _ _ _, q9⟩⟩
          | exact ⟨_, rfl, rfl, rfl, hidb ⟨(E.set q8 _ _).set q8 _ _, At.fill2 H8 _ _, q8⟩⟩
          | exact ⟨_, rfl, rfl, rfl, hidb ⟨(E.set q1 _ _).set q1 _ _, At.fill2 H8 _ _, q1⟩⟩
    case rest =>
    clear P
    obtain ⟨B, rfl, rfl, rfl, P⟩ := hcut
    go_upto_region 16 with fail
    go_cut [18] from 93 to 98 (fun s18 wx => s18 = .bool false ∧ Hid (LwF w wx B a b c d x y 0 0))
    case first =>
      have E := P.out
      clear P
      go_region_held (fun w' => (w'.cell? ⟨w.heap.size, 0, none⟩ = some (.int .i64 a) ∧ w'.cell? ⟨w.heap.size, 1, none⟩ = some (.int .i64 b) ∧ w'.cell? ⟨w.heap.size, 2, none⟩ = some (.int .i64 c) ∧ w'.cell? ⟨w.heap.size, 3, none⟩ = some (.int .i64 d)) ∧ w'.cell? ⟨w.heap.size + 1, 0, none⟩ = some (.int .i64 x) ∧ w'.cell? ⟨w.heap.size + 1, 1, none⟩ = some (.int .i64 y))
        (with_reducible first | exact E.pr.all | exact E.drew.pr.all)
        ((first
          | (go_at_call 8; with_reducible refine (CRg.out _ (by with_reducible first | exact E.pr.gr | exact E.drew.pr.gr)).mono ?_; rintro e w8 ⟨ad8, b8, cap8, rfl, hR8, hB8⟩; (with_reducible first | replace E := E.below hB8.out | replace E := E.drew.below hB8.out); clear hB8)
          | (go_at_call 19; with_reducible refine (CV.out _ E.pr.gr _ _ _ hR8).mono ?_; rintro e w9 ⟨rfl, hB8⟩; replace E := E.below hB8.out; clear hB8)))
      all_goals
        go_wp2_with fail
        go_meet
        exact ⟨rfl, E⟩
    case rest =>
    clear P
    obtain ⟨rfl, P⟩ := hcut
    obtain ⟨r0, r1⟩ := P.out.p0.c2
    obtain ⟨b0, b1, b2, b3⟩ := P.out.pr.a0.c4
    go_wp2_with fail
    refine (CD2.out _ P.out.pr.gr).mono ?_
    rintro e w10 ⟨rfl, hB⟩
    replace P := hidb (P.out.below hB.out)
    clear hB r0 r1
    obtain ⟨r0, r1⟩ := P.out.p0.c2
    go_wp2
    go_ret
    exact ⟨rfl, P.out.pr.gr⟩
  · rw [decide_eq_false hp] at CP
    have hp' := hp
    clear CM2
    go_enter Tryd.func4, Tryd.ntmps4
    go_wp2_with fail
    refine (CF.out _ P.out.gr).mono ?_
    rintro e w1 ⟨rfl, hB⟩
    replace P := hidb (P.out.below hB.out)
    clear hB
    go_wp2_with fail
    refine (CE.out _ P.out.gr).mono ?_
    rintro e w2 ⟨rfl, hB⟩
    replace P := hidb (P.out.below hB.out)
    clear hB
    go_upto_region 5 with fail
    go_cut [11, 12] from 38 to 44 (fun s11 s12 wx => s11 = .int .i64 0 ∧ s12 = errV g 2 ∧ Hid (PvP w wx a b c d x y))
    case first =>
      have E := P.out
      clear P
      go_region_held (fun w' => (w'.cell? ⟨w.heap.size, 0, none⟩ = some (.int .i64 a) ∧ w'.cell? ⟨w.heap.size, 1, none⟩ = some (.int .i64 b) ∧ w'.cell? ⟨w.heap.size, 2, none⟩ = some (.int .i64 c) ∧ w'.cell? ⟨w.heap.size, 3, none⟩ = some (.int .i64 d)) ∧ w'.cell? ⟨w.heap.size + 1, 0, none⟩ = some (.int .i64 x) ∧ w'.cell? ⟨w.heap.size + 1, 1, none⟩ = some (.int .i64 y))
        (with_reducible first | exact E.all | exact E.drew.all)
        ((first
          | (go_at_call 8; with_reducible refine (CRg.out _ (by with_reducible first | exact E.gr | exact E.drew.gr)).mono ?_; rintro e w8 ⟨ad8, b8, cap8, rfl, hR8, hB8⟩; (with_reducible first | replace E := E.below hB8.out | replace E := E.drew.below hB8.out); clear hB8)
          | (go_at_call 14; with_reducible refine (CM1.out _ E.gr _ _ _ hR8 hp).mono ?_; rintro e w9 ⟨rfl, hB8⟩; replace E := E.below hB8.out; clear hB8)))
      all_goals
        go_wp2_with fail
        go_meet
        exact ⟨rfl, rfl, E⟩
    case rest =>
    clear P
    obtain ⟨rfl, rfl, P⟩ := hcut
    obtain ⟨y0, y1⟩ := P.out.a1.c2
    go_wp2_with fail
    refine (CP.out _).mono ?_
    rintro e w3 ⟨rfl, hB, _⟩
    replace P := hidb (P.out.below hB.out)
    clear hB y0 y1
    go_wp2_with fail
    refine (CD3.out _ P.out.gr).mono ?_
    rintro e w4 ⟨rfl, hB⟩
    replace P := hidb (P.out.below hB.out)
    clear hB
    obtain ⟨b0, b1, b2, b3⟩ := P.out.a0.c4
    go_wp2_with fail
    refine (CB.out _).mono ?_
    rintro e w5 ⟨rfl, hB⟩
    replace P := hidb (P.out.below hB.out)
    clear hB b0 b1 b2 b3
    go_upto_region 15 with fail
    go_cut [16, 17, 12] from 85 to 92 (fun s16 s17 s12 wx => ∃ B, s16 = .pointer (some ⟨B, 0, none⟩) ∧ s17 = .int .i64 0 ∧ s12 = errV g 1 ∧ Hid (LwF w wx B a b c d x y 0 0))
    case first =>
      have E := P.out
      clear P
      have q1 := E.a1.lt
      go_region_held (fun w' => (w'.cell? ⟨w.heap.size, 0, none⟩ = some (.int .i64 a) ∧ w'.cell? ⟨w.heap.size, 1, none⟩ = some (.int .i64 b) ∧ w'.cell? ⟨w.heap.size, 2, none⟩ = some (.int .i64 c) ∧ w'.cell? ⟨w.heap.size, 3, none⟩ = some (.int .i64 d)) ∧ w'.cell? ⟨w.heap.size + 1, 0, none⟩ = some (.int .i64 x) ∧ w'.cell? ⟨w.heap.size + 1, 1, none⟩ = some (.int .i64 y))
        (with_reducible first | exact E.all | exact E.drew.all | exact (E.alloc _).all | exact (E.alloc _).drew.all | exact ((E.set q8 _ _).set q8 _ _).all | exact ((E.set q1 _ _).set q1 _ _).all)
        ((first
          | (go_at_call 8; with_reducible refine (CRg.out _ (by with_reducible repeat' (first | exact E.gr | refine Gr.drew ?_ | refine Gr.alloc ?_ _))).mono ?_; rintro e w8 ⟨ad8, b8, cap8, rfl, hR8, hB8⟩; (with_reducible first | have A8 := At.below hB8.out (At.new2 _ _ _ _) | have A8 := At.below hB8.out (At.new2 _ _ _ _).drew | skip); (with_reducible first | replace E := E.below hB8.out | replace E := E.drew.below hB8.out | replace E := (E.alloc _).below hB8.out | replace E := (E.alloc _).drew.below hB8.out); have q8 := E.a1.lt; clear hB8)
          | (go_at_call 18; with_reducible refine (CN.out _ (by with_reducible repeat' (first | exact E.gr | refine Gr.drew ?_ | refine Gr.alloc ?_ _)) _ _ _ (by with_reducible first | exact hR8 | exact hR8.below ((Below.refl _ _).alloc (Nat.le_refl _) _))).mono ?_; rintro e w9 ⟨rfl, hB8⟩; (with_reducible first | replace A8 := At.below hB8.out A8 | have A8 := At.below hB8.out (At.new2 _ _ _ _) | skip); (with_reducible first | replace E := E.below hB8.out | replace E := (E.alloc _).below hB8.out); have q9 := E.a1.lt; clear hB8; (try (obtain ⟨f80, f81⟩ := A8.f2; obtain ⟨c80, c81⟩ := A8.c2; have H8 := A8.has (n := 2) rfl)))))
      all_goals
        go_wp2_with fail
        go_meet
        with_reducible first
          | exact ⟨_, rfl, rfl, rfl, hidb ⟨E.alloc _, At.new2 _ _ _ _, q9⟩⟩
          | exact ⟨_, rfl, rfl, rfl, hidb ⟨(E.set q8 _ _).set q8 _ _, At.fill2 H8 _ _, q8⟩⟩
          | exact ⟨_, rfl, rfl, rfl, hidb ⟨(E.set q1 _ _).set q1 _ _, At.fill2 H8 _ _, q1⟩⟩
    case rest =>
    clear P
    obtain ⟨B, rfl, rfl, rfl, P⟩ := hcut
    go_upto_region 16 with fail
    go_cut [18] from 93 to 98 (fun s18 wx => s18 = .bool false ∧ Hid (LwF w wx B a b c d x y 0 0))
    case first =>
      have E := P.out
      clear P
      go_region_held (fun w' => (w'.cell? ⟨w.heap.size, 0, none⟩ = some (.int .i64 a) ∧ w'.cell? ⟨w.heap.size, 1, none⟩ = some (.int .i64 b) ∧ w'.cell? ⟨w.heap.size, 2, none⟩ = some (.int .i64 c) ∧ w'.cell? ⟨w.heap.size, 3, none⟩ = some (.int .i64 d)) ∧ w'.cell? ⟨w.heap.size + 1, 0, none⟩ = some (.int .i64 x) ∧ w'.cell? ⟨w.heap.size + 1, 1, none⟩ = some (.int .i64 y))
        (with_reducible first | exact E.pr.all | exact E.drew.pr.all)
        ((first
          | (go_at_call 8; with_reducible refine (CRg.out _ (by with_reducible first | exact E.pr.gr | exact E.drew.pr.gr)).mono ?_; rintro e w8 ⟨ad8, b8, cap8, rfl, hR8, hB8⟩; (with_reducible first | replace E := E.below hB8.out | replace E := E.drew.below hB8.out); clear hB8)
          | (go_at_call 19; with_reducible refine (CV.out _ E.pr.gr _ _ _ hR8).mono ?_; rintro e w9 ⟨rfl, hB8⟩; replace E := E.below hB8.out; clear hB8)))
      all_goals
        go_wp2_with fail
        go_meet
        exact ⟨rfl, E⟩
    case rest =>
    clear P
    obtain ⟨rfl, P⟩ := hcut
    obtain ⟨r0, r1⟩ := P.out.p0.c2
    obtain ⟨b0, b1, b2, b3⟩ := P.out.pr.a0.c4
    go_wp2_with fail
    refine (CD2.out _ P.out.pr.gr).mono ?_
    rintro e w10 ⟨rfl, hB⟩
    replace P := hidb (P.out.below hB.out)
    clear hB r0 r1
    obtain ⟨r0, r1⟩ := P.out.p0.c2
    go_wp2
    go_ret
    exact ⟨rfl, P.out.pr.gr⟩
end Go.Proofs.YtehkonddgiakaaaDoor
namespace Go.Proofs.YtehkonddgiakaaaDoor
open Go.RowKit
attribute [local go_sem ↓] Go.wp_at_zero Go.wp_at_succ

set_option maxRecDepth 4000 in
set_option maxHeartbeats 16000000 in
theorem fixNearest_4 (g : Nat → Addr) (ad : Option Addr) (b0 o cap : Nat) (l : List Rg) (a b c d x y mi : Int) (w : World) (hl : Laid w g) (h : RSo w ad b0 o cap l) (ll : l.length ≤ 70) (hr : rerr g l = .nilIface) (hrc : rcode l = 0) (hok : ∀ r ∈ l, okR r) (hb : okB a b c d = true) (hc : ¬ 100000 < cnt a b c d) (hc2 : 600 < cnt a b c d) : Calls Tryd.prog 4 #[.slice ad l.length cap, boV a b c d, spV x y, .int .i64 mi] w fun e w' => e = .returned (.bool true) ∧ Gr w w' := by
  have CF := hidb (fun W (hG : Gr w W) => fixes_any g W (hl.below hG.out))
  have CE := hidb (fun W (hG : Gr w W) => rangesErrorO ad b0 o cap l W (h.below hG.out) (by omega))
  rw [hrc] at CE
  have CRg := hidb (fun W (hG : Gr w W) => rangesO ad b0 o cap l W (h.below hG.out) (by omega))
  have CP := hidb (fun W => isPlace_any x y W)
  have CB := hidb (fun W => isBox_any a b c d W)
  have P := hidb (PvP.new w a b c d x y 47 45)
  have l70 : ¬ 70 < (l.length : Int) := by omega
  have CM1 := hidb (fun W (hG : Gr w W) ad' b' cap' hR (hp : ¬ inP x y) => miss_bad2 g ad' b' cap' l x y W hR ll (hl.below hG.out) hr hp)
  have CM2 := hidb (fun W (hG : Gr w W) ad' b' cap' hR (hp : inP x y) => miss_ok g ad' b' cap' l x y W hR ll (hl.below hG.out) hr hok hp)
  have CO := hidb (fun x y (hp : inP x y) W (hG : Gr w W) => missOfO ad b0 o cap l x y W (h.below hG.out) ll hok hp)
  rw [hb] at CB
  obtain ⟨⟨p, q, m⟩, hs⟩ : ∃ s, s = nrs l a b c d := ⟨_, rfl⟩
  have CN : Hid (∀ W, Gr w W → ∀ ad' b' cap', RSl 30 W ad' b' cap' l → Calls Tryd.prog 18 #[.slice ad' l.length cap', boV a b c d] W fun e w' => e = .returned (.tuple #[spV p q, .int .i64 m, .nilIface]) ∧ Gr W w') := fun W hG ad' b' cap' hR => nearest_ok g ad' b' cap' l a b c d W hR ll (hl.below hG.out) hr hok hb hc p q m hs
  obtain ⟨u, u1, v, v1, ⟨-, e1⟩, ⟨-, e2⟩, ⟨-, e3⟩, ⟨-, e4⟩, e5, -, -⟩ := cnt_wr hb
  obtain ⟨pb, hpb⟩ : ∃ t : Bool, t = decide (pin a b c d x y ∧ mi = m ∧ mss l x y = mi) := ⟨_, rfl⟩
  have HIn := hidb (fun (k : pin a b c d x y) => (show inP x y by have := okB_bd hb; unfold pin at k; unfold inP; omega))
  have CV : Hid (∀ W, Gr w W → ∀ ad' b' cap', RSl 30 W ad' b' cap' l → Calls Tryd.prog 19 #[.slice ad' l.length cap', boV a b c d, spV x y, .int .i64 mi] W fun e w' => e = .returned (.bool pb) ∧ Gr W w') := fun W hG ad' b' cap' hR => by
    by_cases k : pin a b c d x y
    · have := proved_ok (.slice ad' l.length cap') a b c d x y mi p q m (mss l x y) W k (fun W2 hG2 => CN.out W2 (Gr.step hG hG2.out) ad' b' cap' (hR.below hG2.out)) (fun W2 hG2 => missed_any ad' b' cap' l x y W2 (hR.below hG2.out) ll hok (HIn.out k))
      rw [hpb, show decide (pin a b c d x y ∧ mi = m ∧ mss l x y = mi) = decide (mi = m ∧ mss l x y = mi) from decide_eq_decide.2 ⟨fun h => h.2, fun h => ⟨k, h⟩⟩]
      exact this
    · rw [hpb, decide_eq_false (fun h => k h.1)]
      exact proved_out _ a b c d x y mi W k
  have HL := hidb hl
  obtain ⟨ct, hct⟩ : ∃ z, z = cnt a b c d := ⟨_, rfl⟩
  rw [← hct] at hc hc2 e5
  have CD3 := hidb (fun W (hG : Gr w W) => coded_i g 2 (by decide) 3 (by decide) W (hl.below hG.out))
  clear h ll hl hr hrc hok hb hct
  clear hpb hs
  by_cases hp : inP x y
  · rw [decide_eq_true hp] at CP
    replace CM2 := hidb (fun W hG ad' b' cap' hR => CM2.out W hG ad' b' cap' hR hp)
    have KO := hidb (CO.out x y hp)
    obtain ⟨z, hz⟩ : ∃ z, z = mss l x y := ⟨_, rfl⟩
    rw [← hz] at CM2 KO
    have HZ := hidb hz
    clear CM1 hz
    go_enter Tryd.func4, Tryd.ntmps4
    go_wp2_with fail
    refine (CF.out _ P.out.gr).mono ?_
    rintro e w1 ⟨rfl, hB⟩
    replace P := hidb (P.out.below hB.out)
    clear hB
    go_wp2_with fail
    refine (CE.out _ P.out.gr).mono ?_
    rintro e w2 ⟨rfl, hB⟩
    replace P := hidb (P.out.below hB.out)
    clear hB
    go_upto_region 5 with fail
    go_cut [11, 12] from 38 to 44 (fun s11 s12 wx => s11 = .int .i64 z ∧ s12 = .nilIface ∧ Hid (PvP w wx a b c d x y))
    case first =>
      have E := P.out
      clear P
      go_region_held (fun w' => (w'.cell? ⟨w.heap.size, 0, none⟩ = some (.int .i64 a) ∧ w'.cell? ⟨w.heap.size, 1, none⟩ = some (.int .i64 b) ∧ w'.cell? ⟨w.heap.size, 2, none⟩ = some (.int .i64 c) ∧ w'.cell? ⟨w.heap.size, 3, none⟩ = some (.int .i64 d)) ∧ w'.cell? ⟨w.heap.size + 1, 0, none⟩ = some (.int .i64 x) ∧ w'.cell? ⟨w.heap.size + 1, 1, none⟩ = some (.int .i64 y))
        (with_reducible first | exact E.all | exact E.drew.all)
        ((first
          | (go_at_call 8; with_reducible refine (CRg.out _ (by with_reducible first | exact E.gr | exact E.drew.gr)).mono ?_; rintro e w8 ⟨ad8, b8, cap8, rfl, hR8, hB8⟩; (with_reducible first | replace E := E.below hB8.out | replace E := E.drew.below hB8.out); clear hB8)
          | (go_at_call 14; with_reducible refine (CM2.out _ E.gr _ _ _ hR8).mono ?_; rintro e w9 ⟨rfl, hB8⟩; replace E := E.below hB8.out; clear hB8)))
      all_goals
        go_wp2_with fail
        go_meet
        exact ⟨rfl, rfl, E⟩
    case rest =>
    clear P
    obtain ⟨rfl, rfl, P⟩ := hcut
    obtain ⟨y0, y1⟩ := P.out.a1.c2
    go_wp2_with fail
    refine (CP.out _).mono ?_
    rintro e w3 ⟨rfl, hB, _⟩
    replace P := hidb (P.out.below hB.out)
    clear hB y0 y1
    go_wp2_with fail
    refine (coded_0 _).mono ?_
    rintro e w4 ⟨rfl, hB⟩
    replace P := hidb (P.out.below hB.out)
    clear hB
    obtain ⟨y0, y1⟩ := P.out.a1.c2
    go_wp2_with fail
    refine (KO.out _ P.out.gr).mono ?_
    rintro e w4' ⟨rfl, hB⟩
    replace P := hidb (P.out.below hB.out)
    clear hB y0 y1
    obtain ⟨b0, b1, b2, b3⟩ := P.out.a0.c4
    go_wp2_with fail
    refine (CB.out _).mono ?_
    rintro e w5 ⟨rfl, hB⟩
    replace P := hidb (P.out.below hB.out)
    clear hB b0 b1 b2 b3
    go_upto_region 15 with fail
    go_cut [16, 17, 12] from 85 to 92 (fun s16 s17 s12 wx => ∃ B, s16 = .pointer (some ⟨B, 0, none⟩) ∧ s17 = .int .i64 m ∧ s12 = .nilIface ∧ Hid (LwF w wx B a b c d x y p q))
    case first =>
      have E := P.out
      clear P
      have q1 := E.a1.lt
      go_region_held (fun w' => (w'.cell? ⟨w.heap.size, 0, none⟩ = some (.int .i64 a) ∧ w'.cell? ⟨w.heap.size, 1, none⟩ = some (.int .i64 b) ∧ w'.cell? ⟨w.heap.size, 2, none⟩ = some (.int .i64 c) ∧ w'.cell? ⟨w.heap.size, 3, none⟩ = some (.int .i64 d)) ∧ w'.cell? ⟨w.heap.size + 1, 0, none⟩ = some (.int .i64 x) ∧ w'.cell? ⟨w.heap.size + 1, 1, none⟩ = some (.int .i64 y))
        (with_reducible first | exact E.all | exact E.drew.all | exact (E.alloc _).all | exact (E.alloc _).drew.all | exact ((E.set q8 _ _).set q8 _ _).all | exact ((E.set q1 _ _).set q1 _ _).all)
        ((first
          | (go_at_call 8; with_reducible refine (CRg.out _ (by with_reducible repeat' (first | exact E.gr | refine Gr.drew ?_ | refine Gr.alloc ?_ _))).mono ?_; rintro e w8 ⟨ad8, b8, cap8, rfl, hR8, hB8⟩; (with_reducible first | have A8 := At.below hB8.out (At.new2 _ _ _ _) | have A8 := At.below hB8.out (At.new2 _ _ _ _).drew | skip); (with_reducible first | replace E := E.below hB8.out | replace E := E.drew.below hB8.out | replace E := (E.alloc _).below hB8.out | replace E := (E.alloc _).drew.below hB8.out); have q8 := E.a1.lt; clear hB8)
          | (go_at_call 18; with_reducible refine (CN.out _ (by with_reducible repeat' (first | exact E.gr | refine Gr.drew ?_ | refine Gr.alloc ?_ _)) _ _ _ (by with_reducible first | exact hR8 | exact hR8.below ((Below.refl _ _).alloc (Nat.le_refl _) _))).mono ?_; rintro e w9 ⟨rfl, hB8⟩; (with_reducible first | replace A8 := At.below hB8.out A8 | have A8 := At.below hB8.out (At.new2 _ _ _ _) | skip); (with_reducible first | replace E := E.below hB8.out | replace E := (E.alloc _).below hB8.out); have q9 := E.a1.lt; clear hB8; (try (obtain ⟨f80, f81⟩ := A8.f2; obtain ⟨c80, c81⟩ := A8.c2; have H8 := A8.has (n := 2) rfl)))))
      all_goals
        go_wp2_with fail
        go_meet
        with_reducible first
          | exact ⟨_, rfl, rfl, rfl, hidb ⟨E.alloc _, At.new2 _ _ _ _, q9⟩⟩
          | exact ⟨_, rfl, rfl, rfl, hidb ⟨(E.set q8 _ _).set q8 _ _, At.fill2 H8 _ _, q8⟩⟩
          | exact ⟨_, rfl, rfl, rfl, hidb ⟨(E.set q1 _ _).set q1 _ _, At.fill2 H8 _ _, q1⟩⟩
    case rest =>
    clear P
    obtain ⟨B, rfl, rfl, rfl, P⟩ := hcut
    go_upto_region 16 with fail
    go_cut [18] from 93 to 98 (fun s18 wx => s18 = .bool pb ∧ Hid (LwF w wx B a b c d x y p q))
    case first =>
      have E := P.out
      clear P
      go_region_held (fun w' => (w'.cell? ⟨w.heap.size, 0, none⟩ = some (.int .i64 a) ∧ w'.cell? ⟨w.heap.size, 1, none⟩ = some (.int .i64 b) ∧ w'.cell? ⟨w.heap.size, 2, none⟩ = some (.int .i64 c) ∧ w'.cell? ⟨w.heap.size, 3, none⟩ = some (.int .i64 d)) ∧ w'.cell? ⟨w.heap.size + 1, 0, none⟩ = some (.int .i64 x) ∧ w'.cell? ⟨w.heap.size + 1, 1, none⟩ = some (.int .i64 y))
        (with_reducible first | exact E.pr.all | exact E.drew.pr.all)
        ((first
          | (go_at_call 8; with_reducible refine (CRg.out _ (by with_reducible first | exact E.pr.gr | exact E.drew.pr.gr)).mono ?_; rintro e w8 ⟨ad8, b8, cap8, rfl, hR8, hB8⟩; (with_reducible first | replace E := E.below hB8.out | replace E := E.drew.below hB8.out); clear hB8)
          | (go_at_call 19; with_reducible refine (CV.out _ E.pr.gr _ _ _ hR8).mono ?_; rintro e w9 ⟨rfl, hB8⟩; replace E := E.below hB8.out; clear hB8)))
      all_goals
        go_wp2_with fail
        go_meet
        exact ⟨rfl, E⟩
    case rest =>
    clear P
    obtain ⟨rfl, P⟩ := hcut
    obtain ⟨b0, b1, b2, b3⟩ := P.out.pr.a0.c4
    go_wp2
    go_ret
    exact ⟨rfl, P.out.pr.gr⟩
  · rw [decide_eq_false hp] at CP
    have hp' := hp
    clear CM2
    go_enter Tryd.func4, Tryd.ntmps4
    go_wp2_with fail
    refine (CF.out _ P.out.gr).mono ?_
    rintro e w1 ⟨rfl, hB⟩
    replace P := hidb (P.out.below hB.out)
    clear hB
    go_wp2_with fail
    refine (CE.out _ P.out.gr).mono ?_
    rintro e w2 ⟨rfl, hB⟩
    replace P := hidb (P.out.below hB.out)
    clear hB
    go_upto_region 5 with fail
    go_cut [11, 12] from 38 to 44 (fun s11 s12 wx => s11 = .int .i64 0 ∧ s12 = errV g 2 ∧ Hid (PvP w wx a b c d x y))
    case first =>
      have E := P.out
      clear P
      go_region_held (fun w' => (w'.cell? ⟨w.heap.size, 0, none⟩ = some (.int .i64 a) ∧ w'.cell? ⟨w.heap.size, 1, none⟩ = some (.int .i64 b) ∧ w'.cell? ⟨w.heap.size, 2, none⟩ = some (.int .i64 c) ∧ w'.cell? ⟨w.heap.size, 3, none⟩ = some (.int .i64 d)) ∧ w'.cell? ⟨w.heap.size + 1, 0, none⟩ = some (.int .i64 x) ∧ w'.cell? ⟨w.heap.size + 1, 1, none⟩ = some (.int .i64 y))
        (with_reducible first | exact E.all | exact E.drew.all)
        ((first
          | (go_at_call 8; with_reducible refine (CRg.out _ (by with_reducible first | exact E.gr | exact E.drew.gr)).mono ?_; rintro e w8 ⟨ad8, b8, cap8, rfl, hR8, hB8⟩; (with_reducible first | replace E := E.below hB8.out | replace E := E.drew.below hB8.out); clear hB8)
          | (go_at_call 14; with_reducible refine (CM1.out _ E.gr _ _ _ hR8 hp).mono ?_; rintro e w9 ⟨rfl, hB8⟩; replace E := E.below hB8.out; clear hB8)))
      all_goals
        go_wp2_with fail
        go_meet
        exact ⟨rfl, rfl, E⟩
    case rest =>
    clear P
    obtain ⟨rfl, rfl, P⟩ := hcut
    obtain ⟨y0, y1⟩ := P.out.a1.c2
    go_wp2_with fail
    refine (CP.out _).mono ?_
    rintro e w3 ⟨rfl, hB, _⟩
    replace P := hidb (P.out.below hB.out)
    clear hB y0 y1
    go_wp2_with fail
    refine (CD3.out _ P.out.gr).mono ?_
    rintro e w4 ⟨rfl, hB⟩
    replace P := hidb (P.out.below hB.out)
    clear hB
    obtain ⟨b0, b1, b2, b3⟩ := P.out.a0.c4
    go_wp2_with fail
    refine (CB.out _).mono ?_
    rintro e w5 ⟨rfl, hB⟩
    replace P := hidb (P.out.below hB.out)
    clear hB b0 b1 b2 b3
    go_upto_region 15 with fail
    go_cut [16, 17, 12] from 85 to 92 (fun s16 s17 s12 wx => ∃ B, s16 = .pointer (some ⟨B, 0, none⟩) ∧ s17 = .int .i64 m ∧ s12 = .nilIface ∧ Hid (LwF w wx B a b c d x y p q))
    case first =>
      have E := P.out
      clear P
      have q1 := E.a1.lt
      go_region_held (fun w' => (w'.cell? ⟨w.heap.size, 0, none⟩ = some (.int .i64 a) ∧ w'.cell? ⟨w.heap.size, 1, none⟩ = some (.int .i64 b) ∧ w'.cell? ⟨w.heap.size, 2, none⟩ = some (.int .i64 c) ∧ w'.cell? ⟨w.heap.size, 3, none⟩ = some (.int .i64 d)) ∧ w'.cell? ⟨w.heap.size + 1, 0, none⟩ = some (.int .i64 x) ∧ w'.cell? ⟨w.heap.size + 1, 1, none⟩ = some (.int .i64 y))
        (with_reducible first | exact E.all | exact E.drew.all | exact (E.alloc _).all | exact (E.alloc _).drew.all | exact ((E.set q8 _ _).set q8 _ _).all | exact ((E.set q1 _ _).set q1 _ _).all)
        ((first
          | (go_at_call 8; with_reducible refine (CRg.out _ (by with_reducible repeat' (first | exact E.gr | refine Gr.drew ?_ | refine Gr.alloc ?_ _))).mono ?_; rintro e w8 ⟨ad8, b8, cap8, rfl, hR8, hB8⟩; (with_reducible first | have A8 := At.below hB8.out (At.new2 _ _ _ _) | have A8 := At.below hB8.out (At.new2 _ _ _ _).drew | skip); (with_reducible first | replace E := E.below hB8.out | replace E := E.drew.below hB8.out | replace E := (E.alloc _).below hB8.out | replace E := (E.alloc _).drew.below hB8.out); have q8 := E.a1.lt; clear hB8)
          | (go_at_call 18; with_reducible refine (CN.out _ (by with_reducible repeat' (first | exact E.gr | refine Gr.drew ?_ | refine Gr.alloc ?_ _)) _ _ _ (by with_reducible first | exact hR8 | exact hR8.below ((Below.refl _ _).alloc (Nat.le_refl _) _))).mono ?_; rintro e w9 ⟨rfl, hB8⟩; (with_reducible first | replace A8 := At.below hB8.out A8 | have A8 := At.below hB8.out (At.new2 _ _ _ _) | skip); (with_reducible first | replace E := E.below hB8.out | replace E := (E.alloc _).below hB8.out); have q9 := E.a1.lt; clear hB8; (try (obtain ⟨f80, f81⟩ := A8.f2; obtain ⟨c80, c81⟩ := A8.c2; have H8 := A8.has (n := 2) rfl)))))
      all_goals
        go_wp2_with fail
        go_meet
        with_reducible first
          | exact ⟨_, rfl, rfl, rfl, hidb ⟨E.alloc _, At.new2 _ _ _ _, q9⟩⟩
          | exact ⟨_, rfl, rfl, rfl, hidb ⟨(E.set q8 _ _).set q8 _ _, At.fill2 H8 _ _, q8⟩⟩
          | exact ⟨_, rfl, rfl, rfl, hidb ⟨(E.set q1 _ _).set q1 _ _, At.fill2 H8 _ _, q1⟩⟩
    case rest =>
    clear P
    obtain ⟨B, rfl, rfl, rfl, P⟩ := hcut
    go_upto_region 16 with fail
    go_cut [18] from 93 to 98 (fun s18 wx => s18 = .bool pb ∧ Hid (LwF w wx B a b c d x y p q))
    case first =>
      have E := P.out
      clear P
      go_region_held (fun w' => (w'.cell? ⟨w.heap.size, 0, none⟩ = some (.int .i64 a) ∧ w'.cell? ⟨w.heap.size, 1, none⟩ = some (.int .i64 b) ∧ w'.cell? ⟨w.heap.size, 2, none⟩ = some (.int .i64 c) ∧ w'.cell? ⟨w.heap.size, 3, none⟩ = some (.int .i64 d)) ∧ w'.cell? ⟨w.heap.size + 1, 0, none⟩ = some (.int .i64 x) ∧ w'.cell? ⟨w.heap.size + 1, 1, none⟩ = some (.int .i64 y))
        (with_reducible first | exact E.pr.all | exact E.drew.pr.all)
        ((first
          | (go_at_call 8; with_reducible refine (CRg.out _ (by with_reducible first | exact E.pr.gr | exact E.drew.pr.gr)).mono ?_; rintro e w8 ⟨ad8, b8, cap8, rfl, hR8, hB8⟩; (with_reducible first | replace E := E.below hB8.out | replace E := E.drew.below hB8.out); clear hB8)
          | (go_at_call 19; with_reducible refine (CV.out _ E.pr.gr _ _ _ hR8).mono ?_; rintro e w9 ⟨rfl, hB8⟩; replace E := E.below hB8.out; clear hB8)))
      all_goals
        go_wp2_with fail
        go_meet
        exact ⟨rfl, E⟩
    case rest =>
    clear P
    obtain ⟨rfl, P⟩ := hcut
    obtain ⟨b0, b1, b2, b3⟩ := P.out.pr.a0.c4
    go_wp2
    go_ret
    exact ⟨rfl, P.out.pr.gr⟩
end Go.Proofs.YtehkonddgiakaaaDoor
