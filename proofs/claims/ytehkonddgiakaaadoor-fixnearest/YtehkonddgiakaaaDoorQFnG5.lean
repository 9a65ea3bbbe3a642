/-
  FixNearest: one of its ways (genFnF.py).
-/
import Derived.Test.YtehkonddgiakaaaDoorQFnF
import Derived.Deep.DrawnRows
namespace Go.Proofs.YtehkonddgiakaaaDoor
open Go.RowKit
attribute [local go_sem ↓] Go.wp_at_zero Go.wp_at_succ

set_option maxRecDepth 4000 in
set_option maxHeartbeats 16000000 in
theorem fixNearest_5 (g : Nat → Addr) (ad : Option Addr) (b0 o cap : Nat) (l : List Rg) (a b c d x y mi : Int) (w : World) (hl : Laid w g) (h : RSo w ad b0 o cap l) (ll : l.length ≤ 70) (hr : rerr g l = .nilIface) (hrc : rcode l = 0) (hok : ∀ r ∈ l, okR r) (hb : okB a b c d = true) (hc : ¬ 100000 < cnt a b c d) (hc2 : ¬ 600 < cnt a b c d) : Calls Tryd.prog 4 #[.slice ad l.length cap, boV a b c d, spV x y, .int .i64 mi] w fun e w' => e = .returned (.bool true) ∧ Gr w w' := by
  have CF := hidb (fun W (hG : Gr w W) => fixes_any g W (hl.below hG.out))
  have CE := hidb (fun W (hG : Gr w W) => rangesErrorO ad b0 o cap l W (h.below hG.out) (by omega))
  rw [hrc] at CE
  have CRg := hidb (fun W (hG : Gr w W) => rangesO ad b0 o cap l W (h.below hG.out) (by omega))
  have CP := hidb (fun W => isPlace_any x y W)
  have CB := hidb (fun W => isBox_any a b c d W)
  have P := hidb (PvP.new w a b c d x y 47 45)
  have l70 : ¬ 70 < (l.length : Int) := by omega
  have CM1 := hidb (fun W (hG : Gr w W) ad' b' cap' hR (hp : ¬ inP x y) => miss_bad2 g ad' b' cap' l x y W hR ll (hl.below hG.out) hr hp)
  have CM2 := hidb (fun W (hG : Gr w W) ad' b' cap' hR (hp : inP x y) => miss_ok g ad' b' cap' l x y W hR ll (hl.below hG.out) hr hok hp)
  have CO := hidb (fun x y (hp : inP x y) W (hG : Gr w W) => missOfO ad b0 o cap l x y W (h.below hG.out) ll hok hp)
  rw [hb] at CB
  obtain ⟨⟨p, q, m⟩, hs⟩ : ∃ s, s = nrs l a b c d := ⟨_, rfl⟩
  have CN : Hid (∀ W, Gr w W → ∀ ad' b' cap', RSl 30 W ad' b' cap' l → Calls Tryd.prog 18 #[.slice ad' l.length cap', boV a b c d] W fun e w' => e = .returned (.tuple #[spV p q, .int .i64 m, .nilIface]) ∧ Gr W w') := fun W hG ad' b' cap' hR => nearest_ok g ad' b' cap' l a b c d W hR ll (hl.below hG.out) hr hok hb hc p q m hs
  obtain ⟨u, u1, v, v1, ⟨-, e1⟩, ⟨-, e2⟩, ⟨-, e3⟩, ⟨-, e4⟩, e5, -, -⟩ := cnt_wr hb
  obtain ⟨pb, hpb⟩ : ∃ t : Bool, t = decide (pin a b c d x y ∧ mi = m ∧ mss l x y = mi) := ⟨_, rfl⟩
  have HIn := hidb (fun (k : pin a b c d x y) => (show inP x y by have := okB_bd hb; unfold pin at k; unfold inP; omega))
  have CV : Hid (∀ W, Gr w W → ∀ ad' b' cap', RSl 30 W ad' b' cap' l → Calls Tryd.prog 19 #[.slice ad' l.length cap', boV a b c d, spV x y, .int .i64 mi] W fun e w' => e = .returned (.bool pb) ∧ Gr W w') := fun W hG ad' b' cap' hR => by
    by_cases k : pin a b c d x y
    · have := proved_ok (.slice ad' l.length cap') a b c d x y mi p q m (mss l x y) W k (fun W2 hG2 => CN.out W2 (Gr.step hG hG2.out) ad' b' cap' (hR.below hG2.out)) (fun W2 hG2 => missed_any ad' b' cap' l x y W2 (hR.below hG2.out) ll hok (HIn.out k))
      rw [hpb, show decide (pin a b c d x y ∧ mi = m ∧ mss l x y = mi) = decide (mi = m ∧ mss l x y = mi) from decide_eq_decide.2 ⟨fun h => h.2, fun h => ⟨k, h⟩⟩]
      exact this
    · rw [hpb, decide_eq_false (fun h => k h.1)]
      exact proved_out _ a b c d x y mi W k
  have hin := nrs_in (l := l) (lx := a) (ly := b) (hx := c) (hy := d) (okB_bd hb).2.2.2.2.1 (okB_bd hb).2.2.2.2.2
  rw [← hs] at hin
  have HInP := hidb (fun x y (h1 : a ≤ x) (h2 : x ≤ c) (h3 : b ≤ y) (h4 : y ≤ d) => (show inP x y by have := okB_bd hb; unfold inP; omega))
  have CV2 : Hid (∀ W, Gr w W → ∀ ad' b' cap', RSl 30 W ad' b' cap' l → Calls Tryd.prog 19 #[.slice ad' l.length cap', boV a b c d, spV p q, .int .i64 m] W fun e w' => e = .returned (.bool true) ∧ Gr W w') := fun W hG ad' b' cap' hR => by
    have hm : mss l p q = m := hin.m.symm
    have h1 := hin.x1
    have h2 := hin.x2
    have h3 := hin.y1
    have h4 := hin.y2
    simp only at h1 h2 h3 h4
    have := proved_ok (.slice ad' l.length cap') a b c d p q m p q m (mss l p q) W (by unfold pin; omega) (fun W2 hG2 => CN.out W2 (Gr.step hG hG2.out) ad' b' cap' (hR.below hG2.out)) (fun W2 hG2 => missed_any ad' b' cap' l p q W2 (hR.below hG2.out) ll hok (HInP.out p q h1 h2 h3 h4))
    rw [hm, decide_eq_true ⟨rfl, rfl⟩] at this
    exact this
  have HBd := hidb (okB_bd hb)
  have sps := fun W => spot_same p q W
  obtain ⟨nx, hnx⟩ : ∃ n : Nat, n = (c - a + 1).toNat := ⟨_, rfl⟩
  obtain ⟨ny, hny⟩ : ∃ n : Nat, n = (d - b + 1).toNat := ⟨_, rfl⟩
  have HN := hidb (show (nx : Int) = c - a + 1 ∧ (ny : Int) = d - b + 1 by have := okB_bd hb; omega)
  have HSc : Hid ((p, q, m) = scn l a b ny nx) := by show _ = _; rw [hs, hnx, hny]; rfl
  obtain ⟨m0, hm0⟩ : ∃ z, z = mss l a b := ⟨_, rfl⟩
  have CO0 := hidb (CO.out a b (HInP.out a b (by omega) (okB_bd hb).2.2.2.2.1 (by omega) (okB_bd hb).2.2.2.2.2))
  rw [← hm0] at CO0
  have H0 : Hid ((a, b, m0) = scn l a b ny 0) := by show _ = _; rw [hm0]; rfl
  have HPb : Hid (pb = decide (pin a b c d x y ∧ mi = m ∧ mss l x y = mi)) := hpb
  have HL := hidb hl
  obtain ⟨ct, hct⟩ : ∃ z, z = cnt a b c d := ⟨_, rfl⟩
  rw [← hct] at hc hc2 e5
  have CD3 := hidb (fun W (hG : Gr w W) => coded_i g 2 (by decide) 3 (by decide) W (hl.below hG.out))
  clear h ll hl hr hrc hok hb hct
  clear hpb hs hin hnx hny hm0
  by_cases hp : inP x y
  · rw [decide_eq_true hp] at CP
    replace CM2 := hidb (fun W hG ad' b' cap' hR => CM2.out W hG ad' b' cap' hR hp)
    have KO := hidb (CO.out x y hp)
    obtain ⟨z, hz⟩ : ∃ z, z = mss l x y := ⟨_, rfl⟩
    rw [← hz] at CM2 KO
    have HZ := hidb hz
    clear CM1 hz
    go_enter Tryd.func4, Tryd.ntmps4
    go_wp2_with fail
    refine (CF.out _ P.out.gr).mono ?_
    rintro e w1 ⟨rfl, hB⟩
    replace P := hidb (P.out.below hB.out)
    clear hB
    go_wp2_with fail
    refine (CE.out _ P.out.gr).mono ?_
    rintro e w2 ⟨rfl, hB⟩
    replace P := hidb (P.out.below hB.out)
    clear hB
    go_upto_region 5 with fail
    go_cut [11, 12] from 38 to 44 (fun s11 s12 wx => s11 = .int .i64 z ∧ s12 = .nilIface ∧ Hid (PvP w wx a b c d x y))
    case first =>
      have E := P.out
      clear P
      go_region_held (fun w' => (w'.cell? ⟨w.heap.size, 0, none⟩ = some (.int .i64 a) ∧ w'.cell? ⟨w.heap.size, 1, none⟩ = some (.int .i64 b) ∧ w'.cell? ⟨w.heap.size, 2, none⟩ = some (.int .i64 c) ∧ w'.cell? ⟨w.heap.size, 3, none⟩ = some (.int .i64 d)) ∧ w'.cell? ⟨w.heap.size + 1, 0, none⟩ = some (.int .i64 x) ∧ w'.cell? ⟨w.heap.size + 1, 1, none⟩ = some (.int .i64 y))
        (with_reducible first | exact E.all | exact E.drew.all)
        ((first
          | (go_at_call 8; with_reducible refine (CRg.out _ (by with_reducible first | exact E.gr | exact E.drew.gr)).mono ?_; rintro e w8 ⟨ad8, b8, cap8, rfl, hR8, hB8⟩; (with_reducible first | replace E := E.below hB8.out | replace E := E.drew.below hB8.out); clear hB8)
          | (go_at_call 14; with_reducible refine (CM2.out _ E.gr _ _ _ hR8).mono ?_; rintro e w9 ⟨rfl, hB8⟩; replace E := E.below hB8.out; clear hB8)))
      all_goals
        go_wp2_with fail
        go_meet
        exact ⟨rfl, rfl, E⟩
    case rest =>
    clear P
    obtain ⟨rfl, rfl, P⟩ := hcut
    obtain ⟨y0, y1⟩ := P.out.a1.c2
    go_wp2_with fail
    refine (CP.out _).mono ?_
    rintro e w3 ⟨rfl, hB, _⟩
    replace P := hidb (P.out.below hB.out)
    clear hB y0 y1
    go_wp2_with fail
    refine (coded_0 _).mono ?_
    rintro e w4 ⟨rfl, hB⟩
    replace P := hidb (P.out.below hB.out)
    clear hB
    obtain ⟨y0, y1⟩ := P.out.a1.c2
    go_wp2_with fail
    refine (KO.out _ P.out.gr).mono ?_
    rintro e w4' ⟨rfl, hB⟩
    replace P := hidb (P.out.below hB.out)
    clear hB y0 y1
    obtain ⟨b0, b1, b2, b3⟩ := P.out.a0.c4
    go_wp2_with fail
    refine (CB.out _).mono ?_
    rintro e w5 ⟨rfl, hB⟩
    replace P := hidb (P.out.below hB.out)
    clear hB b0 b1 b2 b3
    go_upto_region 15 with fail
    go_cut [16, 17, 12] from 85 to 92 (fun s16 s17 s12 wx => ∃ B, s16 = .pointer (some ⟨B, 0, none⟩) ∧ s17 = .int .i64 m ∧ s12 = .nilIface ∧ Hid (LwF w wx B a b c d x y p q))
    case first =>
      have E := P.out
      clear P
      have q1 := E.a1.lt
      go_region_held (fun w' => (w'.cell? ⟨w.heap.size, 0, none⟩ = some (.int .i64 a) ∧ w'.cell? ⟨w.heap.size, 1, none⟩ = some (.int .i64 b) ∧ w'.cell? ⟨w.heap.size, 2, none⟩ = some (.int .i64 c) ∧ w'.cell? ⟨w.heap.size, 3, none⟩ = some (.int .i64 d)) ∧ w'.cell? ⟨w.heap.size + 1, 0, none⟩ = some (.int .i64 x) ∧ w'.cell? ⟨w.heap.size + 1, 1, none⟩ = some (.int .i64 y))
        (with_reducible first | exact E.all | exact E.drew.all | exact (E.alloc _).all | exact (E.alloc _).drew.all | exact ((E.set q8 _ _).set q8 _ _).all | exact ((E.set q1 _ _).set q1 _ _).all)
        ((first
          | (go_at_call 8; with_reducible refine (CRg.out _ (by with_reducible repeat' (first | exact E.gr | refine Gr.drew ?_ | refine Gr.alloc ?_ _))).mono ?_; rintro e w8 ⟨ad8, b8, cap8, rfl, hR8, hB8⟩; (with_reducible first | have A8 := At.below hB8.out (At.new2 _ _ _ _) | have A8 := At.below hB8.out (At.new2 _ _ _ _).drew | skip); (with_reducible first | replace E := E.below hB8.out | replace E := E.drew.below hB8.out | replace E := (E.alloc _).below hB8.out | replace E := (E.alloc _).drew.below hB8.out); have q8 := E.a1.lt; clear hB8)
          | (go_at_call 18; with_reducible refine (CN.out _ (by with_reducible repeat' (first | exact E.gr | refine Gr.drew ?_ | refine Gr.alloc ?_ _)) _ _ _ (by with_reducible first | exact hR8 | exact hR8.below ((Below.refl _ _).alloc (Nat.le_refl _) _))).mono ?_; rintro e w9 ⟨rfl, hB8⟩; (with_reducible first | replace A8 := At.below hB8.out A8 | have A8 := At.below hB8.out (At.new2 _ _ _ _) | skip); (with_reducible first | replace E := E.below hB8.out | replace E := (E.alloc _).below hB8.out); have q9 := E.a1.lt; clear hB8; (try (obtain ⟨f80, f81⟩ := A8.f2; obtain ⟨c80, c81⟩ := A8.c2; have H8 := A8.has (n := 2) rfl)))))
      all_goals
        go_wp2_with fail
        go_meet
        with_reducible first
          | exact ⟨_, rfl, rfl, rfl, hidb ⟨E.alloc _, At.new2 _ _ _ _, q9⟩⟩
          | exact ⟨_, rfl, rfl, rfl, hidb ⟨(E.set q8 _ _).set q8 _ _, At.fill2 H8 _ _, q8⟩⟩
          | exact ⟨_, rfl, rfl, rfl, hidb ⟨(E.set q1 _ _).set q1 _ _, At.fill2 H8 _ _, q1⟩⟩
    case rest =>
    clear P
    obtain ⟨B, rfl, rfl, rfl, P⟩ := hcut
    go_upto_region 16 with fail
    go_cut [18] from 93 to 98 (fun s18 wx => s18 = .bool pb ∧ Hid (LwF w wx B a b c d x y p q))
    case first =>
      have E := P.out
      clear P
      go_region_held (fun w' => (w'.cell? ⟨w.heap.size, 0, none⟩ = some (.int .i64 a) ∧ w'.cell? ⟨w.heap.size, 1, none⟩ = some (.int .i64 b) ∧ w'.cell? ⟨w.heap.size, 2, none⟩ = some (.int .i64 c) ∧ w'.cell? ⟨w.heap.size, 3, none⟩ = some (.int .i64 d)) ∧ w'.cell? ⟨w.heap.size + 1, 0, none⟩ = some (.int .i64 x) ∧ w'.cell? ⟨w.heap.size + 1, 1, none⟩ = some (.int .i64 y))
        (with_reducible first | exact E.pr.all | exact E.drew.pr.all)
        ((first
          | (go_at_call 8; with_reducible refine (CRg.out _ (by with_reducible first | exact E.pr.gr | exact E.drew.pr.gr)).mono ?_; rintro e w8 ⟨ad8, b8, cap8, rfl, hR8, hB8⟩; (with_reducible first | replace E := E.below hB8.out | replace E := E.drew.below hB8.out); clear hB8)
          | (go_at_call 19; with_reducible refine (CV.out _ E.pr.gr _ _ _ hR8).mono ?_; rintro e w9 ⟨rfl, hB8⟩; replace E := E.below hB8.out; clear hB8)))
      all_goals
        go_wp2_with fail
        go_meet
        exact ⟨rfl, E⟩
    case rest =>
    clear P
    obtain ⟨rfl, P⟩ := hcut
    obtain ⟨b0, b1, b2, b3⟩ := P.out.pr.a0.c4
    go_upto_region 24 with fail
    clear b0 b1 b2 b3 e1 e2 e3 e4 e5 hc hc2
    have HN0 := hidb (At.new2 wc (.int .i64 a) (.int .i64 b) 45)
    have HNw := hidb (show w.heap.size + 1 < wc.heap.size ∧ B < wc.heap.size from ⟨P.out.pr.a1.lt, P.out.p0.lt⟩)
    replace P := hidb (P.out.alloc (.cells #[.int .i64 a, .int .i64 b] 45))
    generalize wc.alloc (.cells #[.int .i64 a, .int .i64 b] 45) = w10 at *
    generalize wc.heap.size = N at *
    obtain ⟨n0, n1⟩ := HN0.out.c2
    go_wp2_with fail
    refine (CO0.out _ P.out.pr.gr).mono ?_
    rintro e w11 ⟨rfl, hB⟩
    replace P := hidb (P.out.below hB.out)
    replace HN0 := hidb (At.below hB.out HN0.out)
    clear hB n0 n1
    obtain ⟨b0, b1, b2, b3⟩ := P.out.pr.a0.c4
    go_wp2
    clear b0 b1 b2 b3
    go_loopw [20, 21] (fun s t wr => ∃ (k : Nat) (p1 q1 m1 : Int), k ≤ nx ∧ t = .int .i64 (a + (k : Int)) ∧ s = .int .i64 m1 ∧ Hid ((p1, q1, m1) = scn l a b ny k) ∧ Hid (LwF w wr B a b c d x y p q) ∧ Hid (At wr N [.int .i64 p1, .int .i64 q1])) (fun _ t _ => (c + 1 - intOf t).toNat)
    case atStart => exact ⟨0, a, b, m0, Nat.zero_le _, by simp, rfl, H0, P, HN0⟩
    case round =>
      clear P HN0
      obtain ⟨k, p1, q1, m1, hk, rfl, rfl, HI, P, HN0⟩ := hrel
      obtain ⟨b0, b1, b2, b3⟩ := P.out.pr.a0.c4
      have bd := HBd.out
      have hN := HN.out
      obtain ⟨xx, hx⟩ : ∃ x : Int, x = a + (k : Int) := ⟨_, rfl⟩
      rw [← hx]
      by_cases h1 : k < nx
      · have h1' : xx ≤ c := by omega
        have e1 : IntKind.i64.wrap (xx + 1) = xx + 1 := wr_in (by omega) (by omega)
        have HX := hidb (show xx = a + (k : Int) ∧ a ≤ xx ∧ xx ≤ c by omega)
        have HI0 : Hid ((p1, q1, m1) = cln l xx b (scn l a b ny k) 0) := HI
        clear bd hN hx
        go_wp2
        clear b0 b1 b2 b3
        go_loopw [20, 22] (fun s t wr => ∃ (j : Nat) (p1 q1 m1 : Int), j ≤ ny ∧ t = .int .i64 (b + (j : Int)) ∧ s = .int .i64 m1 ∧ Hid ((p1, q1, m1) = cln l xx b (scn l a b ny k) j) ∧ Hid (LwF w wr B a b c d x y p q) ∧ Hid (At wr N [.int .i64 p1, .int .i64 q1])) (fun _ t _ => (d + 1 - intOf t).toNat)
        case atStart => exact ⟨0, p1, q1, m1, Nat.zero_le _, by simp, rfl, HI0, P, HN0⟩
        case round =>
          clear P HN0 HI0
          obtain ⟨j, p2, q2, m2, hj, rfl, rfl, HJ, P, HN0⟩ := hrel
          obtain ⟨b0, b1, b2, b3⟩ := P.out.pr.a0.c4
          have bd := HBd.out
          have hN := HN.out
          obtain ⟨yy, hy⟩ : ∃ y : Int, y = b + (j : Int) := ⟨_, rfl⟩
          rw [← hy]
          by_cases h2 : j < ny
          · have h2' : yy ≤ d := by omega
            have e2 : IntKind.i64.wrap (yy + 1) = yy + 1 := wr_in (by omega) (by omega)
            have KM := hidb (CO.out xx yy (HInP.out xx yy HX.out.2.1 HX.out.2.2 (by omega) (by omega)))
            obtain ⟨zz, hz⟩ : ∃ z, z = mss l xx yy := ⟨_, rfl⟩
            rw [← hz] at KM
            have HY := hidb hy
            have HNx : Hid (cln l xx b (scn l a b ny k) (j + 1) = stp l (p2, q2, m2) xx yy) := by
              show _ = _
              rw [HJ.out, hy]
              rfl
            have HZZ := hidb hz
            clear bd hN hy hz
            go_wp2_with fail
            refine (KM.out _ P.out.pr.gr).mono ?_
            rintro e w12 ⟨rfl, hB⟩
            replace P := hidb (P.out.below hB.out)
            replace HN0 := hidb (At.below hB.out HN0.out)
            clear hB b0 b1 b2 b3
            obtain ⟨b0, b1, b2, b3⟩ := P.out.pr.a0.c4
            by_cases h3 : zz < m2
            · have hst := stp_lt (p := p2) (q := q2) HZZ.out h3
              have HJ2 : Hid ((xx, yy, zz) = cln l xx b (scn l a b ny k) (j + 1)) := by show _ = _; rw [HNx.out, hst]
              obtain ⟨n0, n1⟩ := HN0.out.c2
              obtain ⟨f0, f1⟩ := HN0.out.f2
              have NH := HN0.out.has (n := 2) rfl
              have nw := HNw.out.1
              have nb : ¬ N = B := by have := HNw.out.2; omega
              clear hst
              go_wp2
              go_roundw
              case rel => exact ⟨j + 1, xx, yy, zz, by omega, by have := HY.out; refine congrArg (Value.int .i64) ?_; omega, rfl, HJ2, hidb ⟨(P.out.pr.set nw _ _).set nw _ _, (P.out.p0.skip nb _ _).skip nb _ _, P.out.pw⟩, hidb (At.fill2 NH _ _)⟩
              case measure => simp [intOf]; omega
            · have hst := stp_ge (p := p2) (q := q2) HZZ.out h3
              have HJ2 : Hid ((p2, q2, m2) = cln l xx b (scn l a b ny k) (j + 1)) := by show _ = _; rw [HNx.out, hst]
              clear hst
              go_wp2
              go_roundw
              case rel => exact ⟨j + 1, p2, q2, m2, by omega, by have := HY.out; refine congrArg (Value.int .i64) ?_; omega, rfl, HJ2, P, HN0⟩
              case measure => simp [intOf]; omega
          · have h2' : ¬ yy ≤ d := by omega
            have hjn : j = ny := by omega
            have HI2 : Hid ((p2, q2, m2) = scn l a b ny (k + 1)) := by
              show _ = _
              rw [HJ.out, hjn, HX.out.1]
              rfl
            clear bd hN hy hjn hj h2
            go_wp2
            go_roundw
            case rel => exact ⟨k + 1, p2, q2, m2, by omega, by have := HX.out; refine congrArg (Value.int .i64) ?_; omega, rfl, HI2, P, HN0⟩
            case measure => simp [intOf]; omega
      · have h1' : ¬ xx ≤ c := by omega
        have hkn : k = nx := by omega
        rw [hkn] at HI
        have hpq := HI.out.trans HSc.out.symm
        simp only [Prod.mk.injEq] at hpq
        obtain ⟨g1, g2, g3⟩ := hpq
        have sp1 : ∀ W, (binOp .eql 45 (spV p q) (spV p1 q1)).run Tryd.prog W = .ok (.bool true) W := by rw [g1, g2]; exact sps
        have mm : (m == m1) = true := by rw [g3]; simp
        have HG3 := hidb g3
        clear bd hN hx hkn hk h1 g1 g2 g3 sps
        go_upto_region 35 with fail
        clear b0 b1 b2 b3
        obtain ⟨⟨b0, b1, b2, b3⟩, y0, y1⟩ := P.out.pr.all
        obtain ⟨bp, hbp⟩ : ∃ t : Bool, t = decide (pin a b c d x y) := ⟨_, rfl⟩
        have HBp := hidb hbp
        clear hbp
        go_cut [24] from 194 to 223 (fun s24 wx => s24 = .bool bp ∧ wx = wr)
        case first =>
          by_cases k1 : a ≤ x
          · by_cases k2 : x ≤ c
            · by_cases k3 : b ≤ y
              · by_cases k4 : y ≤ d
                · go_wp2
                  go_meet
                  exact ⟨by rw [HBp.out, decide_eq_true (show pin a b c d x y by unfold pin; omega)], rfl⟩
                · go_wp2
                  go_meet
                  exact ⟨by rw [HBp.out, decide_eq_false (show ¬ pin a b c d x y by unfold pin; omega)], rfl⟩
              · go_wp2
                go_meet
                exact ⟨by rw [HBp.out, decide_eq_false (show ¬ pin a b c d x y by unfold pin; omega)], rfl⟩
            · go_wp2
              go_meet
              exact ⟨by rw [HBp.out, decide_eq_false (show ¬ pin a b c d x y by unfold pin; omega)], rfl⟩
          · go_wp2
            go_meet
            exact ⟨by rw [HBp.out, decide_eq_false (show ¬ pin a b c d x y by unfold pin; omega)], rfl⟩
        case rest =>
        obtain ⟨rfl, rfl⟩ := hcut
        go_upto_region 36 with fail
        go_cut [25] from 224 to 236 (fun s25 wx => s25 = .bool pb ∧ Hid (LwF w wx B a b c d x y p q) ∧ Hid (At wx N [.int .i64 p1, .int .i64 q1]))
        case first =>
          cases bp
          case true =>
            have kp : pin a b c d x y := of_decide_eq_true HBp.out.symm
            have KO2 := hidb (CO.out x y (HIn.out kp))
            obtain ⟨z2, hz2⟩ : ∃ z, z = mss l x y := ⟨_, rfl⟩
            rw [← hz2] at KO2
            have HP2 : Hid (pb = decide (mi = m1 ∧ z2 = mi)) := by
              show _ = _
              rw [HPb.out, hz2, HG3.out]
              exact decide_eq_decide.2 ⟨fun h => h.2, fun h => ⟨kp, h⟩⟩
            clear hz2 kp
            go_wp2_with fail
            refine (KO2.out _ P.out.pr.gr).mono ?_
            rintro e w13 ⟨rfl, hB⟩
            replace P := hidb (P.out.below hB.out)
            replace HN0 := hidb (At.below hB.out HN0.out)
            clear hB b0 b1 b2 b3 y0 y1
            by_cases c1 : z2 = mi
            · by_cases c2 : mi = m1
              · have c1' : (z2 == mi) = true := by simpa using c1
                have c2' : (mi == m1) = true := by simpa using c2
                have HQ : Hid (pb = true) := by show _ = _; rw [HP2.out]; exact decide_eq_true ⟨c2, c1⟩
                clear c1 c2
                go_wp2
                go_meet
                exact ⟨by rw [HQ.out], P, HN0⟩
              · have c1' : (z2 == mi) = true := by simpa using c1
                have c2' : (mi == m1) = false := by simpa using c2
                have HQ : Hid (pb = false) := by show _ = _; rw [HP2.out]; exact decide_eq_false (fun h => c2 h.1)
                clear c1 c2
                go_wp2
                go_meet
                exact ⟨by rw [HQ.out], P, HN0⟩
            · have c1' : (z2 == mi) = false := by simpa using c1
              have HQ : Hid (pb = false) := by show _ = _; rw [HP2.out]; exact decide_eq_false (fun h => c1 h.2)
              clear c1
              go_wp2
              go_meet
              exact ⟨by rw [HQ.out], P, HN0⟩
          case false =>
            have kp : ¬ pin a b c d x y := of_decide_eq_false HBp.out.symm
            have HQ : Hid (pb = false) := by show _ = _; rw [HPb.out]; exact decide_eq_false (fun h => kp h.1)
            clear kp
            go_wp2
            go_meet
            exact ⟨by rw [HQ.out], P, HN0⟩
        case rest =>
        clear P HN0 b0 b1 b2 b3 y0 y1
        obtain ⟨rfl, P, HN0⟩ := hcut
        go_upto_region 37 with fail
        go_cut [26] from 237 to 242 (fun s26 wx => s26 = .bool true ∧ Hid (LwF w wx B a b c d x y p q) ∧ Hid (At wx N [.int .i64 p1, .int .i64 q1]))
        case first =>
          have E := P.out
          have A := HN0.out
          clear P HN0
          go_region_held (fun w' => ((w'.cell? ⟨w.heap.size, 0, none⟩ = some (.int .i64 a) ∧ w'.cell? ⟨w.heap.size, 1, none⟩ = some (.int .i64 b) ∧ w'.cell? ⟨w.heap.size, 2, none⟩ = some (.int .i64 c) ∧ w'.cell? ⟨w.heap.size, 3, none⟩ = some (.int .i64 d)) ∧ w'.cell? ⟨w.heap.size + 1, 0, none⟩ = some (.int .i64 x) ∧ w'.cell? ⟨w.heap.size + 1, 1, none⟩ = some (.int .i64 y)) ∧ (w'.cell? ⟨B, 0, none⟩ = some (.int .i64 p) ∧ w'.cell? ⟨B, 1, none⟩ = some (.int .i64 q)))
            (with_reducible first | exact ⟨E.pr.all, E.p0.c2⟩ | exact ⟨E.drew.pr.all, E.drew.p0.c2⟩)
            ((first
              | (go_at_call 8; with_reducible refine (CRg.out _ (by with_reducible first | exact E.pr.gr | exact E.drew.pr.gr)).mono ?_; rintro e w8 ⟨ad8, b8, cap8, rfl, hR8, hB8⟩; (with_reducible first | (replace E := E.below hB8.out; replace A := At.below hB8.out A) | (replace E := E.drew.below hB8.out; replace A := At.below hB8.out A.drew)); clear hB8)
              | (go_at_call 19; with_reducible refine (CV2.out _ E.pr.gr _ _ _ hR8).mono ?_; rintro e w9 ⟨rfl, hB8⟩; replace E := E.below hB8.out; replace A := At.below hB8.out A; clear hB8)))
          all_goals
            go_wp2_with fail
            go_meet
            exact ⟨rfl, E, A⟩
        case rest =>
        clear P HN0
        obtain ⟨rfl, P, HN0⟩ := hcut
        obtain ⟨n0, n1⟩ := HN0.out.c2
        obtain ⟨r0, r1⟩ := P.out.p0.c2
        go_wp2
        go_ret
        exact ⟨by simp, P.out.pr.gr⟩
  · rw [decide_eq_false hp] at CP
    have hp' := hp
    clear CM2
    go_enter Tryd.func4, Tryd.ntmps4
    go_wp2_with fail
    refine (CF.out _ P.out.gr).mono ?_
    rintro e w1 ⟨rfl, hB⟩
    replace P := hidb (P.out.below hB.out)
    clear hB
    go_wp2_with fail
    refine (CE.out _ P.out.gr).mono ?_
    rintro e w2 ⟨rfl, hB⟩
    replace P := hidb (P.out.below hB.out)
    clear hB
    go_upto_region 5 with fail
    go_cut [11, 12] from 38 to 44 (fun s11 s12 wx => s11 = .int .i64 0 ∧ s12 = errV g 2 ∧ Hid (PvP w wx a b c d x y))
    case first =>
      have E := P.out
      clear P
      go_region_held (fun w' => (w'.cell? ⟨w.heap.size, 0, none⟩ = some (.int .i64 a) ∧ w'.cell? ⟨w.heap.size, 1, none⟩ = some (.int .i64 b) ∧ w'.cell? ⟨w.heap.size, 2, none⟩ = some (.int .i64 c) ∧ w'.cell? ⟨w.heap.size, 3, none⟩ = some (.int .i64 d)) ∧ w'.cell? ⟨w.heap.size + 1, 0, none⟩ = some (.int .i64 x) ∧ w'.cell? ⟨w.heap.size + 1, 1, none⟩ = some (.int .i64 y))
        (with_reducible first | exact E.all | exact E.drew.all)
        ((first
          | (go_at_call 8; with_reducible refine (CRg.out _ (by with_reducible first | exact E.gr | exact E.drew.gr)).mono ?_; rintro e w8 ⟨ad8, b8, cap8, rfl, hR8, hB8⟩; (with_reducible first | replace E := E.below hB8.out | replace E := E.drew.below hB8.out); clear hB8)
          | (go_at_call 14; with_reducible refine (CM1.out _ E.gr _ _ _ hR8 hp).mono ?_; rintro e w9 ⟨rfl, hB8⟩; replace E := E.below hB8.out; clear hB8)))
      all_goals
        go_wp2_with fail
        go_meet
        exact ⟨rfl, rfl, E⟩
    case rest =>
    clear P
    obtain ⟨rfl, rfl, P⟩ := hcut
    obtain ⟨y0, y1⟩ := P.out.a1.c2
    go_wp2_with fail
    refine (CP.out _).mono ?_
    rintro e w3 ⟨rfl, hB, _⟩
    replace P := hidb (P.out.below hB.out)
    clear hB y0 y1
    go_wp2_with fail
    refine (CD3.out _ P.out.gr).mono ?_
    rintro e w4 ⟨rfl, hB⟩
    replace P := hidb (P.out.below hB.out)
    clear hB
    obtain ⟨b0, b1, b2, b3⟩ := P.out.a0.c4
    go_wp2_with fail
    refine (CB.out _).mono ?_
    rintro e w5 ⟨rfl, hB⟩
    replace P := hidb (P.out.below hB.out)
    clear hB b0 b1 b2 b3
    go_upto_region 15 with fail
    go_cut [16, 17, 12] from 85 to 92 (fun s16 s17 s12 wx => ∃ B, s16 = .pointer (some ⟨B, 0, none⟩) ∧ s17 = .int .i64 m ∧ s12 = .nilIface ∧ Hid (LwF w wx B a b c d x y p q))
    case first =>
      have E := P.out
      clear P
      have q1 := E.a1.lt
      go_region_held (fun w' => (w'.cell? ⟨w.heap.size, 0, none⟩ = some (.int .i64 a) ∧ w'.cell? ⟨w.heap.size, 1, none⟩ = some (.int .i64 b) ∧ w'.cell? ⟨w.heap.size, 2, none⟩ = some (.int .i64 c) ∧ w'.cell? ⟨w.heap.size, 3, none⟩ = some (.int .i64 d)) ∧ w'.cell? ⟨w.heap.size + 1, 0, none⟩ = some (.int .i64 x) ∧ w'.cell? ⟨w.heap.size + 1, 1, none⟩ = some (.int .i64 y))
        (with_reducible first | exact E.all | exact E.drew.all | exact (E.alloc _).all | exact (E.alloc _).drew.all | exact ((E.set q8 _ _).set q8 _ _).all | exact ((E.set q1 _ _).set q1 _ _).all)
        ((first
          | (go_at_call 8; with_reducible refine (CRg.out _ (by with_reducible repeat' (first | exact E.gr | refine Gr.drew ?_ | refine Gr.alloc ?_ _))).mono ?_; rintro e w8 ⟨ad8, b8, cap8, rfl, hR8, hB8⟩; (with_reducible first | have A8 := At.below hB8.out (At.new2 _ _ _ _) | have A8 := At.below hB8.out (At.new2 _ _ _ _).drew | skip); (with_reducible first | replace E := E.below hB8.out | replace E := E.drew.below hB8.out | replace E := (E.alloc _).below hB8.out | replace E := (E.alloc _).drew.below hB8.out); have q8 := E.a1.lt; clear hB8)
          | (go_at_call 18; with_reducible refine (CN.out _ (by with_reducible repeat' (first | exact E.gr | refine Gr.drew ?_ | refine Gr.alloc ?_ _)) _ _ _ (by with_reducible first | exact hR8 | exact hR8.below ((Below.refl _ _).alloc (Nat.le_refl _) _))).mono ?_; rintro e w9 ⟨rfl, hB8⟩; (with_reducible first | replace A8 := At.below hB8.out A8 | have A8 := At.below hB8.out (At.new2 _ _ _ _) | skip); (with_reducible first | replace E := E.below hB8.out | replace E := (E.alloc _).below hB8.out); have q9 := E.a1.lt; clear hB8; (try (obtain ⟨f80, f81⟩ := A8.f2; obtain ⟨c80, c81⟩ := A8.c2; have H8 := A8.has (n := 2) rfl)))))
      all_goals
        go_wp2_with fail
        go_meet
        with_reducible first
          | exact ⟨_, rfl, rfl, rfl, hidb ⟨E.alloc _, At.new2 _ _ _ _, q9⟩⟩
          | exact ⟨_, rfl, rfl, rfl, hidb ⟨(E.set q8 _ _).set q8 _ _, At.fill2 H8 _ _, q8⟩⟩
          | exact ⟨_, rfl, rfl, rfl, hidb ⟨(E.set q1 _ _).set q1 _ _, At.fill2 H8 _ _, q1⟩⟩
    case rest =>
    clear P
    obtain ⟨B, rfl, rfl, rfl, P⟩ := hcut
    go_upto_region 16 with fail
    go_cut [18] from 93 to 98 (fun s18 wx => s18 = .bool pb ∧ Hid (LwF w wx B a b c d x y p q))
    case first =>
      have E := P.out
      clear P
      go_region_held (fun w' => (w'.cell? ⟨w.heap.size, 0, none⟩ = some (.int .i64 a) ∧ w'.cell? ⟨w.heap.size, 1, none⟩ = some (.int .i64 b) ∧ w'.cell? ⟨w.heap.size, 2, none⟩ = some (.int .i64 c) ∧ w'.cell? ⟨w.heap.size, 3, none⟩ = some (.int .i64 d)) ∧ w'.cell? ⟨w.heap.size + 1, 0, none⟩ = some (.int .i64 x) ∧ w'.cell? ⟨w.heap.size + 1, 1, none⟩ = some (.int .i64 y))
        (with_reducible first | exact E.pr.all | exact E.drew.pr.all)
        ((first
          | (go_at_call 8; with_reducible refine (CRg.out _ (by with_reducible first | exact E.pr.gr | exact E.drew.pr.gr)).mono ?_; rintro e w8 ⟨ad8, b8, cap8, rfl, hR8, hB8⟩; (with_reducible first | replace E := E.below hB8.out | replace E := E.drew.below hB8.out); clear hB8)
          | (go_at_call 19; with_reducible refine (CV.out _ E.pr.gr _ _ _ hR8).mono ?_; rintro e w9 ⟨rfl, hB8⟩; replace E := E.below hB8.out; clear hB8)))
      all_goals
        go_wp2_with fail
        go_meet
        exact ⟨rfl, E⟩
    case rest =>
    clear P
    obtain ⟨rfl, P⟩ := hcut
    obtain ⟨b0, b1, b2, b3⟩ := P.out.pr.a0.c4
    go_upto_region 24 with fail
    clear b0 b1 b2 b3 e1 e2 e3 e4 e5 hc hc2
    have HN0 := hidb (At.new2 wc (.int .i64 a) (.int .i64 b) 45)
    have HNw := hidb (show w.heap.size + 1 < wc.heap.size ∧ B < wc.heap.size from ⟨P.out.pr.a1.lt, P.out.p0.lt⟩)
    replace P := hidb (P.out.alloc (.cells #[.int .i64 a, .int .i64 b] 45))
    generalize wc.alloc (.cells #[.int .i64 a, .int .i64 b] 45) = w10 at *
    generalize wc.heap.size = N at *
    obtain ⟨n0, n1⟩ := HN0.out.c2
    go_wp2_with fail
    refine (CO0.out _ P.out.pr.gr).mono ?_
    rintro e w11 ⟨rfl, hB⟩
    replace P := hidb (P.out.below hB.out)
    replace HN0 := hidb (At.below hB.out HN0.out)
    clear hB n0 n1
    obtain ⟨b0, b1, b2, b3⟩ := P.out.pr.a0.c4
    go_wp2
    clear b0 b1 b2 b3
    go_loopw [20, 21] (fun s t wr => ∃ (k : Nat) (p1 q1 m1 : Int), k ≤ nx ∧ t = .int .i64 (a + (k : Int)) ∧ s = .int .i64 m1 ∧ Hid ((p1, q1, m1) = scn l a b ny k) ∧ Hid (LwF w wr B a b c d x y p q) ∧ Hid (At wr N [.int .i64 p1, .int .i64 q1])) (fun _ t _ => (c + 1 - intOf t).toNat)
    case atStart => exact ⟨0, a, b, m0, Nat.zero_le _, by simp, rfl, H0, P, HN0⟩
    case round =>
      clear P HN0
      obtain ⟨k, p1, q1, m1, hk, rfl, rfl, HI, P, HN0⟩ := hrel
      obtain ⟨b0, b1, b2, b3⟩ := P.out.pr.a0.c4
      have bd := HBd.out
      have hN := HN.out
      obtain ⟨xx, hx⟩ : ∃ x : Int, x = a + (k : Int) := ⟨_, rfl⟩
      rw [← hx]
      by_cases h1 : k < nx
      · have h1' : xx ≤ c := by omega
        have e1 : IntKind.i64.wrap (xx + 1) = xx + 1 := wr_in (by omega) (by omega)
        have HX := hidb (show xx = a + (k : Int) ∧ a ≤ xx ∧ xx ≤ c by omega)
        have HI0 : Hid ((p1, q1, m1) = cln l xx b (scn l a b ny k) 0) := HI
        clear bd hN hx
        go_wp2
        clear b0 b1 b2 b3
        go_loopw [20, 22] (fun s t wr => ∃ (j : Nat) (p1 q1 m1 : Int), j ≤ ny ∧ t = .int .i64 (b + (j : Int)) ∧ s = .int .i64 m1 ∧ Hid ((p1, q1, m1) = cln l xx b (scn l a b ny k) j) ∧ Hid (LwF w wr B a b c d x y p q) ∧ Hid (At wr N [.int .i64 p1, .int .i64 q1])) (fun _ t _ => (d + 1 - intOf t).toNat)
        case atStart => exact ⟨0, p1, q1, m1, Nat.zero_le _, by simp, rfl, HI0, P, HN0⟩
        case round =>
          clear P HN0 HI0
          obtain ⟨j, p2, q2, m2, hj, rfl, rfl, HJ, P, HN0⟩ := hrel
          obtain ⟨b0, b1, b2, b3⟩ := P.out.pr.a0.c4
          have bd := HBd.out
          have hN := HN.out
          obtain ⟨yy, hy⟩ : ∃ y : Int, y = b + (j : Int) := ⟨_, rfl⟩
          rw [← hy]
          by_cases h2 : j < ny
          · have h2' : yy ≤ d := by omega
            have e2 : IntKind.i64.wrap (yy + 1) = yy + 1 := wr_in (by omega) (by omega)
            have KM := hidb (CO.out xx yy (HInP.out xx yy HX.out.2.1 HX.out.2.2 (by omega) (by omega)))
            obtain ⟨zz, hz⟩ : ∃ z, z = mss l xx yy := ⟨_, rfl⟩
            rw [← hz] at KM
            have HY := hidb hy
            have HNx : Hid (cln l xx b (scn l a b ny k) (j + 1) = stp l (p2, q2, m2) xx yy) := by
              show _ = _
              rw [HJ.out, hy]
              rfl
            have HZZ := hidb hz
            clear bd hN hy hz
            go_wp2_with fail
            refine (KM.out _ P.out.pr.gr).mono ?_
            rintro e w12 ⟨rfl, hB⟩
            replace P := hidb (P.out.below hB.out)
            replace HN0 := hidb (At.below hB.out HN0.out)
            clear hB b0 b1 b2 b3
            obtain ⟨b0, b1, b2, b3⟩ := P.out.pr.a0.c4
            by_cases h3 : zz < m2
            · have hst := stp_lt (p := p2) (q := q2) HZZ.out h3
              have HJ2 : Hid ((xx, yy, zz) = cln l xx b (scn l a b ny k) (j + 1)) := by show _ = _; rw [HNx.out, hst]
              obtain ⟨n0, n1⟩ := HN0.out.c2
              obtain ⟨f0, f1⟩ := HN0.out.f2
              have NH := HN0.out.has (n := 2) rfl
              have nw := HNw.out.1
              have nb : ¬ N = B := by have := HNw.out.2; omega
              clear hst
              go_wp2
              go_roundw
              case rel => exact ⟨j + 1, xx, yy, zz, by omega, by have := HY.out; refine congrArg (Value.int .i64) ?_; omega, rfl, HJ2, hidb ⟨(P.out.pr.set nw _ _).set nw _ _, (P.out.p0.skip nb _ _).skip nb _ _, P.out.pw⟩, hidb (At.fill2 NH _ _)⟩
              case measure => simp [intOf]; omega
            · have hst := stp_ge (p := p2) (q := q2) HZZ.out h3
              have HJ2 : Hid ((p2, q2, m2) = cln l xx b (scn l a b ny k) (j + 1)) := by show _ = _; rw [HNx.out, hst]
              clear hst
              go_wp2
              go_roundw
              case rel => exact ⟨j + 1, p2, q2, m2, by omega, by have := HY.out; refine congrArg (Value.int .i64) ?_; omega, rfl, HJ2, P, HN0⟩
              case measure => simp [intOf]; omega
          · have h2' : ¬ yy ≤ d := by omega
            have hjn : j = ny := by omega
            have HI2 : Hid ((p2, q2, m2) = scn l a b ny (k + 1)) := by
              show _ = _
              rw [HJ.out, hjn, HX.out.1]
              rfl
            clear bd hN hy hjn hj h2
            go_wp2
            go_roundw
            case rel => exact ⟨k + 1, p2, q2, m2, by omega, by have := HX.out; refine congrArg (Value.int .i64) ?_; omega, rfl, HI2, P, HN0⟩
            case measure => simp [intOf]; omega
      · have h1' : ¬ xx ≤ c := by omega
        have hkn : k = nx := by omega
        rw [hkn] at HI
        have hpq := HI.out.trans HSc.out.symm
        simp only [Prod.mk.injEq] at hpq
        obtain ⟨g1, g2, g3⟩ := hpq
        have sp1 : ∀ W, (binOp .eql 45 (spV p q) (spV p1 q1)).run Tryd.prog W = .ok (.bool true) W := by rw [g1, g2]; exact sps
        have mm : (m == m1) = true := by rw [g3]; simp
        have HG3 := hidb g3
        clear bd hN hx hkn hk h1 g1 g2 g3 sps
        go_upto_region 35 with fail
        clear b0 b1 b2 b3
        obtain ⟨⟨b0, b1, b2, b3⟩, y0, y1⟩ := P.out.pr.all
        obtain ⟨bp, hbp⟩ : ∃ t : Bool, t = decide (pin a b c d x y) := ⟨_, rfl⟩
        have HBp := hidb hbp
        clear hbp
        go_cut [24] from 194 to 223 (fun s24 wx => s24 = .bool bp ∧ wx = wr)
        case first =>
          by_cases k1 : a ≤ x
          · by_cases k2 : x ≤ c
            · by_cases k3 : b ≤ y
              · by_cases k4 : y ≤ d
                · go_wp2
                  go_meet
                  exact ⟨by rw [HBp.out, decide_eq_true (show pin a b c d x y by unfold pin; omega)], rfl⟩
                · go_wp2
                  go_meet
                  exact ⟨by rw [HBp.out, decide_eq_false (show ¬ pin a b c d x y by unfold pin; omega)], rfl⟩
              · go_wp2
                go_meet
                exact ⟨by rw [HBp.out, decide_eq_false (show ¬ pin a b c d x y by unfold pin; omega)], rfl⟩
            · go_wp2
              go_meet
              exact ⟨by rw [HBp.out, decide_eq_false (show ¬ pin a b c d x y by unfold pin; omega)], rfl⟩
          · go_wp2
            go_meet
            exact ⟨by rw [HBp.out, decide_eq_false (show ¬ pin a b c d x y by unfold pin; omega)], rfl⟩
        case rest =>
        obtain ⟨rfl, rfl⟩ := hcut
        go_upto_region 36 with fail
        go_cut [25] from 224 to 236 (fun s25 wx => s25 = .bool pb ∧ Hid (LwF w wx B a b c d x y p q) ∧ Hid (At wx N [.int .i64 p1, .int .i64 q1]))
        case first =>
          cases bp
          case true =>
            have kp : pin a b c d x y := of_decide_eq_true HBp.out.symm
            have KO2 := hidb (CO.out x y (HIn.out kp))
            obtain ⟨z2, hz2⟩ : ∃ z, z = mss l x y := ⟨_, rfl⟩
            rw [← hz2] at KO2
            have HP2 : Hid (pb = decide (mi = m1 ∧ z2 = mi)) := by
              show _ = _
              rw [HPb.out, hz2, HG3.out]
              exact decide_eq_decide.2 ⟨fun h => h.2, fun h => ⟨kp, h⟩⟩
            clear hz2 kp
            go_wp2_with fail
            refine (KO2.out _ P.out.pr.gr).mono ?_
            rintro e w13 ⟨rfl, hB⟩
            replace P := hidb (P.out.below hB.out)
            replace HN0 := hidb (At.below hB.out HN0.out)
            clear hB b0 b1 b2 b3 y0 y1
            by_cases c1 : z2 = mi
            · by_cases c2 : mi = m1
              · have c1' : (z2 == mi) = true := by simpa using c1
                have c2' : (mi == m1) = true := by simpa using c2
                have HQ : Hid (pb = true) := by show _ = _; rw [HP2.out]; exact decide_eq_true ⟨c2, c1⟩
                clear c1 c2
                go_wp2
                go_meet
                exact ⟨by rw [HQ.out], P, HN0⟩
              · have c1' : (z2 == mi) = true := by simpa using c1
                have c2' : (mi == m1) = false := by simpa using c2
                have HQ : Hid (pb = false) := by show _ = _; rw [HP2.out]; exact decide_eq_false (fun h => c2 h.1)
                clear c1 c2
                go_wp2
                go_meet
                exact ⟨by rw [HQ.out], P, HN0⟩
            · have c1' : (z2 == mi) = false := by simpa using c1
              have HQ : Hid (pb = false) := by show _ = _; rw [HP2.out]; exact decide_eq_false (fun h => c1 h.2)
              clear c1
              go_wp2
              go_meet
              exact ⟨by rw [HQ.out], P, HN0⟩
          case false =>
            have kp : ¬ pin a b c d x y := of_decide_eq_false HBp.out.symm
            have HQ : Hid (pb = false) := by show _ = _; rw [HPb.out]; exact decide_eq_false (fun h => kp h.1)
            clear kp
            go_wp2
            go_meet
            exact ⟨by rw [HQ.out], P, HN0⟩
        case rest =>
        clear P HN0 b0 b1 b2 b3 y0 y1
        obtain ⟨rfl, P, HN0⟩ := hcut
        go_upto_region 37 with fail
        go_cut [26] from 237 to 242 (fun s26 wx => s26 = .bool true ∧ Hid (LwF w wx B a b c d x y p q) ∧ Hid (At wx N [.int .i64 p1, .int .i64 q1]))
        case first =>
          have E := P.out
          have A := HN0.out
          clear P HN0
          go_region_held (fun w' => ((w'.cell? ⟨w.heap.size, 0, none⟩ = some (.int .i64 a) ∧ w'.cell? ⟨w.heap.size, 1, none⟩ = some (.int .i64 b) ∧ w'.cell? ⟨w.heap.size, 2, none⟩ = some (.int .i64 c) ∧ w'.cell? ⟨w.heap.size, 3, none⟩ = some (.int .i64 d)) ∧ w'.cell? ⟨w.heap.size + 1, 0, none⟩ = some (.int .i64 x) ∧ w'.cell? ⟨w.heap.size + 1, 1, none⟩ = some (.int .i64 y)) ∧ (w'.cell? ⟨B, 0, none⟩ = some (.int .i64 p) ∧ w'.cell? ⟨B, 1, none⟩ = some (.int .i64 q)))
            (with_reducible first | exact ⟨E.pr.all, E.p0.c2⟩ | exact ⟨E.drew.pr.all, E.drew.p0.c2⟩)
            ((first
              | (go_at_call 8; with_reducible refine (CRg.out _ (by with_reducible first | exact E.pr.gr | exact E.drew.pr.gr)).mono ?_; rintro e w8 ⟨ad8, b8, cap8, rfl, hR8, hB8⟩; (with_reducible first | (replace E := E.below hB8.out; replace A := At.below hB8.out A) | (replace E := E.drew.below hB8.out; replace A := At.below hB8.out A.drew)); clear hB8)
              | (go_at_call 19; with_reducible refine (CV2.out _ E.pr.gr _ _ _ hR8).mono ?_; rintro e w9 ⟨rfl, hB8⟩; replace E := E.below hB8.out; replace A := At.below hB8.out A; clear hB8)))
          all_goals
            go_wp2_with fail
            go_meet
            exact ⟨rfl, E, A⟩
        case rest =>
        clear P HN0
        obtain ⟨rfl, P, HN0⟩ := hcut
        obtain ⟨n0, n1⟩ := HN0.out.c2
        obtain ⟨r0, r1⟩ := P.out.p0.c2
        go_wp2
        go_ret
        exact ⟨by simp, P.out.pr.gr⟩
end Go.Proofs.YtehkonddgiakaaaDoor
