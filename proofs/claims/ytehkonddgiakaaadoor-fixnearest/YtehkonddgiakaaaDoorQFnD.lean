/-
  fix.Nearest: the walk.
-/
import Derived.Test.YtehkonddgiakaaaDoorQFnC
namespace Go.Proofs.YtehkonddgiakaaaDoor
open Go.RowKit
attribute [local go_sem ↓] Go.wp_at_zero Go.wp_at_succ

theorem stp_lt {l : List Rg} {p q m x y z : Int} (hz : z = mss l x y) (h : z < m) : stp l (p, q, m) x y = (x, y, z) := by unfold stp; rw [hz] at h ⊢; exact if_pos h
theorem stp_ge {l : List Rg} {p q m x y z : Int} (hz : z = mss l x y) (h : ¬ z < m) : stp l (p, q, m) x y = (p, q, m) := by unfold stp; rw [hz] at h; exact if_neg h
set_option maxRecDepth 4000 in
set_option maxHeartbeats 16000000 in
theorem nearest_ok (g : Nat → Addr) (ad : Option Addr) (b0 cap : Nat) (l : List Rg) (a b c d : Int) (w : World) (h : RSl 30 w ad b0 cap l) (ll : l.length ≤ 70) (hl : Laid w g) (hr : rerr g l = .nilIface) (hok : ∀ r ∈ l, okR r) (hb : okB a b c d = true) (hc : ¬ 100000 < cnt a b c d) (p q m : Int) (hs : (p, q, m) = nrs l a b c d) : Calls Tryd.prog 18 #[.slice ad l.length cap, boV a b c d] w fun e w' => e = .returned (.tuple #[spV p q, .int .i64 m, .nilIface]) ∧ Gr w w' := by
  have C1 := hidb (fun W (hG : Gr w W) => valid_any g ad b0 cap l W (h.below hG.out) (by omega) (hl.below hG.out))
  rw [hr] at C1
  obtain ⟨k1, k2, k3, k4⟩ := okB_inP hb
  obtain ⟨u, u1, v, v1, ⟨hu, e1⟩, ⟨hu1, e2⟩, ⟨hv, e3⟩, ⟨hv1, e4⟩, e5, u2, v2⟩ := cnt_wr hb
  have C2 := hidb (fun W => placed_any a b W)
  have C3 := hidb (fun W => placed_any c d W)
  rw [decide_eq_true k1] at C2
  rw [decide_eq_true k2] at C3
  have CM := hidb (fun x y (hp : inP x y) W (hG : Gr w W) => missed_any ad b0 cap l x y W (h.below hG.out) ll hok hp)
  have P := hidb (NeP.new w a b c d 47 45)
  have HL := hidb hl
  have HBd := hidb (okB_bd hb)
  obtain ⟨nx, hnx⟩ : ∃ n : Nat, n = (c - a + 1).toNat := ⟨_, rfl⟩
  obtain ⟨ny, hny⟩ : ∃ n : Nat, n = (d - b + 1).toNat := ⟨_, rfl⟩
  have HN := hidb (show (nx : Int) = c - a + 1 ∧ (ny : Int) = d - b + 1 by omega)
  have HS : Hid ((p, q, m) = scn l a b ny nx) := by show _ = _; rw [hs, hnx, hny]; rfl
  have CM1 := hidb (CM.out a b k1)
  generalize cnt a b c d = z at *
  obtain ⟨m0, hm0⟩ : ∃ z, z = mss l a b := ⟨_, rfl⟩
  rw [← hm0] at CM1
  have H0 : Hid ((a, b, m0) = scn l a b ny 0) := by show _ = _; rw [hm0]; rfl
  clear h ll hl hr hb k1 k2 hok hs hnx hny hm0 hu hu1 hv hv1 u2 v2
  go_enter Tryd.func18, Tryd.ntmps18
  go_wp2_with fail
  refine (C1.out _ P.out.gr).mono ?_
  rintro e w1 ⟨rfl, hB⟩
  replace P := hidb (P.out.below hB.out)
  clear hB
  obtain ⟨b0, b1, b2, b3⟩ := P.out.a0.c4
  go_wp2_with fail
  refine (C2.out _).mono ?_
  rintro e w2 ⟨rfl, hB, _⟩
  replace P := hidb (P.out.below hB.out)
  clear hB b0 b1 b2 b3
  obtain ⟨b0, b1, b2, b3⟩ := P.out.a0.c4
  go_wp2_with fail
  refine (C3.out _).mono ?_
  rintro e w3 ⟨rfl, hB, _⟩
  replace P := hidb (P.out.below hB.out)
  clear hB b0 b1 b2 b3
  obtain ⟨b0, b1, b2, b3⟩ := P.out.a0.c4
  go_upto_region 8 with fail
  clear b0 b1 b2 b3 e1 e2 e3 e4 e5 C1 C2 C3 hc k3 k4
  go_cut [8, 9] from 70 to 75 (fun s8 s9 wx => ∃ N, s8 = .pointer (some ⟨N, 0, none⟩) ∧ s9 = .int .i64 m0 ∧ Hid (NeF w wx N a b c d a b))
  case first =>
    have PX := P.out
    have q1 := PX.a1.lt
    go_region_held (fun w' => w'.cell? ⟨w.heap.size, 0, none⟩ = some (.int .i64 a) ∧ w'.cell? ⟨w.heap.size, 1, none⟩ = some (.int .i64 b) ∧ w'.cell? ⟨w.heap.size, 2, none⟩ = some (.int .i64 c) ∧ w'.cell? ⟨w.heap.size, 3, none⟩ = some (.int .i64 d))
      (with_reducible first | exact PX.a0.c4 | exact PX.drew.a0.c4 | (refine At.c4 ?_; repeat (first | exact PX.a0 | refine At.drew ?_ | refine At.alloc ?_ _ | refine At.skip ?_ (by omega) _ _)))
      ((go_at_call 38; with_reducible refine (CM1.out _ (by with_reducible repeat' (first | exact PX.gr | refine Gr.drew ?_ | refine Gr.alloc ?_ _))).mono ?_; rintro e w9 ⟨rfl, hB9⟩; (with_reducible first | replace PX := PX.below hB9.out | replace PX := PX.drew.below hB9.out | replace PX := (PX.alloc _).below hB9.out | replace PX := (PX.alloc _).drew.below hB9.out); have q9 := PX.a1.lt; (with_reducible first | have A8 := At.below hB9.out (At.new2 _ _ _ _) | have A8 := At.below hB9.out (At.new2 _ _ _ _).drew | skip); (try (obtain ⟨f80, f81⟩ := A8.f2; obtain ⟨c80, c81⟩ := A8.c2; have H8 := A8.has (n := 2) rfl; have l8 := A8.lt; have n8 : ¬ _ = _ := Nat.ne_of_lt A8.lt; have m8 : ¬ _ = _ := Nat.ne_of_gt A8.lt))))
    all_goals
      go_wp2_with fail
      go_meet
      with_reducible first
        | exact ⟨_, rfl, rfl, hidb ⟨PX.alloc _, At.new2 _ _ _ _, q9⟩⟩
        | exact ⟨_, rfl, rfl, hidb ⟨(PX.set q1 _ _).set q1 _ _, At.fill2 H8 _ _, q1⟩⟩
  case rest =>
    clear P
    obtain ⟨N, rfl, rfl, E⟩ := hcut
    obtain ⟨b0, b1, b2, b3⟩ := E.out.pr.a0.c4
    go_wp2
    clear b0 b1 b2 b3
    go_loopw [9, 10] (fun s t wr => ∃ (k : Nat) (p q m : Int), k ≤ nx ∧ t = .int .i64 (a + (k : Int)) ∧ s = .int .i64 m ∧ Hid ((p, q, m) = scn l a b ny k) ∧ Hid (NeF w wr N a b c d p q)) (fun _ t _ => (c + 1 - intOf t).toNat)
    case atStart => exact ⟨0, a, b, m0, Nat.zero_le _, by simp, rfl, H0, E⟩
    case round =>
      clear E
      obtain ⟨k, p1, q1, m1, hk, rfl, rfl, HI, E⟩ := hrel
      obtain ⟨b0, b1, b2, b3⟩ := E.out.pr.a0.c4
      have bd := HBd.out
      have hN := HN.out
      obtain ⟨x, hx⟩ : ∃ x : Int, x = a + (k : Int) := ⟨_, rfl⟩
      rw [← hx]
      by_cases h1 : k < nx
      · have h1' : x ≤ c := by omega
        have e1 : IntKind.i64.wrap (x + 1) = x + 1 := wr_in (by omega) (by omega)
        have HX := hidb (show x = a + (k : Int) ∧ (-16777216 ≤ x ∧ x ≤ 16777216) by omega)
        have HI0 : Hid ((p1, q1, m1) = cln l x b (scn l a b ny k) 0) := HI
        clear bd hN hx
        go_wp2
        clear b0 b1 b2 b3
        go_loopw [9, 11] (fun s t wr => ∃ (j : Nat) (p q m : Int), j ≤ ny ∧ t = .int .i64 (b + (j : Int)) ∧ s = .int .i64 m ∧ Hid ((p, q, m) = cln l x b (scn l a b ny k) j) ∧ Hid (NeF w wr N a b c d p q)) (fun _ t _ => (d + 1 - intOf t).toNat)
        case atStart => exact ⟨0, p1, q1, m1, Nat.zero_le _, by simp, rfl, HI0, E⟩
        case round =>
          clear E HI0
          obtain ⟨j, p2, q2, m2, hj, rfl, rfl, HJ, E⟩ := hrel
          obtain ⟨b0, b1, b2, b3⟩ := E.out.pr.a0.c4
          have bd := HBd.out
          have hN := HN.out
          obtain ⟨y, hy⟩ : ∃ y : Int, y = b + (j : Int) := ⟨_, rfl⟩
          rw [← hy]
          by_cases h2 : j < ny
          · have h2' : y ≤ d := by omega
            have e2 : IntKind.i64.wrap (y + 1) = y + 1 := wr_in (by omega) (by omega)
            have hp : inP x y := by have := HX.out; unfold inP; omega
            have KM := hidb (CM.out x y hp)
            obtain ⟨z, hz⟩ : ∃ z, z = mss l x y := ⟨_, rfl⟩
            rw [← hz] at KM
            have HY := hidb hy
            have HNx : Hid (cln l x b (scn l a b ny k) (j + 1) = stp l (p2, q2, m2) x y) := by
              show _ = _
              rw [HJ.out, hy]
              rfl
            have HZ := hidb hz
            clear bd hN hy hz hp
            go_upto_region 16 with fail
            clear b0 b1 b2 b3
            have HA := hidb (At.new2 wr (.int .i64 x) (.int .i64 y) 45)
            have HE := hidb (E.out.alloc (.cells #[.int .i64 x, .int .i64 y] 45))
            have HNn := hidb (E.out.n0.lt)
            clear E
            generalize wr.alloc (.cells #[.int .i64 x, .int .i64 y] 45) = w5 at *
            generalize hAn : wr.heap.size = An at *
            clear hAn
            obtain ⟨a0, a1⟩ := HA.out.c2
            go_wp2_with fail
            refine (KM.out _ HE.out.pr.gr).mono ?_
            rintro e w6 ⟨rfl, hB⟩
            replace HE := hidb (HE.out.below hB.out)
            replace HA := hidb (At.below hB.out HA.out)
            clear hB a0 a1
            obtain ⟨b0, b1, b2, b3⟩ := HE.out.pr.a0.c4
            by_cases h3 : z < m2
            · have hst := stp_lt (p := p2) (q := q2) HZ.out h3
              have HJ2 : Hid ((x, y, z) = cln l x b (scn l a b ny k) (j + 1)) := by show _ = _; rw [HNx.out, hst]
              obtain ⟨a0, a1⟩ := HA.out.c2
              obtain ⟨n0, n1⟩ := HE.out.n0.c2
              obtain ⟨f0, f1⟩ := HE.out.n0.f2
              have NH := HE.out.n0.has (n := 2) rfl
              have nw := HE.out.nw
              clear hst
              go_wp2
              go_roundw
              case rel => exact ⟨j + 1, x, y, z, by omega, by have := HY.out; refine congrArg (Value.int .i64) ?_; omega, rfl, HJ2, hidb ⟨(HE.out.pr.set nw _ _).set nw _ _, At.fill2 NH _ _, nw⟩⟩
              case measure => simp [intOf]; omega
            · have hst := stp_ge (p := p2) (q := q2) HZ.out h3
              have HJ2 : Hid ((p2, q2, m2) = cln l x b (scn l a b ny k) (j + 1)) := by show _ = _; rw [HNx.out, hst]
              clear hst
              go_wp2
              go_roundw
              case rel => exact ⟨j + 1, p2, q2, m2, by omega, by have := HY.out; refine congrArg (Value.int .i64) ?_; omega, rfl, HJ2, HE⟩
              case measure => simp [intOf]; omega
          · have h2' : ¬ y ≤ d := by omega
            have hjn : j = ny := by omega
            have HI2 : Hid ((p2, q2, m2) = scn l a b ny (k + 1)) := by
              show _ = _
              rw [HJ.out, hjn, HX.out.1]
              rfl
            clear bd hN hy hjn hj h2
            go_wp2
            go_roundw
            case rel => exact ⟨k + 1, p2, q2, m2, by omega, by have := HX.out; refine congrArg (Value.int .i64) ?_; omega, rfl, HI2, E⟩
            case measure => simp [intOf]; omega
      · have h1' : ¬ x ≤ c := by omega
        have hkn : k = nx := by omega
        rw [hkn] at HI
        have hpq := HI.out.trans HS.out.symm
        simp only [Prod.mk.injEq] at hpq
        obtain ⟨g1, g2, g3⟩ := hpq
        have HG := hidb (show p1 = p ∧ q1 = q ∧ m1 = m from ⟨g1, g2, g3⟩)
        clear bd hN hx hkn hk h1 g1 g2 g3
        obtain ⟨n0, n1⟩ := E.out.n0.c2
        obtain ⟨a0, a1⟩ := E.out.pr.a1.c2
        obtain ⟨f0, f1⟩ := E.out.pr.a1.f2
        have AH := E.out.pr.a1.has (n := 2) rfl
        go_wp2
        refine bodyPost_ret (v := .tuple #[spV p1 q1, .int .i64 m1, .nilIface]) (by simp [results, Tryd.results18, go_sem, a0, a1]) rfl ⟨by rw [HG.out.1, HG.out.2.1, HG.out.2.2], ?_⟩
        exact (E.out.pr.gr.set (by omega) _ _).set (by omega) _ _
end Go.Proofs.YtehkonddgiakaaaDoor
