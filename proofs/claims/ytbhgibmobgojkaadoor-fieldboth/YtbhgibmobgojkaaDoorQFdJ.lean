/-
  FieldBoth.
-/
import Derived.Test.YtbhgibmobgojkaaDoorQFdI
namespace Go.Proofs.YtbhgibmobgojkaaDoor
open Go.RowKit

theorem PtR.all {w : World} {pb po : Nat} {W H : Int} {v : Value} (h : PtR w pb po W H v) : w.cell? ⟨pb, po, none⟩ = some (.int .i64 W) ∧ w.cell? ⟨pb, po + 1, none⟩ = some (.int .i64 H) ∧ w.cell? ⟨pb, po + 2, none⟩ = some v := ⟨h.c0, h.c1, h.c2⟩
theorem At.new3d' (W : World) (a b c : Value) (t : Nat) : At (W.drew.alloc (.cells #[a, b, c] t)) W.heap.size [a, b, c] := At.new3 W.drew a b c t
theorem coded_evc (g : Nat → Addr) (c : Nat) (hc : c ≤ 8) (w : World) (hl : Laid w g) : Calls Tryd.prog 11 #[evc g c, .int .i64 (c : Int)] w fun e w' => e = .returned (.bool true) ∧ Gr w w' := by
  by_cases h : c = 0
  · subst h
    refine (coded_nil 0 w).mono ?_
    rintro e w' ⟨rfl, rfl⟩
    exact ⟨rfl, Gr.refl _⟩
  · unfold evc
    rw [if_neg h]
    refine (coded_sent g (c - 1) (by omega) (c : Int) w hl).mono ?_
    rintro e w' ⟨rfl, hB⟩
    exact ⟨by rw [show ((c - 1 : Nat) : Int) + 1 = (c : Int) by omega]; simp, hB⟩
/-- A raster that the law is handed. -/
structure Rin (w : World) (pb po : Nat) (W H : Int) (ad : Option Addr) (b o cap : Nat) (l : List Int) : Prop where
  pt : PtR w pb po W H (.slice ad l.length cap)
  sl : ISl w ad b o cap l
theorem Rin.below {w w' : World} {pb po : Nat} {W H : Int} {ad : Option Addr} {b o cap : Nat} {l : List Int} (h : Rin w pb po W H ad b o cap l) (hB : Gr w w') : Rin w' pb po W H ad b o cap l := ⟨h.pt.below hB.out, h.sl.below hB.out⟩
theorem evc_pos (g : Nat → Addr) {c : Nat} (h : ¬ c = 0) : evc g c = errV g (c - 1) := by unfold evc; rw [if_neg h]
theorem acode_lt (W H : Int) (l : List Int) (W' H' : Int) (l' : List Int) : acode W H l W' H' l' ≤ 8 := by
  have h1 := vcode_lt W H l
  have h2 := vcode_lt W' H' l'
  unfold acode
  split
  · split
    · split <;> omega
    · omega
  · omega
set_option maxRecDepth 4000 in
set_option maxHeartbeats 16000000 in
theorem fieldBoth_A (g : Nat → Addr) (h : Int) {pb po qb qo : Nat} {W H W' H' : Int} {ad ad' : Option Addr} {b b' o o' cap cap' : Nat} {l l' : List Int} (w : World) (hl : Laid w g) (ra : Rin w pb po W H ad b o cap l) (rb : Rin w qb qo W' H' ad' b' o' cap' l') (ll : l.length ≤ 200) (ll' : l'.length ≤ 200) (hc : ¬ acode W H l W' H' l' = 0) : Calls Tryd.prog 3 #[.pointer (some ⟨pb, po, none⟩), .pointer (some ⟨qb, qo, none⟩), .int .u8 h] w fun e w' => e = .returned (.bool true) ∧ Gr w w' := by
  have HL := hidb hl
  have RA := hidb ra
  have RB := hidb rb
  have CR := hidb (rasters_any g w hl)
  have S1 := hidb (fun W1 (hG : Gr w W1) => small_any pb po W H ad l.length cap W1 (ra.below hG).pt)
  have S2 := hidb (fun W1 (hG : Gr w W1) => small_any qb qo W' H' ad' l'.length cap' W1 (rb.below hG).pt)
  rw [decide_eq_true ll] at S1
  rw [decide_eq_true ll'] at S2
  have CB := hidb (fun W1 (hG : Gr w W1) => both_no1 g h (W := W) (H := H) (W' := W') (H' := H') W1 (ra.below hG).sl (rb.below hG).sl (by omega) (by omega) (hl.below hG.out) hc)
  have CE := hidb (fun W1 (hG : Gr w W1) => rastersError_any W1 (ra.below hG).pt (rb.below hG).pt (ra.below hG).sl (rb.below hG).sl (by omega) (by omega))
  have CV := hidb (fun W1 (hG : Gr w W1) => valid_any g W H ad b o cap l W1 (ra.below hG).sl (by omega) (hl.below hG.out))
  have CW := hidb (fun W1 (hG : Gr w W1) => rasterError_any pb po W H ad b o cap l W1 (ra.below hG).pt (ra.below hG).sl (by omega))
  have CC := hidb (fun W1 (hG : Gr w W1) c hc => coded_evc g c hc W1 (hl.below hG.out))
  have VL := hidb (show vcode W H l ≤ 8 by have := vcode_lt W H l; omega)
  have CN := hidb (fun W1 (hG : Gr w W1) => coded_evc g _ (acode_lt W H l W' H' l') W1 (hl.below hG.out))
  rw [evc_pos g hc] at CB CN
  have zp : 0 < (acode W H l W' H' l' : Int) := by omega
  generalize acode W H l W' H' l' - 1 = ei at *
  clear hc
  generalize (acode W H l W' H' l' : Int) = z at *
  have z0 : (z == 0) = false := by simp; omega
  have z1 : ¬ z = 0 := by omega
  clear hl ra rb
  go_enter Tryd.func3, Tryd.ntmps3
  go_wp2_with fail
  refine CR.out.mono ?_
  rintro e w1 ⟨rfl, hB⟩
  have G := hidb hB
  clear hB
  go_wp2_with fail
  refine (S1.out _ G.out).mono ?_
  rintro e w2 ⟨rfl, rfl⟩
  go_wp2_with fail
  refine (S2.out _ G.out).mono ?_
  rintro e w3 ⟨rfl, rfl⟩
  go_upto_region 6 with fail
  go_cut [10, 11] from 33 to 43 (fun s10 s11 wx => ∃ D, s10 = .pointer (some ⟨D, 0, none⟩) ∧ s11 = errV g ei ∧ At wx D [.int .i64 0, .int .i64 0, .slice none 0 0] ∧ w.heap.size ≤ D ∧ Gr w wx)
  case first =>
    obtain ⟨p0, p1, p2⟩ := (RA.out.below G.out).pt
    obtain ⟨q0, q1, q2⟩ := (RB.out.below G.out).pt
    have szw : w.heap.size ≤ w3.heap.size := G.out.out.size
    have nz : ¬ pb = w3.heap.size := by have : pb < w3.heap.size := lt_of_cell p0; omega
    have nz' : ¬ qb = w3.heap.size := by have : qb < w3.heap.size := lt_of_cell q0; omega
    have E : Gr w w3 := G.out
    go_region_held3 (fun w' => (w'.cell? ⟨pb, po, none⟩ = some (.int .i64 W) ∧ w'.cell? ⟨pb, po + 1, none⟩ = some (.int .i64 H) ∧ w'.cell? ⟨pb, po + 2, none⟩ = some (.slice ad l.length cap)) ∧ (w'.cell? ⟨qb, qo, none⟩ = some (.int .i64 W') ∧ w'.cell? ⟨qb, qo + 1, none⟩ = some (.int .i64 H') ∧ w'.cell? ⟨qb, qo + 2, none⟩ = some (.slice ad' l'.length cap')))
      (first | exact ⟨(RA.out.below E).pt.all, (RB.out.below E).pt.all⟩ | exact ⟨(RA.out.below (E.alloc _)).pt.all, (RB.out.below (E.alloc _)).pt.all⟩ | exact ⟨(RA.out.below (((E.set NL _ _).set NL _ _).set NL _ _)).pt.all, (RB.out.below (((E.set NL _ _).set NL _ _).set NL _ _)).pt.all⟩)
      ((go_at_call 9; with_reducible refine (CB.out _ (by with_reducible first | exact E | exact E.drew | exact E.alloc _ | exact E.drew.alloc _ | exact (E.alloc _).drew)).mono ?_; rintro e w8 ⟨rfl, hB8⟩; (with_reducible first | (have NA := At.below hB8.out (At.new3d' _ _ _ _ _); have NL := E.out.size) | (have NA := At.below hB8.out (At.drew (At.new3 _ _ _ _ _)); have NL := E.out.size) | (have NA := At.below hB8.out (At.new3 _ _ _ _ _); have NL := E.out.size) | skip); (with_reducible first | replace E := Gr.step E hB8.out | replace E := Gr.step E.drew hB8.out | replace E := Gr.step (E.alloc _) hB8.out | replace E := Gr.step (E.drew.alloc _) hB8.out | replace E := Gr.step (E.alloc _).drew hB8.out); have SZ := E.out.size; clear hB8; (first | (obtain ⟨n0, n1, n2⟩ := NA.c3; obtain ⟨n3, n4, n5⟩ := NA.f3; have NH := NA.has (n := 3) rfl) | skip)))
    all_goals
      go_wp2_with fail
      go_meet
      refine ⟨_, rfl, rfl, ?_, ?_, ?_⟩
    all_goals first
      | exact At.new3 _ _ _ _ _
      | exact ((NA.put 0 _).put 1 _).put 2 _
      | exact E.alloc _
      | exact ((E.set NL _ _).set NL _ _).set NL _ _
      | assumption
      | omega
  case rest =>
    clear G
    obtain ⟨D, rfl, rfl, AD, lD, hG⟩ := hcut
    have G := hidb hG
    have HD := hidb AD
    clear hG AD
    go_wp2_with fail
    refine (CE.out _ G.out).mono ?_
    rintro e w4 ⟨rfl, hB⟩
    replace G := hidb (Gr.step G.out hB.out)
    replace HD := hidb (At.below hB.out HD.out)
    clear hB
    obtain ⟨p0, p1, p2⟩ := (RA.out.below G.out).pt
    go_wp2_with fail
    clear p0 p1 p2
    refine (CV.out _ G.out).mono ?_
    rintro e w5 ⟨rfl, hB⟩
    replace G := hidb (Gr.step G.out hB.out)
    replace HD := hidb (At.below hB.out HD.out)
    clear hB
    go_wp2_with fail
    refine (CW.out _ G.out).mono ?_
    rintro e w6 ⟨rfl, hB⟩
    replace G := hidb (Gr.step G.out hB.out)
    replace HD := hidb (At.below hB.out HD.out)
    clear hB
    go_wp2_with fail
    refine (CC.out _ G.out _ VL.out).mono ?_
    rintro e w7 ⟨rfl, hB⟩
    replace G := hidb (Gr.step G.out hB.out)
    replace HD := hidb (At.below hB.out HD.out)
    clear hB
    obtain ⟨kb, hkb⟩ : ∃ kb, kb = decide (knI h) := ⟨_, rfl⟩
    go_upto_region 9 with fail
    go_cut [14] from 54 to 67 (fun s14 wx => s14 = .bool kb ∧ wx = w7)
    case first =>
      by_cases k1 : h = 43
      · subst k1
        go_wp2
        go_meet
        exact ⟨by rw [hkb]; rfl, rfl⟩
      · by_cases k2 : h = 45
        · subst k2
          go_wp2
          go_meet
          exact ⟨by rw [hkb]; rfl, rfl⟩
        · by_cases k3 : h = 62
          · subst k3
            go_wp2
            go_meet
            exact ⟨by rw [hkb]; rfl, rfl⟩
          · by_cases k4 : h = 60
            · subst k4
              go_wp2
              go_meet
              exact ⟨by rw [hkb]; rfl, rfl⟩
            · have kf : kb = false := by rw [hkb]; exact decide_eq_false (fun hh => by rcases hh with hh | hh | hh | hh <;> contradiction)
              go_wp2
              go_meet
              exact ⟨by rw [kf]; simp [k1, k2, k3, k4], rfl⟩
    case rest =>
      obtain ⟨rfl, rfl⟩ := hcut
      obtain ⟨a0, a1, a2⟩ := HD.out.c3
      go_wp2_with fail
      refine (CN.out _ G.out).mono ?_
      rintro e w8 ⟨rfl, hB⟩
      replace G := hidb (Gr.step G.out hB.out)
      replace HD := hidb (At.below hB.out HD.out)
      clear hB a0 a1 a2
      obtain ⟨a0, a1, a2⟩ := HD.out.c3
      go_wp2_with fail
      refine (nothing_any _).mono ?_
      rintro e w9 ⟨rfl, hB⟩
      replace G := hidb (Gr.step G.out hB.out)
      clear hB
      go_wp2
      go_ret
      exact ⟨rfl, G.out⟩
set_option maxRecDepth 4000 in
set_option maxHeartbeats 16000000 in
theorem fieldBoth_B (g : Nat → Addr) (h : Int) {pb po qb qo : Nat} {W H W' H' : Int} {ad ad' : Option Addr} {b b' o o' cap cap' : Nat} {l l' : List Int} (w : World) (hl : Laid w g) (ra : Rin w pb po W H ad b o cap l) (rb : Rin w qb qo W' H' ad' b' o' cap' l') (ll : l.length ≤ 200) (ll' : l'.length ≤ 200) (hc : acode W H l W' H' l' = 0) (hk : ¬ knI h) : Calls Tryd.prog 3 #[.pointer (some ⟨pb, po, none⟩), .pointer (some ⟨qb, qo, none⟩), .int .u8 h] w fun e w' => e = .returned (.bool true) ∧ Gr w w' := by
  have HL := hidb hl
  have RA := hidb ra
  have RB := hidb rb
  have CR := hidb (rasters_any g w hl)
  have S1 := hidb (fun W1 (hG : Gr w W1) => small_any pb po W H ad l.length cap W1 (ra.below hG).pt)
  have S2 := hidb (fun W1 (hG : Gr w W1) => small_any qb qo W' H' ad' l'.length cap' W1 (rb.below hG).pt)
  rw [decide_eq_true ll] at S1
  rw [decide_eq_true ll'] at S2
  have CB := hidb (fun W1 (hG : Gr w W1) => both_B g h hk (W := W) (H := H) (W' := W') (H' := H') W1 (ra.below hG).sl (rb.below hG).sl (by omega) (by omega) (hl.below hG.out) hc)
  have CE := hidb (fun W1 (hG : Gr w W1) => rastersError_any W1 (ra.below hG).pt (rb.below hG).pt (ra.below hG).sl (rb.below hG).sl (by omega) (by omega))
  have CV := hidb (fun W1 (hG : Gr w W1) => valid_any g W H ad b o cap l W1 (ra.below hG).sl (by omega) (hl.below hG.out))
  have CW := hidb (fun W1 (hG : Gr w W1) => rasterError_any pb po W H ad b o cap l W1 (ra.below hG).pt (ra.below hG).sl (by omega))
  have CC := hidb (fun W1 (hG : Gr w W1) c hc => coded_evc g c hc W1 (hl.below hG.out))
  have VL := hidb (show vcode W H l ≤ 8 by have := vcode_lt W H l; omega)
  rw [hc] at CE
  have CN := hidb (fun W1 (hG : Gr w W1) => coded_evc g 3 (by decide) W1 (hl.below hG.out))
  rw [show evc g 3 = errV g 2 from rfl] at CN
  clear hl ra rb
  go_enter Tryd.func3, Tryd.ntmps3
  go_wp2_with fail
  refine CR.out.mono ?_
  rintro e w1 ⟨rfl, hB⟩
  have G := hidb hB
  clear hB
  go_wp2_with fail
  refine (S1.out _ G.out).mono ?_
  rintro e w2 ⟨rfl, rfl⟩
  go_wp2_with fail
  refine (S2.out _ G.out).mono ?_
  rintro e w3 ⟨rfl, rfl⟩
  go_upto_region 6 with fail
  go_cut [10, 11] from 33 to 43 (fun s10 s11 wx => ∃ D, s10 = .pointer (some ⟨D, 0, none⟩) ∧ s11 = errV g 2 ∧ At wx D [.int .i64 0, .int .i64 0, .slice none 0 0] ∧ w.heap.size ≤ D ∧ Gr w wx)
  case first =>
    obtain ⟨p0, p1, p2⟩ := (RA.out.below G.out).pt
    obtain ⟨q0, q1, q2⟩ := (RB.out.below G.out).pt
    have szw : w.heap.size ≤ w3.heap.size := G.out.out.size
    have nz : ¬ pb = w3.heap.size := by have : pb < w3.heap.size := lt_of_cell p0; omega
    have nz' : ¬ qb = w3.heap.size := by have : qb < w3.heap.size := lt_of_cell q0; omega
    have E : Gr w w3 := G.out
    go_region_held3 (fun w' => (w'.cell? ⟨pb, po, none⟩ = some (.int .i64 W) ∧ w'.cell? ⟨pb, po + 1, none⟩ = some (.int .i64 H) ∧ w'.cell? ⟨pb, po + 2, none⟩ = some (.slice ad l.length cap)) ∧ (w'.cell? ⟨qb, qo, none⟩ = some (.int .i64 W') ∧ w'.cell? ⟨qb, qo + 1, none⟩ = some (.int .i64 H') ∧ w'.cell? ⟨qb, qo + 2, none⟩ = some (.slice ad' l'.length cap')))
      (first | exact ⟨(RA.out.below E).pt.all, (RB.out.below E).pt.all⟩ | exact ⟨(RA.out.below (E.alloc _)).pt.all, (RB.out.below (E.alloc _)).pt.all⟩ | exact ⟨(RA.out.below (((E.set NL _ _).set NL _ _).set NL _ _)).pt.all, (RB.out.below (((E.set NL _ _).set NL _ _).set NL _ _)).pt.all⟩)
      ((go_at_call 9; with_reducible refine (CB.out _ (by with_reducible first | exact E | exact E.drew | exact E.alloc _ | exact E.drew.alloc _ | exact (E.alloc _).drew)).mono ?_; rintro e w8 ⟨rfl, hB8⟩; (with_reducible first | (have NA := At.below hB8.out (At.new3d' _ _ _ _ _); have NL := E.out.size) | (have NA := At.below hB8.out (At.drew (At.new3 _ _ _ _ _)); have NL := E.out.size) | (have NA := At.below hB8.out (At.new3 _ _ _ _ _); have NL := E.out.size) | skip); (with_reducible first | replace E := Gr.step E hB8.out | replace E := Gr.step E.drew hB8.out | replace E := Gr.step (E.alloc _) hB8.out | replace E := Gr.step (E.drew.alloc _) hB8.out | replace E := Gr.step (E.alloc _).drew hB8.out); have SZ := E.out.size; clear hB8; (first | (obtain ⟨n0, n1, n2⟩ := NA.c3; obtain ⟨n3, n4, n5⟩ := NA.f3; have NH := NA.has (n := 3) rfl) | skip)))
    all_goals
      go_wp2_with fail
      go_meet
      refine ⟨_, rfl, rfl, ?_, ?_, ?_⟩
    all_goals first
      | exact At.new3 _ _ _ _ _
      | exact ((NA.put 0 _).put 1 _).put 2 _
      | exact E.alloc _
      | exact ((E.set NL _ _).set NL _ _).set NL _ _
      | assumption
      | omega
  case rest =>
    clear G
    obtain ⟨D, rfl, rfl, AD, lD, hG⟩ := hcut
    have G := hidb hG
    have HD := hidb AD
    clear hG AD
    go_wp2_with fail
    refine (CE.out _ G.out).mono ?_
    rintro e w4 ⟨rfl, hB⟩
    replace G := hidb (Gr.step G.out hB.out)
    replace HD := hidb (At.below hB.out HD.out)
    clear hB
    obtain ⟨p0, p1, p2⟩ := (RA.out.below G.out).pt
    go_wp2_with fail
    clear p0 p1 p2
    refine (CV.out _ G.out).mono ?_
    rintro e w5 ⟨rfl, hB⟩
    replace G := hidb (Gr.step G.out hB.out)
    replace HD := hidb (At.below hB.out HD.out)
    clear hB
    go_wp2_with fail
    refine (CW.out _ G.out).mono ?_
    rintro e w6 ⟨rfl, hB⟩
    replace G := hidb (Gr.step G.out hB.out)
    replace HD := hidb (At.below hB.out HD.out)
    clear hB
    go_wp2_with fail
    refine (CC.out _ G.out _ VL.out).mono ?_
    rintro e w7 ⟨rfl, hB⟩
    replace G := hidb (Gr.step G.out hB.out)
    replace HD := hidb (At.below hB.out HD.out)
    clear hB
    obtain ⟨kb, hkb⟩ : ∃ kb, kb = decide (knI h) := ⟨_, rfl⟩
    go_upto_region 9 with fail
    go_cut [14] from 54 to 67 (fun s14 wx => s14 = .bool kb ∧ wx = w7)
    case first =>
      by_cases k1 : h = 43
      · subst k1
        go_wp2
        go_meet
        exact ⟨by rw [hkb]; rfl, rfl⟩
      · by_cases k2 : h = 45
        · subst k2
          go_wp2
          go_meet
          exact ⟨by rw [hkb]; rfl, rfl⟩
        · by_cases k3 : h = 62
          · subst k3
            go_wp2
            go_meet
            exact ⟨by rw [hkb]; rfl, rfl⟩
          · by_cases k4 : h = 60
            · subst k4
              go_wp2
              go_meet
              exact ⟨by rw [hkb]; rfl, rfl⟩
            · have kf : kb = false := by rw [hkb]; exact decide_eq_false (fun hh => by rcases hh with hh | hh | hh | hh <;> contradiction)
              go_wp2
              go_meet
              exact ⟨by rw [kf]; simp [k1, k2, k3, k4], rfl⟩
    case rest =>
      obtain ⟨rfl, rfl⟩ := hcut
      have kf : kb = false := by rw [hkb]; exact decide_eq_false hk
      clear hkb hk hc
      subst kf
      obtain ⟨a0, a1, a2⟩ := HD.out.c3
      go_wp2_with fail
      refine (CN.out _ G.out).mono ?_
      rintro e w8 ⟨rfl, hB⟩
      replace G := hidb (Gr.step G.out hB.out)
      replace HD := hidb (At.below hB.out HD.out)
      clear hB a0 a1 a2
      obtain ⟨a0, a1, a2⟩ := HD.out.c3
      go_wp2_with fail
      refine (nothing_any _).mono ?_
      rintro e w9 ⟨rfl, hB⟩
      replace G := hidb (Gr.step G.out hB.out)
      clear hB
      go_wp2
      go_ret
      exact ⟨rfl, G.out⟩
end Go.Proofs.YtbhgibmobgojkaaDoor
