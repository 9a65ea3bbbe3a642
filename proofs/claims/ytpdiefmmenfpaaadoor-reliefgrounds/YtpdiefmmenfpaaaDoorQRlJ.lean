/-
  ReliefGrounds, where the raster is not right.
-/
import Derived.Test.YtpdiefmmenfpaaaDoorQRlI
namespace Go.Proofs.YtpdiefmmenfpaaaDoor
open Go.RowKit

set_option maxRecDepth 4000 in
set_option maxHeartbeats 16000000 in
theorem reliefGrounds_A0 (g : Nat → Addr) {W H : Int} {ad : Option Addr} {pb po b o cap : Nat} {l : List Int} (x y x2 y2 p : Int) (w : World) (hl : Laid w g) (ra : Rin w pb po W H ad b o cap l) (ll : l.length ≤ 200) (hp0 : ¬ 60 < p) (hv : ¬ vcode W H l = 0) : Calls Tryd.prog 3 #[.pointer (some ⟨pb, po, none⟩), spV x y, spV x2 y2, .int .i64 p] w fun e w' => e = .returned (.bool true) ∧ Gr w w' := by
  have RP := hidb ra.pt
  have S1 := hidb (fun W1 (hG : Gr w W1) => small_any pb po W H ad l.length cap W1 (ra.below hG).pt)
  rw [decide_eq_true ll] at S1
  have CA := hidb (fun W1 (hG : Gr w W1) => at_A g (W := W) (H := H) x y W1 (ra.below hG).sl (by omega) (hl.below hG.out) hv)
  have CP := hidb (fun W1 (hG : Gr w W1) => profile_A g (W := W) (H := H) x y x2 y2 p W1 (ra.below hG).sl (by omega) (hl.below hG.out) hv)
  have CW := hidb (fun W1 (hG : Gr w W1) => rasterError_any pb po W H ad b o cap l W1 (ra.below hG).pt (ra.below hG).sl (by omega))
  have CN := hidb (fun W1 (hG : Gr w W1) => coded_evc g (vcode W H l) (by have := vcode_lt W H l; omega) W1 (hl.below hG.out))
  rw [evc_of hv] at CN
  have zp : 0 < (vcode W H l : Int) := by omega
  generalize vcode W H l - 1 = ei at *
  clear hv
  generalize (vcode W H l : Int) = z at *
  have F := hidb (LF.new w (.int .i64 x) (.int .i64 y) (.int .i64 x2) (.int .i64 y2) 24 24)
  have CR := hidb (grounded_any g _ (hl.below F.out.gr.out))
  have CC := hidb (fun W1 (hG : Gr w W1) c hc => coded_evc g c hc W1 (hl.below hG.out))
  have HL := hidb hl
  clear hl ra ll
  go_enter Tryd.func3, Tryd.ntmps3
  go_wp2_with fail
  refine CR.out.mono ?_
  rintro e w1 ⟨rfl, hB⟩
  have E := hidb (F.out.below hB.out)
  clear hB F CR
  go_wp2_with fail
  refine (S1.out _ E.out.gr).mono ?_
  rintro e w2 ⟨rfl, rfl⟩
  go_upto_region 5 with fail
  go_cut [11, 12] from 41 to 48 (fun s11 s12 wx => ∃ D, s11 = .pointer (some ⟨D, 0, none⟩) ∧ s12 = errV g ei ∧ At wx D [.int .i64 0, .int .i64 0] ∧ w.heap.size + 1 < D ∧ Hid (LF w wx (.int .i64 x) (.int .i64 y) (.int .i64 x2) (.int .i64 y2)))
  case first =>
    have E2 := E.out
    have hb3 := E.out.a1.lt
    have hbw : w.heap.size ≤ w2.heap.size := E.out.gr.out.size
    have ST : w2.heap.size ≤ w2.heap.size := Nat.le_refl _
    go_region_held (fun w' => (w'.cell? ⟨pb, po, none⟩ = some (.int .i64 W) ∧ w'.cell? ⟨pb, po + 1, none⟩ = some (.int .i64 H) ∧ w'.cell? ⟨pb, po + 2, none⟩ = some (.slice ad l.length cap)) ∧ (w'.cell? ⟨w.heap.size, 0, none⟩ = some (.int .i64 x) ∧ w'.cell? ⟨w.heap.size, 1, none⟩ = some (.int .i64 y)))
      (first | (with_reducible exact ⟨(RP.out.below E2.gr.out).all, E2.a0.c2⟩) | exact ⟨(RP.out.below E2.gr.out).all, E2.a0.c2⟩ | exact ⟨(RP.out.below (E2.alloc _).gr.out).all, (E2.alloc _).a0.c2⟩ | exact ⟨(RP.out.below (E2.set2 NL NM _ _).gr.out).all, (E2.set2 NL NM _ _).a0.c2⟩)
      ((first
        | (go_at_call 9; with_reducible refine (CA.out _ (by with_reducible first | exact E2.gr | exact E2.drew.gr | exact (E2.alloc _).gr | exact (E2.drew.alloc _).gr | exact (E2.alloc _).drew.gr)).mono ?_; rintro e w8 ⟨rfl, hB8⟩; (with_reducible first | (have NA := At.below hB8.out (At.new2d' _ _ _ _); have NL := E2.a1.lt) | (have NA := At.below hB8.out (At.drew (At.new2 _ _ _ _)); have NL := E2.a1.lt) | (have NA := At.below hB8.out (At.new2 _ _ _ _); have NL := E2.a1.lt) | skip); have NM := E2.gr.out.size; (with_reducible first | replace E2 := E2.below hB8.out | replace E2 := E2.drew.below hB8.out | replace E2 := (E2.alloc _).below hB8.out | replace E2 := (E2.drew.alloc _).below hB8.out | replace E2 := (E2.alloc _).drew.below hB8.out); clear hB8; (first | (obtain ⟨n0, n1⟩ := NA.c2; obtain ⟨n3, n4⟩ := NA.f2; have NH := NA.has (n := 2) rfl) | skip))))
    all_goals
      go_wp2_with fail
      go_meet
      refine ⟨_, rfl, rfl, ?_, ?_, ?_⟩
    all_goals first
      | exact At.new2 _ _ _ _
      | exact At.fill2 NH _ _
      | exact E2.alloc _
      | exact E2.set2 NL NM _ _
      | exact NL
      | exact E2.a1.lt
      | exact (At.fill2 NH _ _).drew
      | exact (E2.set2 NL NM _ _).drew
      | exact (E2.alloc _).drew
  case rest =>
    clear E
    obtain ⟨D, rfl, rfl, AD, hD, E⟩ := hcut
    have HD := hidb AD
    clear AD
    go_upto_region 6 with fail
    go_cut [13, 14] from 49 to 58 (fun s13 s14 wx => s13 = .slice none 0 0 ∧ s14 = errV g ei ∧ Hid (At wx D [.int .i64 0, .int .i64 0]) ∧ Hid (LF w wx (.int .i64 x) (.int .i64 y) (.int .i64 x2) (.int .i64 y2)))
    case first =>
      have E2 := E.out
      have NA := HD.out
      go_region_held (fun w' => (w'.cell? ⟨pb, po, none⟩ = some (.int .i64 W) ∧ w'.cell? ⟨pb, po + 1, none⟩ = some (.int .i64 H) ∧ w'.cell? ⟨pb, po + 2, none⟩ = some (.slice ad l.length cap)) ∧ (w'.cell? ⟨w.heap.size, 0, none⟩ = some (.int .i64 x) ∧ w'.cell? ⟨w.heap.size, 1, none⟩ = some (.int .i64 y)) ∧ (w'.cell? ⟨w.heap.size + 1, 0, none⟩ = some (.int .i64 x2) ∧ w'.cell? ⟨w.heap.size + 1, 1, none⟩ = some (.int .i64 y2)))
        (first | (with_reducible exact ⟨(RP.out.below E2.gr.out).all, E2.a0.c2, E2.a1.c2⟩) | exact ⟨(RP.out.below E2.gr.out).all, E2.a0.c2, E2.a1.c2⟩)
        ((first
          | (go_at_call 10; with_reducible refine (CP.out _ (by with_reducible first | exact E2.gr | exact E2.drew.gr)).mono ?_; rintro e w8 ⟨rfl, hB8⟩; (with_reducible first | (replace E2 := E2.below hB8.out; replace NA := At.below hB8.out NA) | (replace E2 := E2.drew.below hB8.out; replace NA := At.below hB8.out NA.drew)); clear hB8)))
      all_goals
        go_wp2_with fail
        go_meet
        first | exact ⟨rfl, rfl, hidb NA, hidb E2⟩ | exact ⟨rfl, rfl, hidb NA.drew, hidb E2.drew⟩
    case rest =>
      clear E HD
      obtain ⟨rfl, rfl, HD, E⟩ := hcut
      go_wp2_with fail
      refine (CW.out _ E.out.gr).mono ?_
      rintro e w4 ⟨rfl, hB⟩
      replace E := hidb (E.out.below hB.out)
      replace HD := hidb (At.below hB.out HD.out)
      clear hB CW
      go_wp2_with fail
      refine (CN.out _ E.out.gr).mono ?_
      rintro e w5 ⟨rfl, hB⟩
      replace E := hidb (E.out.below hB.out)
      replace HD := hidb (At.below hB.out HD.out)
      clear hB
      go_wp2_with fail
      refine (CN.out _ E.out.gr).mono ?_
      rintro e w5 ⟨rfl, hB⟩
      replace E := hidb (E.out.below hB.out)
      replace HD := hidb (At.below hB.out HD.out)
      clear hB
      obtain ⟨d0, d1⟩ := HD.out.c2
      go_wp2
      go_ret
      exact ⟨by simp, E.out.gr⟩
set_option maxRecDepth 4000 in
set_option maxHeartbeats 16000000 in
theorem reliefGrounds_A1 (g : Nat → Addr) {W H : Int} {ad : Option Addr} {pb po b o cap : Nat} {l : List Int} (x y x2 y2 p : Int) (w : World) (hl : Laid w g) (ra : Rin w pb po W H ad b o cap l) (ll : l.length ≤ 200) (hp0 : 60 < p) (hp5 : ¬ p ≤ 4000) (hv : ¬ vcode W H l = 0) : Calls Tryd.prog 3 #[.pointer (some ⟨pb, po, none⟩), spV x y, spV x2 y2, .int .i64 p] w fun e w' => e = .returned (.bool true) ∧ Gr w w' := by
  have RP := hidb ra.pt
  have S1 := hidb (fun W1 (hG : Gr w W1) => small_any pb po W H ad l.length cap W1 (ra.below hG).pt)
  rw [decide_eq_true ll] at S1
  have CA := hidb (fun W1 (hG : Gr w W1) => at_A g (W := W) (H := H) x y W1 (ra.below hG).sl (by omega) (hl.below hG.out) hv)
  have CP := hidb (fun W1 (hG : Gr w W1) => profile_A g (W := W) (H := H) x y x2 y2 p W1 (ra.below hG).sl (by omega) (hl.below hG.out) hv)
  have CW := hidb (fun W1 (hG : Gr w W1) => rasterError_any pb po W H ad b o cap l W1 (ra.below hG).pt (ra.below hG).sl (by omega))
  have CN := hidb (fun W1 (hG : Gr w W1) => coded_evc g (vcode W H l) (by have := vcode_lt W H l; omega) W1 (hl.below hG.out))
  rw [evc_of hv] at CN
  have zp : 0 < (vcode W H l : Int) := by omega
  generalize vcode W H l - 1 = ei at *
  clear hv
  generalize (vcode W H l : Int) = z at *
  have F := hidb (LF.new w (.int .i64 x) (.int .i64 y) (.int .i64 x2) (.int .i64 y2) 24 24)
  have CR := hidb (grounded_any g _ (hl.below F.out.gr.out))
  have CC := hidb (fun W1 (hG : Gr w W1) c hc => coded_evc g c hc W1 (hl.below hG.out))
  have HL := hidb hl
  clear hl ra ll
  go_enter Tryd.func3, Tryd.ntmps3
  go_wp2_with fail
  refine CR.out.mono ?_
  rintro e w1 ⟨rfl, hB⟩
  have E := hidb (F.out.below hB.out)
  clear hB F CR
  go_wp2_with fail
  refine (S1.out _ E.out.gr).mono ?_
  rintro e w2 ⟨rfl, rfl⟩
  go_upto_region 5 with fail
  go_cut [11, 12] from 41 to 48 (fun s11 s12 wx => ∃ D, s11 = .pointer (some ⟨D, 0, none⟩) ∧ s12 = errV g ei ∧ At wx D [.int .i64 0, .int .i64 0] ∧ w.heap.size + 1 < D ∧ Hid (LF w wx (.int .i64 x) (.int .i64 y) (.int .i64 x2) (.int .i64 y2)))
  case first =>
    have E2 := E.out
    have hb3 := E.out.a1.lt
    have hbw : w.heap.size ≤ w2.heap.size := E.out.gr.out.size
    have ST : w2.heap.size ≤ w2.heap.size := Nat.le_refl _
    go_region_held (fun w' => (w'.cell? ⟨pb, po, none⟩ = some (.int .i64 W) ∧ w'.cell? ⟨pb, po + 1, none⟩ = some (.int .i64 H) ∧ w'.cell? ⟨pb, po + 2, none⟩ = some (.slice ad l.length cap)) ∧ (w'.cell? ⟨w.heap.size, 0, none⟩ = some (.int .i64 x) ∧ w'.cell? ⟨w.heap.size, 1, none⟩ = some (.int .i64 y)))
      (first | (with_reducible exact ⟨(RP.out.below E2.gr.out).all, E2.a0.c2⟩) | exact ⟨(RP.out.below E2.gr.out).all, E2.a0.c2⟩ | exact ⟨(RP.out.below (E2.alloc _).gr.out).all, (E2.alloc _).a0.c2⟩ | exact ⟨(RP.out.below (E2.set2 NL NM _ _).gr.out).all, (E2.set2 NL NM _ _).a0.c2⟩)
      ((first
        | (go_at_call 9; with_reducible refine (CA.out _ (by with_reducible first | exact E2.gr | exact E2.drew.gr | exact (E2.alloc _).gr | exact (E2.drew.alloc _).gr | exact (E2.alloc _).drew.gr)).mono ?_; rintro e w8 ⟨rfl, hB8⟩; (with_reducible first | (have NA := At.below hB8.out (At.new2d' _ _ _ _); have NL := E2.a1.lt) | (have NA := At.below hB8.out (At.drew (At.new2 _ _ _ _)); have NL := E2.a1.lt) | (have NA := At.below hB8.out (At.new2 _ _ _ _); have NL := E2.a1.lt) | skip); have NM := E2.gr.out.size; (with_reducible first | replace E2 := E2.below hB8.out | replace E2 := E2.drew.below hB8.out | replace E2 := (E2.alloc _).below hB8.out | replace E2 := (E2.drew.alloc _).below hB8.out | replace E2 := (E2.alloc _).drew.below hB8.out); clear hB8; (first | (obtain ⟨n0, n1⟩ := NA.c2; obtain ⟨n3, n4⟩ := NA.f2; have NH := NA.has (n := 2) rfl) | skip))))
    all_goals
      go_wp2_with fail
      go_meet
      refine ⟨_, rfl, rfl, ?_, ?_, ?_⟩
    all_goals first
      | exact At.new2 _ _ _ _
      | exact At.fill2 NH _ _
      | exact E2.alloc _
      | exact E2.set2 NL NM _ _
      | exact NL
      | exact E2.a1.lt
      | exact (At.fill2 NH _ _).drew
      | exact (E2.set2 NL NM _ _).drew
      | exact (E2.alloc _).drew
  case rest =>
    clear E
    obtain ⟨D, rfl, rfl, AD, hD, E⟩ := hcut
    have HD := hidb AD
    clear AD
    go_upto_region 6 with fail
    go_cut [13, 14] from 49 to 58 (fun s13 s14 wx => s13 = .slice none 0 0 ∧ s14 = errV g ei ∧ Hid (At wx D [.int .i64 0, .int .i64 0]) ∧ Hid (LF w wx (.int .i64 x) (.int .i64 y) (.int .i64 x2) (.int .i64 y2)))
    case first =>
      have E2 := E.out
      have NA := HD.out
      go_region_held (fun w' => (w'.cell? ⟨pb, po, none⟩ = some (.int .i64 W) ∧ w'.cell? ⟨pb, po + 1, none⟩ = some (.int .i64 H) ∧ w'.cell? ⟨pb, po + 2, none⟩ = some (.slice ad l.length cap)) ∧ (w'.cell? ⟨w.heap.size, 0, none⟩ = some (.int .i64 x) ∧ w'.cell? ⟨w.heap.size, 1, none⟩ = some (.int .i64 y)) ∧ (w'.cell? ⟨w.heap.size + 1, 0, none⟩ = some (.int .i64 x2) ∧ w'.cell? ⟨w.heap.size + 1, 1, none⟩ = some (.int .i64 y2)))
        (first | (with_reducible exact ⟨(RP.out.below E2.gr.out).all, E2.a0.c2, E2.a1.c2⟩) | exact ⟨(RP.out.below E2.gr.out).all, E2.a0.c2, E2.a1.c2⟩)
        ((first
          | (go_at_call 10; with_reducible refine (CP.out _ (by with_reducible first | exact E2.gr | exact E2.drew.gr)).mono ?_; rintro e w8 ⟨rfl, hB8⟩; (with_reducible first | (replace E2 := E2.below hB8.out; replace NA := At.below hB8.out NA) | (replace E2 := E2.drew.below hB8.out; replace NA := At.below hB8.out NA.drew)); clear hB8)))
      all_goals
        go_wp2_with fail
        go_meet
        first | exact ⟨rfl, rfl, hidb NA, hidb E2⟩ | exact ⟨rfl, rfl, hidb NA.drew, hidb E2.drew⟩
    case rest =>
      clear E HD
      obtain ⟨rfl, rfl, HD, E⟩ := hcut
      go_wp2_with fail
      refine (CW.out _ E.out.gr).mono ?_
      rintro e w4 ⟨rfl, hB⟩
      replace E := hidb (E.out.below hB.out)
      replace HD := hidb (At.below hB.out HD.out)
      clear hB CW
      go_wp2_with fail
      refine (CN.out _ E.out.gr).mono ?_
      rintro e w5 ⟨rfl, hB⟩
      replace E := hidb (E.out.below hB.out)
      replace HD := hidb (At.below hB.out HD.out)
      clear hB
      go_wp2_with fail
      refine (CN.out _ E.out.gr).mono ?_
      rintro e w5 ⟨rfl, hB⟩
      replace E := hidb (E.out.below hB.out)
      replace HD := hidb (At.below hB.out HD.out)
      clear hB
      obtain ⟨d0, d1⟩ := HD.out.c2
      go_wp2
      go_ret
      exact ⟨by simp, E.out.gr⟩
end Go.Proofs.YtpdiefmmenfpaaaDoor
