/-
  FieldBoth, where both are alike and there is such a way: what comes is valid.
-/
import Derived.Test.YtbhgibmobgojkaaDoorQFdP
namespace Go.Proofs.YtbhgibmobgojkaaDoor
open Go.RowKit

set_option maxRecDepth 4000 in
set_option maxHeartbeats 16000000 in
theorem fieldBoth_D (g : Nat → Addr) (h : Int) {pb po qb qo : Nat} {W H W' H' : Int} {ad ad' : Option Addr} {b b' o o' cap cap' : Nat} {l l' : List Int} (w : World) (hl : Laid w g) (ra : Rin w pb po W H ad b o cap l) (rb : Rin w qb qo W' H' ad' b' o' cap' l') (ll : l.length ≤ 200) (ll' : l'.length ≤ 200) (hc : acode W H l W' H' l' = 0) (hk : knI h) (hv : vcode W H (bothL h l l') = 0) : Calls Tryd.prog 3 #[.pointer (some ⟨pb, po, none⟩), .pointer (some ⟨qb, qo, none⟩), .int .u8 h] w fun e w' => e = .returned (.bool true) ∧ Gr w w' := by
  have HL := hidb hl
  have RA := hidb ra
  have RB := hidb rb
  have CR := hidb (rasters_any g w hl)
  have S1 := hidb (fun W1 (hG : Gr w W1) => small_any pb po W H ad l.length cap W1 (ra.below hG).pt)
  have S2 := hidb (fun W1 (hG : Gr w W1) => small_any qb qo W' H' ad' l'.length cap' W1 (rb.below hG).pt)
  rw [decide_eq_true ll] at S1
  rw [decide_eq_true ll'] at S2
  have CB := hidb (fun W1 (hG : Gr w W1) => both_D g h hk (W := W) (H := H) (W' := W') (H' := H') W1 (ra.below hG).sl (rb.below hG).sl (by omega) (by omega) (hl.below hG.out) hc hv)
  have CE := hidb (fun W1 (hG : Gr w W1) => rastersError_any W1 (ra.below hG).pt (rb.below hG).pt (ra.below hG).sl (rb.below hG).sl (by omega) (by omega))
  have CV := hidb (fun W1 (hG : Gr w W1) => valid_any g W H ad b o cap l W1 (ra.below hG).sl (by omega) (hl.below hG.out))
  have CW := hidb (fun W1 (hG : Gr w W1) => rasterError_any pb po W H ad b o cap l W1 (ra.below hG).pt (ra.below hG).sl (by omega))
  have CC := hidb (fun W1 (hG : Gr w W1) c hc => coded_evc g c hc W1 (hl.below hG.out))
  have VL := hidb (show vcode W H l ≤ 8 by have := vcode_lt W H l; omega)
  obtain ⟨vz1, vz2, hW, hH⟩ := acode_zero hc
  have HI := hidb (vcode_zero vz1).2.2.2
  have HI' := hidb (vcode_zero vz2).2.2.2
  have HLe : Hid (l'.length = l.length) := by
    have e1 := (vcode_zero vz1).2.2.1
    have e2 := (vcode_zero vz2).2.2.1
    subst hW hH
    show _ = _
    omega
  clear vz1 vz2 hW hH
  rw [hc] at CE
  clear hl ra rb
  go_enter Tryd.func3, Tryd.ntmps3
  go_wp2_with fail
  refine CR.out.mono ?_
  rintro e w1 ⟨rfl, hB⟩
  have G := hidb hB
  clear hB
  go_wp2_with fail
  refine (S1.out _ G.out).mono ?_
  rintro e w2 ⟨rfl, rfl⟩
  go_wp2_with fail
  refine (S2.out _ G.out).mono ?_
  rintro e w3 ⟨rfl, rfl⟩
  go_upto_region 6 with fail
  go_cut [10, 11] from 33 to 43 (fun s10 s11 wx => ∃ D B, s10 = .pointer (some ⟨D, 0, none⟩) ∧ s11 = .nilIface ∧ At wx D [.int .i64 W, .int .i64 H, .slice (some ⟨B, 0, none⟩) l.length l.length] ∧ w.heap.size ≤ D ∧ Gr w wx ∧ At wx B (ir (bothL h l l')))
  case first =>
    obtain ⟨p0, p1, p2⟩ := (RA.out.below G.out).pt
    obtain ⟨q0, q1, q2⟩ := (RB.out.below G.out).pt
    have szw : w.heap.size ≤ w3.heap.size := G.out.out.size
    have nz : ¬ pb = w3.heap.size := by have : pb < w3.heap.size := lt_of_cell p0; omega
    have nz' : ¬ qb = w3.heap.size := by have : qb < w3.heap.size := lt_of_cell q0; omega
    have E : Gr w w3 := G.out
    go_region_held3 (fun w' => (w'.cell? ⟨pb, po, none⟩ = some (.int .i64 W) ∧ w'.cell? ⟨pb, po + 1, none⟩ = some (.int .i64 H) ∧ w'.cell? ⟨pb, po + 2, none⟩ = some (.slice ad l.length cap)) ∧ (w'.cell? ⟨qb, qo, none⟩ = some (.int .i64 W') ∧ w'.cell? ⟨qb, qo + 1, none⟩ = some (.int .i64 H') ∧ w'.cell? ⟨qb, qo + 2, none⟩ = some (.slice ad' l'.length cap')))
      (first | exact ⟨(RA.out.below E).pt.all, (RB.out.below E).pt.all⟩ | exact ⟨(RA.out.below (E.alloc _)).pt.all, (RB.out.below (E.alloc _)).pt.all⟩ | exact ⟨(RA.out.below (((E.set NL _ _).set NL _ _).set NL _ _)).pt.all, (RB.out.below (((E.set NL _ _).set NL _ _).set NL _ _)).pt.all⟩)
      ((go_at_call 9; with_reducible refine (CB.out _ (by with_reducible first | exact E | exact E.drew | exact E.alloc _ | exact E.drew.alloc _ | exact (E.alloc _).drew)).mono ?_; rintro e w8 ⟨B, rfl, hAB, hPB, hB8⟩; (try simp at hPB); (with_reducible first | (have NA := At.below hB8.out (At.new3d' _ _ _ _ _); have NL := E.out.size) | (have NA := At.below hB8.out (At.drew (At.new3 _ _ _ _ _)); have NL := E.out.size) | (have NA := At.below hB8.out (At.new3 _ _ _ _ _); have NL := E.out.size) | skip); (with_reducible first | replace E := Gr.step E hB8.out | replace E := Gr.step E.drew hB8.out | replace E := Gr.step (E.alloc _) hB8.out | replace E := Gr.step (E.drew.alloc _) hB8.out | replace E := Gr.step (E.alloc _).drew hB8.out); have SZ := E.out.size; clear hB8; (first | (obtain ⟨n0, n1, n2⟩ := NA.c3; obtain ⟨n3, n4, n5⟩ := NA.f3; have NH := NA.has (n := 3) rfl) | skip)))
    all_goals
      go_wp2_with fail
      go_meet
      refine ⟨_, B, rfl, rfl, ?_, ?_, ?_, ?_⟩
    all_goals first
      | exact At.new3 _ _ _ _ _
      | exact ((NA.put 0 _).put 1 _).put 2 _
      | exact E.alloc _
      | exact ((E.set NL _ _).set NL _ _).set NL _ _
      | exact hAB.alloc _
      | exact ((hAB.skip (by omega) _ _).skip (by omega) _ _).skip (by omega) _ _
      | assumption
      | omega
  case rest =>
    clear G
    obtain ⟨D, B, rfl, rfl, AD, lD, hG, hAB⟩ := hcut
    have G := hidb hG
    have HD := hidb AD
    clear hG AD
    have AB := hidb hAB
    clear hAB
    go_wp2_with fail
    refine (CE.out _ G.out).mono ?_
    rintro e w4 ⟨rfl, hB⟩
    replace G := hidb (Gr.step G.out hB.out)
    replace HD := hidb (At.below hB.out HD.out)
    replace AB := hidb (At.below hB.out AB.out)
    clear hB
    obtain ⟨p0, p1, p2⟩ := (RA.out.below G.out).pt
    go_wp2_with fail
    clear p0 p1 p2
    refine (CV.out _ G.out).mono ?_
    rintro e w5 ⟨rfl, hB⟩
    replace G := hidb (Gr.step G.out hB.out)
    replace HD := hidb (At.below hB.out HD.out)
    replace AB := hidb (At.below hB.out AB.out)
    clear hB
    go_wp2_with fail
    refine (CW.out _ G.out).mono ?_
    rintro e w6 ⟨rfl, hB⟩
    replace G := hidb (Gr.step G.out hB.out)
    replace HD := hidb (At.below hB.out HD.out)
    replace AB := hidb (At.below hB.out AB.out)
    clear hB
    go_wp2_with fail
    refine (CC.out _ G.out _ VL.out).mono ?_
    rintro e w7 ⟨rfl, hB⟩
    replace G := hidb (Gr.step G.out hB.out)
    replace HD := hidb (At.below hB.out HD.out)
    replace AB := hidb (At.below hB.out AB.out)
    clear hB
    obtain ⟨kb, hkb⟩ : ∃ kb, kb = decide (knI h) := ⟨_, rfl⟩
    go_upto_region 9 with fail
    go_cut [14] from 54 to 67 (fun s14 wx => s14 = .bool kb ∧ wx = w7)
    case first =>
      by_cases k1 : h = 43
      · subst k1
        go_wp2
        go_meet
        exact ⟨by rw [hkb]; rfl, rfl⟩
      · by_cases k2 : h = 45
        · subst k2
          go_wp2
          go_meet
          exact ⟨by rw [hkb]; rfl, rfl⟩
        · by_cases k3 : h = 62
          · subst k3
            go_wp2
            go_meet
            exact ⟨by rw [hkb]; rfl, rfl⟩
          · by_cases k4 : h = 60
            · subst k4
              go_wp2
              go_meet
              exact ⟨by rw [hkb]; rfl, rfl⟩
            · have kf : kb = false := by rw [hkb]; exact decide_eq_false (fun hh => by rcases hh with hh | hh | hh | hh <;> contradiction)
              go_wp2
              go_meet
              exact ⟨by rw [kf]; simp [k1, k2, k3, k4], rfl⟩
    case rest =>
      obtain ⟨rfl, rfl⟩ := hcut
      have kf : kb = true := by rw [hkb]; exact decide_eq_true hk
      clear hkb
      subst kf
      go_upto_region 14 with fail
      go_cut [15] from 86 to 95 (fun s15 wx => ∃ Wt, s15 = .pointer (some ⟨Wt, 0, none⟩) ∧ At wx Wt [.int .i64 W, .int .i64 H, .slice none 0 0] ∧ Gr w wx ∧ At wx D [.int .i64 W, .int .i64 H, .slice (some ⟨B, 0, none⟩) l.length l.length] ∧ w.heap.size ≤ Wt ∧ D < Wt ∧ At wx B (ir (bothL h l l')) ∧ B < Wt)
      case first =>
        have E := G.out
        have HDo := HD.out
        have szE := E.out.size
        have lDw := HDo.lt
        have ABo := AB.out
        have lBw := ABo.lt
        go_region_held3 (fun w' => w'.cell? ⟨pb, po, none⟩ = some (.int .i64 W) ∧ w'.cell? ⟨pb, po + 1, none⟩ = some (.int .i64 H)) (first | with_reducible exact ⟨(RA.out.below E).pt.c0, (RA.out.below E).pt.c1⟩ | with_reducible exact ⟨(RA.out.below E.drew).pt.c0, (RA.out.below E.drew).pt.c1⟩ | exact ⟨(RA.out.below (E.alloc _)).pt.c0, (RA.out.below (E.alloc _)).pt.c1⟩) (fail)
        all_goals
          go_wp2_with fail
          go_meet
          refine ⟨_, rfl, ?_, ?_, ?_, ?_, ?_, ?_, ?_⟩
        all_goals first
          | exact At.new3 _ _ _ _ _
          | exact At.new3d' _ _ _ _ _
          | with_reducible exact E.alloc _
          | with_reducible exact (E.alloc _).drew
          | with_reducible exact HDo.alloc _
          | with_reducible exact (HDo.alloc _).drew
          | with_reducible exact ABo.alloc _
          | with_reducible exact (ABo.alloc _).drew
          | exact szE
          | exact lDw
          | exact lBw
          | (trace_state; fail)
      case rest =>
        clear G HD  AB
        obtain ⟨Wt, rfl, AW, hG, AD, lW, lDW, hAB, lBW⟩ := hcut
        have G := hidb hG
        have HW0 := hidb AW
        have HD := hidb AD
        clear hG AD AW
        have AB := hidb hAB
        clear hAB
        have nBW : ¬ Wt = B := by omega
        obtain ⟨base, hbase⟩ : ∃ base, base = wc.heap.size := ⟨_, rfl⟩
        have nDW : ¬ Wt = D := by omega
        have lWb : Wt < base := by rw [hbase]; exact HW0.out.lt
        have lwb : w.heap.size ≤ base := by rw [hbase]; exact G.out.out.size
        have n0 : wc.ownsRow base 3 1 (.slice none 0 0) 0 (ir ((bothL h l l').take 0)) := by rw [hbase]; simpa [ir] using World.ownsRow_nil wc wc.heap.size 3 1
        have N0 := hidb n0
        have szb : Hid (base ≤ wc.heap.size) := by rw [hbase]; exact Nat.le_refl _
        clear hbase n0
        go_wp2
        go_loopw [16] (fun t wr => ∃ (k : Nat) (v : Value), k ≤ l.length ∧ t = .int .i64 (k : Int) ∧ Hid (wr.ownsRow base 3 1 v k (ir ((bothL h l l').take k))) ∧ Hid (At wr Wt [.int .i64 W, .int .i64 H, v]) ∧ Hid (At wr D [.int .i64 W, .int .i64 H, .slice (some ⟨B, 0, none⟩) l.length l.length]) ∧ Hid (Gr w wr) ∧ Hid (base ≤ wr.heap.size) ∧ Hid (At wr B (ir (bothL h l l')))) (fun t _ => l.length - (intOf t).toNat)
        case atStart => exact ⟨0, _, Nat.zero_le _, rfl, N0, HW0, HD, G, szb, AB⟩
        case round =>
          clear N0 HW0 HD G szb  AB
          obtain ⟨k, v, hkl, rfl, OW, AW, HD, G, SK, AB⟩ := hrel
          obtain ⟨ad1, cap1, rfl⟩ := own_shape OW.out
          obtain ⟨p0, p1, p2⟩ := (RA.out.below G.out).pt
          by_cases h1 : k < l.length
          · have h1r : k < l'.length := by rw [HLe.out]; exact h1
            have c0 := (RA.out.below G.out).sl.cell h1
            have c1 := (RB.out.below G.out).sl.cell h1r
            have ix := RA.out.sl.ix k h1
            have ix' := RB.out.sl.ix k h1r
            obtain ⟨q0, q1, q2⟩ := (RB.out.below G.out).pt
            obtain ⟨t0, t1, t2⟩ := AW.out.c3
            have CO := hidb (fun w => ofTwo_any h hk l[k] l'[k] (HI.out _ (List.getElem_mem _)) (HI'.out _ (List.getElem_mem _)) w)
            have HT : Hid ((bothL h l l').take (k + 1) = (bothL h l l').take k ++ [twoI h l[k] l'[k]]) := by
              have hz : k < (bothL h l l').length := by rw [bothL_len HLe.out]; exact h1
              show _ = _
              rw [List.take_succ_eq_append_getElem hz]
              simp [bothL]
            have HLn : Hid (((bothL h l l').take k).length = k) := by show _ = _; rw [List.length_take, bothL_len HLe.out]; omega
            have n1 : ¬ pb = wr.heap.size := by have : pb < wr.heap.size := lt_of_cell p0; omega
            have n2 : ¬ qb = wr.heap.size := by have : qb < wr.heap.size := lt_of_cell q0; omega
            have n3 : ¬ b = wr.heap.size := by have : b < wr.heap.size := lt_of_cell c0; omega
            have n4 : ¬ b' = wr.heap.size := by have : b' < wr.heap.size := lt_of_cell c1; omega
            have n5 : ¬ Wt = wr.heap.size := by have := AW.out.lt; omega
            rw [HLe.out] at q2 ix'
            have FP : Hid (∀ W1, Gr w W1 → W1.cell? ⟨pb, po + 2, none⟩ = some (.slice ad l.length cap)) := fun W1 hG => (RA.out.below hG).pt.c2
            have FQ : Hid (∀ W1, Gr w W1 → W1.cell? ⟨qb, qo + 2, none⟩ = some (.slice ad' l.length cap')) := fun W1 hG => by have := (RB.out.below hG).pt.c2; rw [HLe.out] at this; exact this
            have FX : Hid (∀ W1, Gr w W1 → W1.cell? ⟨b, o + k, none⟩ = some (.int .i64 l[k])) := fun W1 hG => (RA.out.below hG).sl.cell h1
            have FY : Hid (∀ W1, Gr w W1 → W1.cell? ⟨b', o' + k, none⟩ = some (.int .i64 l'[k])) := fun W1 hG => (RB.out.below hG).sl.cell h1r
            generalize twoI h l[k] l'[k] = r at *
            generalize l[k] = x at *
            generalize l'[k] = y at *
            generalize hn : l.length = n at *
            have FS : Hid (∀ W1, Gr w W1 → W1.cell? ⟨pb, po + 2, none⟩ = some (.slice ad n cap) ∧ W1.cell? ⟨qb, qo + 2, none⟩ = some (.slice ad' n cap') ∧ W1.cell? ⟨b, o + k, none⟩ = some (.int .i64 x) ∧ W1.cell? ⟨b', o' + k, none⟩ = some (.int .i64 y)) := fun W1 hG => ⟨FP.out W1 hG, FQ.out W1 hG, FX.out W1 hG, FY.out W1 hG⟩
            clear FP FQ FX FY
            go_upto_region 18 with fail
            refine wp_region_held_drew (S := (fun w' => w'.cell? ⟨pb, po + 2, none⟩ = some (.slice ad n cap) ∧ w'.cell? ⟨qb, qo + 2, none⟩ = some (.slice ad' n cap') ∧ w'.cell? ⟨b, o + k, none⟩ = some (.int .i64 x) ∧ w'.cell? ⟨b', o' + k, none⟩ = some (.int .i64 y))) (by kernel_rfl) ?_ (fun hHeld => ?_)
            · (try dsimp only); (with_reducible first | exact FS.out _ (G.out) | exact FS.out _ ((G.out).drew) | exact FS.out _ (((G.out).drew).drew) | exact FS.out _ ((((G.out).drew).drew).drew) | exact FS.out _ ((G.out).alloc _) | exact FS.out _ (((G.out).alloc _).drew) | exact FS.out _ ((((G.out).alloc _).drew).drew) | exact FS.out _ (((G.out).drew).alloc _) | exact FS.out _ ((((G.out).drew).alloc _).drew) | exact FS.out _ (((((G.out).drew).alloc _).drew).drew) | exact FS.out _ ((((G.out).drew).drew).alloc _) | exact FS.out _ (((((G.out).drew).drew).alloc _).drew) | exact FS.out _ ((((((G.out).drew).drew).alloc _).drew).drew) | exact FS.out _ ((G.out).set lW _ _) | exact FS.out _ (((G.out).drew).set lW _ _) | exact FS.out _ ((((G.out).drew).drew).set lW _ _) | exact FS.out _ (((G.out).set lW _ _).drew) | exact FS.out _ ((((G.out).drew).set lW _ _).drew) | exact FS.out _ (((((G.out).drew).drew).set lW _ _).drew))
            refine wpAnyH_take (i := 0) (v := ?vg0x2) rfl (by kernel_rfl) (by kernel_rfl) (by kernel_rfl) (fun _ _ _ h => h) (Or.inl ⟨by kernel_rfl, ?hg0x2⟩) (by assumption) ?rg0x2
            case hg0x2 => (intro w hSw; (try dsimp only at hSw); go_simp; try with_reducible rfl)
            (try simp only [Act.put, List.getElem_toArray, List.getElem_cons_zero, List.setIfInBounds_toArray, List.set_cons_zero, List.set_cons_succ])
            refine wpAnyH_take (i := 1) (v := ?vg1x5) rfl (by kernel_rfl) (by kernel_rfl) (by kernel_rfl) (fun _ _ _ h => h) (Or.inl ⟨by kernel_rfl, ?hg1x5⟩) (by assumption) ?rg1x5
            case hg1x5 => (intro w hSw; (try dsimp only at hSw); go_simp; try with_reducible rfl)
            (try simp only [Act.put, List.getElem_toArray, List.getElem_cons_zero, List.getElem_cons_succ, List.setIfInBounds_toArray, List.set_cons_zero, List.set_cons_succ])
            refine wpAnyH_take (i := 2) (v := ?vg2x8) rfl (by kernel_rfl) (by kernel_rfl) (by kernel_rfl) (fun _ _ _ h => h) (Or.inl ⟨by kernel_rfl, ?hg2x8⟩) (by assumption) ?rg2x8
            case hg2x8 => (intro w hSw; (try dsimp only at hSw); go_simp; try with_reducible rfl)
            (try simp only [Act.put, List.getElem_toArray, List.getElem_cons_zero, List.getElem_cons_succ, List.setIfInBounds_toArray, List.set_cons_zero, List.set_cons_succ])
            refine wpAnyH_take (i := 3) (v := ?vg3x11) rfl (by kernel_rfl) (by kernel_rfl) (by kernel_rfl) (fun _ _ _ h => h) (Or.inl ⟨by kernel_rfl, ?hg3x11⟩) (by assumption) ?rg3x11
            case hg3x11 => (intro w hSw; (try dsimp only at hSw); go_simp; try with_reducible rfl)
            (try simp only [Act.put, List.getElem_toArray, List.getElem_cons_zero, List.getElem_cons_succ, List.setIfInBounds_toArray, List.set_cons_zero, List.set_cons_succ])
            refine wpAnyH_take (i := 5) (v := ?vg5x14) rfl (by kernel_rfl) (by kernel_rfl) (by kernel_rfl) (fun _ _ _ h => h) (Or.inl ⟨by kernel_rfl, ?hg5x14⟩) (by assumption) ?rg5x14
            case hg5x14 => (intro w hSw; (try dsimp only at hSw); go_simp; try with_reducible rfl)
            (try simp only [Act.put, List.getElem_toArray, List.getElem_cons_zero, List.getElem_cons_succ, List.setIfInBounds_toArray, List.set_cons_zero, List.set_cons_succ])
            refine wpAnyH_take (i := 6) (v := ?vg6x17) rfl (by kernel_rfl) (by kernel_rfl) (by kernel_rfl) (fun _ _ _ h => h) (Or.inl ⟨by kernel_rfl, ?hg6x17⟩) (by assumption) ?rg6x17
            case hg6x17 => (intro w hSw; (try dsimp only at hSw); go_simp; try with_reducible rfl)
            (try simp only [Act.put, List.getElem_toArray, List.getElem_cons_zero, List.getElem_cons_succ, List.setIfInBounds_toArray, List.set_cons_zero, List.set_cons_succ])
            refine wpAnyH_take (i := 7) (v := ?vg7x20) rfl (by kernel_rfl) (by kernel_rfl) (by kernel_rfl) (fun _ _ _ h => h) (Or.inl ⟨by kernel_rfl, ?hg7x20⟩) (by assumption) ?rg7x20
            case hg7x20 => (intro w hSw; (try dsimp only at hSw); go_simp; try with_reducible rfl)
            (try simp only [Act.put, List.getElem_toArray, List.getElem_cons_zero, List.getElem_cons_succ, List.setIfInBounds_toArray, List.set_cons_zero, List.set_cons_succ])
            refine wpAnyH_take (i := 8) (v := ?vg8x23) rfl (by kernel_rfl) (by kernel_rfl) (by kernel_rfl) (fun _ _ _ h => h) (Or.inl ⟨by kernel_rfl, ?hg8x23⟩) (by assumption) ?rg8x23
            case hg8x23 => (intro w hSw; (try dsimp only at hSw); go_simp; try with_reducible rfl)
            (try simp only [Act.put, List.getElem_toArray, List.getElem_cons_zero, List.getElem_cons_succ, List.setIfInBounds_toArray, List.set_cons_zero, List.set_cons_succ])
            refine wpAnyH_take (i := 9) (v := ?vg9x26) rfl (by kernel_rfl) (by kernel_rfl) (by kernel_rfl) (fun _ _ _ h => h) (Or.inl ⟨by kernel_rfl, ?hg9x26⟩) (by assumption) ?rg9x26
            case hg9x26 => (intro w hSw; (try dsimp only at hSw); go_simp; try with_reducible rfl)
            (try simp only [Act.put, List.getElem_toArray, List.getElem_cons_zero, List.getElem_cons_succ, List.setIfInBounds_toArray, List.set_cons_zero, List.set_cons_succ])
            refine wpAnyH_take (i := 10) (v := ?vg10x29) rfl (by kernel_rfl) (by kernel_rfl) (by kernel_rfl) (fun _ _ _ h => h) (Or.inl ⟨by kernel_rfl, ?hg10x29⟩) (by assumption) ?rg10x29
            case hg10x29 => (intro w hSw; (try dsimp only at hSw); go_simp; try with_reducible rfl)
            (try simp only [Act.put, List.getElem_toArray, List.getElem_cons_zero, List.getElem_cons_succ, List.setIfInBounds_toArray, List.set_cons_zero, List.set_cons_succ])
            refine wpAnyH_take (i := 11) (v := ?vg11x32) rfl (by kernel_rfl) (by kernel_rfl) (by kernel_rfl) (fun _ _ _ h => h) (Or.inl ⟨by kernel_rfl, ?hg11x32⟩) (by assumption) ?rg11x32
            case hg11x32 => (intro w hSw; (try dsimp only at hSw); go_simp; try with_reducible rfl)
            (try simp only [Act.put, List.getElem_toArray, List.getElem_cons_zero, List.getElem_cons_succ, List.setIfInBounds_toArray, List.set_cons_zero, List.set_cons_succ])
            refine wpAnyH_take (i := 12) (v := ?vg12x35) rfl (by kernel_rfl) (by kernel_rfl) (by kernel_rfl) (fun _ _ _ h => h) (Or.inl ⟨by kernel_rfl, ?hg12x35⟩) (by assumption) ?rg12x35
            case hg12x35 => (intro w hSw; (try dsimp only at hSw); go_simp; try with_reducible rfl)
            (try simp only [Act.put, List.getElem_toArray, List.getElem_cons_zero, List.getElem_cons_succ, List.setIfInBounds_toArray, List.set_cons_zero, List.set_cons_succ])
            refine wpAnyH_take (i := 13) (v := ?vg13x38) rfl (by kernel_rfl) (by kernel_rfl) (by kernel_rfl) (fun _ _ _ h => h) (Or.inl ⟨by kernel_rfl, ?hg13x38⟩) (by assumption) ?rg13x38
            case hg13x38 => (intro w hSw; (try dsimp only at hSw); go_simp; try with_reducible rfl)
            (try simp only [Act.put, List.getElem_toArray, List.getElem_cons_zero, List.getElem_cons_succ, List.setIfInBounds_toArray, List.set_cons_zero, List.set_cons_succ])
            refine wpAnyH_take (i := 14) (v := ?vg14x41) rfl (by kernel_rfl) (by kernel_rfl) (by kernel_rfl) (fun _ _ _ h => h) (Or.inl ⟨by kernel_rfl, ?hg14x41⟩) (by assumption) ?rg14x41
            case hg14x41 => (intro w hSw; (try dsimp only at hSw); go_simp; try with_reducible rfl)
            (try simp only [Act.put, List.getElem_toArray, List.getElem_cons_zero, List.getElem_cons_succ, List.setIfInBounds_toArray, List.set_cons_zero, List.set_cons_succ])
            refine wpAnyH_take (i := 15) (v := ?vg15x44) rfl (by kernel_rfl) (by kernel_rfl) (by kernel_rfl) (fun _ _ _ h => h) (Or.inl ⟨by kernel_rfl, ?hg15x44⟩) (by assumption) ?rg15x44
            case hg15x44 => (intro w hSw; (try dsimp only at hSw); go_simp; try with_reducible rfl)
            (try simp only [Act.put, List.getElem_toArray, List.getElem_cons_zero, List.getElem_cons_succ, List.setIfInBounds_toArray, List.set_cons_zero, List.set_cons_succ])
            refine wpAnyH_take (i := 16) (v := ?vg16x47) rfl (by kernel_rfl) (by kernel_rfl) (by kernel_rfl) (fun _ _ _ h => h) (Or.inl ⟨by kernel_rfl, ?hg16x47⟩) (by assumption) ?rg16x47
            case hg16x47 => (intro w hSw; (try dsimp only at hSw); go_simp; try with_reducible rfl)
            (try simp only [Act.put, List.getElem_toArray, List.getElem_cons_zero, List.getElem_cons_succ, List.setIfInBounds_toArray, List.set_cons_zero, List.set_cons_succ])
            refine wpAnyH_take (i := 17) (v := ?vg17x50) rfl (by kernel_rfl) (by kernel_rfl) (by kernel_rfl) (fun _ _ _ h => h) (Or.inl ⟨by kernel_rfl, ?hg17x50⟩) (by assumption) ?rg17x50
            case hg17x50 => (intro w hSw; (try dsimp only at hSw); go_simp; try with_reducible rfl)
            (try simp only [Act.put, List.getElem_toArray, List.getElem_cons_zero, List.getElem_cons_succ, List.setIfInBounds_toArray, List.set_cons_zero, List.set_cons_succ])
            refine wpAnyH_take (i := 18) (v := ?vg18x53) rfl (by kernel_rfl) (by kernel_rfl) (by kernel_rfl) (fun _ _ _ h => h) (Or.inl ⟨by kernel_rfl, ?hg18x53⟩) (by assumption) ?rg18x53
            case hg18x53 => (intro w hSw; (try dsimp only at hSw); go_simp; try with_reducible rfl)
            (try simp only [Act.put, List.getElem_toArray, List.getElem_cons_zero, List.getElem_cons_succ, List.setIfInBounds_toArray, List.set_cons_zero, List.set_cons_succ])
            refine wpAnyH_take (i := 19) (v := ?vg19x56) rfl (by kernel_rfl) (by kernel_rfl) (by kernel_rfl) (fun _ _ _ h => h) (Or.inl ⟨by kernel_rfl, ?hg19x56⟩) (by assumption) ?rg19x56
            case hg19x56 => (intro w hSw; (try dsimp only at hSw); go_simp; try with_reducible rfl)
            (try simp only [Act.put, List.getElem_toArray, List.getElem_cons_zero, List.getElem_cons_succ, List.setIfInBounds_toArray, List.set_cons_zero, List.set_cons_succ])
            refine wpAnyH_ready (rs := [4, 20]) (by kernel_rfl) (by simp) ?_
            refine AllReadyH.cons rfl (fun K hK => ?_) (AllReadyH.cons rfl (fun K hK => ?_) AllReadyH.nil)
            · skip
              obtain ⟨_, _, tq2⟩ := (AW.out.alloc (.cells #[.int .i64 r] 3)).drew.c3
              go_simp
              clear tq2
              refine hK.out _ _ ?_ (fun hHeld => ?_)
              · (try dsimp only); (with_reducible first | exact FS.out _ (G.out) | exact FS.out _ ((G.out).drew) | exact FS.out _ (((G.out).drew).drew) | exact FS.out _ ((((G.out).drew).drew).drew) | exact FS.out _ ((G.out).alloc _) | exact FS.out _ (((G.out).alloc _).drew) | exact FS.out _ ((((G.out).alloc _).drew).drew) | exact FS.out _ (((G.out).drew).alloc _) | exact FS.out _ ((((G.out).drew).alloc _).drew) | exact FS.out _ (((((G.out).drew).alloc _).drew).drew) | exact FS.out _ ((((G.out).drew).drew).alloc _) | exact FS.out _ (((((G.out).drew).drew).alloc _).drew) | exact FS.out _ ((((((G.out).drew).drew).alloc _).drew).drew) | exact FS.out _ ((G.out).set lW _ _) | exact FS.out _ (((G.out).drew).set lW _ _) | exact FS.out _ ((((G.out).drew).drew).set lW _ _) | exact FS.out _ (((G.out).set lW _ _).drew) | exact FS.out _ ((((G.out).drew).set lW _ _).drew) | exact FS.out _ (((((G.out).drew).drew).set lW _ _).drew))
              clear hK K
              refine wpAnyH_ready (rs := [20]) (by kernel_rfl) (by simp) ?_
              refine AllReadyH.cons rfl (fun K hK => ?_) AllReadyH.nil
              go_simp
              go_wp2_with ((go_at_call 15; with_reducible refine (CO.out _).mono ?_; rintro e w9 ⟨rfl, rfl⟩))
              refine hK.out _ _ ?_ (fun hHeld => ?_)
              · (try dsimp only); (with_reducible first | exact FS.out _ (G.out) | exact FS.out _ ((G.out).drew) | exact FS.out _ (((G.out).drew).drew) | exact FS.out _ ((((G.out).drew).drew).drew) | exact FS.out _ ((G.out).alloc _) | exact FS.out _ (((G.out).alloc _).drew) | exact FS.out _ ((((G.out).alloc _).drew).drew) | exact FS.out _ (((G.out).drew).alloc _) | exact FS.out _ ((((G.out).drew).alloc _).drew) | exact FS.out _ (((((G.out).drew).alloc _).drew).drew) | exact FS.out _ ((((G.out).drew).drew).alloc _) | exact FS.out _ (((((G.out).drew).drew).alloc _).drew) | exact FS.out _ ((((((G.out).drew).drew).alloc _).drew).drew) | exact FS.out _ ((G.out).set lW _ _) | exact FS.out _ (((G.out).drew).set lW _ _) | exact FS.out _ ((((G.out).drew).drew).set lW _ _) | exact FS.out _ (((G.out).set lW _ _).drew) | exact FS.out _ ((((G.out).drew).set lW _ _).drew) | exact FS.out _ (((((G.out).drew).drew).set lW _ _).drew))
              clear hK K
              refine wpAnyH_ready (rs := [21]) (by kernel_rfl) (by simp) ?_
              refine AllReadyH.cons rfl (fun K hK => ?_) AllReadyH.nil
              go_simp
              refine hK.out _ _ ?_ (fun hHeld => ?_)
              · (try dsimp only); (with_reducible first | exact FS.out _ (G.out) | exact FS.out _ ((G.out).drew) | exact FS.out _ (((G.out).drew).drew) | exact FS.out _ ((((G.out).drew).drew).drew) | exact FS.out _ ((G.out).alloc _) | exact FS.out _ (((G.out).alloc _).drew) | exact FS.out _ ((((G.out).alloc _).drew).drew) | exact FS.out _ (((G.out).drew).alloc _) | exact FS.out _ ((((G.out).drew).alloc _).drew) | exact FS.out _ (((((G.out).drew).alloc _).drew).drew) | exact FS.out _ ((((G.out).drew).drew).alloc _) | exact FS.out _ (((((G.out).drew).drew).alloc _).drew) | exact FS.out _ ((((((G.out).drew).drew).alloc _).drew).drew) | exact FS.out _ ((G.out).set lW _ _) | exact FS.out _ (((G.out).drew).set lW _ _) | exact FS.out _ ((((G.out).drew).drew).set lW _ _) | exact FS.out _ (((G.out).set lW _ _).drew) | exact FS.out _ ((((G.out).drew).set lW _ _).drew) | exact FS.out _ (((((G.out).drew).drew).set lW _ _).drew))
              clear hK K
              refine wpAnyH_ready (rs := [22]) (by kernel_rfl) (by simp) ?_
              refine AllReadyH.cons rfl (fun K hK => ?_) AllReadyH.nil
              refine step_i1 _ base (.slice ad1 k cap1) ((bothL h l l').take k) r k wr.heap.size _ _ rfl rfl rfl rfl HLn.out (by omega) (by with_reducible first | exact (OW.out).alloc _ | exact ((OW.out).alloc _).drew | exact (((OW.out).alloc _).drew).drew | exact ((OW.out).drew).alloc _ | exact (((OW.out).drew).alloc _).drew | exact ((((OW.out).drew).alloc _).drew).drew | exact (((OW.out).drew).drew).alloc _ | exact ((((OW.out).drew).drew).alloc _).drew | exact (((((OW.out).drew).drew).alloc _).drew).drew) (by with_reducible first | exact At.new1 _ _ _ | exact At.new1d' _ _ _ | exact At.new1dd' _ _ _ | exact (At.new1 _ _ _).drew | exact (At.new1d' _ _ _).drew | exact (At.new1dd' _ _ _).drew | exact ((At.new1 _ _ _).drew).drew | exact ((At.new1d' _ _ _).drew).drew | exact ((At.new1dd' _ _ _).drew).drew) (by have := SK.out; simp; omega) ?_
              intro g2 cap2 w2 hown2 hgrow2
              obtain ⟨A2, D2, G2, S2⟩ := app_facts OW.out hgrow2 (by with_reducible first | exact (Gr.refl wr).alloc _ | exact ((Gr.refl wr).alloc _).drew | exact (((Gr.refl wr).alloc _).drew).drew | exact ((Gr.refl wr).drew).alloc _ | exact (((Gr.refl wr).drew).alloc _).drew | exact ((((Gr.refl wr).drew).alloc _).drew).drew | exact (((Gr.refl wr).drew).drew).alloc _ | exact ((((Gr.refl wr).drew).drew).alloc _).drew | exact (((((Gr.refl wr).drew).drew).alloc _).drew).drew) SK.out lwb lWb (Nat.lt_trans lDW lWb) AW.out HD.out G.out
              (obtain ⟨_, B2, _, _⟩ := app_facts OW.out hgrow2 (by with_reducible first | exact (Gr.refl wr).alloc _ | exact ((Gr.refl wr).alloc _).drew | exact (((Gr.refl wr).alloc _).drew).drew | exact ((Gr.refl wr).drew).alloc _ | exact (((Gr.refl wr).drew).alloc _).drew | exact ((((Gr.refl wr).drew).alloc _).drew).drew | exact (((Gr.refl wr).drew).drew).alloc _ | exact ((((Gr.refl wr).drew).drew).alloc _).drew | exact (((((Gr.refl wr).drew).drew).alloc _).drew).drew) SK.out lwb lWb (Nat.lt_trans lBW lWb) AW.out AB.out G.out; have HB2 := hidb B2; clear B2)
              obtain ⟨t0, t1, t2⟩ := A2.c3
              obtain ⟨f0, f1, f2⟩ := A2.f3
              have TH := A2.has (n := 3) rfl
              have HOW2 := hidb hown2
              have HA2 := hidb A2
              have HD2 := hidb D2
              have HG2 := hidb G2
              have HS2 := hidb S2
              replace G := hidb G2
              clear hgrow2 hown2 A2 D2 G2 S2
              refine hK.out _ _ ?_ (fun hHeld => ?_)
              · (try dsimp only); (with_reducible first | exact FS.out _ (G.out) | exact FS.out _ ((G.out).drew) | exact FS.out _ (((G.out).drew).drew) | exact FS.out _ ((((G.out).drew).drew).drew) | exact FS.out _ ((G.out).alloc _) | exact FS.out _ (((G.out).alloc _).drew) | exact FS.out _ ((((G.out).alloc _).drew).drew) | exact FS.out _ (((G.out).drew).alloc _) | exact FS.out _ ((((G.out).drew).alloc _).drew) | exact FS.out _ (((((G.out).drew).alloc _).drew).drew) | exact FS.out _ ((((G.out).drew).drew).alloc _) | exact FS.out _ (((((G.out).drew).drew).alloc _).drew) | exact FS.out _ ((((((G.out).drew).drew).alloc _).drew).drew) | exact FS.out _ ((G.out).set lW _ _) | exact FS.out _ (((G.out).drew).set lW _ _) | exact FS.out _ ((((G.out).drew).drew).set lW _ _) | exact FS.out _ (((G.out).set lW _ _).drew) | exact FS.out _ ((((G.out).drew).set lW _ _).drew) | exact FS.out _ (((((G.out).drew).drew).set lW _ _).drew))
              clear hK K
              refine wpAnyH_take (i := 23) (v := ?vg23x100) rfl (by kernel_rfl) (by kernel_rfl) (by kernel_rfl) (fun _ _ _ h => h) (Or.inl ⟨by kernel_rfl, ?hg23x100⟩) (by assumption) ?rg23x100
              case hg23x100 => (intro w hSw; (try dsimp only at hSw); go_simp; try with_reducible rfl)
              (try simp only [Act.put, List.getElem_toArray, List.getElem_cons_zero, List.getElem_cons_succ, List.setIfInBounds_toArray, List.set_cons_zero, List.set_cons_succ])
              refine wpAnyH_take (i := 24) (v := ?vg24x103) rfl (by kernel_rfl) (by kernel_rfl) (by kernel_rfl) (fun _ _ _ h => h) (Or.inl ⟨by kernel_rfl, ?hg24x103⟩) (by assumption) ?rg24x103
              case hg24x103 => (intro w hSw; (try dsimp only at hSw); go_simp; try with_reducible rfl)
              (try simp only [Act.put, List.getElem_toArray, List.getElem_cons_zero, List.getElem_cons_succ, List.setIfInBounds_toArray, List.set_cons_zero, List.set_cons_succ])
              refine wpAnyH_ready (rs := [25]) (by kernel_rfl) (by simp) ?_
              refine AllReadyH.cons rfl (fun K hK => ?_) AllReadyH.nil
              go_simp
              refine hK.out _ _ ?_ (fun hHeld => ?_)
              · (try dsimp only); (with_reducible first | exact FS.out _ (G.out) | exact FS.out _ ((G.out).drew) | exact FS.out _ (((G.out).drew).drew) | exact FS.out _ ((((G.out).drew).drew).drew) | exact FS.out _ ((G.out).alloc _) | exact FS.out _ (((G.out).alloc _).drew) | exact FS.out _ ((((G.out).alloc _).drew).drew) | exact FS.out _ (((G.out).drew).alloc _) | exact FS.out _ ((((G.out).drew).alloc _).drew) | exact FS.out _ (((((G.out).drew).alloc _).drew).drew) | exact FS.out _ ((((G.out).drew).drew).alloc _) | exact FS.out _ (((((G.out).drew).drew).alloc _).drew) | exact FS.out _ ((((((G.out).drew).drew).alloc _).drew).drew) | exact FS.out _ ((G.out).set lW _ _) | exact FS.out _ (((G.out).drew).set lW _ _) | exact FS.out _ ((((G.out).drew).drew).set lW _ _) | exact FS.out _ (((G.out).set lW _ _).drew) | exact FS.out _ ((((G.out).drew).set lW _ _).drew) | exact FS.out _ (((((G.out).drew).drew).set lW _ _).drew))
              clear hK K
              refine wpAnyH_done (by kernel_rfl) ?_ _
              clear p0 p1 p2 q0 q1 q2 c0 c1 ix ix' n1 n2 n3 n4 n5 t0 t1 t2 f0 f1 f2 TH
              go_wp2
              go_roundw
              case rel =>
                refine ⟨k + 1, .slice (some ⟨g2, 0, none⟩) (k + 1) cap2, by omega, by go_num, ?_, ?_, ?_, ?_, ?_, ?_⟩
                · rw [HT.out]; with_reducible first | exact hidb (own_set HOW2.out lWb _ _) | exact hidb ((own_set HOW2.out lWb _ _).drew) | exact hidb (((own_set HOW2.out lWb _ _).drew).drew) | exact hidb ((((own_set HOW2.out lWb _ _).drew).drew).drew)
                · with_reducible first | exact hidb (HA2.out.put2c _) | exact hidb ((HA2.out.put2c _).drew) | exact hidb (((HA2.out.put2c _).drew).drew) | exact hidb ((((HA2.out.put2c _).drew).drew).drew)
                · with_reducible first | exact hidb (HD2.out.skip nDW _ _) | exact hidb ((HD2.out.skip nDW _ _).drew) | exact hidb (((HD2.out.skip nDW _ _).drew).drew) | exact hidb ((((HD2.out.skip nDW _ _).drew).drew).drew)
                · with_reducible first | exact hidb (HG2.out.set lW _ _) | exact hidb ((HG2.out.set lW _ _).drew) | exact hidb (((HG2.out.set lW _ _).drew).drew) | exact hidb ((((HG2.out.set lW _ _).drew).drew).drew)
                · have := HS2.out; show _ ≤ _; simpa using this
                · with_reducible first | exact hidb (HB2.out.skip nBW _ _) | exact hidb ((HB2.out.skip nBW _ _).drew) | exact hidb (((HB2.out.skip nBW _ _).drew).drew) | exact hidb ((((HB2.out.skip nBW _ _).drew).drew).drew)
              case measure => simp [intOf]; omega
            · skip
              go_simp
              go_wp2_with ((go_at_call 15; with_reducible refine (CO.out _).mono ?_; rintro e w9 ⟨rfl, rfl⟩))
              refine hK.out _ _ ?_ (fun hHeld => ?_)
              · (try dsimp only); (with_reducible first | exact FS.out _ (G.out) | exact FS.out _ ((G.out).drew) | exact FS.out _ (((G.out).drew).drew) | exact FS.out _ ((((G.out).drew).drew).drew) | exact FS.out _ ((G.out).alloc _) | exact FS.out _ (((G.out).alloc _).drew) | exact FS.out _ ((((G.out).alloc _).drew).drew) | exact FS.out _ (((G.out).drew).alloc _) | exact FS.out _ ((((G.out).drew).alloc _).drew) | exact FS.out _ (((((G.out).drew).alloc _).drew).drew) | exact FS.out _ ((((G.out).drew).drew).alloc _) | exact FS.out _ (((((G.out).drew).drew).alloc _).drew) | exact FS.out _ ((((((G.out).drew).drew).alloc _).drew).drew) | exact FS.out _ ((G.out).set lW _ _) | exact FS.out _ (((G.out).drew).set lW _ _) | exact FS.out _ ((((G.out).drew).drew).set lW _ _) | exact FS.out _ (((G.out).set lW _ _).drew) | exact FS.out _ ((((G.out).drew).set lW _ _).drew) | exact FS.out _ (((((G.out).drew).drew).set lW _ _).drew))
              clear hK K
              refine wpAnyH_ready (rs := [4, 21]) (by kernel_rfl) (by simp) ?_
              refine AllReadyH.cons rfl (fun K hK => ?_) (AllReadyH.cons rfl (fun K hK => ?_) AllReadyH.nil)
              · skip
                obtain ⟨_, _, tq2⟩ := (AW.out.alloc (.cells #[.int .i64 r] 3)).drew.c3
                go_simp
                clear tq2
                refine hK.out _ _ ?_ (fun hHeld => ?_)
                · (try dsimp only); (with_reducible first | exact FS.out _ (G.out) | exact FS.out _ ((G.out).drew) | exact FS.out _ (((G.out).drew).drew) | exact FS.out _ ((((G.out).drew).drew).drew) | exact FS.out _ ((G.out).alloc _) | exact FS.out _ (((G.out).alloc _).drew) | exact FS.out _ ((((G.out).alloc _).drew).drew) | exact FS.out _ (((G.out).drew).alloc _) | exact FS.out _ ((((G.out).drew).alloc _).drew) | exact FS.out _ (((((G.out).drew).alloc _).drew).drew) | exact FS.out _ ((((G.out).drew).drew).alloc _) | exact FS.out _ (((((G.out).drew).drew).alloc _).drew) | exact FS.out _ ((((((G.out).drew).drew).alloc _).drew).drew) | exact FS.out _ ((G.out).set lW _ _) | exact FS.out _ (((G.out).drew).set lW _ _) | exact FS.out _ ((((G.out).drew).drew).set lW _ _) | exact FS.out _ (((G.out).set lW _ _).drew) | exact FS.out _ ((((G.out).drew).set lW _ _).drew) | exact FS.out _ (((((G.out).drew).drew).set lW _ _).drew))
                clear hK K
                refine wpAnyH_ready (rs := [21]) (by kernel_rfl) (by simp) ?_
                refine AllReadyH.cons rfl (fun K hK => ?_) AllReadyH.nil
                go_simp
                refine hK.out _ _ ?_ (fun hHeld => ?_)
                · (try dsimp only); (with_reducible first | exact FS.out _ (G.out) | exact FS.out _ ((G.out).drew) | exact FS.out _ (((G.out).drew).drew) | exact FS.out _ ((((G.out).drew).drew).drew) | exact FS.out _ ((G.out).alloc _) | exact FS.out _ (((G.out).alloc _).drew) | exact FS.out _ ((((G.out).alloc _).drew).drew) | exact FS.out _ (((G.out).drew).alloc _) | exact FS.out _ ((((G.out).drew).alloc _).drew) | exact FS.out _ (((((G.out).drew).alloc _).drew).drew) | exact FS.out _ ((((G.out).drew).drew).alloc _) | exact FS.out _ (((((G.out).drew).drew).alloc _).drew) | exact FS.out _ ((((((G.out).drew).drew).alloc _).drew).drew) | exact FS.out _ ((G.out).set lW _ _) | exact FS.out _ (((G.out).drew).set lW _ _) | exact FS.out _ ((((G.out).drew).drew).set lW _ _) | exact FS.out _ (((G.out).set lW _ _).drew) | exact FS.out _ ((((G.out).drew).set lW _ _).drew) | exact FS.out _ (((((G.out).drew).drew).set lW _ _).drew))
                clear hK K
                refine wpAnyH_ready (rs := [22]) (by kernel_rfl) (by simp) ?_
                refine AllReadyH.cons rfl (fun K hK => ?_) AllReadyH.nil
                refine step_i1 _ base (.slice ad1 k cap1) ((bothL h l l').take k) r k wr.heap.size _ _ rfl rfl rfl rfl HLn.out (by omega) (by with_reducible first | exact (OW.out).alloc _ | exact ((OW.out).alloc _).drew | exact (((OW.out).alloc _).drew).drew | exact ((OW.out).drew).alloc _ | exact (((OW.out).drew).alloc _).drew | exact ((((OW.out).drew).alloc _).drew).drew | exact (((OW.out).drew).drew).alloc _ | exact ((((OW.out).drew).drew).alloc _).drew | exact (((((OW.out).drew).drew).alloc _).drew).drew) (by with_reducible first | exact At.new1 _ _ _ | exact At.new1d' _ _ _ | exact At.new1dd' _ _ _ | exact (At.new1 _ _ _).drew | exact (At.new1d' _ _ _).drew | exact (At.new1dd' _ _ _).drew | exact ((At.new1 _ _ _).drew).drew | exact ((At.new1d' _ _ _).drew).drew | exact ((At.new1dd' _ _ _).drew).drew) (by have := SK.out; simp; omega) ?_
                intro g2 cap2 w2 hown2 hgrow2
                obtain ⟨A2, D2, G2, S2⟩ := app_facts OW.out hgrow2 (by with_reducible first | exact (Gr.refl wr).alloc _ | exact ((Gr.refl wr).alloc _).drew | exact (((Gr.refl wr).alloc _).drew).drew | exact ((Gr.refl wr).drew).alloc _ | exact (((Gr.refl wr).drew).alloc _).drew | exact ((((Gr.refl wr).drew).alloc _).drew).drew | exact (((Gr.refl wr).drew).drew).alloc _ | exact ((((Gr.refl wr).drew).drew).alloc _).drew | exact (((((Gr.refl wr).drew).drew).alloc _).drew).drew) SK.out lwb lWb (Nat.lt_trans lDW lWb) AW.out HD.out G.out
                (obtain ⟨_, B2, _, _⟩ := app_facts OW.out hgrow2 (by with_reducible first | exact (Gr.refl wr).alloc _ | exact ((Gr.refl wr).alloc _).drew | exact (((Gr.refl wr).alloc _).drew).drew | exact ((Gr.refl wr).drew).alloc _ | exact (((Gr.refl wr).drew).alloc _).drew | exact ((((Gr.refl wr).drew).alloc _).drew).drew | exact (((Gr.refl wr).drew).drew).alloc _ | exact ((((Gr.refl wr).drew).drew).alloc _).drew | exact (((((Gr.refl wr).drew).drew).alloc _).drew).drew) SK.out lwb lWb (Nat.lt_trans lBW lWb) AW.out AB.out G.out; have HB2 := hidb B2; clear B2)
                obtain ⟨t0, t1, t2⟩ := A2.c3
                obtain ⟨f0, f1, f2⟩ := A2.f3
                have TH := A2.has (n := 3) rfl
                have HOW2 := hidb hown2
                have HA2 := hidb A2
                have HD2 := hidb D2
                have HG2 := hidb G2
                have HS2 := hidb S2
                replace G := hidb G2
                clear hgrow2 hown2 A2 D2 G2 S2
                refine hK.out _ _ ?_ (fun hHeld => ?_)
                · (try dsimp only); (with_reducible first | exact FS.out _ (G.out) | exact FS.out _ ((G.out).drew) | exact FS.out _ (((G.out).drew).drew) | exact FS.out _ ((((G.out).drew).drew).drew) | exact FS.out _ ((G.out).alloc _) | exact FS.out _ (((G.out).alloc _).drew) | exact FS.out _ ((((G.out).alloc _).drew).drew) | exact FS.out _ (((G.out).drew).alloc _) | exact FS.out _ ((((G.out).drew).alloc _).drew) | exact FS.out _ (((((G.out).drew).alloc _).drew).drew) | exact FS.out _ ((((G.out).drew).drew).alloc _) | exact FS.out _ (((((G.out).drew).drew).alloc _).drew) | exact FS.out _ ((((((G.out).drew).drew).alloc _).drew).drew) | exact FS.out _ ((G.out).set lW _ _) | exact FS.out _ (((G.out).drew).set lW _ _) | exact FS.out _ ((((G.out).drew).drew).set lW _ _) | exact FS.out _ (((G.out).set lW _ _).drew) | exact FS.out _ ((((G.out).drew).set lW _ _).drew) | exact FS.out _ (((((G.out).drew).drew).set lW _ _).drew))
                clear hK K
                refine wpAnyH_take (i := 23) (v := ?vg23x165) rfl (by kernel_rfl) (by kernel_rfl) (by kernel_rfl) (fun _ _ _ h => h) (Or.inl ⟨by kernel_rfl, ?hg23x165⟩) (by assumption) ?rg23x165
                case hg23x165 => (intro w hSw; (try dsimp only at hSw); go_simp; try with_reducible rfl)
                (try simp only [Act.put, List.getElem_toArray, List.getElem_cons_zero, List.getElem_cons_succ, List.setIfInBounds_toArray, List.set_cons_zero, List.set_cons_succ])
                refine wpAnyH_take (i := 24) (v := ?vg24x168) rfl (by kernel_rfl) (by kernel_rfl) (by kernel_rfl) (fun _ _ _ h => h) (Or.inl ⟨by kernel_rfl, ?hg24x168⟩) (by assumption) ?rg24x168
                case hg24x168 => (intro w hSw; (try dsimp only at hSw); go_simp; try with_reducible rfl)
                (try simp only [Act.put, List.getElem_toArray, List.getElem_cons_zero, List.getElem_cons_succ, List.setIfInBounds_toArray, List.set_cons_zero, List.set_cons_succ])
                refine wpAnyH_ready (rs := [25]) (by kernel_rfl) (by simp) ?_
                refine AllReadyH.cons rfl (fun K hK => ?_) AllReadyH.nil
                go_simp
                refine hK.out _ _ ?_ (fun hHeld => ?_)
                · (try dsimp only); (with_reducible first | exact FS.out _ (G.out) | exact FS.out _ ((G.out).drew) | exact FS.out _ (((G.out).drew).drew) | exact FS.out _ ((((G.out).drew).drew).drew) | exact FS.out _ ((G.out).alloc _) | exact FS.out _ (((G.out).alloc _).drew) | exact FS.out _ ((((G.out).alloc _).drew).drew) | exact FS.out _ (((G.out).drew).alloc _) | exact FS.out _ ((((G.out).drew).alloc _).drew) | exact FS.out _ (((((G.out).drew).alloc _).drew).drew) | exact FS.out _ ((((G.out).drew).drew).alloc _) | exact FS.out _ (((((G.out).drew).drew).alloc _).drew) | exact FS.out _ ((((((G.out).drew).drew).alloc _).drew).drew) | exact FS.out _ ((G.out).set lW _ _) | exact FS.out _ (((G.out).drew).set lW _ _) | exact FS.out _ ((((G.out).drew).drew).set lW _ _) | exact FS.out _ (((G.out).set lW _ _).drew) | exact FS.out _ ((((G.out).drew).set lW _ _).drew) | exact FS.out _ (((((G.out).drew).drew).set lW _ _).drew))
                clear hK K
                refine wpAnyH_done (by kernel_rfl) ?_ _
                clear p0 p1 p2 q0 q1 q2 c0 c1 ix ix' n1 n2 n3 n4 n5 t0 t1 t2 f0 f1 f2 TH
                go_wp2
                go_roundw
                case rel =>
                  refine ⟨k + 1, .slice (some ⟨g2, 0, none⟩) (k + 1) cap2, by omega, by go_num, ?_, ?_, ?_, ?_, ?_, ?_⟩
                  · rw [HT.out]; with_reducible first | exact hidb (own_set HOW2.out lWb _ _) | exact hidb ((own_set HOW2.out lWb _ _).drew) | exact hidb (((own_set HOW2.out lWb _ _).drew).drew) | exact hidb ((((own_set HOW2.out lWb _ _).drew).drew).drew)
                  · with_reducible first | exact hidb (HA2.out.put2c _) | exact hidb ((HA2.out.put2c _).drew) | exact hidb (((HA2.out.put2c _).drew).drew) | exact hidb ((((HA2.out.put2c _).drew).drew).drew)
                  · with_reducible first | exact hidb (HD2.out.skip nDW _ _) | exact hidb ((HD2.out.skip nDW _ _).drew) | exact hidb (((HD2.out.skip nDW _ _).drew).drew) | exact hidb ((((HD2.out.skip nDW _ _).drew).drew).drew)
                  · with_reducible first | exact hidb (HG2.out.set lW _ _) | exact hidb ((HG2.out.set lW _ _).drew) | exact hidb (((HG2.out.set lW _ _).drew).drew) | exact hidb ((((HG2.out.set lW _ _).drew).drew).drew)
                  · have := HS2.out; show _ ≤ _; simpa using this
                  · with_reducible first | exact hidb (HB2.out.skip nBW _ _) | exact hidb ((HB2.out.skip nBW _ _).drew) | exact hidb (((HB2.out.skip nBW _ _).drew).drew) | exact hidb ((((HB2.out.skip nBW _ _).drew).drew).drew)
                case measure => simp [intOf]; omega
              · skip
                go_simp
                refine hK.out _ _ ?_ (fun hHeld => ?_)
                · (try dsimp only); (with_reducible first | exact FS.out _ (G.out) | exact FS.out _ ((G.out).drew) | exact FS.out _ (((G.out).drew).drew) | exact FS.out _ ((((G.out).drew).drew).drew) | exact FS.out _ ((G.out).alloc _) | exact FS.out _ (((G.out).alloc _).drew) | exact FS.out _ ((((G.out).alloc _).drew).drew) | exact FS.out _ (((G.out).drew).alloc _) | exact FS.out _ ((((G.out).drew).alloc _).drew) | exact FS.out _ (((((G.out).drew).alloc _).drew).drew) | exact FS.out _ ((((G.out).drew).drew).alloc _) | exact FS.out _ (((((G.out).drew).drew).alloc _).drew) | exact FS.out _ ((((((G.out).drew).drew).alloc _).drew).drew) | exact FS.out _ ((G.out).set lW _ _) | exact FS.out _ (((G.out).drew).set lW _ _) | exact FS.out _ ((((G.out).drew).drew).set lW _ _) | exact FS.out _ (((G.out).set lW _ _).drew) | exact FS.out _ ((((G.out).drew).set lW _ _).drew) | exact FS.out _ (((((G.out).drew).drew).set lW _ _).drew))
                clear hK K
                refine wpAnyH_ready (rs := [4]) (by kernel_rfl) (by simp) ?_
                refine AllReadyH.cons rfl (fun K hK => ?_) AllReadyH.nil
                obtain ⟨_, _, tq2⟩ := (AW.out.alloc (.cells #[.int .i64 r] 3)).drew.c3
                go_simp
                clear tq2
                refine hK.out _ _ ?_ (fun hHeld => ?_)
                · (try dsimp only); (with_reducible first | exact FS.out _ (G.out) | exact FS.out _ ((G.out).drew) | exact FS.out _ (((G.out).drew).drew) | exact FS.out _ ((((G.out).drew).drew).drew) | exact FS.out _ ((G.out).alloc _) | exact FS.out _ (((G.out).alloc _).drew) | exact FS.out _ ((((G.out).alloc _).drew).drew) | exact FS.out _ (((G.out).drew).alloc _) | exact FS.out _ ((((G.out).drew).alloc _).drew) | exact FS.out _ (((((G.out).drew).alloc _).drew).drew) | exact FS.out _ ((((G.out).drew).drew).alloc _) | exact FS.out _ (((((G.out).drew).drew).alloc _).drew) | exact FS.out _ ((((((G.out).drew).drew).alloc _).drew).drew) | exact FS.out _ ((G.out).set lW _ _) | exact FS.out _ (((G.out).drew).set lW _ _) | exact FS.out _ ((((G.out).drew).drew).set lW _ _) | exact FS.out _ (((G.out).set lW _ _).drew) | exact FS.out _ ((((G.out).drew).set lW _ _).drew) | exact FS.out _ (((((G.out).drew).drew).set lW _ _).drew))
                clear hK K
                refine wpAnyH_ready (rs := [22]) (by kernel_rfl) (by simp) ?_
                refine AllReadyH.cons rfl (fun K hK => ?_) AllReadyH.nil
                refine step_i1 _ base (.slice ad1 k cap1) ((bothL h l l').take k) r k wr.heap.size _ _ rfl rfl rfl rfl HLn.out (by omega) (by with_reducible first | exact (OW.out).alloc _ | exact ((OW.out).alloc _).drew | exact (((OW.out).alloc _).drew).drew | exact ((OW.out).drew).alloc _ | exact (((OW.out).drew).alloc _).drew | exact ((((OW.out).drew).alloc _).drew).drew | exact (((OW.out).drew).drew).alloc _ | exact ((((OW.out).drew).drew).alloc _).drew | exact (((((OW.out).drew).drew).alloc _).drew).drew) (by with_reducible first | exact At.new1 _ _ _ | exact At.new1d' _ _ _ | exact At.new1dd' _ _ _ | exact (At.new1 _ _ _).drew | exact (At.new1d' _ _ _).drew | exact (At.new1dd' _ _ _).drew | exact ((At.new1 _ _ _).drew).drew | exact ((At.new1d' _ _ _).drew).drew | exact ((At.new1dd' _ _ _).drew).drew) (by have := SK.out; simp; omega) ?_
                intro g2 cap2 w2 hown2 hgrow2
                obtain ⟨A2, D2, G2, S2⟩ := app_facts OW.out hgrow2 (by with_reducible first | exact (Gr.refl wr).alloc _ | exact ((Gr.refl wr).alloc _).drew | exact (((Gr.refl wr).alloc _).drew).drew | exact ((Gr.refl wr).drew).alloc _ | exact (((Gr.refl wr).drew).alloc _).drew | exact ((((Gr.refl wr).drew).alloc _).drew).drew | exact (((Gr.refl wr).drew).drew).alloc _ | exact ((((Gr.refl wr).drew).drew).alloc _).drew | exact (((((Gr.refl wr).drew).drew).alloc _).drew).drew) SK.out lwb lWb (Nat.lt_trans lDW lWb) AW.out HD.out G.out
                (obtain ⟨_, B2, _, _⟩ := app_facts OW.out hgrow2 (by with_reducible first | exact (Gr.refl wr).alloc _ | exact ((Gr.refl wr).alloc _).drew | exact (((Gr.refl wr).alloc _).drew).drew | exact ((Gr.refl wr).drew).alloc _ | exact (((Gr.refl wr).drew).alloc _).drew | exact ((((Gr.refl wr).drew).alloc _).drew).drew | exact (((Gr.refl wr).drew).drew).alloc _ | exact ((((Gr.refl wr).drew).drew).alloc _).drew | exact (((((Gr.refl wr).drew).drew).alloc _).drew).drew) SK.out lwb lWb (Nat.lt_trans lBW lWb) AW.out AB.out G.out; have HB2 := hidb B2; clear B2)
                obtain ⟨t0, t1, t2⟩ := A2.c3
                obtain ⟨f0, f1, f2⟩ := A2.f3
                have TH := A2.has (n := 3) rfl
                have HOW2 := hidb hown2
                have HA2 := hidb A2
                have HD2 := hidb D2
                have HG2 := hidb G2
                have HS2 := hidb S2
                replace G := hidb G2
                clear hgrow2 hown2 A2 D2 G2 S2
                refine hK.out _ _ ?_ (fun hHeld => ?_)
                · (try dsimp only); (with_reducible first | exact FS.out _ (G.out) | exact FS.out _ ((G.out).drew) | exact FS.out _ (((G.out).drew).drew) | exact FS.out _ ((((G.out).drew).drew).drew) | exact FS.out _ ((G.out).alloc _) | exact FS.out _ (((G.out).alloc _).drew) | exact FS.out _ ((((G.out).alloc _).drew).drew) | exact FS.out _ (((G.out).drew).alloc _) | exact FS.out _ ((((G.out).drew).alloc _).drew) | exact FS.out _ (((((G.out).drew).alloc _).drew).drew) | exact FS.out _ ((((G.out).drew).drew).alloc _) | exact FS.out _ (((((G.out).drew).drew).alloc _).drew) | exact FS.out _ ((((((G.out).drew).drew).alloc _).drew).drew) | exact FS.out _ ((G.out).set lW _ _) | exact FS.out _ (((G.out).drew).set lW _ _) | exact FS.out _ ((((G.out).drew).drew).set lW _ _) | exact FS.out _ (((G.out).set lW _ _).drew) | exact FS.out _ ((((G.out).drew).set lW _ _).drew) | exact FS.out _ (((((G.out).drew).drew).set lW _ _).drew))
                clear hK K
                refine wpAnyH_take (i := 23) (v := ?vg23x222) rfl (by kernel_rfl) (by kernel_rfl) (by kernel_rfl) (fun _ _ _ h => h) (Or.inl ⟨by kernel_rfl, ?hg23x222⟩) (by assumption) ?rg23x222
                case hg23x222 => (intro w hSw; (try dsimp only at hSw); go_simp; try with_reducible rfl)
                (try simp only [Act.put, List.getElem_toArray, List.getElem_cons_zero, List.getElem_cons_succ, List.setIfInBounds_toArray, List.set_cons_zero, List.set_cons_succ])
                refine wpAnyH_take (i := 24) (v := ?vg24x225) rfl (by kernel_rfl) (by kernel_rfl) (by kernel_rfl) (fun _ _ _ h => h) (Or.inl ⟨by kernel_rfl, ?hg24x225⟩) (by assumption) ?rg24x225
                case hg24x225 => (intro w hSw; (try dsimp only at hSw); go_simp; try with_reducible rfl)
                (try simp only [Act.put, List.getElem_toArray, List.getElem_cons_zero, List.getElem_cons_succ, List.setIfInBounds_toArray, List.set_cons_zero, List.set_cons_succ])
                refine wpAnyH_ready (rs := [25]) (by kernel_rfl) (by simp) ?_
                refine AllReadyH.cons rfl (fun K hK => ?_) AllReadyH.nil
                go_simp
                refine hK.out _ _ ?_ (fun hHeld => ?_)
                · (try dsimp only); (with_reducible first | exact FS.out _ (G.out) | exact FS.out _ ((G.out).drew) | exact FS.out _ (((G.out).drew).drew) | exact FS.out _ ((((G.out).drew).drew).drew) | exact FS.out _ ((G.out).alloc _) | exact FS.out _ (((G.out).alloc _).drew) | exact FS.out _ ((((G.out).alloc _).drew).drew) | exact FS.out _ (((G.out).drew).alloc _) | exact FS.out _ ((((G.out).drew).alloc _).drew) | exact FS.out _ (((((G.out).drew).alloc _).drew).drew) | exact FS.out _ ((((G.out).drew).drew).alloc _) | exact FS.out _ (((((G.out).drew).drew).alloc _).drew) | exact FS.out _ ((((((G.out).drew).drew).alloc _).drew).drew) | exact FS.out _ ((G.out).set lW _ _) | exact FS.out _ (((G.out).drew).set lW _ _) | exact FS.out _ ((((G.out).drew).drew).set lW _ _) | exact FS.out _ (((G.out).set lW _ _).drew) | exact FS.out _ ((((G.out).drew).set lW _ _).drew) | exact FS.out _ (((((G.out).drew).drew).set lW _ _).drew))
                clear hK K
                refine wpAnyH_done (by kernel_rfl) ?_ _
                clear p0 p1 p2 q0 q1 q2 c0 c1 ix ix' n1 n2 n3 n4 n5 t0 t1 t2 f0 f1 f2 TH
                go_wp2
                go_roundw
                case rel =>
                  refine ⟨k + 1, .slice (some ⟨g2, 0, none⟩) (k + 1) cap2, by omega, by go_num, ?_, ?_, ?_, ?_, ?_, ?_⟩
                  · rw [HT.out]; with_reducible first | exact hidb (own_set HOW2.out lWb _ _) | exact hidb ((own_set HOW2.out lWb _ _).drew) | exact hidb (((own_set HOW2.out lWb _ _).drew).drew) | exact hidb ((((own_set HOW2.out lWb _ _).drew).drew).drew)
                  · with_reducible first | exact hidb (HA2.out.put2c _) | exact hidb ((HA2.out.put2c _).drew) | exact hidb (((HA2.out.put2c _).drew).drew) | exact hidb ((((HA2.out.put2c _).drew).drew).drew)
                  · with_reducible first | exact hidb (HD2.out.skip nDW _ _) | exact hidb ((HD2.out.skip nDW _ _).drew) | exact hidb (((HD2.out.skip nDW _ _).drew).drew) | exact hidb ((((HD2.out.skip nDW _ _).drew).drew).drew)
                  · with_reducible first | exact hidb (HG2.out.set lW _ _) | exact hidb ((HG2.out.set lW _ _).drew) | exact hidb (((HG2.out.set lW _ _).drew).drew) | exact hidb ((((HG2.out.set lW _ _).drew).drew).drew)
                  · have := HS2.out; show _ ≤ _; simpa using this
                  · with_reducible first | exact hidb (HB2.out.skip nBW _ _) | exact hidb ((HB2.out.skip nBW _ _).drew) | exact hidb (((HB2.out.skip nBW _ _).drew).drew) | exact hidb ((((HB2.out.skip nBW _ _).drew).drew).drew)
                case measure => simp [intOf]; omega
          · have hkn : k = l.length := by omega
            have hLB : (bothL h l l').length = l.length := bothL_len HLe.out
            have OE := OW.out
            rw [hkn, List.take_of_length_le (by omega)] at OE
            subst hkn
            obtain ⟨ad2, b2, cap2, hv2, IS⟩ := own_isl OE
            simp only [Value.slice.injEq] at hv2
            obtain ⟨rfl, hk3, rfl⟩ := hv2
            have CZ := hidb (rasterError_any Wt 0 W H ad1 b2 0 cap1 (bothL h l l') wr (by rw [hLB]; exact AW.out.ptr) IS (by omega))
            have LB := hidb hLB
            clear OE hLB hk3 OW SK
            rw [hv] at CZ
            go_wp2_with fail
            refine CZ.out.mono ?_
            rintro e w9 ⟨rfl, hB⟩
            replace G := hidb (Gr.step G.out hB.out)
            replace HD := hidb (At.below hB.out HD.out)
            replace AB := hidb (At.below hB.out AB.out)
            replace AW := hidb (At.below hB.out AW.out)
            have I2 := hidb (IS.below hB.out)
            clear hB IS
            have FS : Hid (∀ W1, Gr w9 W1 → (W1.cell? ⟨D, 0, none⟩ = some (.int .i64 W) ∧ W1.cell? ⟨D, 1, none⟩ = some (.int .i64 H) ∧ W1.cell? ⟨D, 2, none⟩ = some (.slice (some ⟨B, 0, none⟩) l.length l.length)) ∧ (W1.cell? ⟨Wt, 0, none⟩ = some (.int .i64 W) ∧ W1.cell? ⟨Wt, 1, none⟩ = some (.int .i64 H) ∧ W1.cell? ⟨Wt, 2, none⟩ = some (.slice ad1 l.length cap1))) := fun W1 hG => ⟨(At.below hG.out HD.out).c3, (At.below hG.out AW.out).c3⟩
            have CI := hidb (fun W1 (hG : Gr w9 W1) => is_any W H (ad := some ⟨B, 0, none⟩) (ad' := ad1) (b := B) (b' := b2) (o := 0) (o' := 0) (cap := l.length) (cap' := cap1) (l := bothL h l l') (by rw [LB.out]; omega) W1 ((At.below hG.out AB.out).isl _) (I2.out.below hG.out))
            rw [LB.out] at CI
            have E := Gr.refl w9
            clear LB
            go_upto_region 21 with fail
            go_region_held3 (fun w' => (w'.cell? ⟨D, 0, none⟩ = some (.int .i64 W) ∧ w'.cell? ⟨D, 1, none⟩ = some (.int .i64 H) ∧ w'.cell? ⟨D, 2, none⟩ = some (.slice (some ⟨B, 0, none⟩) l.length l.length)) ∧ (w'.cell? ⟨Wt, 0, none⟩ = some (.int .i64 W) ∧ w'.cell? ⟨Wt, 1, none⟩ = some (.int .i64 H) ∧ w'.cell? ⟨Wt, 2, none⟩ = some (.slice ad1 l.length cap1)))
              (with_reducible first | exact FS.out _ E | exact FS.out _ E.drew)
              ((go_at_call 16; with_reducible refine (CI.out _ (by with_reducible first | exact E | exact E.drew)).mono ?_; rintro e w10 ⟨rfl, hB10⟩; (with_reducible first | replace E := Gr.step E hB10.out | replace E := Gr.step E.drew hB10.out); clear hB10))
            all_goals
              go_wp2
              go_ret
              exact ⟨rfl, by first | exact Gr.step G.out E.out | exact (Gr.step G.out E.out).drew⟩
end Go.Proofs.YtbhgibmobgojkaaDoor
