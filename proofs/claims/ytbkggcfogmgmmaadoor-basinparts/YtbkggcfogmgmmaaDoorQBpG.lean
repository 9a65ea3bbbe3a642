/-
  BasinParts, where the raster is right.
-/
import Derived.Test.YtbkggcfogmgmmaaDoorQBpF
import Derived.Test.YtbkggcfogmgmmaaDoorQDrX
namespace Go.Proofs.YtbkggcfogmgmmaaDoor
open Go.RowKit
attribute [local go_sem ↓] Go.wp_at_zero Go.wp_at_succ

set_option maxRecDepth 4000 in
set_option maxHeartbeats 16000000 in
theorem parts_B (g : Nat → Addr) {m n pb po b o cap : Nat} {l : List Int} (w : World) (hl : Laid w g) (ra : Rin w pb po m n (some ⟨b, o, none⟩) b o cap l) (hr : Rs w b o cap l) (ok : Ok l m n) (ll : l.length ≤ 80) (hv : vcode m n l = 0) : Calls Tryd.prog 7 #[.pointer (some ⟨pb, po, none⟩)] w fun e w' => e = .returned (.bool true) ∧ Gr w w' := by
  have CR := hidb (based_any g w hl.lai)
  have S1 := hidb (fun W1 (hG : Gr w W1) => small4_any pb po m n (some ⟨b, o, none⟩) l.length cap W1 (ra.below hG).pt)
  rw [decide_eq_true ll] at S1
  have C1 := hidb (fun W1 (hG : Gr w W1) => basins_ok g W1 (hr.below hG.out) ok hv (hl.below hG.out).lai)
  have C2 := hidb (fun W1 (hG : Gr w W1) => divides_ok g W1 (hr.below hG.out) ok hv (hl.below hG.out).lai)
  have CW := hidb (fun W1 (hG : Gr w W1) => rasterError_any pb po m n (some ⟨b, o, none⟩) b o cap l W1 (ra.below hG).pt (ra.below hG).sl (by omega))
  rw [hv] at CW
  have CF := hidb (fun W1 (hG : Gr w W1) => floodOf_any W1 (ra.below hG).pt (hr.below hG.out) ok)
  have HR := hidb ra
  have HL := hidb (show l.length ≤ 80 from ll)
  have HOk := hidb ok
  have HHl := hidb (hmL_len m n l)
  have HGl : Hid (∀ i, i < l.length → gl (hmL m n l) i = (hom m n l i : Int)) := fun i hi => by unfold hmL; exact gl_map hi
  have HMl : Hid ((dvL m n l).length ≤ 160) := by
    show _ ≤ _
    have h1 := prK_len m n [0, 6] l.length
    have h2 := List.length_filter_le (apt m n l) (prK m n [0, 6] l.length)
    unfold dvL
    simp at h1
    omega
  obtain ⟨N, hN⟩ : ∃ N, N = l.length := ⟨_, rfl⟩
  have HN := hidb hN
  have HR' := HR.out.pt
  rw [← hN] at C1 C2 CF HHl HL HGl
  clear hl ra hr ok ll hv hN HR'
  go_enter Tryd.func7, Tryd.ntmps7
  go_wp2_with fail
  refine CR.out.mono ?_
  rintro e w1 ⟨rfl, hB⟩
  have G := hidb hB
  clear hB
  go_wp2_with fail
  refine (S1.out _ G.out).mono ?_
  rintro e w2 ⟨rfl, rfl⟩
  obtain ⟨p0, p1, p2⟩ := (HR.out.below G.out).pt.all
  rw [← HN.out] at p2
  go_wp2_with fail
  refine (C1.out _ G.out).mono ?_
  rintro e w3 ⟨BA0, rfl, hLV, -, hB3⟩
  have ABA := hidb hLV
  replace G := hidb (Gr.step G.out hB3.out)
  clear hB3 p0 p1 p2 hLV
  obtain ⟨p0, p1, p2⟩ := (HR.out.below G.out).pt.all
  rw [← HN.out] at p2
  go_wp2_with fail
  refine (C2.out _ G.out).mono ?_
  rintro e w5 ⟨v, rfl, bs, hown, -, hB5⟩
  obtain ⟨ad1, b1, cap1, rfl, hPS⟩ := own_psl hown rfl
  replace G := hidb (Gr.step G.out hB5.out)
  replace ABA := hidb (At.below hB5.out ABA.out)
  have APS := hidb hPS
  clear hB5 p0 p1 p2 hown hPS
  go_wp2_with fail
  refine (CW.out _ G.out).mono ?_
  rintro e w7 ⟨rfl, hB7⟩
  replace G := hidb (Gr.step G.out hB7.out)
  replace ABA := hidb (At.below hB7.out ABA.out)
  replace APS := hidb (APS.out.below hB7.out)
  clear hB7
  go_wp2_with fail
  refine (CF.out _ G.out).mono ?_
  rintro e w8 ⟨FI, TO, bs2, vo2, Lf, Lt, Ls, rfl, hFI, hTO, hvo2, -, hRs, hB8⟩
  replace G := hidb (Gr.step G.out hB8.out)
  replace ABA := hidb (At.below hB8.out ABA.out)
  replace APS := hidb (APS.out.below hB8.out)
  have HTw : Hid (TwL m n l Lt) := by
    rw [HN.out] at hRs
    exact TwL.of HOk.out hRs
  have HHm := hidb (homes_any HOk.out (.slice (some ⟨FI, 0, none⟩) N N) vo2 w8 (HR.out.below G.out).pt hTO HTw.out)
  rw [← HN.out] at HHm
  clear hB8 hFI hTO hvo2 hRs HTw
  go_wp2_with fail
  refine HHm.out.mono ?_
  rintro e w9 ⟨v, rfl, bs3, hown, -, hB9⟩
  obtain ⟨ad2, b2, cap2, rfl, hI2⟩ := own_isl2 hown
  rw [HHl.out]
  replace G := hidb (Gr.step G.out hB9.out)
  replace ABA := hidb (At.below hB9.out ABA.out)
  replace APS := hidb (APS.out.below hB9.out)
  have IH := hidb hI2
  clear hB9 hown hI2 HHm
  have HSa := hidb (sameInts_eq (l := hmL m n l) (by rw [HHl.out]; have := HL.out; omega) w9 (at_isl N ABA.out) IH.out)
  rw [HHl.out] at HSa
  go_wp2_with fail
  refine HSa.out.mono ?_
  rintro e w10 ⟨rfl, hB10⟩
  replace G := hidb (Gr.step G.out hB10.out)
  replace ABA := hidb (At.below hB10.out ABA.out)
  replace APS := hidb (APS.out.below hB10.out)
  replace IH := hidb (IH.out.below hB10.out)
  clear hB10 HSa ABA
  obtain ⟨M, hM⟩ : ∃ M, M = (dvL m n l).length := ⟨_, rfl⟩
  have HM := hidb hM
  have HPix := hidb APS.out.ix
  rw [← hM] at HPix HMl ⊢
  clear hM
  go_wp2
  go_loopw [12, 13] (fun s t wr => ∃ (k i : Nat), i ≤ N ∧ s = .int .i64 (k : Int) ∧ t = .int .i64 (i : Int) ∧ Hid (k = (dvQ m n l i 0).length ∧ Gr w10 wr)) (fun _ t _ => N - (intOf t).toNat)
  case atStart => exact ⟨0, 0, Nat.zero_le _, rfl, rfl, hidb ⟨by rw [dvQ_0]; rfl, Gr.refl w10⟩⟩
  case round =>
    obtain ⟨k, i, hi, rfl, rfl, E⟩ := hrel
    by_cases h1 : ¬ i < N
    · have h1' : ¬ (i : Int) < (N : Int) := by omega
      have HE : Hid (k = M) := by
        show _ = _
        obtain rfl : i = N := by omega
        have := E.out.1
        rw [HN.out, dvQ_end, ← HM.out] at this
        exact this
      obtain rfl := HE.out
      clear h1
      go_wp2
      go_ret
      exact ⟨rfl, Gr.step G.out E.out.2.out⟩
    · have h1' : (i : Int) < (N : Int) := by omega
      have hiN : i < N := by omega
      have HiN := hidb hiN
      have hil : i < l.length := by rw [← HN.out]; exact hiN
      obtain ⟨x1, hx1⟩ : ∃ z : Int, z = ((i + 1 : Nat) : Int) := ⟨_, rfl⟩
      obtain ⟨x2, hx2⟩ : ∃ z : Int, z = ((i + m : Nat) : Int) := ⟨_, rfl⟩
      have e1 : IntKind.i64.wrap ((i : Int) + 1) = ((i + 1 : Nat) : Int) := by rw [show (i : Int) + 1 = ((i + 1 : Nat) : Int) by omega]; exact wrap_in (by have := HL.out; omega) (by have := HL.out; omega)
      have e2 : IntKind.i64.wrap ((i : Int) + (m : Int)) = ((i + m : Nat) : Int) := by rw [← Int.natCast_add]; exact wrap_in (by have := HL.out; have := HOk.out.m2; omega) (by have := HL.out; have := HOk.out.m2; omega)
      obtain ⟨p0, p1, p2⟩ := (HR.out.below (Gr.step G.out E.out.2.out)).pt.all
      have HEa := hidb (dvQ_east HOk.out hil)
      have HSo := hidb (dvQ_south HOk.out hil)
      have HPr := hidb (fun j (hj : j ≤ 2) => dvQ_pre (m := m) (n := n) hil hj)
      rw [← hx1] at e1
      rw [← hx2] at e2
      have HX := hidb (show x1 = ((i + 1 : Nat) : Int) ∧ x2 = ((i + m : Nat) : Int) from ⟨hx1, hx2⟩)
      have AR := hidb (At.new2 wr (.int .i64 x1) (.int .i64 x2) 3)
      have GR := hidb ((Gr.refl wr).alloc (.cells #[.int .i64 x1, .int .i64 x2] 3))
      have HW12 := hidb (Gr.step (Gr.step G.out E.out.2.out) GR.out)
      have IH12 := hidb ((IH.out.below E.out.2.out).below GR.out)
      have AP12 := hidb ((APS.out.below E.out.2.out).below GR.out)
      have HG12 := hidb (Gr.step E.out.2 GR.out)
      obtain ⟨-, hrm, -, hrw⟩ := nat_q (x := x1) (d := (m : Int)) hx1 rfl (by have := HL.out; omega)
      obtain ⟨rr, hrr⟩ : ∃ z : Int, z = (((i + 1) % m : Nat) : Int) := ⟨_, rfl⟩
      rw [← hrr] at hrm hrw
      have HRr := hidb hrr
      have em0 : ¬ (m : Int) = 0 := by have := HOk.out.m1; omega
      have em1 : ¬ m = 0 := by have := HOk.out.m1; omega
      have HE1 := hidb e1
      have HK := hidb E.out.1
      clear h1 hil hiN E hx1 hx2 hrr
      go_wp2
      obtain ⟨R, hRd⟩ : ∃ R, R = wr.heap.size := ⟨_, rfl⟩
      rw [← hRd] at AR ⊢
      clear hRd GR
      generalize wr.alloc (.cells #[.int .i64 x1, .int .i64 x2] 3) = w12 at *
      clear p0 p1 p2 e1 e2
      go_loopw [12, 15] (fun s t wr2 => ∃ (k j : Nat), j ≤ 2 ∧ s = .int .i64 (k : Int) ∧ t = .int .i64 (j : Int) ∧ Hid (k = (dvQ m n l i j).length ∧ Gr w12 wr2)) (fun _ t _ => 2 - (intOf t).toNat)
      case atStart => exact ⟨k, 0, Nat.zero_le _, rfl, rfl, hidb ⟨HK.out, Gr.refl w12⟩⟩
      case round =>
        clear HK
        obtain ⟨k2, j, hj, rfl, rfl, E⟩ := hrel
        by_cases h2 : ¬ j < 2
        · have h2' : ¬ (j : Int) < 2 := by omega
          have HE : Hid (k2 = (dvQ m n l (i + 1) 0).length) := by
            show _ = _
            obtain rfl : j = 2 := by omega
            rw [← dvQ_2]
            exact E.out.1
          have e1 := HE1.out
          clear h2
          go_wp2
          go_roundw
          case rel => exact ⟨k2, i + 1, HiN.out, rfl, by rw [HX.out.1], hidb ⟨HE.out, Gr.step HG12.out E.out.2.out⟩⟩
          case measure => have := HiN.out; have := HX.out.1; simp [intOf]; omega
        · rw [Nat.not_lt, Nat.not_le] at h2
          have IHw := hidb (IH12.out.below E.out.2.out)
          have APw := hidb (AP12.out.below E.out.2.out)
          obtain ⟨p0, p1, p2⟩ := (HR.out.below (Gr.step HW12.out E.out.2.out)).pt.all
          rw [← HN.out] at p2
          obtain ⟨r0, r1⟩ := (At.below E.out.2.out AR.out).c2
          have iR0 := iindex R 0 2 2 0 (by decide)
          have iR1 := iindex R 0 2 2 1 (by decide)
          rw [Nat.zero_add] at iR0 iR1
          have ixh := IHw.out.ix i (by rw [HHl.out]; exact HiN.out)
          have ch := IHw.out.gcell (k := i) (by rw [HHl.out]; exact HiN.out)
          rw [HHl.out, Nat.zero_add] at ixh
          rw [Nat.zero_add, HGl.out i HiN.out] at ch
          obtain ⟨yI, hyI⟩ : ∃ z : Int, z = (hom m n l i : Int) := ⟨_, rfl⟩
          rw [← hyI] at ch
          have hE1 := E.out.1
          have hE2 := E.out.2
          have e1 := HE1.out
          rcases (show j = 0 ∨ j = 1 by omega) with rfl | rfl
          · by_cases hc : rr = 0
            · have HS : Hid (k2 = (dvQ m n l i 1).length) := by
                show _ = _
                rw [HEa.out.1 (.inl (by have := HRr.out; omega))]
                exact hE1
              subst hc
              clear h2 hE1 hj
              go_upto_region 22 with fail
              go_quiet (fail)
              go_wp2
              go_roundw
              case rel => exact ⟨k2, 1, by omega, rfl, by first | rfl | go_num, hidb ⟨HS.out, hE2.drewN _⟩⟩
              case measure => simp [intOf]
            · have hnlt : i + 1 < N := by rw [HN.out]; exact HEa.out.2.2 (by have := HRr.out; omega)
              have hx' : ¬ (N : Int) ≤ x1 := by have := HX.out.1; omega
              have ixn := IHw.out.ix (i + 1) (by rw [HHl.out]; exact hnlt)
              have cn := IHw.out.gcell (k := i + 1) (by rw [HHl.out]; exact hnlt)
              rw [HHl.out, Nat.zero_add, ← HX.out.1] at ixn
              rw [Nat.zero_add, HGl.out (i + 1) hnlt] at cn
              obtain ⟨zI, hzI⟩ : ∃ z : Int, z = (hom m n l (i + 1) : Int) := ⟨_, rfl⟩
              rw [← hzI] at cn
              by_cases hd : yI = zI
              · have HS : Hid (k2 = (dvQ m n l i 1).length) := by
                  show _ = _
                  rw [HEa.out.1 (.inr (by omega))]
                  exact hE1
                rw [← hd] at cn
                clear hd hzI hyI
                clear h2 hE1 hj
                go_upto_region 22 with fail
                go_quiet (fail)
                go_wp2
                go_roundw
                case rel => exact ⟨k2, 1, by omega, rfl, by first | rfl | go_num, hidb ⟨HS.out, hE2.drewN _⟩⟩
                case measure => simp [intOf]
              · have HS := hidb (HEa.out.2.1 (by have := HRr.out; omega) (by omega))
                have hpre := HPr.out 1 (by decide)
                rw [HS.out] at hpre
                obtain ⟨hlt, hwx⟩ := pre_at hpre
                rw [← hE1] at hlt hwx
                have hkM : k2 < M := by rw [HM.out]; exact hlt
                have ixk := HPix.out k2 hkM
                obtain ⟨⟨d0, d1⟩, dl⟩ := APw.out.row k2 hlt
                rw [hwx] at d0 d1
                have hd' : ¬ yI = zI := hd
                have hb : (rr == 0 || yI == zI) = false := by simp [hc, hd]
                have d1' : wr.cell? ⟨b1, k2 * 2 + 1, none⟩ = some (.int .i64 x1) := by rw [d1, HX.out.1]
                have hkM' : ¬ (M : Int) ≤ (k2 : Int) := by omega
                have HS2 : Hid (k2 + 1 = (dvQ m n l i 1).length) := by show _ = _; rw [HS.out, hE1]; simp
                have e3 : IntKind.i64.wrap ((k2 : Int) + 1) = ((k2 + 1 : Nat) : Int) := by rw [show (k2 : Int) + 1 = ((k2 + 1 : Nat) : Int) by omega]; exact wrap_in (by have := HMl.out; omega) (by have := HMl.out; omega)
                have HDc := hidb (show wr.cell? ⟨b1, k2 * 2, none⟩ = some (.int .i64 (i : Int)) ∧ wr.cell? ⟨b1, k2 * 2 + 1, none⟩ = some (.int .i64 x1) ∧ wr.cell? ⟨R, 0, none⟩ = some (.int .i64 x1) ∧ wr.cell? ⟨R, 1, none⟩ = some (.int .i64 x2) from ⟨d0, d1', r0, r1⟩)
                clear hd h2 hE1 hj hpre HS hlt hwx d0 d1 d1' dl hkM hzI hyI
                go_upto_region 22 with fail
                go_quiet (fail)
                go_upto_region 23 with fail
                generalize hwv : World.drewN wr _ = wv
                have G3 : Hid (Gr w12 wv) := by rw [← hwv]; exact hE2.drewN _
                have hDc : wv.cell? ⟨b1, k2 * 2, none⟩ = some (.int .i64 (i : Int)) ∧ wv.cell? ⟨b1, k2 * 2 + 1, none⟩ = some (.int .i64 x1) ∧ wv.cell? ⟨R, 0, none⟩ = some (.int .i64 x1) ∧ wv.cell? ⟨R, 1, none⟩ = some (.int .i64 x2) := by rw [← hwv]; exact HDc.out
                obtain ⟨d0, d1, r0, r1⟩ := hDc
                clear hwv p0 p1 p2 ch cn HDc
                go_quiet (fail)
                go_wp2
                go_roundw
                case rel => exact ⟨k2 + 1, 1, by omega, by first | rfl | go_num, by first | rfl | go_num, hidb ⟨HS2.out, G3.out.drewN _⟩⟩
                case measure => simp [intOf]
          · by_cases hc : N ≤ i + m
            · have HS : Hid (k2 = (dvQ m n l i 2).length) := by
                show _ = _
                rw [HSo.out.1 (.inl (by rw [← HN.out]; exact hc))]
                exact hE1
              have hx' : (N : Int) ≤ x2 := by have := HX.out.2; omega
              clear h2 hE1 hj
              go_upto_region 22 with fail
              go_quiet (fail)
              go_wp2
              go_roundw
              case rel => exact ⟨k2, 2, by omega, rfl, by first | rfl | go_num, hidb ⟨HS.out, hE2.drewN _⟩⟩
              case measure => simp [intOf]
            · have hnlt : i + m < N := by omega
              have hx' : ¬ (N : Int) ≤ x2 := by have := HX.out.2; omega
              have ixn := IHw.out.ix (i + m) (by rw [HHl.out]; exact hnlt)
              have cn := IHw.out.gcell (k := i + m) (by rw [HHl.out]; exact hnlt)
              rw [HHl.out, Nat.zero_add, ← HX.out.2] at ixn
              rw [Nat.zero_add, HGl.out (i + m) hnlt] at cn
              obtain ⟨zI, hzI⟩ : ∃ z : Int, z = (hom m n l (i + m) : Int) := ⟨_, rfl⟩
              rw [← hzI] at cn
              by_cases hd : yI = zI
              · have HS : Hid (k2 = (dvQ m n l i 2).length) := by
                  show _ = _
                  rw [HSo.out.1 (.inr (by omega))]
                  exact hE1
                rw [← hd] at cn
                clear hd hzI hyI
                clear h2 hE1 hj
                go_upto_region 22 with fail
                go_quiet (fail)
                go_wp2
                go_roundw
                case rel => exact ⟨k2, 2, by omega, rfl, by first | rfl | go_num, hidb ⟨HS.out, hE2.drewN _⟩⟩
                case measure => simp [intOf]
              · have HS := hidb (HSo.out.2 (by rw [← HN.out]; exact hc) (by omega))
                have hpre := HPr.out 2 (by decide)
                rw [HS.out] at hpre
                obtain ⟨hlt, hwx⟩ := pre_at hpre
                rw [← hE1] at hlt hwx
                have hkM : k2 < M := by rw [HM.out]; exact hlt
                have ixk := HPix.out k2 hkM
                obtain ⟨⟨d0, d1⟩, dl⟩ := APw.out.row k2 hlt
                rw [hwx] at d0 d1
                have hd' : ¬ yI = zI := hd
                have d1' : wr.cell? ⟨b1, k2 * 2 + 1, none⟩ = some (.int .i64 x2) := by rw [d1, HX.out.2]
                have hkM' : ¬ (M : Int) ≤ (k2 : Int) := by omega
                have HS2 : Hid (k2 + 1 = (dvQ m n l i 2).length) := by show _ = _; rw [HS.out, hE1]; simp
                have e3 : IntKind.i64.wrap ((k2 : Int) + 1) = ((k2 + 1 : Nat) : Int) := by rw [show (k2 : Int) + 1 = ((k2 + 1 : Nat) : Int) by omega]; exact wrap_in (by have := HMl.out; omega) (by have := HMl.out; omega)
                have HDc := hidb (show wr.cell? ⟨b1, k2 * 2, none⟩ = some (.int .i64 (i : Int)) ∧ wr.cell? ⟨b1, k2 * 2 + 1, none⟩ = some (.int .i64 x2) ∧ wr.cell? ⟨R, 0, none⟩ = some (.int .i64 x1) ∧ wr.cell? ⟨R, 1, none⟩ = some (.int .i64 x2) from ⟨d0, d1', r0, r1⟩)
                clear hd h2 hE1 hj hpre HS hlt hwx d0 d1 d1' dl hkM hzI hyI
                go_upto_region 22 with fail
                go_quiet (fail)
                go_upto_region 23 with fail
                generalize hwv : World.drewN wr _ = wv
                have G3 : Hid (Gr w12 wv) := by rw [← hwv]; exact hE2.drewN _
                have hDc : wv.cell? ⟨b1, k2 * 2, none⟩ = some (.int .i64 (i : Int)) ∧ wv.cell? ⟨b1, k2 * 2 + 1, none⟩ = some (.int .i64 x2) ∧ wv.cell? ⟨R, 0, none⟩ = some (.int .i64 x1) ∧ wv.cell? ⟨R, 1, none⟩ = some (.int .i64 x2) := by rw [← hwv]; exact HDc.out
                obtain ⟨d0, d1, r0, r1⟩ := hDc
                clear hwv p0 p1 p2 ch cn HDc
                go_quiet (fail)
                go_wp2
                go_roundw
                case rel => exact ⟨k2 + 1, 2, by omega, by first | rfl | go_num, by first | rfl | go_num, hidb ⟨HS2.out, G3.out.drewN _⟩⟩
                case measure => simp [intOf]
end Go.Proofs.YtbkggcfogmgmmaaDoor
