/-
  DrainGathers, where the raster is right; the rain is right, the cell is in it.; DrainGathers, where the raster is right; the rain is right, the cell is outside it.
-/
import Derived.Test.YtbkggcfogmgmmaaDoorQJ6
import Derived.Test.YtbkggcfogmgmmaaDoorQDrX
import Derived.Test.YtbkggcfogmgmmaaDoorQJ9
namespace Go.Proofs.YtbkggcfogmgmmaaDoor
open Go.RowKit
attribute [local go_sem ↓] Go.wp_at_zero Go.wp_at_succ

set_option maxRecDepth 4000 in
set_option maxHeartbeats 2000000 in
theorem gathers_B1 (g : Nat → Addr) {m n pb po b o cap : Nat} {l : List Int} {rb ro rcap : Nat} {r : List Int} (c : Nat) (hc : c < l.length) (w : World) (hl : Laid w g) (ra2 : Rin w pb po m n (some ⟨b, o, none⟩) b o cap l) (hr : Rs w b o cap l) (ok : Ok l m n) (ll : l.length ≤ 80) (hv : vcode m n l = 0) (hr2 : Rs w rb ro rcap r) (hrl : r.length = l.length) (hrr : rainsB r = true) : Calls Tryd.prog 4 #[.pointer (some ⟨pb, po, none⟩), .slice (some ⟨rb, ro, none⟩) r.length rcap, .int .i64 (c : Int)] w fun e w' => e = .returned (.bool true) ∧ Gr w w' := by
  have CR := hidb (drains_any g w hl.lai)
  have S1 := hidb (fun W1 (hG : Gr w W1) => small4_any pb po m n (some ⟨b, o, none⟩) l.length cap W1 (ra2.below hG).pt)
  rw [decide_eq_true ll] at S1
  have C1 := hidb (fun W1 (hG : Gr w W1) => gather_ok g W1 (hr.below hG.out) ok hv (hl.below hG.out).lai (hr2.below hG.out) hrl hrr)
  have C2 := hidb (fun W1 (hG : Gr w W1) => way_ok g c hc W1 (hr.below hG.out) ok hv (hl.below hG.out).lai)
  have CW := hidb (fun W1 (hG : Gr w W1) => rasterError_any pb po m n (some ⟨b, o, none⟩) b o cap l W1 (ra2.below hG).pt (ra2.below hG).sl (by omega))
  rw [hv] at CW
  have CF := hidb (fun W1 (hG : Gr w W1) => floodOf_any W1 (ra2.below hG).pt (hr.below hG.out) ok)
  have HR := hidb ra2
  have HL := hidb (show l.length ≤ 80 from ll)
  have HOk := hidb ok
  have HI := hidb hr2.isl
  have HRl := hidb hrl
  have HRg : Hid (∀ i, i < l.length → rainI (gl r i)) := fun i hi => rains_gl hrr i (by omega)
  have HGl : Hid ((gaL m n l (gl r)).length = l.length) := by show _ = _; simp [gaL]
  obtain ⟨p, hp, hpc⟩ := oc_all m n l ok.m1 ok.len hc
  have HP := hidb (show p < l.length ∧ oc m n l p = c from ⟨hp, hpc⟩)
  have HC := hidb hc
  clear hp hpc
  obtain ⟨N, hN⟩ : ∃ N, N = l.length := ⟨_, rfl⟩
  have HN := hidb hN
  have hM : N = r.length := by rw [hN, hrl]
  have HM := hidb (show N = r.length ∧ N ≤ 200 from ⟨hM, by omega⟩)
  have hM' : ¬ (200 : Int) < (N : Int) := by omega
  have HR0 : Hid (rgt r N 0 = true) := by show _ = _; rw [hN, ← rgt_zero, hrl]; simp
  have HRe : Hid (rgt r N N = true) := by show _ = _; have := rgt_true hrl hrr; rw [← hM, ← hN] at this; exact this
  rw [← hM]
  rw [← hN] at C1 C2 CF HL HGl HC
  clear hl ra2 hr ok ll hv hN hM hr2 hrl hrr hc
  go_enter Tryd.func4, Tryd.ntmps4
  go_wp2_with fail
  refine CR.out.mono ?_
  rintro e w1 ⟨rfl, hB⟩
  have G := hidb hB
  clear hB
  go_wp2_with fail
  refine (S1.out _ G.out).mono ?_
  rintro e w2 ⟨rfl, rfl⟩
  obtain ⟨p0, p1, p2⟩ := (HR.out.below G.out).pt.all
  rw [← HN.out] at p2
  go_wp2_with fail
  clear hM'
  refine (C1.out _ G.out).mono ?_
  rintro e w3 ⟨OUT, cp, rfl, hO, -, hB3⟩
  replace G := hidb (Gr.step G.out hB3.out)
  have AG := hidb hO
  clear hB3 p0 p1 p2 hO
  obtain ⟨p0, p1, p2⟩ := (HR.out.below G.out).pt.all
  rw [← HN.out] at p2
  go_wp2_with fail
  refine (C2.out _ G.out).mono ?_
  rintro e w5 ⟨v, rfl, bs, kk, hown, hEn, -, hB5⟩
  obtain ⟨ad1, b1, cap1, rfl, hI1⟩ := own_isl2 hown
  rw [show (on (pth m n l c kk)).length = kk + 1 by rw [List.length_map, pth_len]]
  have HEn := hidb hEn
  replace G := hidb (Gr.step G.out hB5.out)
  replace AG := hidb (At.below hB5.out AG.out)
  have IY := hidb hI1
  clear hB5 p0 p1 p2 hown hI1 hEn
  go_wp2_with fail
  refine (CW.out _ G.out).mono ?_
  rintro e w7 ⟨rfl, hB7⟩
  replace G := hidb (Gr.step G.out hB7.out)
  replace AG := hidb (At.below hB7.out AG.out)
  replace IY := hidb (IY.out.below hB7.out)
  clear hB7
  go_wp2_with fail
  refine (CF.out _ G.out).mono ?_
  rintro e w8 ⟨FI, TO, bs2, vo2, Lf, Lt, Ls, rfl, hFI, hTO, hvo2, -, hRs, hB8⟩
  replace G := hidb (Gr.step G.out hB8.out)
  replace AG := hidb (At.below hB8.out AG.out)
  replace IY := hidb (IY.out.below hB8.out)
  have HTw : Hid (TwL m n l Lt) := by
    rw [HN.out] at hRs
    exact TwL.of HOk.out hRs
  have ATO := hidb hTO
  obtain ⟨ado, capo, rfl⟩ := own_shape1' hvo2
  clear hB8 hFI hTO hvo2 hRs
  have A12 := hidb (At.new3 w8 (.slice (some ⟨FI, 0, none⟩) N N) (.slice (some ⟨TO, 0, none⟩) N N) (.slice ado (flo m n l N).ord.length capo) 37)
  have hal := hidb ((Below.refl w8.heap.size w8).alloc (Nat.le_refl _) (.cells #[.slice (some ⟨FI, 0, none⟩) N N, .slice (some ⟨TO, 0, none⟩) N N, .slice ado (flo m n l N).ord.length capo] 37))
  replace G := hidb (Gr.step G.out hal.out)
  replace AG := hidb (At.below hal.out AG.out)
  replace IY := hidb (IY.out.below hal.out)
  replace ATO := hidb (At.below hal.out ATO.out)
  clear hal
  obtain ⟨T12, hT12⟩ : ∃ z, z = w8.heap.size := ⟨_, rfl⟩
  go_upto_region 11 with fail
  rw [← hT12] at A12 ⊢
  generalize w8.alloc (.cells #[.slice (some ⟨FI, 0, none⟩) N N, .slice (some ⟨TO, 0, none⟩) N N, .slice ado (flo m n l N).ord.length capo] 37) = w9 at *
  clear hT12
  obtain ⟨p0, p1, p2⟩ := (HR.out.below G.out).pt.all
  rw [← HN.out] at p2
  go_wp2
  skip
  clear p0 p1 p2
  go_loopw [15, 16] (fun s t wr => ∃ i : Nat, i ≤ N ∧ s = .bool (rgt r N i) ∧ t = .int .i64 (i : Int) ∧ Hid (wr = w9)) (fun _ t _ => N - (intOf t).toNat)
  case atStart => exact ⟨0, Nat.zero_le _, by rw [HR0.out], rfl, hidb rfl⟩
  case round =>
    obtain ⟨i, hi, rfl, rfl, E⟩ := hrel
    have hwr := E.out
    subst hwr
    clear E
    by_cases h1 : i < N
    · have h1' : (i : Int) < (N : Int) := by omega
      have e1 : IntKind.i64.wrap ((i : Int) + 1) = ((i + 1 : Nat) : Int) := by rw [show (i : Int) + 1 = ((i + 1 : Nat) : Int) by omega]; exact wrap_in (by have := HM.out; omega) (by have := HM.out; omega)
      have hir : i < r.length := by rw [← HM.out.1]; exact h1
      have IRw := HI.out.below G.out.out
      have ixr := IRw.ix i hir
      have cr := IRw.gcell hir
      rw [← HM.out.1] at ixr
      have hst := rgt_succ r N i
      clear IRw hir
      cases hb : rgt r N i with
      | false =>
        rw [hb] at hst
        have hs2 : rgt r N (i + 1) = false := by rw [hst]; rfl
        clear hb hst h1
        go_wp2
        go_roundw
        case rel => exact ⟨i + 1, by omega, by rw [hs2], by go_num, hidb (by trivial)⟩
        case measure => simp [intOf]; omega
      | true =>
        rw [hb] at hst
        generalize gl r i = x at *
        by_cases hx1 : 0 ≤ x
        · by_cases hx2 : x ≤ 1048576
          · have hs2 : rgt r N (i + 1) = true := by rw [hst]; exact decide_eq_true ⟨hx1, hx2⟩
            clear hb hst h1
            go_wp2
            go_roundw
            case rel => exact ⟨i + 1, by omega, by rw [hs2], by go_num, hidb (by trivial)⟩
            case measure => simp [intOf]; omega
          · have hs2 : rgt r N (i + 1) = false := by rw [hst]; exact decide_eq_false (fun h => hx2 h.2)
            clear hb hst h1
            go_wp2
            go_roundw
            case rel => exact ⟨i + 1, by omega, by rw [hs2], by go_num, hidb (by trivial)⟩
            case measure => simp [intOf]; omega
        · have hs2 : rgt r N (i + 1) = false := by rw [hst]; exact decide_eq_false (fun h => hx1 h.1)
          clear hb hst h1
          go_wp2
          go_roundw
          case rel => exact ⟨i + 1, by omega, by rw [hs2], by go_num, hidb (by trivial)⟩
          case measure => simp [intOf]; omega
    · have h1' : ¬ (i : Int) < (N : Int) := by omega
      obtain rfl : N = i := by omega
      have hre : rgt r N _ = true := HRe.out
      rw [hre]
      clear h1 hre
      obtain ⟨t0, t1, t2⟩ := A12.out.c3
      have HGo := hidb (gatherOf_any HOk.out (.slice (some ⟨FI, 0, none⟩) N N) (.slice ado (flo m n l N).ord.length capo) wr ATO.out HTw.out (HI.out.below G.out.out) HRl.out HRg.out)
      rw [← HN.out] at HGo
      go_wp2_with fail
      refine HGo.out.mono ?_
      rintro e w10 ⟨B, rfl, hAB, -, hB10⟩
      replace G := hidb (Gr.step G.out hB10.out)
      replace AG := hidb (At.below hB10.out AG.out)
      replace IY := hidb (IY.out.below hB10.out)
      replace ATO := hidb (At.below hB10.out ATO.out)
      replace A12 := hidb (At.below hB10.out A12.out)
      clear hB10 t0 t1 t2 HGo
      have HSa := hidb (sameInts_eq (l := gaL m n l (gl r)) (by rw [HGl.out]; have := HL.out; omega) w10 (at_isl cp AG.out) (at_isl N hAB))
      rw [HGl.out] at HSa
      clear hAB
      go_wp2_with fail
      refine HSa.out.mono ?_
      rintro e w11 ⟨rfl, hB11⟩
      replace G := hidb (Gr.step G.out hB11.out)
      replace AG := hidb (At.below hB11.out AG.out)
      replace IY := hidb (IY.out.below hB11.out)
      replace ATO := hidb (At.below hB11.out ATO.out)
      replace A12 := hidb (At.below hB11.out A12.out)
      clear hB11 HSa
      obtain ⟨p0, p1, p2⟩ := (HR.out.below G.out).pt.all
      rw [← HN.out] at p2
      have hc0 : ¬ (c : Int) < 0 := by omega
      have hc1 : ¬ (N : Int) ≤ (c : Int) := by have := HC.out; omega
      have HO := hidb (own_one w11 3 (.int .i64 (c : Int)))
      have GA := hidb ((Gr.refl w11).alloc (.cells #[.int .i64 (c : Int)] 3))
      go_wp2
      rw [show decide (N ≤ c) = false from decide_eq_false (by have := HC.out; omega), show decide ((c : Int) < 0) = false from decide_eq_false (by omega), show (false || false) = false from rfl]
      clear p0 p1 p2 hc0 hc1
      generalize w11.alloc (.cells #[.int .i64 (c : Int)] 3) = w12 at *
      go_loopg [2, 17] p (fun gk s v wr => ∃ (k x : Nat), s = .int .i64 (x : Int) ∧ Hid (gk < l.length ∧ oc m n l gk = x ∧ itw m n l k c = x ∧ k + gk ≤ p ∧ (∀ i, i < k → tw m n l (itw m n l i c) ≠ itw m n l i c) ∧ wr.ownsRow w11.heap.size 3 1 v (k + 1) (ir (on (pth m n l c k))) ∧ Gr w11 wr))
      case atStart => exact ⟨0, c, rfl, hidb ⟨HP.out.1, HP.out.2, rfl, by omega, fun i hi => absurd hi (Nat.not_lt_zero _), HO.out, GA.out⟩⟩
      case round =>
        clear HO GA
        obtain ⟨k, x, rfl, E⟩ := hrel
        obtain ⟨hg, hgx, hkx, hkp, hmn, hO, hG⟩ := E.out
        clear E
        obtain ⟨ad3, cap3, rfl⟩ := own_shape1' hO
        have hxl : x < l.length := by rw [← hgx]; exact oc_lt m n l HOk.out.m1 HOk.out.len hg
        have hxN : x < N := by rw [HN.out]; exact hxl
        have ixT := iindex TO 0 N N x hxN
        rw [Nat.zero_add] at ixT
        have cT := ((At.below hG.out ATO.out).get (j := x) (by rw [HTw.out.1]; exact hxl)).1
        rw [gl_get (by rw [HTw.out.1]; exact hxl), HTw.out.2 x hxl] at cT
        obtain ⟨t0, t1, t2⟩ := (At.below hG.out A12.out).c3
        by_cases hf : tw m n l x = x
        · have hkk : k = kk := Ends.uniq ⟨by rw [hkx]; exact hf, hmn⟩ HEn.out
          subst hkk
          obtain ⟨ad4, b4, cap4, hv4, hI4⟩ := own_isl2 hO
          rw [show (on (pth m n l c k)).length = k + 1 by rw [List.length_map, pth_len]] at hv4
          obtain ⟨rfl, -, rfl⟩ := (show ad3 = ad4 ∧ True ∧ cap3 = cap4 by simpa using hv4)
          have HSb := hidb (sameInts_eq (l := on (pth m n l c k)) (by rw [List.length_map, pth_len]; have := HL.out; have := HP.out; have := HN.out; omega) wr (IY.out.below hG.out) hI4)
          rw [show (on (pth m n l c k)).length = k + 1 by rw [List.length_map, pth_len]] at HSb
          have HGw := hidb (Gr.step G.out hG.out)
          rw [hf] at cT
          clear hg hgx hkx hkp hmn hO hG hf hxl hxN hv4 hI4
          go_wp2_with fail
          refine HSb.out.mono ?_
          rintro e w13 ⟨rfl, hB13⟩
          have HG13 := hidb (Gr.step HGw.out hB13.out)
          clear hB13
          go_wp2
          go_ret
          exact ⟨rfl, HG13.out⟩
        · obtain ⟨j, hj, hjx⟩ : ∃ j, j < gk ∧ oc m n l j = tw m n l x := by
            have h := oc_bef m n l HOk.out.m1 HOk.out.len (k := gk) hg
            rw [hgx] at h
            exact h.resolve_left hf
          have hyl := tw_lt m n l HOk.out.m1 HOk.out.len hxl
          have hky : itw m n l (k + 1) c = tw m n l x := by rw [itw_succ, hkx]
          have HSn : Hid (on (pth m n l c k) ++ [(tw m n l x : Int)] = on (pth m n l c (k + 1))) := by show _ = _; rw [pth_snoc, hky]; simp [on]
          have HMn : Hid (∀ i, i < k + 1 → tw m n l (itw m n l i c) ≠ itw m n l i c) := fun i hi => by
            by_cases e : i = k
            · rw [e, hkx]; exact hf
            · exact hmn i (by omega)
          have HJ := hidb (show j < gk ∧ j < l.length ∧ oc m n l j = tw m n l x ∧ itw m n l (k + 1) c = tw m n l x ∧ k + 1 + j ≤ p from ⟨hj, by omega, hjx, hky, by omega⟩)
          have HKl := hidb (show (on (pth m n l c k)).length = k + 1 ∧ k + 1 ≤ 20000 from ⟨by rw [List.length_map, pth_len], by have := HL.out; have := HP.out; have := HN.out; omega⟩)
          have E := hidb (show wr.ownsRow w11.heap.size 3 1 (.slice ad3 (k + 1) cap3) (k + 1) (ir (on (pth m n l c k))) ∧ Gr w11 wr from ⟨hO, hG⟩)
          have hf' : ¬ ((tw m n l x : Nat) : Int) = (x : Int) := by omega
          generalize tw m n l x = y at *
          clear hg hgx hkx hkp hmn hO hG hf hxl hxN hj hjx hyl hky
          go_wp2_with (at_builtin; refine wpList_i1 _ w11.heap.size (.slice ad3 (k + 1) cap3) (on (pth m n l c k)) (y : Int) (k + 1) wr.heap.size _ _ rfl rfl rfl rfl HKl.out.1 HKl.out.2 (E.out.1.alloc _) (At.new1 _ _ _) (by have := E.out.2.out.size; simp; omega) ?_; intro g2 cap4 w14 hown hgrow)
          have G4 := hidb (gr_app E.out.2 E.out.1 (Nat.le_refl _) hgrow.out)
          rw [HSn.out] at hown
          clear hgrow
          go_roundg j
          case measure => exact HJ.out.1
          case rel => exact ⟨k + 1, y, rfl, hidb ⟨HJ.out.2.1, HJ.out.2.2.1, HJ.out.2.2.2.1, HJ.out.2.2.2.2, HMn.out, hown.out, G4.out⟩⟩
end Go.Proofs.YtbkggcfogmgmmaaDoor
namespace Go.Proofs.YtbkggcfogmgmmaaDoor
open Go.RowKit
attribute [local go_sem ↓] Go.wp_at_zero Go.wp_at_succ

set_option maxRecDepth 4000 in
set_option maxHeartbeats 2000000 in
theorem gathers_B2 (g : Nat → Addr) {m n pb po b o cap : Nat} {l : List Int} {rb ro rcap : Nat} {r : List Int} (c : Int) (hc : ¬ (0 ≤ c ∧ c < (l.length : Int))) (w : World) (hl : Laid w g) (ra2 : Rin w pb po m n (some ⟨b, o, none⟩) b o cap l) (hr : Rs w b o cap l) (ok : Ok l m n) (ll : l.length ≤ 80) (hv : vcode m n l = 0) (hr2 : Rs w rb ro rcap r) (hrl : r.length = l.length) (hrr : rainsB r = true) : Calls Tryd.prog 4 #[.pointer (some ⟨pb, po, none⟩), .slice (some ⟨rb, ro, none⟩) r.length rcap, .int .i64 c] w fun e w' => e = .returned (.bool true) ∧ Gr w w' := by
  have CR := hidb (drains_any g w hl.lai)
  have S1 := hidb (fun W1 (hG : Gr w W1) => small4_any pb po m n (some ⟨b, o, none⟩) l.length cap W1 (ra2.below hG).pt)
  rw [decide_eq_true ll] at S1
  have C1 := hidb (fun W1 (hG : Gr w W1) => gather_ok g W1 (hr.below hG.out) ok hv (hl.below hG.out).lai (hr2.below hG.out) hrl hrr)
  have C2 := hidb (fun W1 (hG : Gr w W1) => way_out g c hc W1 (hr.below hG.out) ok hv (hl.below hG.out).lai)
  have CW := hidb (fun W1 (hG : Gr w W1) => rasterError_any pb po m n (some ⟨b, o, none⟩) b o cap l W1 (ra2.below hG).pt (ra2.below hG).sl (by omega))
  rw [hv] at CW
  have CF := hidb (fun W1 (hG : Gr w W1) => floodOf_any W1 (ra2.below hG).pt (hr.below hG.out) ok)
  have CE4 := hidb (fun W1 (hG : Gr w W1) => coded_evc g 4 (by decide) W1 (hl.below hG.out))
  rw [show evc g 4 = errV g 3 from rfl] at CE4 C2
  have HR := hidb ra2
  have HL := hidb (show l.length ≤ 80 from ll)
  have HOk := hidb ok
  have HI := hidb hr2.isl
  have HRl := hidb hrl
  have HRg : Hid (∀ i, i < l.length → rainI (gl r i)) := fun i hi => rains_gl hrr i (by omega)
  have HGl : Hid ((gaL m n l (gl r)).length = l.length) := by show _ = _; simp [gaL]
  have HC := hidb hc
  obtain ⟨N, hN⟩ : ∃ N, N = l.length := ⟨_, rfl⟩
  have HN := hidb hN
  have hM : N = r.length := by rw [hN, hrl]
  have HM := hidb (show N = r.length ∧ N ≤ 200 from ⟨hM, by omega⟩)
  have hM' : ¬ (200 : Int) < (N : Int) := by omega
  have HR0 : Hid (rgt r N 0 = true) := by show _ = _; rw [hN, ← rgt_zero, hrl]; simp
  have HRe : Hid (rgt r N N = true) := by show _ = _; have := rgt_true hrl hrr; rw [← hM, ← hN] at this; exact this
  rw [← hM]
  rw [← hN] at C1 C2 CF HL HGl HC
  clear hl ra2 hr ok ll hv hN hM hr2 hrl hrr hc
  go_enter Tryd.func4, Tryd.ntmps4
  go_wp2_with fail
  refine CR.out.mono ?_
  rintro e w1 ⟨rfl, hB⟩
  have G := hidb hB
  clear hB
  go_wp2_with fail
  refine (S1.out _ G.out).mono ?_
  rintro e w2 ⟨rfl, rfl⟩
  obtain ⟨p0, p1, p2⟩ := (HR.out.below G.out).pt.all
  rw [← HN.out] at p2
  go_wp2_with fail
  clear hM'
  refine (C1.out _ G.out).mono ?_
  rintro e w3 ⟨OUT, cp, rfl, hO, -, hB3⟩
  replace G := hidb (Gr.step G.out hB3.out)
  have AG := hidb hO
  clear hB3 p0 p1 p2 hO
  obtain ⟨p0, p1, p2⟩ := (HR.out.below G.out).pt.all
  rw [← HN.out] at p2
  go_wp2_with fail
  refine (C2.out _ G.out).mono ?_
  rintro e w5 ⟨rfl, hB5⟩
  replace G := hidb (Gr.step G.out hB5.out)
  replace AG := hidb (At.below hB5.out AG.out)
  clear hB5 p0 p1 p2
  go_wp2_with fail
  refine (CW.out _ G.out).mono ?_
  rintro e w7 ⟨rfl, hB7⟩
  replace G := hidb (Gr.step G.out hB7.out)
  replace AG := hidb (At.below hB7.out AG.out)
  clear hB7
  go_wp2_with fail
  refine (CF.out _ G.out).mono ?_
  rintro e w8 ⟨FI, TO, bs2, vo2, Lf, Lt, Ls, rfl, hFI, hTO, hvo2, -, hRs, hB8⟩
  replace G := hidb (Gr.step G.out hB8.out)
  replace AG := hidb (At.below hB8.out AG.out)
  have HTw : Hid (TwL m n l Lt) := by
    rw [HN.out] at hRs
    exact TwL.of HOk.out hRs
  have ATO := hidb hTO
  obtain ⟨ado, capo, rfl⟩ := own_shape1' hvo2
  clear hB8 hFI hTO hvo2 hRs
  have A12 := hidb (At.new3 w8 (.slice (some ⟨FI, 0, none⟩) N N) (.slice (some ⟨TO, 0, none⟩) N N) (.slice ado (flo m n l N).ord.length capo) 37)
  have hal := hidb ((Below.refl w8.heap.size w8).alloc (Nat.le_refl _) (.cells #[.slice (some ⟨FI, 0, none⟩) N N, .slice (some ⟨TO, 0, none⟩) N N, .slice ado (flo m n l N).ord.length capo] 37))
  replace G := hidb (Gr.step G.out hal.out)
  replace AG := hidb (At.below hal.out AG.out)
  replace ATO := hidb (At.below hal.out ATO.out)
  clear hal
  obtain ⟨T12, hT12⟩ : ∃ z, z = w8.heap.size := ⟨_, rfl⟩
  go_upto_region 11 with fail
  rw [← hT12] at A12 ⊢
  generalize w8.alloc (.cells #[.slice (some ⟨FI, 0, none⟩) N N, .slice (some ⟨TO, 0, none⟩) N N, .slice ado (flo m n l N).ord.length capo] 37) = w9 at *
  clear hT12
  obtain ⟨p0, p1, p2⟩ := (HR.out.below G.out).pt.all
  rw [← HN.out] at p2
  go_wp2
  skip
  clear p0 p1 p2
  go_loopw [15, 16] (fun s t wr => ∃ i : Nat, i ≤ N ∧ s = .bool (rgt r N i) ∧ t = .int .i64 (i : Int) ∧ Hid (wr = w9)) (fun _ t _ => N - (intOf t).toNat)
  case atStart => exact ⟨0, Nat.zero_le _, by rw [HR0.out], rfl, hidb rfl⟩
  case round =>
    obtain ⟨i, hi, rfl, rfl, E⟩ := hrel
    have hwr := E.out
    subst hwr
    clear E
    by_cases h1 : i < N
    · have h1' : (i : Int) < (N : Int) := by omega
      have e1 : IntKind.i64.wrap ((i : Int) + 1) = ((i + 1 : Nat) : Int) := by rw [show (i : Int) + 1 = ((i + 1 : Nat) : Int) by omega]; exact wrap_in (by have := HM.out; omega) (by have := HM.out; omega)
      have hir : i < r.length := by rw [← HM.out.1]; exact h1
      have IRw := HI.out.below G.out.out
      have ixr := IRw.ix i hir
      have cr := IRw.gcell hir
      rw [← HM.out.1] at ixr
      have hst := rgt_succ r N i
      clear IRw hir
      cases hb : rgt r N i with
      | false =>
        rw [hb] at hst
        have hs2 : rgt r N (i + 1) = false := by rw [hst]; rfl
        clear hb hst h1
        go_wp2
        go_roundw
        case rel => exact ⟨i + 1, by omega, by rw [hs2], by go_num, hidb (by trivial)⟩
        case measure => simp [intOf]; omega
      | true =>
        rw [hb] at hst
        generalize gl r i = x at *
        by_cases hx1 : 0 ≤ x
        · by_cases hx2 : x ≤ 1048576
          · have hs2 : rgt r N (i + 1) = true := by rw [hst]; exact decide_eq_true ⟨hx1, hx2⟩
            clear hb hst h1
            go_wp2
            go_roundw
            case rel => exact ⟨i + 1, by omega, by rw [hs2], by go_num, hidb (by trivial)⟩
            case measure => simp [intOf]; omega
          · have hs2 : rgt r N (i + 1) = false := by rw [hst]; exact decide_eq_false (fun h => hx2 h.2)
            clear hb hst h1
            go_wp2
            go_roundw
            case rel => exact ⟨i + 1, by omega, by rw [hs2], by go_num, hidb (by trivial)⟩
            case measure => simp [intOf]; omega
        · have hs2 : rgt r N (i + 1) = false := by rw [hst]; exact decide_eq_false (fun h => hx1 h.1)
          clear hb hst h1
          go_wp2
          go_roundw
          case rel => exact ⟨i + 1, by omega, by rw [hs2], by go_num, hidb (by trivial)⟩
          case measure => simp [intOf]; omega
    · have h1' : ¬ (i : Int) < (N : Int) := by omega
      obtain rfl : N = i := by omega
      have hre : rgt r N _ = true := HRe.out
      rw [hre]
      clear h1 hre
      obtain ⟨t0, t1, t2⟩ := A12.out.c3
      have HGo := hidb (gatherOf_any HOk.out (.slice (some ⟨FI, 0, none⟩) N N) (.slice ado (flo m n l N).ord.length capo) wr ATO.out HTw.out (HI.out.below G.out.out) HRl.out HRg.out)
      rw [← HN.out] at HGo
      go_wp2_with fail
      refine HGo.out.mono ?_
      rintro e w10 ⟨B, rfl, hAB, -, hB10⟩
      replace G := hidb (Gr.step G.out hB10.out)
      replace AG := hidb (At.below hB10.out AG.out)
      replace ATO := hidb (At.below hB10.out ATO.out)
      replace A12 := hidb (At.below hB10.out A12.out)
      clear hB10 t0 t1 t2 HGo
      have HSa := hidb (sameInts_eq (l := gaL m n l (gl r)) (by rw [HGl.out]; have := HL.out; omega) w10 (at_isl cp AG.out) (at_isl N hAB))
      rw [HGl.out] at HSa
      clear hAB
      go_wp2_with fail
      refine HSa.out.mono ?_
      rintro e w11 ⟨rfl, hB11⟩
      replace G := hidb (Gr.step G.out hB11.out)
      replace AG := hidb (At.below hB11.out AG.out)
      replace ATO := hidb (At.below hB11.out ATO.out)
      replace A12 := hidb (At.below hB11.out A12.out)
      clear hB11 HSa
      obtain ⟨p0, p1, p2⟩ := (HR.out.below G.out).pt.all
      rw [← HN.out] at p2
      by_cases hc0 : c < 0
      · go_wp2_with fail
        refine (CE4.out _ G.out).mono ?_
        rintro e w12 ⟨rfl, hB12⟩
        have HG12 := hidb (Gr.step G.out hB12.out)
        clear hB12
        go_wp2
        go_ret
        exact ⟨rfl, HG12.out⟩
      · have hc1 : (N : Int) ≤ c := by have := HC.out; omega
        go_wp2_with fail
        refine (CE4.out _ G.out).mono ?_
        rintro e w12 ⟨rfl, hB12⟩
        have HG12 := hidb (Gr.step G.out hB12.out)
        clear hB12
        go_wp2
        go_ret
        exact ⟨rfl, HG12.out⟩
end Go.Proofs.YtbkggcfogmgmmaaDoor
