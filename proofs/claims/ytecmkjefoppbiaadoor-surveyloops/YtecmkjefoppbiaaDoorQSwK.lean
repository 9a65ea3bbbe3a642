/-
  mercatorlaw3.SurveyLoops.
-/
import Derived.Test.YtecmkjefoppbiaaDoorQSwJ
import Derived.Test.YtecmkjefoppbiaaDoorQSvV
namespace Go.Proofs.YtecmkjefoppbiaaDoor
open Go.RowKit
attribute [local go_sem ↓] Go.wp_at_zero Go.wp_at_succ

theorem coded_ec (g : Nat → Addr) (c : Nat) (hc : c ≤ 8) (w : World) (hl : Laid w g) : Calls Tryd.prog 8 #[evc g c, .int .i64 (c : Int)] w fun e w' => e = .returned (.bool true) ∧ Gr w w' := by
  by_cases h : c = 0
  · subst h
    refine (coded_nil 0 w).mono ?_
    rintro e w' ⟨rfl, rfl⟩
    exact ⟨rfl, Gr.refl _⟩
  · unfold evc
    rw [if_neg h]
    refine (coded_sent g (c - 1) (by omega) (c : Int) w hl).mono ?_
    rintro e w' ⟨rfl, hB⟩
    exact ⟨by rw [show ((c - 1 : Nat) : Int) + 1 = (c : Int) by omega]; simp, hB⟩
/-- A pointer to a survey, or none. -/
def SPArg (w : World) (ad : Option Addr) : Prop := ad = none ∨ ∃ pb po M B sd b o cap l, ad = some ⟨pb, po, none⟩ ∧ SIn w pb po M B sd b o cap l
theorem svc_le (M B : Int) (l : List Sn) : svc M B l ≤ 8 := by
  unfold svc
  split
  · decide
  · split
    · decide
    · split
      · split <;> decide
      · decide
theorem ni_pre (E : List Ed) (s : BS) (i : Nat) : ∀ n, i ≤ n → niL E s i <+: niL E s n := by
  intro n h
  induction n with
  | zero =>
    obtain rfl : i = 0 := by omega
    exact ⟨[], List.append_nil _⟩
  | succ n ih =>
    by_cases c : i = n + 1
    · rw [c]; exact ⟨[], List.append_nil _⟩
    · have h1 := ih (by omega)
      rw [niL]
      split
      · exact h1
      · exact h1.trans ⟨[n], rfl⟩
theorem ni_at {E : List Ed} {s : BS} {i n : Nat} (hi : i < n) (h : ¬ inT E s i) : (niL E s i).length < (niL E s n).length ∧ (niL E s n).getD (niL E s i).length 0 = i := by
  obtain ⟨r, hr⟩ := ni_pre E s (i + 1) n (by omega)
  rw [niL_no h] at hr
  rw [← hr]
  exact ⟨by simp, by simp⟩
/-- A row that a call owns, one of its values. -/
theorem own_vx {W : World} {base q cap : Nat} {ad : Option Addr} {vs : List Value} (h : W.ownsRow base 28 1 (.slice ad q cap) q vs) {k : Nat} (hk : k < q) : ∃ g, ad = some ⟨g, 0, none⟩ ∧ W.cell? ⟨g, k, none⟩ = some (vX vs k) := by
  obtain ⟨h1, h2 | ⟨g, cap', cur, hv, hb, hg, hc, hm, hs, ht⟩⟩ := h
  · omega
  · simp only [Value.slice.injEq, true_and] at hv
    obtain ⟨rfl, rfl⟩ := hv
    refine ⟨g, rfl, ?_⟩
    have hq : vs.length = q := by rw [h1, Nat.mul_one]
    have e : cur.toList[k]? = some (vX vs k) := by
      have : (cur.toList.take (q * 1))[k]? = vs[k]? := by rw [ht]
      rw [List.getElem?_take, if_pos (by omega)] at this
      rw [this]
      unfold vX
      simp [show k < vs.length by omega]
    simp [World.cell?, hg]
    simpa using e
theorem loop_len {l : List Sn} {s : BS} {i : Nat} {L : List Int} (h : LoopOK l s i L) (hi : i < l.length) : L.length ≤ l.length + 1 := by
  have hz : ∀ k, (hk : k < L.length) → L[k].natAbs ≤ l.length := fun k hk => (loop_at h hi hk).zl
  obtain ⟨T, -, -, -, h3⟩ := h
  have := nodup_len (N := l.length + 1) h3 (fun z hz' => by
    obtain ⟨w, hw, rfl⟩ := List.mem_map.1 hz'
    obtain ⟨k, hk, rfl⟩ := List.getElem_of_mem hw
    have := hz k hk
    omega)
  rwa [List.length_map] at this
section
variable {ad : Option Addr}
set_option maxRecDepth 4000 in
set_option maxHeartbeats 16000000 in
theorem surveyLoops_law (g : Nat → Addr) (w : World) (hl : Laid w g) (ha : SPArg w ad) : Calls Tryd.prog 3 #[.pointer ad] w fun e w' => e = .returned (.bool true) ∧ Gr w w' := by
  have HA := hidb (adjusts_any g w hl)
  have HL := hidb hl
  rcases ha with rfl | ⟨pb, po, M, B, sd, b, o, cap, l, rfl, hS⟩
  · clear hl
    go_enter Tryd.func3, Tryd.ntmps3
    go_wp2_with fail
    refine HA.out.mono ?_
    rintro e w1 ⟨rfl, hB⟩
    have HG := hidb hB
    clear hB HA
    go_wp2
    go_ret
    exact ⟨rfl, HG.out⟩
  · have HS := hidb hS
    have HIx := hidb hS.sl.ix
    have HPt := hidb (fun W (hG : Gr w W) => (hS.below hG).pt)
    obtain ⟨n, hn⟩ : ∃ n, n = l.length := ⟨_, rfl⟩
    have HN := hidb hn
    rw [← hn] at HIx HPt
    clear hl hS hn
    go_enter Tryd.func3, Tryd.ntmps3
    go_wp2_with fail
    refine HA.out.mono ?_
    rintro e w1 ⟨rfl, hB⟩
    have HG := hidb hB
    clear hB HA
    obtain ⟨p0, p1, p2⟩ := HPt.out _ HG.out
    by_cases c1 : 20 < M
    · go_wp2
      go_ret
      exact ⟨rfl, HG.out⟩
    · by_cases c2 : (80 : Int) < (n : Int)
      · go_wp2
        go_ret
        exact ⟨rfl, HG.out⟩
      · have HB : Hid (M ≤ 20 ∧ l.length ≤ 80) := by have := HN.out; show _ ∧ _; omega
        have HMe := hidb (measured_any w1 (HS.out.below HG.out) HB.out.2)
        have HSe := hidb (fun W (hG : Gr w W) => surveyError_any W (HS.out.below hG) HB.out.1 HB.out.2)
        rw [← HN.out] at HMe
        unfold svV at HMe
        clear p1
        go_wp2_with fail
        refine HMe.out.mono ?_
        rintro e w2 ⟨ad', b', cap', rfl, k1, k2⟩
        have HG2 := hidb (Gr.step HG.out k2)
        have HSl := hidb k1
        clear k1 k2 HMe p0 p2 c1 c2
        by_cases hc : svc M B l = 0
        · obtain ⟨m, rfl, hM1, hM2, hn6, hF, hAl⟩ := svc_of hc
          have HLo := hidb (sloops_ok g m B w2 HSl.out (HL.out.below HG2.out.out) hc)
          have HTr := hidb (fun W (hG : Gr w W) => rtree_any W (HS.out.below hG) ⟨hM1, by omega⟩ HB.out.2 hF)
          have HSr := hidb (sr_ok hF.ok (show 0 < m by omega) m)
          have HF := hidb hF
          have HM := hidb (And.intro hM1 hM2)
          rw [← HN.out] at HLo
          rw [hc] at HSe
          unfold svV at HLo
          generalize srE (edL l) m m = s at *
          clear hc hM1 hM2 hn6 hF hAl
          go_wp2_with fail
          refine HLo.out.mono ?_
          rintro e w3 ⟨lv, uv, SB, WB, base, bx, vs, Ls, Us, rfl, k1, k2⟩
          have HG3 := hidb (Gr.step HG2.out k1.gr.out)
          have HLq := hidb (fun W (hG : Gr w3 W) => k1.below hG.out)
          have HLs := hidb k2
          obtain ⟨adl, capl, rfl⟩ := own_sh k1.o
          obtain ⟨adu, capu, rfl⟩ := own_sh k1.u
          have e1 : vs.length = (niL (edL l) s n).length := k1.n.trans k2.a
          have e2 : Us.length = (niL (edL l) s n).length := k2.b
          have HE := hidb (And.intro e1 e2)
          rw [e1, e2]
          clear k1 k2 HLo e1 e2
          go_wp2_with fail
          refine (HSe.out _ HG3.out).mono ?_
          rintro e w4 ⟨rfl, hB⟩
          have E4 := hidb (show Gr w w4 ∧ Gr w3 w4 from ⟨Gr.step HG3.out hB.out, hB⟩)
          clear hB HSe
          go_wp2_with fail
          refine (HTr.out _ E4.out.1).mono ?_
          rintro e w5 ⟨WC, rfl, k3, -, k5⟩
          have E5 := hidb (show Gr w w5 ∧ Gr w3 w5 from ⟨Gr.step E4.out.1 k5.out, Gr.step E4.out.2 k5.out⟩)
          have HAt := hidb (fun W (hG : Gr w5 W) => At.below hG.out k3)
          clear k3 k5 HTr E4
          go_wp2
          go_loopw [9, 10] (fun a t wr => ∃ (i q : Nat), i ≤ n ∧ q = (niL (edL l) s i).length ∧ a = .int .i64 (q : Int) ∧ t = .int .i64 (i : Int) ∧ Hid (Gr w5 wr)) (fun _ t _ => n - (intOf t).toNat)
          case atStart => exact ⟨0, 0, Nat.zero_le _, rfl, rfl, rfl, hidb (Gr.refl _)⟩
          case round =>
            obtain ⟨i, q, hi, hq, rfl, rfl, E⟩ := hrel
            have EW := hidb (Gr.step E5.out.1 E.out.out)
            obtain ⟨p0, p1, p2⟩ := HPt.out _ EW.out
            by_cases h1 : ¬ i < n
            · have h1' : ¬ (i : Int) < (n : Int) := by omega
              obtain rfl : i = n := by omega
              have HQ := hidb hq
              generalize (niL (edL l) s i).length = Q at *
              obtain rfl : q = Q := HQ.out
              clear h1 hi hq
              go_wp2
              go_ret
              exact ⟨rfl, EW.out⟩
            · have h1' : (i : Int) < (n : Int) := by omega
              have H1 := hidb (show i < n by omega)
              have hil : i < l.length := by have := HN.out; omega
              have e9 : IntKind.i64.wrap ((i : Int) + 1) = ((i + 1 : Nat) : Int) := by rw [show (i : Int) + 1 = ((i + 1 : Nat) : Int) by omega]; exact wr_in (by omega) (by have := HN.out; have := HB.out; omega)
              have HIt := hidb (rinTree_any wr (HAt.out _ E.out) HSr.out (by have := HM.out; omega) i (by have := HN.out; have := HB.out; omega))
              have HQ := hidb hq
              by_cases hin : inT (edL l) s i
              · rw [decide_eq_true hin] at HIt
                have HQ2 : Hid (q = (niL (edL l) s (i + 1)).length) := by show _ = _; rw [niL_in hin]; exact hq
                clear h1 hi hq hin hil
                go_wp2_with fail
                refine HIt.out.mono ?_
                rintro e w6 ⟨rfl, hw6⟩
                obtain rfl : wr = w6 := hw6.symm
                clear hw6
                go_wp2
                go_roundw
                case rel => exact ⟨i + 1, q, H1.out, HQ2.out, rfl, by go_num, E⟩
                case measure => have := H1.out; simp [intOf]; omega
              · rw [decide_eq_false hin] at HIt
                have HQ2 : Hid (q + 1 = (niL (edL l) s (i + 1)).length) := by show _ = _; rw [niL_no hin, List.length_append, ← hq]; rfl
                obtain ⟨hqQ, hat⟩ := ni_at H1.out hin
                rw [← hq] at hqQ hat
                have hLQ := HLq.out wr (Gr.step E5.out.2 E.out.out)
                have hLs := HLs.out.c q hqQ
                rw [hat] at hLs
                have hql : q < vs.length := by rw [HE.out.1]; exact hqQ
                have hr := hLQ.i q hql
                have hlen := loop_len hLs.1 hil
                have hpos := (loop_end hLs.1).2.1
                obtain ⟨gk, cpk, hvk, -, -, -⟩ := own_there hr hpos
                have ho := hLQ.o
                obtain ⟨gl, hgl, cl⟩ := own_vx ho hql
                have hu := hLQ.u
                obtain ⟨gu, cpu, hgu, -, -, -⟩ := own_there hu (by rw [HE.out.2]; omega)
                simp only [Value.slice.injEq, true_and] at hgu
                obtain ⟨rfl, rfl⟩ := hgu
                subst hgl
                have cu := own_get hu (j := q) (by rw [HE.out.2]; exact hqQ)
                rw [hLs.2] at cu
                rw [hvk] at cl hr
                have HIs := hidb (fun W (hG : Gr wr W) => risLoop_any W (HS.out.below (Gr.step EW.out hG.out)) (by have := HM.out; omega) HB.out.2 HF.out HSr.out (HAt.out _ (Gr.step E.out hG.out)) hil hLs.1 (own_kept hr hG.out) (by have := HB.out; omega))
                have ixl := rrindex gl (niL (edL l) s n).length capl q hqQ
                have ixu := indexI gu (niL (edL l) s n).length capu q hqQ
                have hcl := hidb (fun W (hG : Gr wr W) => (hG.out.cell (p := ⟨gl, q, none⟩) (lt_of_cell cl)).trans cl)
                have hcu := hidb (fun W (hG : Gr wr W) => (hG.out.cell (p := ⟨gu, q, none⟩) (lt_of_cell cu)).trans cu)
                have e8 : IntKind.i64.wrap ((q : Int) + 1) = ((q + 1 : Nat) : Int) := by rw [show (q : Int) + 1 = ((q + 1 : Nat) : Int) by omega]; exact wr_in (by omega) (by have := ni_len (edL l) s n; have := HN.out; have := HB.out; omega)
                have hq2 : ¬ (((niL (edL l) s n).length : Nat) : Int) ≤ (q : Int) := by omega
                generalize hLL : lI Ls q = L at *
                generalize upL l L = U at *
                generalize hnL : L.length = nL at *
                generalize (niL (edL l) s n).length = Q at *
                clear h1 hi hq hin hil hat hqQ hLQ hLs hql hr hlen hpos hvk ho hu hLL hnL
                go_wp2_with fail
                refine HIt.out.mono ?_
                rintro e w6 ⟨rfl, hw6⟩
                obtain rfl : wr = w6 := hw6.symm
                clear hw6
                go_wp2_with fail
                refine (HIs.out _ (Gr.refl _)).mono ?_
                rintro e w7 ⟨rfl, hB⟩
                have cl7 := hcl.out _ hB
                have cu7 := hcu.out _ hB
                have E7 := hidb (Gr.step E.out hB.out)
                clear cl cu hB HIs HIt hcl hcu
                go_wp2
                go_roundw
                case rel => exact ⟨i + 1, q + 1, H1.out, HQ2.out, by go_num, by go_num, E7⟩
                case measure => have := H1.out; simp [intOf]; omega
        · have HLo := hidb (sloops_bad g M B w2 HSl.out (HL.out.below HG2.out.out) hc)
          rw [← HN.out] at HLo
          unfold svV at HLo
          obtain ⟨c, hcc⟩ : ∃ c, c = svc M B l := ⟨_, rfl⟩
          have HC8 : Hid (c ≤ 8) := by show c ≤ 8; rw [hcc]; exact svc_le M B l
          rw [← hcc] at HLo HSe
          have hc0 : ¬ c = 0 := by rw [hcc]; exact hc
          have hc1 : 0 < c := by omega
          have HCd := hidb (fun W (hW : Gr w W) => coded_ec g c HC8.out W (HL.out.below hW.out))
          clear hc hcc
          go_wp2_with fail
          refine HLo.out.mono ?_
          rintro e w3 ⟨rfl, hB⟩
          have HG3 := hidb (Gr.step HG2.out hB.out)
          clear hB HLo
          go_wp2_with fail
          refine (HSe.out _ HG3.out).mono ?_
          rintro e w4 ⟨rfl, hB⟩
          have HG4 := hidb (Gr.step HG3.out hB.out)
          clear hB
          go_wp2_with fail
          refine (HCd.out _ HG4.out).mono ?_
          rintro e w5 ⟨rfl, hB⟩
          have HG5 := hidb (Gr.step HG4.out hB.out)
          clear hB
          go_wp2
          go_ret
          exact ⟨rfl, HG5.out⟩
end
end Go.Proofs.YtecmkjefoppbiaaDoor
