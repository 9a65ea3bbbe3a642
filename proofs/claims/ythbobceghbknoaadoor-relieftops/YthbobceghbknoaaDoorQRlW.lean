/-
  ReliefTops of a right raster.
-/
import Derived.Test.YthbobceghbknoaaDoorQRlR
import Derived.Test.YthbobceghbknoaaDoorQRlV
import Derived.Test.YthbobceghbknoaaDoorQRlI
namespace Go.Proofs.YthbobceghbknoaaDoor
open Go.RowKit

/-- So far: all of the first cells. -/
def PTo (l : List Int) (m i j : Nat) : Prop := ∀ k, k < j → tch m i k → gl l k < gl l i
def PBo (l : List Int) (m i j : Nat) : Prop := ∀ k, k < j → tch m i k → gl l i < gl l k
theorem PTo.step (l : List Int) (m i j : Nat) : PTo l m i (j + 1) ↔ PTo l m i j ∧ (tch m i j → gl l j < gl l i) := by
  constructor
  · exact fun h => ⟨fun k hk => h k (by omega), h j (by omega)⟩
  · refine fun ⟨h, hj⟩ k hk => ?_
    by_cases e : k = j
    · subst e; exact hj
    · exact h k (by omega)
theorem PBo.step (l : List Int) (m i j : Nat) : PBo l m i (j + 1) ↔ PBo l m i j ∧ (tch m i j → gl l i < gl l j) := by
  constructor
  · exact fun h => ⟨fun k hk => h k (by omega), h j (by omega)⟩
  · refine fun ⟨h, hj⟩ k hk => ?_
    by_cases e : k = j
    · subst e; exact hj
    · exact h k (by omega)
set_option maxRecDepth 4000 in
set_option maxHeartbeats 64000000 in
theorem reliefTops_B (g : Nat → Addr) {m n pb po b o cap : Nat} {l : List Int} (num den : Int) (w : World) (hl : Laid w g) (rp : PtR w pb po m n (.slice (some ⟨b, o, none⟩) l.length cap)) (rs : Rs w b o cap l) (ok : Ok l m n) (hv : vcode m n l = 0) (ll : l.length ≤ 200) : Calls Tryd.prog 4 #[.pointer (some ⟨pb, po, none⟩), .int .i64 num, .int .i64 den] w fun e w' => e = .returned (.bool true) ∧ Gr w w' := by
  have hm1 := ok.m1
  have CR := hidb (grounded_any g w hl)
  have RP := hidb rp
  have RS := hidb rs
  have S1 := hidb (fun W1 (hG : Gr w W1) => small_any pb po m n (some ⟨b, o, none⟩) l.length cap W1 (rp.below hG.out))
  rw [decide_eq_true ll] at S1
  have CW := hidb (fun W1 (hG : Gr w W1) => rasterError_any pb po m n (some ⟨b, o, none⟩) b o cap l W1 (rp.below hG.out) (rs.isl.below hG.out) (by omega))
  rw [hv] at CW
  have CT := hidb (fun W1 (hG : Gr w W1) => tops_B g W1 (rs.below hG.out) ok hv (hl.below hG.out))
  have CTo := hidb (fun (i k : Nat) (hi : i < l.length) (hk : k < l.length) W1 (hG : Gr w W1) => touchOf_any (H := n) i k hm1 (by omega) (by omega) W1 (rp.below hG.out))
  have CSm := hidb (fun (q : List Int) (hq : q.length ≤ 20000) (a1 a2 : Option Addr) (b1 b2 c1 c2 : Nat) W1 (h1 : ISl W1 a1 b1 0 c1 q) (h2 : ISl W1 a2 b2 0 c2 q) => sameInts_eq hq W1 h1 h2)
  have CN := hidb (fun W1 (hG : Gr w W1) => coded_evc g 3 (by decide) W1 (hl.below hG.out))
  rw [show evc g 3 = errV g 2 from rfl] at CN
  obtain ⟨aw, ap, ev, HAb, hcase⟩ : ∃ (aw ap : Int) (ev : Value), Hid (∀ W1, Gr w W1 → Calls Tryd.prog 14 #[raV m n (.slice (some ⟨b, o, none⟩) l.length cap), .int .i64 num, .int .i64 den] W1 fun e w' => e = .returned (.tuple #[.int .i64 aw, .int .i64 ap, ev]) ∧ Gr W1 w') ∧ Hid ((heI num den = false ∧ aw = 0 ∧ ap = 0 ∧ ev = errV g 2) ∨ (heI num den = true ∧ ev = .nilIface ∧ ∀ W1, Gr w W1 → Calls Tryd.prog 17 #[.pointer (some ⟨pb, po, none⟩), .int .i64 num, .int .i64 den] W1 fun e w' => e = .returned (.tuple #[.int .i64 aw, .int .i64 ap]) ∧ Gr W1 w')) := by
    by_cases he : heI num den = true
    · exact ⟨_, _, _, fun W1 hG => above_C g num den W1 (rs.below hG.out) ok hv (hl.below hG.out) he, .inr ⟨he, rfl, fun W1 hG => trianglesAt_any num den W1 (rp.below hG.out) (rs.below hG.out) ok he⟩⟩
    · have he' : heI num den = false := by simpa using he
      exact ⟨0, 0, _, fun W1 hG => above_B g num den W1 (rs.below hG.out) ok hv (hl.below hG.out) he', .inl ⟨he', rfl, rfl, rfl⟩⟩
  obtain ⟨i0, hi, hz0, hz1, hz2⟩ := info_parts infoJ
  have HL := hidb ll
  have HIx := hidb (fun (k : Nat) (hk : k < l.length) => iindex b o l.length cap k hk)
  clear hl rp rs ok hv ll hm1
  go_enter Tryd.func4, Tryd.ntmps4
  go_wp2_with fail
  refine CR.out.mono ?_
  rintro e w1 ⟨rfl, hB⟩
  have HG0 := hidb hB
  clear hB CR
  go_wp2_with fail
  refine (S1.out _ HG0.out).mono ?_
  rintro e w2 ⟨rfl, rfl⟩
  obtain ⟨p0, p1, p2⟩ := RP.out.below HG0.out.out
  go_wp2_with fail
  clear p0 p1 p2
  refine (CT.out _ HG0.out).mono ?_
  rintro e w3 ⟨v1, v2, rfl, hTw, hB⟩
  obtain ⟨ad1, bk1, cap1, rfl, hI1⟩ := own_isl2 hTw.r1
  obtain ⟨ad2, bk2, cap2, rfl, hI2⟩ := own_isl2 hTw.r2
  replace HG0 := hidb (Gr.step HG0.out hB.out)
  have HI1 := hidb hI1
  have HI2 := hidb hI2
  clear hB hTw hI1 hI2 CT
  obtain ⟨p0, p1, p2⟩ := RP.out.below HG0.out.out
  go_wp2_with fail
  clear p0 p1 p2
  refine (HAb.out _ HG0.out).mono ?_
  rintro e w4 ⟨rfl, hB⟩
  replace HG0 := hidb (Gr.step HG0.out hB.out)
  replace HI1 := hidb (HI1.out.below hB.out)
  replace HI2 := hidb (HI2.out.below hB.out)
  clear hB HAb
  go_wp2_with fail
  refine (CW.out _ HG0.out).mono ?_
  rintro e w5 ⟨rfl, hB⟩
  replace HG0 := hidb (Gr.step HG0.out hB.out)
  replace HI1 := hidb (HI1.out.below hB.out)
  replace HI2 := hidb (HI2.out.below hB.out)
  clear hB CW
  go_wp2
  obtain ⟨B0, hB0⟩ : ∃ z, w5.heap.size = z := ⟨_, rfl⟩
  have HB0 := hidb hB0
  clear hB0
  generalize hln : l.length = ln at *
  have HLn := hidb hln
  clear hln
  go_loopw [16, 17, 18] (fun v v' t wr => ∃ (k : Nat) (ad ad' : Option Addr) (cp cp' : Nat), k ≤ ln ∧ t = .int .i64 (k : Int) ∧ v = .slice ad (selL (fun i => decide (Top l m i)) k).length cp ∧ v' = .slice ad' (selL (fun i => decide (Bot l m i)) k).length cp' ∧ Hid (Two wr B0 v (selL (fun i => decide (Top l m i)) k) v' (selL (fun i => decide (Bot l m i)) k)) ∧ Hid (Gr w5 wr)) (fun _ _ t _ => ln - (intOf t).toNat)
  case atStart => exact ⟨0, none, none, 0, 0, Nat.zero_le _, rfl, rfl, rfl, hidb (by simpa [selL] using Two.nil _ _), hidb (Gr.refl _)⟩
  case round =>
    obtain ⟨k, ad, ad', cp, cp', hk, rfl, rfl, rfl, HTw, HG⟩ := hrel
    obtain ⟨p0, p1, p2⟩ := RP.out.below (Gr.step HG0.out HG.out.out).out
    by_cases h1 : k < ln
    · have h1' : (k : Int) < (ln : Int) := by omega
      have l1 := selL_le (fun i => decide (Top l m i)) k
      have l2 := selL_le (fun i => decide (Bot l m i)) k
      have HL1 := hidb l1
      have HL2 := hidb l2
      have e5 : IntKind.i64.wrap ((k : Int) + 1) = ((k + 1 : Nat) : Int) := wrap_in (by omega) (by have := HL.out; omega)
      have HS1 := hidb (selL_succ (fun i => decide (Top l m i)) k)
      have HS2 := hidb (selL_succ (fun i => decide (Bot l m i)) k)
      clear l1 l2
      generalize selL (fun i => decide (Top l m i)) k = lt at *
      generalize selL (fun i => decide (Bot l m i)) k = lb at *
      go_wp2
      clear p0 p1 p2
      generalize hwo : wr = wo at *
      clear hwo
      go_loopw [19, 20, 21] (fun t s v21 wr => ∃ (tb sb : Bool) (j : Nat), t = .bool tb ∧ s = .bool sb ∧ v21 = .int .i64 (j : Int) ∧ j ≤ ln ∧ Hid (tb = true ↔ PTo l m k j) ∧ Hid (sb = true ↔ PBo l m k j) ∧ Hid (Gr wo wr)) (fun _ _ v21 _ => ln - (intOf v21).toNat)
      case atStart => exact ⟨true, true, 0, rfl, rfl, rfl, Nat.zero_le _, ⟨fun _ i hi => absurd hi (by omega), fun _ => rfl⟩, ⟨fun _ i hi => absurd hi (by omega), fun _ => rfl⟩, hidb (Gr.refl _)⟩
      case round =>
        obtain ⟨tb, sb, j, rfl, rfl, rfl, hj, HTB, HSB, HGi⟩ := hrel
        have HGt := hidb (Gr.step (Gr.step HG0.out HG.out.out) HGi.out.out)
        obtain ⟨p0, p1, p2⟩ := RP.out.below HGt.out.out
        by_cases h2 : j < ln
        · have h2' : (j : Int) < (ln : Int) := by omega
          have e6 : IntKind.i64.wrap ((j : Int) + 1) = ((j + 1 : Nat) : Int) := wrap_in (by omega) (by have := HL.out; omega)
          have KT := hidb (CTo.out k j h1 h2)
          have ix1 := HIx.out k h1
          have ix2 := HIx.out j h2
          have HC1 : Hid (∀ W : World, Gr w W → W.cell? ⟨b, o + k, none⟩ = some (.int .i64 (gl l k))) := fun W hG => (RS.out.below hG.out).get (by rw [HLn.out]; exact h1)
          have HC2 : Hid (∀ W : World, Gr w W → W.cell? ⟨b, o + j, none⟩ = some (.int .i64 (gl l j))) := fun W hG => (RS.out.below hG.out).get (by rw [HLn.out]; exact h2)
          have ST1 := hidb (PTo.step l m k j)
          have ST2 := hidb (PBo.step l m k j)
          obtain ⟨x1, hx1⟩ : ∃ x, gl l k = x := ⟨_, rfl⟩
          obtain ⟨x2, hx2⟩ : ∃ x, gl l j = x := ⟨_, rfl⟩
          rw [hx1] at HC1
          rw [hx2] at HC2
          rw [hx1, hx2] at ST1 ST2
          clear hx1 hx2
          have HTn : Hid (∀ tc : Bool, decide (tch m k j) = tc → ((tb && (!tc || decide (x2 < x1))) = true ↔ PTo l m k (j + 1))) := fun tc htc => by
            rw [ST1.out, Bool.and_eq_true, HTB.out, ← htc]
            by_cases h : tch m k j <;> simp [h]
          have HSn : Hid (∀ tc : Bool, decide (tch m k j) = tc → ((sb && (!tc || decide (x1 < x2))) = true ↔ PBo l m k (j + 1))) := fun tc htc => by
            rw [ST2.out, Bool.and_eq_true, HSB.out, ← htc]
            by_cases h : tch m k j <;> simp [h]
          clear HTB HSB ST1 ST2
          go_wp2_with fail
          clear p0 p1 p2
          refine (KT.out _ HGt.out).mono ?_
          rintro e w6 ⟨rfl, hB⟩
          replace HGi := hidb (Gr.step HGi.out hB.out)
          replace HGt := hidb (Gr.step HGt.out hB.out)
          clear hB KT
          generalize htc : decide (tch m k j) = tc at *
          replace HTn := hidb (HTn.out tc rfl)
          replace HSn := hidb (HSn.out tc rfl)
          clear htc
          obtain ⟨p0, p1, p2⟩ := RP.out.below HGt.out.out
          have CC1 := HC1.out _ HGt.out
          have CC2 := HC2.out _ HGt.out
          cases tc <;> cases tb <;> cases sb
          all_goals
            go_upto_region 21 with fail
            go_quiet (fail)
            go_upto_region 22 with fail
            clear p0 p1 p2 CC1 CC2
            generalize hwa : World.drewN w6 _ = wa
            replace HGi : Hid (Gr wo wa) := by rw [← hwa]; exact HGi.out.drewN _
            replace HGt : Hid (Gr w wa) := by rw [← hwa]; exact HGt.out.drewN _
            clear hwa
            obtain ⟨p0, p1, p2⟩ := RP.out.below HGt.out.out
            have CC1 := HC1.out _ HGt.out
            have CC2 := HC2.out _ HGt.out
            go_quiet (fail)
            go_wp2
            go_roundw
            case rel => exact ⟨_, _, j + 1, rfl, rfl, rfl, by omega, by simpa using HTn, by simpa using HSn, hidb (HGi.out.drewN _)⟩
            case measure => simp [intOf]; omega
        · have h2' : ¬ (j : Int) < (ln : Int) := by omega
          have hjl : j = ln := by omega
          have HTd : Hid (decide (Top l m k) = tb) := by
            show _ = _
            rw [Bool.eq_iff_iff, decide_eq_true_iff, HTB.out, hjl, ← HLn.out]
            exact Iff.rfl
          have HSd : Hid (decide (Bot l m k) = sb) := by
            show _ = _
            rw [Bool.eq_iff_iff, decide_eq_true_iff, HSB.out, hjl, ← HLn.out]
            exact Iff.rfl
          replace HTw := hidb (HTw.out.below HGi.out.out)
          replace HG := hidb (Gr.step HG.out HGi.out.out)
          clear hjl HTB HSB HGi HGt
          cases tb <;> cases sb
          · have HO1 : Hid (selL (fun i => decide (Top l m i)) (k + 1) = lt) := by show _ = _; have := HS1.out; rw [HTd.out] at this; simpa using this
            have HO2 : Hid (selL (fun i => decide (Bot l m i)) (k + 1) = lb) := by show _ = _; have := HS2.out; rw [HSd.out] at this; simpa using this
            have HN1 : Hid ((selL (fun i => decide (Top l m i)) (k + 1)).length = lt.length) := by show _ = _; rw [HO1.out]
            have HN2 : Hid ((selL (fun i => decide (Bot l m i)) (k + 1)).length = lb.length) := by show _ = _; rw [HO2.out]
            clear HS1 HS2 HTd HSd
            go_wp2
            go_roundw
            case rel => exact ⟨k + 1, ad, ad', cp, cp', by omega, rfl, by first | (rw [HN1.out]; done) | (rw [HN1.out]; simp), by first | (rw [HN2.out]; done) | (rw [HN2.out]; simp), hidb (by rw [HO1.out, HO2.out]; simpa using HTw.out), HG⟩
            case measure => simp [intOf]; omega
          · have HO1 : Hid (selL (fun i => decide (Top l m i)) (k + 1) = lt) := by show _ = _; have := HS1.out; rw [HTd.out] at this; simpa using this
            have HO2 : Hid (selL (fun i => decide (Bot l m i)) (k + 1) = lb ++ [(k : Int)]) := by show _ = _; have := HS2.out; rw [HSd.out] at this; simpa using this
            have HN1 : Hid ((selL (fun i => decide (Top l m i)) (k + 1)).length = lt.length) := by show _ = _; rw [HO1.out]
            have HN2 : Hid ((selL (fun i => decide (Bot l m i)) (k + 1)).length = lb.length + 1) := by show _ = _; rw [HO2.out]; simp
            clear HS1 HS2 HTd HSd
            have hTw := HTw.out
            go_wp2_with (at_builtin; refine wpList_append_own_at _ rfl _ _ 29 rfl B0 3 i0 (.int .i64 0) 1 8 undI hi hz0 hz1 hz2 rfl (by decide) _ _ _ rfl (hTw.r2.alloc _) ⟨wr.heap.size, 0, none⟩ 1 1 [.int .i64 (k : Int)] rfl rfl ?c1_1 ?c2_1 ?c3_1 ?c4_1 ?c5_1 ?_)
            first | (case c1_1 => intro j u hj; exact news1 hj (by simp [go_sem, Addr.add])) | skip
            case c2_1 => first | rfl | (intro u hu; simp at hu; subst hu; rfl)
            case c3_1 => have := HL2.out; have := HL.out; unfold maxLen; omega
            case c4_1 => have := HL2.out; have := HL.out; omega
            case c5_1 => have := HB0.out; have := HG.out.out.size; first | omega | (simp; omega)
            intro u2 w4 hown' hgrow _ hat
            have HTn2 := hidb (hTw.app2 hown' hgrow hat)
            have HGn2 := hidb (gr_app HG.out hTw.r2 (by have := HB0.out; omega) hgrow)
            obtain ⟨bb, bc, dd, hv2, _⟩ := own_isl2 (hTw.app2 hown' hgrow hat).r2
            subst hv2
            clear hgrow hown' hat HTw HG hTw
            have HTw := HTn2
            have HG := HGn2
            clear HTn2 HGn2
            go_wp2
            go_roundw
            case rel => exact ⟨k + 1, ad, bb, cp, dd, by omega, rfl, by first | (rw [HN1.out]; done) | (rw [HN1.out]; simp), by first | (rw [HN2.out]; done) | (rw [HN2.out]; simp), hidb (by rw [HO1.out, HO2.out]; simpa using HTw.out), HG⟩
            case measure => simp [intOf]; omega
          · have HO1 : Hid (selL (fun i => decide (Top l m i)) (k + 1) = lt ++ [(k : Int)]) := by show _ = _; have := HS1.out; rw [HTd.out] at this; simpa using this
            have HO2 : Hid (selL (fun i => decide (Bot l m i)) (k + 1) = lb) := by show _ = _; have := HS2.out; rw [HSd.out] at this; simpa using this
            have HN1 : Hid ((selL (fun i => decide (Top l m i)) (k + 1)).length = lt.length + 1) := by show _ = _; rw [HO1.out]; simp
            have HN2 : Hid ((selL (fun i => decide (Bot l m i)) (k + 1)).length = lb.length) := by show _ = _; rw [HO2.out]
            clear HS1 HS2 HTd HSd
            have hTw := HTw.out
            go_wp2_with (at_builtin; refine wpList_append_own_at _ rfl _ _ 29 rfl B0 3 i0 (.int .i64 0) 1 8 undI hi hz0 hz1 hz2 rfl (by decide) _ _ _ rfl (hTw.r1.alloc _) ⟨wr.heap.size, 0, none⟩ 1 1 [.int .i64 (k : Int)] rfl rfl ?c1_2 ?c2_2 ?c3_2 ?c4_2 ?c5_2 ?_)
            first | (case c1_2 => intro j u hj; exact news1 hj (by simp [go_sem, Addr.add])) | skip
            case c2_2 => first | rfl | (intro u hu; simp at hu; subst hu; rfl)
            case c3_2 => have := HL1.out; have := HL.out; unfold maxLen; omega
            case c4_2 => have := HL1.out; have := HL.out; omega
            case c5_2 => have := HB0.out; have := HG.out.out.size; first | omega | (simp; omega)
            intro u1 w3 hown' hgrow _ hat
            have HTn1 := hidb (hTw.app1 hown' hgrow hat)
            have HGn1 := hidb (gr_app HG.out hTw.r1 (by have := HB0.out; omega) hgrow)
            obtain ⟨aa, ab, cc, hv1, _⟩ := own_isl2 (hTw.app1 hown' hgrow hat).r1
            subst hv1
            clear hgrow hown' hat HTw HG hTw
            have HTw := HTn1
            have HG := HGn1
            clear HTn1 HGn1
            go_wp2
            go_roundw
            case rel => exact ⟨k + 1, aa, ad', cc, cp', by omega, rfl, by first | (rw [HN1.out]; done) | (rw [HN1.out]; simp), by first | (rw [HN2.out]; done) | (rw [HN2.out]; simp), hidb (by rw [HO1.out, HO2.out]; simpa using HTw.out), HG⟩
            case measure => simp [intOf]; omega
          · have HO1 : Hid (selL (fun i => decide (Top l m i)) (k + 1) = lt ++ [(k : Int)]) := by show _ = _; have := HS1.out; rw [HTd.out] at this; simpa using this
            have HO2 : Hid (selL (fun i => decide (Bot l m i)) (k + 1) = lb ++ [(k : Int)]) := by show _ = _; have := HS2.out; rw [HSd.out] at this; simpa using this
            have HN1 : Hid ((selL (fun i => decide (Top l m i)) (k + 1)).length = lt.length + 1) := by show _ = _; rw [HO1.out]; simp
            have HN2 : Hid ((selL (fun i => decide (Bot l m i)) (k + 1)).length = lb.length + 1) := by show _ = _; rw [HO2.out]; simp
            clear HS1 HS2 HTd HSd
            have hTw := HTw.out
            go_wp2_with (at_builtin; refine wpList_append_own_at _ rfl _ _ 29 rfl B0 3 i0 (.int .i64 0) 1 8 undI hi hz0 hz1 hz2 rfl (by decide) _ _ _ rfl (hTw.r1.alloc _) ⟨wr.heap.size, 0, none⟩ 1 1 [.int .i64 (k : Int)] rfl rfl ?c1_3 ?c2_3 ?c3_3 ?c4_3 ?c5_3 ?_)
            first | (case c1_3 => intro j u hj; exact news1 hj (by simp [go_sem, Addr.add])) | skip
            case c2_3 => first | rfl | (intro u hu; simp at hu; subst hu; rfl)
            case c3_3 => have := HL1.out; have := HL.out; unfold maxLen; omega
            case c4_3 => have := HL1.out; have := HL.out; omega
            case c5_3 => have := HB0.out; have := HG.out.out.size; first | omega | (simp; omega)
            intro u1 w3 hown' hgrow _ hat
            have HTn1 := hidb (hTw.app1 hown' hgrow hat)
            have HGn1 := hidb (gr_app HG.out hTw.r1 (by have := HB0.out; omega) hgrow)
            obtain ⟨aa, ab, cc, hv1, _⟩ := own_isl2 (hTw.app1 hown' hgrow hat).r1
            subst hv1
            clear hgrow hown' hat HTw HG hTw
            have HTw := HTn1
            have HG := HGn1
            clear HTn1 HGn1
            have hTw := HTw.out
            go_wp2_with (at_builtin; refine wpList_append_own_at _ rfl _ _ 29 rfl B0 3 i0 (.int .i64 0) 1 8 undI hi hz0 hz1 hz2 rfl (by decide) _ _ _ rfl (hTw.r2.alloc _) ⟨w3.heap.size, 0, none⟩ 1 1 [.int .i64 (k : Int)] rfl rfl ?c1_4 ?c2_4 ?c3_4 ?c4_4 ?c5_4 ?_)
            first | (case c1_4 => intro j u hj; exact news1 hj (by simp [go_sem, Addr.add])) | skip
            case c2_4 => first | rfl | (intro u hu; simp at hu; subst hu; rfl)
            case c3_4 => have := HL2.out; have := HL.out; unfold maxLen; omega
            case c4_4 => have := HL2.out; have := HL.out; omega
            case c5_4 => have := HB0.out; have := HG.out.out.size; first | omega | (simp; omega)
            intro u2 w4 hown' hgrow _ hat
            have HTn2 := hidb (hTw.app2 hown' hgrow hat)
            have HGn2 := hidb (gr_app HG.out hTw.r2 (by have := HB0.out; omega) hgrow)
            obtain ⟨bb, bc, dd, hv2, _⟩ := own_isl2 (hTw.app2 hown' hgrow hat).r2
            subst hv2
            clear hgrow hown' hat HTw HG hTw
            have HTw := HTn2
            have HG := HGn2
            clear HTn2 HGn2
            go_wp2
            go_roundw
            case rel => exact ⟨k + 1, aa, bb, cc, dd, by omega, rfl, by first | (rw [HN1.out]; done) | (rw [HN1.out]; simp), by first | (rw [HN2.out]; done) | (rw [HN2.out]; simp), hidb (by rw [HO1.out, HO2.out]; simpa using HTw.out), HG⟩
            case measure => simp [intOf]; omega
    · have h1' : ¬ (k : Int) < (ln : Int) := by omega
      have hkl : k = ln := by omega
      have hTw := HTw.out
      rw [hkl] at hTw
      obtain ⟨ad3, bk3, cap3, hv3, hI3⟩ := own_isl2 hTw.r1
      obtain ⟨ad4, bk4, cap4, hv4, hI4⟩ := own_isl2 hTw.r2
      rw [← hkl] at hv3 hv4 hI3 hI4 
      replace HI1 := hidb (HI1.out.below HG.out.out)
      replace HI2 := hidb (HI2.out.below HG.out.out)
      rw [← hkl] at HI1 HI2
      have l1 := selL_le (fun i => decide (Top l m i)) k
      have l2 := selL_le (fun i => decide (Bot l m i)) k
      have KE := hidb hkl
      simp only [Value.slice.injEq, true_and] at hv3 hv4
      obtain ⟨rfl, rfl⟩ := hv3
      obtain ⟨rfl, rfl⟩ := hv4
      have Q1 := hidb (fun W1 (hG : Gr wr W1) => CSm.out _ (by have := HL.out; omega) _ _ _ _ _ _ W1 (HI1.out.below hG.out) (hI3.below hG.out))
      have Q2 := hidb (fun W1 (hG : Gr wr W1) => CSm.out _ (by have := HL.out; omega) _ _ _ _ _ _ W1 (HI2.out.below hG.out) (hI4.below hG.out))
      rw [← KE.out]
      clear hkl hTw hI3 hI4 l1 l2 HI1 HI2 HTw
      generalize selL (fun i => decide (Top l m i)) k = lt at *
      generalize selL (fun i => decide (Bot l m i)) k = lb at *
      go_wp2_with fail
      clear p0 p1 p2
      refine (Q1.out _ (Gr.refl _)).mono ?_
      rintro e w6 ⟨rfl, hB⟩
      have HGr := hidb hB
      clear hB Q1
      go_wp2_with fail
      refine (Q2.out _ HGr.out).mono ?_
      rintro e w7 ⟨rfl, hB⟩
      replace HGr := hidb (Gr.step HGr.out hB.out)
      replace HG := hidb (Gr.step HG.out HGr.out.out)
      clear hB Q2 HGr
      rcases hcase.out with ⟨he, rfl, rfl, rfl⟩ | ⟨he, rfl, CQ⟩
      · have hor : den < 1 ∨ (¬ den < 1 ∧ 1048576 < den) ∨ (¬ den < 1 ∧ ¬ 1048576 < den ∧ 4398046511104 < num) ∨ (¬ den < 1 ∧ ¬ 1048576 < den ∧ ¬ 4398046511104 < num ∧ num < -4398046511104) := by
          unfold heI inI at he
          simp only [Bool.and_eq_false_iff, decide_eq_false_iff_not] at he
          omega
        clear he hcase
        rcases hor with c1 | ⟨c1, c2⟩ | ⟨c1, c2, c3⟩ | ⟨c1, c2, c3, c4⟩
        all_goals
          go_wp2_with fail
          refine (CN.out _ (Gr.step HG0.out HG.out.out)).mono ?_
          rintro e w9 ⟨rfl, hB⟩
          replace HG := hidb (Gr.step HG.out hB.out)
          clear hB
          go_wp2
          go_ret
          exact ⟨by simp, Gr.step HG0.out HG.out.out⟩
      · have hand : ¬ den < 1 ∧ ¬ 1048576 < den ∧ ¬ 4398046511104 < num ∧ ¬ num < -4398046511104 := by
          unfold heI inI at he
          simp only [Bool.and_eq_true, decide_eq_true_eq] at he
          omega
        obtain ⟨c1, c2, c3, c4⟩ := hand
        have CQ' := hidb CQ
        clear he hcase CQ
        go_wp2_with fail
        refine (CQ'.out _ (Gr.step HG0.out HG.out.out)).mono ?_
        rintro e w9 ⟨rfl, hB⟩
        replace HG := hidb (Gr.step HG.out hB.out)
        clear hB
        go_wp2
        go_ret
        exact ⟨by simp, Gr.step HG0.out HG.out.out⟩
end Go.Proofs.YthbobceghbknoaaDoor
