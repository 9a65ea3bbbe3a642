/-
  BasinPasses, where the raster is right.
-/
import Derived.Test.YtddnebgnohlchaaGreatDoorQJ26
namespace Go.Proofs.YtddnebgnohlchaaGreatDoor
open Go.RowKit
attribute [local go_sem ↓] Go.wp_at_zero Go.wp_at_succ

/-- What lies in memory while the law looks for the basins of one. -/
structure LV (w0 W : World) (base q : Nat) (v : Value) (M : List Nat) : Prop where
  gr : Gr w0 W
  r : W.ownsRow base 3 1 v q (ir (on M))
  b : w0.heap.size ≤ base ∧ base ≤ W.heap.size
theorem LV.app {w0 W w' : World} {base q : Nat} {v v' : Value} {M : List Nat} {x : Nat} {ob : Obj} (h : LV w0 W base q v M) (hown : w'.ownsRow base 3 1 v' (q + 1) (ir (on M ++ [(x : Int)]))) (hg : (W.alloc ob).grownBy w' v.ownBlock) : LV w0 w' base (q + 1) v' (M ++ [x]) := by
  obtain ⟨b3, b4⟩ := h.b
  refine ⟨Below.grown (h.gr.alloc ob).out hg (by have := h.gr.out.size; simp; omega) (fun k hk => by have := (h.r.lt k hk).1; omega), by rw [show on (M ++ [x]) = on M ++ [(x : Int)] by simp [on]]; exact hown, b3, by have := hg.size; simp at this; omega⟩
set_option maxRecDepth 4000 in
set_option maxHeartbeats 32000000 in
theorem passesL_B (g : Nat → Addr) {m n pb po b o cap : Nat} {l : List Int} (lv : Int) (w : World) (hl : Laid w g) (ra : Rin w pb po m n (some ⟨b, o, none⟩) b o cap l) (hr : Rs w b o cap l) (ok : Ok l m n) (ll : l.length ≤ 80) (hv : vcode m n l = 0) : Calls Tryz.prog 3 #[.pointer (some ⟨pb, po, none⟩), .int .i64 lv] w fun e w' => e = .returned (.bool true) ∧ Gr w w' := by
  have CR := hidb (based_any g w hl.lai)
  have S1 := hidb (fun W1 (hG : Gr w W1) => small4_any pb po m n (some ⟨b, o, none⟩) l.length cap W1 (ra.below hG).pt)
  rw [decide_eq_true ll] at S1
  have C1 := hidb (fun W1 (hG : Gr w W1) => passes_ok g W1 (hr.below hG.out) ok hv (hl.below hG.out).lai)
  have C2 := hidb (fun W1 (hG : Gr w W1) => joined_ok g lv W1 (hr.below hG.out) ok hv (hl.below hG.out).lai)
  have CW := hidb (fun W1 (hG : Gr w W1) => rasterError_any pb po m n (some ⟨b, o, none⟩) b o cap l W1 (ra.below hG).pt (ra.below hG).sl (by omega))
  rw [hv] at CW
  have CF := hidb (fun W1 (hG : Gr w W1) => floodOf_any W1 (ra.below hG).pt (hr.below hG.out) ok)
  have CP := hidb (fun x y W1 (hG : Gr w W1) {ad2 : Option Addr} {b2 cap2 : Nat} (hH : ISl W1 ad2 b2 0 cap2 (hmL m n l)) => passOf_any x y W1 (ra.below hG).pt (hr.below hG.out) ok hH)
  have HR := hidb ra
  have HL := hidb (show l.length ≤ 80 from ll)
  have HOk := hidb ok
  have HHl := hidb (hmL_len m n l)
  have HGl : Hid (∀ i, i < l.length → gl (hmL m n l) i = (hom m n l i : Int)) := fun i hi => by unfold hmL; exact gl_map hi
  have HRm := hidb (fun x (hx : x < l.length) => hom_rim ok hx)
  obtain ⟨F, hF⟩ : ∃ F, F = gP2 m n l := ⟨_, rfl⟩
  obtain ⟨Gv, hGv⟩ : ∃ Gv : Nn → Int, Gv = fun p => (F p).getD 0 := ⟨_, rfl⟩
  have HF1 : Hid (∀ x y, x < y → ∀ o, Lst (Sxy m n l x y) o → F (x, y) = o) := fun x y h o ho => by rw [hF]; exact gP2_eq ok h ho
  have HF2 : Hid (∀ x y, (F (x, y)).isSome = true → hom m n l x = x ∧ hom m n l y = y) := fun x y h => by rw [hF] at h; exact (gP2_key ok h).2.2
  have HGv : Hid (∀ p h, F p = some h → Gv p = h) := fun p h e => by rw [hGv]; simp [e]
  obtain ⟨Q, hQ⟩ : ∃ Q, Q = psQ F l.length l.length 0 := ⟨_, rfl⟩
  have HJI : Hid (JI m n (joN Gv lv Q)) := JI.all Q (fun p hp => (psQ_key ok (by rw [← hF, ← hQ]; exact hp)).2.2)
  have HJL : Hid (jnL m n l lv = lkP m n (joN Gv lv Q) l.length) := by show _ = _; rw [hQ, hGv, hF]; rfl
  have HPs : Hid (∀ W w' e, PsA m n l W w' e → ∃ ad b cap, e = .returned (.tuple #[.slice ad Q.length cap, .nilIface]) ∧ TSl w' Gv ad b cap Q ∧ Gr W w' ∧ Q.length ≤ 65536) := fun W w' e h => by rw [hQ, hGv, hF]; exact h
  obtain ⟨N, hN⟩ : ∃ N, N = l.length := ⟨_, rfl⟩
  have HN := hidb hN
  rw [← hN] at C1 C2 CF CP HHl HL HGl HJL HRm hQ
  have HQ := hidb hQ
  clear hl ra hr ok ll hv hN hQ hGv hF
  go_enter Tryz.func3, Tryz.ntmps3
  go_wp2_with fail
  refine CR.out.mono ?_
  rintro e w1 ⟨rfl, hB⟩
  have G := hidb hB
  clear hB
  go_wp2_with fail
  refine (S1.out _ G.out).mono ?_
  rintro e w2 ⟨rfl, rfl⟩
  obtain ⟨p0, p1, p2⟩ := (HR.out.below G.out).pt.all
  rw [← HN.out] at p2
  go_wp2_with fail
  refine (C1.out _ G.out).mono ?_
  intro e w3 hps
  obtain ⟨qad, qb, qcap, rfl, hT, hB3, hQl⟩ := HPs.out _ _ _ hps
  have HT := hidb hT
  have HPl := hidb hQl
  replace G := hidb (Gr.step G.out hB3.out)
  clear hB3 p0 p1 p2 hT hps hQl HPs
  obtain ⟨p0, p1, p2⟩ := (HR.out.below G.out).pt.all
  rw [← HN.out] at p2
  go_wp2_with fail
  refine (C2.out _ G.out).mono ?_
  rintro e w5 ⟨v, rfl, base, vs, hRR, -, hB5⟩
  replace G := hidb (Gr.step G.out hB5.out)
  replace HT := hidb (HT.out.below hB5.out)
  have HRR := hidb hRR
  rw [HJL.out] at HRR
  clear hB5 p0 p1 p2 hRR
  go_wp2_with fail
  refine (CW.out _ G.out).mono ?_
  rintro e w7 ⟨rfl, hB7⟩
  replace G := hidb (Gr.step G.out hB7.out)
  replace HT := hidb (HT.out.below hB7.out)
  replace HRR := hidb (HRR.out.below hB7.out)
  clear hB7
  go_wp2_with fail
  refine (CF.out _ G.out).mono ?_
  rintro e w8 ⟨FI, TO, bs2, vo2, Lf, Lt, Ls, rfl, hFI, hTO, hvo2, -, hRs, hB8⟩
  replace G := hidb (Gr.step G.out hB8.out)
  replace HT := hidb (HT.out.below hB8.out)
  replace HRR := hidb (HRR.out.below hB8.out)
  have HTw : Hid (TwL m n l Lt) := by
    rw [HN.out] at hRs
    exact TwL.of HOk.out hRs
  have HHm := hidb (homes_any HOk.out (.slice (some ⟨FI, 0, none⟩) N N) vo2 w8 (HR.out.below G.out).pt hTO HTw.out)
  rw [← HN.out] at HHm
  clear hB8 hFI hTO hvo2 hRs HTw
  go_wp2_with fail
  refine HHm.out.mono ?_
  rintro e w9 ⟨v', rfl, bs3, hown, -, hB9⟩
  obtain ⟨ad2, b2, cap2, rfl, hI2⟩ := own_isl2 hown
  rw [HHl.out]
  replace G := hidb (Gr.step G.out hB9.out)
  replace HT := hidb (HT.out.below hB9.out)
  replace HRR := hidb (HRR.out.below hB9.out)
  have IH := hidb hI2
  have HIx := hidb hI2.ix
  rw [HHl.out] at HIx
  clear hB9 hown hI2 HHm
  have HCx : Hid (∀ x W, x < N → Gr w9 W → W.cell? ⟨b2, x, none⟩ = some (.int .i64 (hom m n l x : Int))) := fun x W hx hG => by
    have := (IH.out.below hG.out).gcell (k := x) (by rw [HHl.out]; exact hx)
    rw [Nat.zero_add, HGl.out x hx] at this
    exact this
  obtain ⟨adv, gv2, capv, rfl, hvix, hvc⟩ := HRR.out.shape
  have HVx := hidb hvix
  have HVn : Hid (vs.length = (lkP m n (joN Gv lv Q) N).length) := HRR.out.n
  have HVc := hidb (fun (k : Nat) (hk : k < vs.length) (W : World) (hG : Gr w9 W) => (hG.out.cell (p := ⟨gv2, k, none⟩) (hvc k hk).1).trans (hvc k hk).2)
  have HVi := hidb (fun (k : Nat) (hk : k < vs.length) => own_islb (HRR.out.i k hk))
  obtain ⟨V, hV⟩ : ∃ V, V = vs.length := ⟨_, rfl⟩
  rw [← hV] at HVx HVn HVc HVi ⊢
  have HV : Hid (V ≤ 80) := by show _ ≤ _; rw [HVn.out, ← fsP_end]; have := fsP_len m n (joN Gv lv Q) N; have := HL.out; omega
  clear hvix hvc hV
  have HTx := hidb HT.out.ix
  obtain ⟨K, hK⟩ : ∃ K, K = Q.length := ⟨_, rfl⟩
  have HK := hidb hK
  rw [← hK] at HTx HPl ⊢
  clear hK
  obtain ⟨CS, hCS, mk⟩ := made_run N (by have := HL.out; omega)
  have A0 : Hid (At (w9.alloc (.cells CS 3)) w9.heap.size (ir (idK N 0)) ∧ Gr w9 (w9.alloc (.cells CS 3))) := ⟨by rw [idK_0, ← hCS]; exact At.newArr _ _ _, (Gr.refl w9).alloc _⟩
  clear hCS
  go_wp2
  obtain ⟨OB, hOB⟩ : ∃ B, B = w9.heap.size := ⟨_, rfl⟩
  rw [← hOB] at A0 ⊢
  have HOB := hidb (show w9.heap.size ≤ OB by omega)
  clear hOB mk
  generalize w9.alloc (.cells CS 3) = wA at *
  go_loopw [14] (fun t wr => ∃ k : Nat, k ≤ N ∧ t = .int .i64 (k : Int) ∧ Hid (At wr OB (ir (idK N k)) ∧ Gr w9 wr)) (fun t _ => N - (intOf t).toNat)
  case atStart => exact ⟨0, Nat.zero_le _, rfl, A0⟩
  case round =>
    clear A0
    obtain ⟨k, hk, rfl, E⟩ := hrel
    by_cases h1 : ¬ k < N
    · have h1' : ¬ (k : Int) < (N : Int) := by omega
      obtain rfl : k = N := by omega
      have E0 : Hid (Gr w9 wr ∧ At wr OB (ir (rhL (joN Gv lv (psQ F k 0 0)) k))) := ⟨E.out.2, by rw [psQ_zero]; have := E.out.1; rw [idK_rh] at this; exact this⟩
      clear h1 E
      go_wp2
      go_loopw [15, 16] (fun s t wr => ∃ (q x : Nat), x ≤ k ∧ s = .int .i64 (q : Int) ∧ t = .int .i64 (x : Int) ∧ Hid (q = (psQ F k x 0).length) ∧ Hid (Gr w9 wr ∧ At wr OB (ir (rhL (joN Gv lv (psQ F k x 0)) k)))) (fun _ t _ => k - (intOf t).toNat)
      case atStart => exact ⟨0, 0, Nat.zero_le _, rfl, rfl, hidb (by rw [psQ_zero]; rfl), E0⟩
      case round =>
        clear E0
        obtain ⟨q, x, hx, rfl, rfl, Eq, E⟩ := hrel
        by_cases h2 : ¬ x < k
        · have h2' : ¬ (x : Int) < (k : Int) := by omega
          have hxk : x = k := by omega
          rw [hxk, ← HQ.out] at Eq E
          have HqK : Hid (q = K) := by show _ = _; rw [Eq.out, HK.out]
          obtain rfl := HqK.out
          clear h2 Eq
          go_wp2
          obtain ⟨ρ, hρ⟩ : ∃ r, r = joN Gv lv Q := ⟨_, rfl⟩
          rw [← hρ] at HJI HVn HVi E
          generalize wr = wB at *
          have HOw := hidb E
          have HG0 := hidb E.out.1
          clear hρ E CP HT HTx HF1 HF2 HGv HRR
          go_loopw [15, 20] (fun s t wz => ∃ (k' i : Nat), i ≤ k ∧ s = .int .i64 (k' : Int) ∧ t = .int .i64 (i : Int) ∧ Hid (k' = (fsP m n ρ i).length) ∧ Hid (Gr wB wz)) (fun _ t _ => k - (intOf t).toNat)
          case atStart => exact ⟨0, 0, Nat.zero_le _, rfl, rfl, hidb rfl, hidb (Gr.refl wB)⟩
          case round =>
            obtain ⟨k', i, hi, rfl, rfl, Ek, Gz⟩ := hrel
            by_cases h4 : ¬ i < k
            · have h4' : ¬ (i : Int) < (k : Int) := by omega
              obtain rfl : i = k := by omega
              have HE : Hid (k' = V) := by show _ = _; rw [Ek.out, HVn.out, fsP_end]
              have HW := hidb (Gr.step G.out (Gr.step HG0.out Gz.out.out))
              obtain rfl := HE.out
              clear h4 Ek
              go_wp2
              go_ret
              exact ⟨by simp, HW.out⟩
            · have h4' : (i : Int) < (k : Int) := by omega
              have hik : i < k := by omega
              have Hik := hidb hik
              have e2 : IntKind.i64.wrap ((i : Int) + 1) = ((i + 1 : Nat) : Int) := by rw [show (i : Int) + 1 = ((i + 1 : Nat) : Int) by omega]; exact wrap_in (by have := HL.out; omega) (by have := HL.out; omega)
              have ixi := HIx.out i hik
              have ixo := iindex OB 0 k k i hik
              rw [Nat.zero_add] at ixi ixo
              have ci := HCx.out i wr hik (Gr.step HG0.out Gz.out.out)
              obtain ⟨co, -⟩ := (At.below Gz.out.out HOw.out.out.2).get (j := i) (by rw [rhL_len]; exact hik)
              rw [gl_get (by rw [rhL_len]; exact hik), rhL_get hik] at co
              have Hsu := hidb (fsP_succ m n ρ i)
              have Hri := hidb (HRm.out i hik)
              have HGt := hidb (fun h => fsP_get (m := m) (n := n) (ρ := ρ) hik h)
              by_cases c : hom m n l i = i
              · have hrm := Hri.out.1 c
                by_cases d : ρ i = i
                · have HS : Hid (fsP m n ρ (i + 1) = fsP m n ρ i ++ [i]) := by show _ = _; rw [Hsu.out, if_pos ⟨hrm, d⟩]
                  have HGi := hidb (HGt.out ⟨hrm, d⟩)
                  rw [c] at ci
                  rw [d] at co
                  clear hrm h4 hik Hsu HGt hi c d
                  go_wp2
                  generalize wr = wz at *
                  obtain ⟨bs, hbs⟩ : ∃ z, z = wz.heap.size := ⟨_, rfl⟩
                  have E5 : Hid (LV wz wz bs 0 (.slice none 0 0) (wnP m n ρ i i)) := ⟨Gr.refl _, by rw [wnP_low HJI.out.le]; exact World.ownsRow_nil _ _ _ _, by rw [hbs]; exact Nat.le_refl _, by rw [hbs]; exact Nat.le_refl _⟩
                  have E6 : Hid (0 = (wnP m n ρ i i).length) := by show _ = _; rw [wnP_low HJI.out.le]; rfl
                  clear hbs
                  go_loopw [21, 22] (fun u t w4 => ∃ (j q : Nat), (i ≤ j ∧ j ≤ k) ∧ t = .int .i64 (j : Int) ∧ Hid (q = (wnP m n ρ i j).length) ∧ Hid (LV wz w4 bs q u (wnP m n ρ i j))) (fun _ t _ => k - (intOf t).toNat)
                  case atStart => exact ⟨i, 0, ⟨Nat.le_refl _, Nat.le_of_lt Hik.out⟩, by go_num, E6, E5⟩
                  case round =>
                    clear E5 E6
                    obtain ⟨j, q, hj, rfl, Eq, X⟩ := hrel
                    obtain ⟨ad1, cap1, rfl⟩ := own_shape1' X.out.r
                    by_cases h5 : ¬ j < k
                    · have h5' : ¬ (j : Int) < (k : Int) := by omega
                      obtain rfl : j = k := by omega
                      obtain ⟨ad5, b5, cap5, hvv, hS, -⟩ := own_islb X.out.r
                      have hvq : ad1 = ad5 ∧ q = (on (wnP m n ρ i j)).length ∧ cap1 = cap5 := by simpa using hvv
                      obtain ⟨rfl, hqo, rfl⟩ := hvq
                      have hkV : k' < V := by rw [HVn.out, Ek.out]; exact HGi.out.1
                      have hkV' : (k' : Int) < (V : Int) := by omega
                      have ixk := HVx.out k' hkV
                      obtain ⟨ad3, b3, cap3, hvx, hisl, -⟩ := HVi.out k' hkV
                      have hGr := Gr.step HG0.out (Gr.step Gz.out X.out.gr.out).out
                      have ck := HVc.out k' hkV _ hGr
                      have hlx : lx (lkP m n ρ j) k' = on (wnP m n ρ i j) := by rw [Ek.out]; exact HGi.out.2
                      rw [hlx] at hvx hisl
                      rw [hvx] at ck
                      have hql : (on (wnP m n ρ i j)).length ≤ 20000 := by have := wnP_len m n ρ i j; have := HL.out; simp [on]; omega
                      have HSa := hidb (sameInts_eq hql _ (hisl.below hGr.out) hS)
                      have HQg := hidb (Gr.step Gz.out X.out.gr.out)
                      rw [← hqo] at HSa ck
                      have e3 : IntKind.i64.wrap ((k' : Int) + 1) = ((k' + 1 : Nat) : Int) := by rw [show (k' : Int) + 1 = ((k' + 1 : Nat) : Int) by omega]; exact wrap_in (by have := HV.out; omega) (by have := HV.out; omega)
                      have HKl : Hid (k' + 1 = (fsP m n ρ (i + 1)).length) := by show _ = _; rw [HS.out, List.length_append, Ek.out]; rfl
                      clear h5 hj hvv hS hvx hisl hlx hql hqo hkV hGr X Eq
                      go_wp2_with fail
                      refine HSa.out.mono ?_
                      rintro e w12 ⟨rfl, hB12⟩
                      have HZ := hidb (Gr.step HQg.out hB12.out)
                      clear hB12 HSa ck
                      go_wp2
                      go_roundw
                      case rel => exact ⟨k' + 1, i + 1, Hik.out, by go_num, by go_num, HKl, HZ⟩
                      case measure => have := Hik.out; simp [intOf]; omega
                    · have h5' : (j : Int) < (k : Int) := by omega
                      have hjk : j < k := by omega
                      have Hjk := hidb hjk
                      have Hij := hidb hj.1
                      have e3 : IntKind.i64.wrap ((j : Int) + 1) = ((j + 1 : Nat) : Int) := by rw [show (j : Int) + 1 = ((j + 1 : Nat) : Int) by omega]; exact wrap_in (by have := HL.out; omega) (by have := HL.out; omega)
                      have ixj := HIx.out j hjk
                      have ixp := iindex OB 0 k k j hjk
                      rw [Nat.zero_add] at ixj ixp
                      have hGz := Gr.step Gz.out X.out.gr.out
                      have cj := HCx.out j _ hjk (Gr.step HG0.out hGz.out)
                      obtain ⟨cp, -⟩ := (At.below hGz.out HOw.out.out.2).get (j := j) (by rw [rhL_len]; exact hjk)
                      rw [gl_get (by rw [rhL_len]; exact hjk), rhL_get hjk] at cp
                      have Hsj := hidb (wnP_succ m n ρ i j)
                      have Hrj := hidb (HRm.out j hjk)
                      have HQ5 : Hid (q = (wnP m n ρ i j).length ∧ q ≤ 20000) := ⟨Eq.out, by have := wnP_len m n ρ i j; have := HL.out; have := Eq.out; omega⟩
                      clear hGz h5 hj hjk
                      by_cases c5 : hom m n l j = j
                      · have hrm5 := Hrj.out.1 c5
                        by_cases d5 : ρ j = i
                        · have HS5 : Hid (wnP m n ρ i (j + 1) = wnP m n ρ i j ++ [j]) := by show _ = _; rw [Hsj.out, if_pos ⟨hrm5, d5⟩]
                          rw [c5] at cj
                          rw [d5] at cp
                          clear hrm5 c5 d5 Hsj Hrj Eq
                          go_wp2_with (at_builtin; refine wpList_iw _ bs (.slice ad1 q cap1) (on (wnP m n ρ i j)) (j : Int) q wr.heap.size _ _ rfl rfl rfl rfl HQ5.out.2 (X.out.r.alloc _) (At.at1 rfl _ _) (by have := X.out.b.2; simp; omega) (wr.heap.size + 1) (by simp) ?_; intro g2 cap3 w3 hown hgrow)
                          have HE3 := hidb (X.out.app hown.out hgrow.out)
                          rw [← HS5.out] at HE3
                          clear hown hgrow X cj cp
                          go_wp2
                          go_roundw
                          case rel => exact ⟨j + 1, q + 1, ⟨by have := Hij.out; omega, Hjk.out⟩, by go_num, hidb (by rw [HS5.out, List.length_append, ← HQ5.out.1]; rfl), HE3⟩
                          case measure => have := Hjk.out; simp [intOf]; omega
                        · have HS5 : Hid (wnP m n ρ i (j + 1) = wnP m n ρ i j) := by show _ = _; rw [Hsj.out, if_neg (fun h => d5 h.2), List.append_nil]
                          rw [c5] at cj
                          generalize ρ j = rj at *
                          have hI : ¬ (rj : Int) = (i : Int) := by omega
                          have hB : ((rj : Int) == (i : Int)) = false := by simpa using hI
                          clear hrm5 c5 d5 Hsj Hrj
                          go_wp2
                          go_roundw
                          case rel => exact ⟨j + 1, q, ⟨by have := Hij.out; omega, Hjk.out⟩, by go_num, by rw [HS5.out]; exact Eq, by rw [HS5.out]; exact X⟩
                          case measure => have := Hjk.out; simp [intOf]; omega
                      · have HS5 : Hid (wnP m n ρ i (j + 1) = wnP m n ρ i j) := by show _ = _; rw [Hsj.out, if_neg (fun h => c5 (Hrj.out.2 h.1)), List.append_nil]
                        generalize hom m n l j = hj5 at *
                        have hI : ¬ (hj5 : Int) = (j : Int) := by omega
                        have hB : ((hj5 : Int) == (j : Int)) = false := by simpa using hI
                        clear c5 Hsj Hrj
                        go_wp2
                        go_roundw
                        case rel => exact ⟨j + 1, q, ⟨by have := Hij.out; omega, Hjk.out⟩, by go_num, by rw [HS5.out]; exact Eq, by rw [HS5.out]; exact X⟩
                        case measure => have := Hjk.out; simp [intOf]; omega
                · have HS : Hid (fsP m n ρ (i + 1) = fsP m n ρ i) := by show _ = _; rw [Hsu.out, if_neg (fun h => d h.2), List.append_nil]
                  rw [c] at ci
                  generalize ρ i = ri at *
                  have hI : ¬ (ri : Int) = (i : Int) := by omega
                  have hB : ((ri : Int) == (i : Int)) = false := by simpa using hI
                  clear hrm h4 hik Hsu HGt hi c d
                  go_wp2
                  go_roundw
                  case rel => exact ⟨k', i + 1, Hik.out, rfl, by go_num, by rw [HS.out]; exact Ek, Gz⟩
                  case measure => have := Hik.out; simp [intOf]; omega
              · have HS : Hid (fsP m n ρ (i + 1) = fsP m n ρ i) := by show _ = _; rw [Hsu.out, if_neg (fun h => c (Hri.out.2 h.1)), List.append_nil]
                generalize hom m n l i = hi6 at *
                have hI : ¬ (hi6 : Int) = (i : Int) := by omega
                have hB : ((hi6 : Int) == (i : Int)) = false := by simpa using hI
                clear h4 hik Hsu HGt hi c
                go_wp2
                go_roundw
                case rel => exact ⟨k', i + 1, Hik.out, rfl, by go_num, by rw [HS.out]; exact Ek, Gz⟩
                case measure => have := Hik.out; simp [intOf]; omega
        · have h2' : (x : Int) < (k : Int) := by omega
          have hxk : x < k := by omega
          have Hxk := hidb hxk
          have e2 : IntKind.i64.wrap ((x : Int) + 1) = ((x + 1 : Nat) : Int) := by rw [show (x : Int) + 1 = ((x + 1 : Nat) : Int) by omega]; exact wrap_in (by have := HL.out; omega) (by have := HL.out; omega)
          have E1 : Hid (q = (psQ F k x (x + 1)).length) := by rw [psQ_start]; exact Eq
          have E2 : Hid (Gr w9 wr ∧ At wr OB (ir (rhL (joN Gv lv (psQ F k x (x + 1))) k))) := by rw [psQ_start]; exact E
          clear h2 hxk Eq E hx
          go_wp2
          go_loopw [15, 17] (fun s t wr => ∃ (q y : Nat), (x + 1 ≤ y ∧ y ≤ k) ∧ s = .int .i64 (q : Int) ∧ t = .int .i64 (y : Int) ∧ Hid (q = (psQ F k x y).length) ∧ Hid (Gr w9 wr ∧ At wr OB (ir (rhL (joN Gv lv (psQ F k x y)) k)))) (fun _ t _ => k - (intOf t).toNat)
          case atStart => exact ⟨q, x + 1, ⟨Nat.le_refl _, Hxk.out⟩, rfl, by go_num, E1, E2⟩
          case round =>
            clear E1 E2
            obtain ⟨q, y, hy, rfl, rfl, Eq, E⟩ := hrel
            by_cases h3 : ¬ y < k
            · have h3' : ¬ (y : Int) < (k : Int) := by omega
              obtain rfl : y = k := by omega
              rw [← psQ_next] at Eq E
              clear h3 hy
              go_wp2
              go_roundw
              case rel => exact ⟨q, x + 1, Hxk.out, rfl, by go_num, Eq, E⟩
              case measure => have := Hxk.out; simp [intOf]; omega
            · have h3' : (y : Int) < (k : Int) := by omega
              have hyk : y < k := by omega
              have Hyk := hidb hyk
              have Hxy := hidb (show x < y by omega)
              have e3 : IntKind.i64.wrap ((y : Int) + 1) = ((y + 1 : Nat) : Int) := by rw [show (y : Int) + 1 = ((y + 1 : Nat) : Int) by omega]; exact wrap_in (by have := HL.out; omega) (by have := HL.out; omega)
              have ixx := HIx.out x Hxk.out
              have ixy := HIx.out y hyk
              rw [Nat.zero_add] at ixx ixy
              have cx := HCx.out x wr Hxk.out E.out.1
              have cy := HCx.out y wr hyk E.out.1
              have HNo : Hid (¬ (F (x, y)).isSome = true → psQ F k x (y + 1) = psQ F k x y) := fun h => psQ_no F k (fun hh => h hh.2)
              have HF2' := hidb (HF2.out x y)
              generalize hom m n l x = hx at *
              generalize hom m n l y = hy2 at *
              by_cases c : hx = x
              · by_cases d : hy2 = y
                · subst c
                  subst d
                  have hPf := HF1.out hx hy2 Hxy.out
                  have HPf := hidb hPf
                  have HAt := hidb (fun h => psQ_at (G := F) Hxk.out Hxy.out hyk h)
                  rw [← HQ.out, ← HK.out] at HAt
                  clear h3 hy hyk hPf
                  go_wp2_with fail
                  refine (CP.out hx hy2 _ (Gr.step G.out E.out.1.out) (IH.out.below E.out.1.out)).mono ?_
                  rintro e w12 ⟨o2, rfl, hL, hB⟩
                  have hFo := HPf.out o2 hL
                  replace E := hidb (show Gr w9 w12 ∧ At w12 OB (ir (rhL (joN Gv lv (psQ F k hx hy2)) k)) from ⟨Gr.step E.out.1 hB.out, At.below hB.out E.out.2⟩)
                  clear hB hL cx cy HPf
                  cases o2 with
                  | none =>
                    have HS := hidb (HNo.out (by rw [hFo]; simp))
                    clear hFo HAt HNo
                    go_wp2
                    go_roundw
                    case rel => exact ⟨q, hy2 + 1, ⟨by have := Hxy.out; omega, Hyk.out⟩, rfl, by go_num, by rw [HS.out]; exact Eq, by rw [HS.out]; exact E⟩
                    case measure => have := Hyk.out; simp [intOf]; omega
                  | some h =>
                    obtain ⟨a1, a2, a3⟩ := HAt.out (by rw [hFo]; rfl)
                    rw [← Eq.out] at a1 a2
                    have hqQ : q < Q.length := by rw [← HK.out]; exact a1
                    obtain ⟨⟨c0, c1, c2⟩, -⟩ := (HT.out.below E.out.1.out).row q hqQ
                    have ixq := HTx.out q a1
                    rw [a2] at c0 c1 c2
                    rw [HGv.out _ _ hFo] at c2
                    dsimp only at c0 c1
                    have hqI : ¬ (K : Int) ≤ (q : Int) := by omega
                    have e4 : IntKind.i64.wrap ((q : Int) + 1) = ((q + 1 : Nat) : Int) := by rw [show (q : Int) + 1 = ((q + 1 : Nat) : Int) by omega]; exact wrap_in (by have := HPl.out; omega) (by have := HPl.out; omega)
                    have HS : Hid (q + 1 = (psQ F k hx (hy2 + 1)).length) := by show _ = _; rw [a3, List.length_append, ← Eq.out]; rfl
                    have HJ : Hid (joN Gv lv (psQ F k hx (hy2 + 1)) = if h ≤ lv then jnR (joN Gv lv (psQ F k hx hy2)) hx hy2 else joN Gv lv (psQ F k hx hy2)) := by show _ = _; rw [a3, joN_snoc, HGv.out _ _ hFo]
                    clear a1 a2 a3 hqQ hFo HAt HNo
                    by_cases hh : h ≤ lv
                    · rw [if_pos hh] at HJ
                      have HJa := hidb (joinAll_any hx hy2 Hxk.out Hyk.out (by have := HL.out; omega) w12 E.out.2)
                      go_wp2_with fail
                      refine HJa.out.mono ?_
                      rintro e w13 ⟨rfl, hA, hon⟩
                      have E3 : Hid (Gr w9 w13 ∧ At w13 OB (ir (rhL (joN Gv lv (psQ F k hx (hy2 + 1))) k))) := ⟨E.out.1.onl hon HOB.out, by rw [HJ.out]; exact hA⟩
                      clear hA hon HJa E c0 c1 c2
                      go_wp2
                      go_roundw
                      case rel => exact ⟨q + 1, hy2 + 1, ⟨by have := Hxy.out; omega, Hyk.out⟩, by go_num, by go_num, HS, E3⟩
                      case measure => have := Hyk.out; simp [intOf]; omega
                    · rw [if_neg hh] at HJ
                      go_wp2
                      go_roundw
                      case rel => exact ⟨q + 1, hy2 + 1, ⟨by have := Hxy.out; omega, Hyk.out⟩, by go_num, by go_num, HS, by rw [HJ.out]; exact E⟩
                      case measure => have := Hyk.out; simp [intOf]; omega
                · have HS := hidb (HNo.out (fun h => d (HF2'.out h).2))
                  have hI : ¬ (hy2 : Int) = (y : Int) := by omega
                  have hB : ((hy2 : Int) == (y : Int)) = false := by simpa using hI
                  subst c
                  clear h3 hyk HNo d
                  go_wp2
                  go_roundw
                  case rel => exact ⟨q, y + 1, ⟨by have := Hxy.out; omega, Hyk.out⟩, rfl, by go_num, by rw [HS.out]; exact Eq, by rw [HS.out]; exact E⟩
                  case measure => have := Hyk.out; simp [intOf]; omega
              · have HS := hidb (HNo.out (fun h => c (HF2'.out h).1))
                have hI : ¬ (hx : Int) = (x : Int) := by omega
                have hB : ((hx : Int) == (x : Int)) = false := by simpa using hI
                clear h3 hyk HNo c
                go_wp2
                go_roundw
                case rel => exact ⟨q, y + 1, ⟨by have := Hxy.out; omega, Hyk.out⟩, rfl, by go_num, by rw [HS.out]; exact Eq, by rw [HS.out]; exact E⟩
                case measure => have := Hyk.out; simp [intOf]; omega
    · have h1' : (k : Int) < (N : Int) := by omega
      have hkN : k < N := by omega
      have e1 : IntKind.i64.wrap ((k : Int) + 1) = ((k + 1 : Nat) : Int) := by rw [show (k : Int) + 1 = ((k + 1 : Nat) : Int) by omega]; exact wrap_in (by have := HL.out; omega) (by have := HL.out; omega)
      have ix := iindex OB 0 N N k hkN
      rw [Nat.zero_add] at ix
      obtain ⟨c1, f1⟩ := E.out.1.get (j := k) (by rw [idK_len]; exact hkN)
      rw [gl_get (by rw [idK_len]; exact hkN)] at c1
      have HE : Hid (At (wr.setCell ⟨OB, k, none⟩ (.int .i64 (k : Int))) OB (ir (idK N (k + 1))) ∧ Gr w9 (wr.setCell ⟨OB, k, none⟩ (.int .i64 (k : Int)))) := ⟨by rw [← idK_set, ← ir_set]; exact E.out.1.put k _, E.out.2.set HOB.out _ _⟩
      clear h1 E
      go_wp2
      go_roundw
      case rel => exact ⟨k + 1, hkN, by go_num, HE⟩
      case measure => simp [intOf]; omega
end Go.Proofs.YtddnebgnohlchaaGreatDoor
