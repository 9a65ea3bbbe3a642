/-
  mercatorref5.MapError.
-/
import Derived.Test.YtnadgoomkaldkaaDoorQTk
import Derived.Test.YtnadgoomkaldkaaDoorQSfH
namespace Go.Proofs.YtnadgoomkaldkaaDoor
open Go.RowKit
attribute [local go_sem ↓] Go.wp_at_zero Go.wp_at_succ

theorem ar_st {l : List Sp} (h : arP l) : stA l := fun k hk e => (h.2.1 (k + 1) (by omega)).2 (by omega) (by rw [Nat.add_sub_cancel]; exact e.symm)
theorem mcd_ap {Ls : List (List Sp)} (h1 : ¬ 60 < Ls.length) (h2 : ¬ 4000 < Ls.flatten.length) (h : ∀ i, i < Ls.length → arP (lx Ls i)) : (apP Ls → mcd Ls = 0) ∧ (¬ apP Ls → mcd Ls = 7) := by
  have hi := apart_iff (Ls := Ls) (fun i hi => (h i hi).1) (fun i hi => ar_st (h i hi))
  constructor
  · intro ha
    obtain ⟨h3, h4⟩ := hi.1 ha
    exact mcd_0 h1 h2 h h3 h4
  · intro ha
    by_cases h3 : cwP Ls
    · exact mcd_7 h1 h2 h (.inl h3)
    · by_cases h4 : tgP (ppL Ls)
      · exact mcd_7 h1 h2 h (.inr h4)
      · exact absurd (hi.2 ⟨h3, h4⟩) ha
set_option maxRecDepth 20000 in
set_option maxHeartbeats 32000000 in
theorem mapError_any {pb po : Nat} {ad : Option Addr} {b o cap : Nat} {Ls : List (List Sp)} (hN : Ls.length ≤ 4611686018427387904) (hlen : Ls.flatten.length ≤ 5000) (w : World) (hp : w.cell? ⟨pb, po, none⟩ = some (.slice ad Ls.length cap) ∧ pb < w.heap.size) (h : LLs w ad b o cap Ls) : Calls Tryd.prog 8 #[.pointer (some ⟨pb, po, none⟩)] w fun e w' => e = .returned (.int .i64 (mcd Ls : Int)) ∧ Gr w w' := by
  have HR := hidb h
  have HX := hidb h.ix
  have HLn := hidb hlen
  have HP : Hid (∀ W, Gr w W → W.cell? ⟨pb, po, none⟩ = some (.slice ad Ls.length cap)) := fun W hG => (hG.out.cell (p := ⟨pb, po, none⟩) hp.2).trans hp.1
  have HL5 : Hid (∀ i, i < Ls.length → (lx Ls i).length ≤ 5000) := fun i hi => by
    have h3 := flat_le Ls (i + 1)
    rw [take_flat Ls hi, List.length_append, lx_get hi] at h3
    omega
  have HAp := hidb (fun (hN6 : Ls.length ≤ 60) (hok : okL Ls) W (hG : Gr w W) => apart_any (pb := pb) (po := po) hN6 HL5.out hok W ⟨HP.out W hG, Nat.lt_of_lt_of_le hp.2 hG.out.size⟩ (h.below hG.out))
  obtain ⟨N, hNn⟩ : ∃ N, N = Ls.length := ⟨_, rfl⟩
  have HN := hidb hNn
  rw [← hNn] at HX HP hN
  have HNb := hidb hN
  clear h hlen hN hNn hp
  go_enter Tryd.func8, Tryd.ntmps8
  go_upto_region 3 with fail
  go_loopw [3, 4] (fun s t wr => ∃ i : Nat, i ≤ N ∧ s = .int .i64 (tLn Ls i : Int) ∧ t = .int .i64 (i : Int) ∧ Hid (wr = w)) (fun _ t _ => N - (intOf t).toNat)
  case atStart => exact ⟨0, Nat.zero_le _, by simp [tLn], rfl, hidb rfl⟩
  case round =>
    obtain ⟨i, hi, rfl, rfl, E⟩ := hrel
    have hE := E.out.symm
    subst hE
    clear E
    have cP := HP.out w (Gr.refl w)
    by_cases h1 : ¬ i < N
    · have h1' : ¬ (i : Int) < (N : Int) := by omega
      have hT : tLn Ls i = Ls.flatten.length := by unfold tLn; rw [show i = Ls.length by have := HN.out; omega, List.take_length]
      rw [hT]
      obtain ⟨tot, htot⟩ : ∃ z, z = Ls.flatten.length := ⟨_, rfl⟩
      have HTt := hidb htot
      rw [← htot]
      clear h1 hT htot
      by_cases h6 : 60 < N
      · have h6' : (60 : Int) < (N : Int) := by omega
        have HZ := hidb (mcd_2 (Ls := Ls) (.inl (by rw [← HN.out]; exact h6)))
        clear h6
        go_wp2
        go_ret
        exact ⟨by rw [HZ.out]; rfl, Gr.refl _⟩
      · have h6' : ¬ (60 : Int) < (N : Int) := by omega
        by_cases h4 : 4000 < tot
        · have h4' : (4000 : Int) < (tot : Int) := by omega
          have HZ := hidb (mcd_2 (Ls := Ls) (.inr (by rw [← HTt.out]; exact h4)))
          clear h6 h4
          go_wp2
          go_ret
          exact ⟨by rw [HZ.out]; rfl, Gr.refl _⟩
        · have h4' : ¬ (4000 : Int) < (tot : Int) := by omega
          have H64 := hidb (show ¬ 60 < Ls.length ∧ ¬ 4000 < Ls.flatten.length ∧ N ≤ 60 from ⟨by rw [← HN.out]; exact h6, by rw [← HTt.out]; exact h4, by omega⟩)
          have E0 := hidb (show (∀ j, j < 0 → arP (lx Ls j)) ∧ Gr w w from ⟨fun j hj => absurd hj (Nat.not_lt_zero _), Gr.refl _⟩)
          clear h6 h4
          go_upto_region 9 with fail
          clear cP
          go_loopw [5] (fun t wr => ∃ i : Nat, i ≤ N ∧ t = .int .i64 (i : Int) ∧ Hid ((∀ j, j < i → arP (lx Ls j)) ∧ Gr w wr)) (fun t _ => N - (intOf t).toNat)
          case atStart => exact ⟨0, Nat.zero_le _, rfl, E0⟩
          case round =>
            clear E0
            obtain ⟨i, hi, rfl, E⟩ := hrel
            have cP := HP.out _ E.out.2
            by_cases h1 : ¬ i < N
            · have h1' : ¬ (i : Int) < (N : Int) := by omega
              have hall : ∀ j, j < Ls.length → arP (lx Ls j) := fun j hj => E.out.1 j (by have := HN.out; omega)
              have HC := hidb (HAp.out (by have := H64.out; omega) (fun j hj k hk => ((hall j hj).2.1 k hk).1) wr E.out.2)
              have HMc := hidb (mcd_ap H64.out.1 H64.out.2.1 hall)
              have GE := hidb E.out.2
              clear h1 hall E
              go_wp2_with fail
              refine HC.out.mono ?_
              rintro e w2 ⟨rfl, hB2⟩
              have G2 := hidb (Gr.step GE.out hB2.out)
              clear hB2 cP
              by_cases ha : apP Ls
              · rw [apB_t ha]
                have HZ := hidb (HMc.out.1 ha)
                clear ha
                go_wp2
                go_ret
                exact ⟨by rw [HZ.out]; rfl, G2.out⟩
              · rw [apB_f ha]
                have HZ := hidb (HMc.out.2 ha)
                clear ha
                go_wp2
                go_ret
                exact ⟨by rw [HZ.out]; rfl, G2.out⟩
            · have h1' : (i : Int) < (N : Int) := by omega
              have hiN : i < N := by omega
              have hiL : i < Ls.length := by rw [← HN.out]; exact hiN
              have H1 := hidb hiN
              have HE1 : Hid (IntKind.i64.wrap ((i : Int) + 1) = ((i + 1 : Nat) : Int)) := by show _ = _; rw [show (i : Int) + 1 = ((i + 1 : Nat) : Int) by omega]; exact wr_in (by omega) (by have := H64.out; omega)
              obtain ⟨⟨adA, bA, oA, capA, c0w, hSA⟩, cb⟩ := HR.out.row i hiL
              have c0 := (E.out.2.out.cell (p := ⟨b, o + i, none⟩) cb).trans c0w
              have ix := HX.out i hiN
              have HSA := hidb hSA
              have HlA := hidb (HL5.out i hiL)
              have HNo : Hid (¬ arP (lx Ls i) → mcd Ls = 3) := fun ha => mcd_3 H64.out.1 H64.out.2.1 hiL ha
              have HYe : Hid (arP (lx Ls i) → ∀ j, j < i + 1 → arP (lx Ls j)) := fun ha j hj => by
                by_cases e : j = i
                · rw [e]; exact ha
                · exact E.out.1 j (by omega)
              have GE := hidb E.out.2
              generalize lx Ls i = a at *
              obtain ⟨la, hla⟩ : ∃ z, z = a.length := ⟨_, rfl⟩
              have HLa := hidb hla
              rw [← hla] at HlA c0
              have HIA := hidb (fun k (hk : k < la) => HSA.out.ix k (by rw [← hla]; exact hk))
              rw [← hla] at HIA
              clear h1 hiN hiL c0w cb hSA hla E
              go_upto_region 12 with fail
              clear c0 ix cP h1'
              go_cut [74] from 55 to 75 (fun t wx => t = .bool (decide (la < 2 ∨ (sx a 0 = sx a (la - 1) ∧ la < 4))) ∧ Hid (Gr w wx ∧ True))
              case first =>
                by_cases c1 : la < 2
                · have c1' : (la : Int) < 2 := by omega
                  have hD := hidb (show decide (la < 2 ∨ (sx a 0 = sx a (la - 1) ∧ la < 4)) = true from decide_eq_true (.inl c1))
                  clear c1
                  refine wp_region_held_drew (S := (fun _ => True)) (by kernel_rfl) ?_ (fun hHeld => ?_)
                  · (try dsimp only); (try exact trivial)
                  skip
                  refine wt (i := 0) (v := ?vr12t1q0x3) rfl ?hr12t1q0x3 ?rr12t1q0x3
                  case hr12t1q0x3 => (intro w hSw; (try dsimp only at hSw); go_simp; try with_reducible rfl)
                  (try simp only [Act.put, lq1, lq2, lq4, lq5, lq6])
                  refine wt (i := 1) (v := ?vr12t1q1x6) rfl ?hr12t1q1x6 ?rr12t1q1x6
                  case hr12t1q1x6 => (intro w hSw; (try dsimp only at hSw); go_simp; try with_reducible rfl)
                  (try simp only [Act.put, lq1, lq2, lq3, lq4, lq5, lq6])
                  refine wt (i := 2) (v := ?vr12t1q2x9) rfl ?hr12t1q2x9 ?rr12t1q2x9
                  case hr12t1q2x9 => (intro w hSw; (try dsimp only at hSw); go_simp; try with_reducible rfl)
                  (try simp only [Act.put, lq1, lq2, lq3, lq4, lq5, lq6])
                  refine wt (i := 3) (v := ?vr12t1q3x12) rfl ?hr12t1q3x12 ?rr12t1q3x12
                  case hr12t1q3x12 => (intro w hSw; (try dsimp only at hSw); go_simp; try with_reducible rfl)
                  (try simp only [Act.put, lq1, lq2, lq3, lq4, lq5, lq6])
                  refine wu (i := 4) rfl ?_
                  (try simp only [Act.put, lq1, lq2, lq3, lq4, lq5, lq6])
                  refine wu (i := 5) rfl ?_
                  (try simp only [Act.put, lq1, lq2, lq3, lq4, lq5, lq6])
                  refine wu (i := 6) rfl ?_
                  (try simp only [Act.put, lq1, lq2, lq3, lq4, lq5, lq6])
                  refine wu (i := 7) rfl ?_
                  (try simp only [Act.put, lq1, lq2, lq3, lq4, lq5, lq6])
                  refine wu (i := 8) rfl ?_
                  (try simp only [Act.put, lq1, lq2, lq3, lq4, lq5, lq6])
                  refine wu (i := 9) rfl ?_
                  (try simp only [Act.put, lq1, lq2, lq3, lq4, lq5, lq6])
                  refine wu (i := 10) rfl ?_
                  (try simp only [Act.put, lq1, lq2, lq3, lq4, lq5, lq6])
                  refine wu (i := 11) rfl ?_
                  (try simp only [Act.put, lq1, lq2, lq3, lq4, lq5, lq6])
                  refine wu (i := 12) rfl ?_
                  (try simp only [Act.put, lq1, lq2, lq3, lq4, lq5, lq6])
                  refine wu (i := 13) rfl ?_
                  (try simp only [Act.put, lq1, lq2, lq3, lq4, lq5, lq6])
                  refine wu (i := 14) rfl ?_
                  (try simp only [Act.put, lq1, lq2, lq3, lq4, lq5, lq6])
                  refine wu (i := 15) rfl ?_
                  (try simp only [Act.put, lq1, lq2, lq3, lq4, lq5, lq6])
                  refine wu (i := 16) rfl ?_
                  (try simp only [Act.put, lq1, lq2, lq3, lq4, lq5, lq6])
                  refine wu (i := 17) rfl ?_
                  (try simp only [Act.put, lq1, lq2, lq3, lq4, lq5, lq6])
                  refine wu (i := 18) rfl ?_
                  (try simp only [Act.put, lq1, lq2, lq3, lq4, lq5, lq6])
                  refine wt (i := 19) (v := ?vr12t1q19x45) rfl ?hr12t1q19x45 ?rr12t1q19x45
                  case hr12t1q19x45 => (intro w hSw; (try dsimp only at hSw); go_simp; try with_reducible rfl)
                  (try simp only [Act.put, lq1, lq2, lq3, lq4, lq5, lq6])
                  refine wpAnyH_done (by kernel_rfl) ?_ _
                  go_wp2_with fail
                  go_meet
                  exact ⟨by rw [hD.out], hidb ⟨GE.out.drew, trivial⟩⟩
                · have c1' : ¬ (la : Int) < 2 := by omega
                  have ixa := HIA.out 0 (by omega)
                  have ixb := HIA.out (la - 1) (by omega)
                  rw [Nat.zero_mul, Nat.add_zero] at ixa
                  push_cast at ixa
                  obtain ⟨l1, hl1⟩ : ∃ z : Int, z = ((la - 1 : Nat) : Int) := ⟨_, rfl⟩
                  have el1 : IntKind.i64.wrap ((la : Int) - 1) = l1 := by rw [hl1, show (la : Int) - 1 = ((la - 1 : Nat) : Int) by omega]; exact wr_in (by omega) (by have := HlA.out; omega)
                  rw [← hl1] at ixb
                  obtain ⟨p0, hp0⟩ : ∃ z, z = sx a 0 := ⟨_, rfl⟩
                  obtain ⟨p1, hp1⟩ : ∃ z, z = sx a (la - 1) := ⟨_, rfl⟩
                  obtain ⟨u0, hu0⟩ : ∃ z, z = oA := ⟨_, rfl⟩
                  obtain ⟨u1, hu1⟩ : ∃ z, z = oA + (la - 1) * 2 := ⟨_, rfl⟩
                  have HC : Hid (∀ W, Gr w W → (W.cell? ⟨bA, u0, none⟩ = some (.int .i64 p0.1) ∧ W.cell? ⟨bA, u0 + 1, none⟩ = some (.int .i64 p0.2)) ∧ W.cell? ⟨bA, u1, none⟩ = some (.int .i64 p1.1) ∧ W.cell? ⟨bA, u1 + 1, none⟩ = some (.int .i64 p1.2)) := fun W hG => by
                    have h1 := ((HSA.out.gr hG).row 0 (by rw [← HLa.out]; omega)).1
                    have h2 := ((HSA.out.gr hG).row (la - 1) (by rw [← HLa.out]; omega)).1
                    rw [Nat.zero_mul, Nat.add_zero] at h1
                    rw [hu0, hu1, hp0, hp1]
                    exact ⟨h1, h2⟩
                  rw [← hu0] at ixa
                  rw [← hu1] at ixb
                  have hDD : decide (la < 2 ∨ (sx a 0 = sx a (la - 1) ∧ la < 4)) = decide (p0 = p1 ∧ la < 4) := by
                    rw [decide_eq_decide, hp0, hp1]
                    exact ⟨fun h => h.elim (fun h => absurd h c1) id, .inr⟩
                  have g1 := sp_eq p0 p1
                  clear hp0 hp1 hu0 hu1 hl1 c1
                  by_cases c2 : p0 = p1
                  · rw [decide_eq_true c2] at g1
                    by_cases c3 : la < 4
                    · have c3' : (la : Int) < 4 := by omega
                      have hD := hidb (hDD.trans (decide_eq_true ⟨c2, c3⟩))
                      clear c2 c3 hDD
                      refine wp_region_held_drew (S := (fun w' => (w'.cell? ⟨bA, u0, none⟩ = some (.int .i64 p0.1) ∧ w'.cell? ⟨bA, u0 + 1, none⟩ = some (.int .i64 p0.2)) ∧ w'.cell? ⟨bA, u1, none⟩ = some (.int .i64 p1.1) ∧ w'.cell? ⟨bA, u1 + 1, none⟩ = some (.int .i64 p1.2))) (by kernel_rfl) ?_ (fun hHeld => ?_)
                      · (try dsimp only); exact HC.out _ GE.out.drew
                      skip
                      refine wt (i := 0) (v := ?vr12t2q0x3) rfl ?hr12t2q0x3 ?rr12t2q0x3
                      case hr12t2q0x3 => (intro w hSw; (try dsimp only at hSw); obtain ⟨⟨x1, x2⟩, x3, x4⟩ := hSw; go_simp; try with_reducible rfl)
                      (try simp only [Act.put, lq1, lq2, lq4, lq5, lq6])
                      refine wt (i := 1) (v := ?vr12t2q1x6) rfl ?hr12t2q1x6 ?rr12t2q1x6
                      case hr12t2q1x6 => (intro w hSw; (try dsimp only at hSw); obtain ⟨⟨x1, x2⟩, x3, x4⟩ := hSw; go_simp; try with_reducible rfl)
                      (try simp only [Act.put, lq1, lq2, lq3, lq4, lq5, lq6])
                      refine wt (i := 2) (v := ?vr12t2q2x9) rfl ?hr12t2q2x9 ?rr12t2q2x9
                      case hr12t2q2x9 => (intro w hSw; (try dsimp only at hSw); obtain ⟨⟨x1, x2⟩, x3, x4⟩ := hSw; go_simp; try with_reducible rfl)
                      (try simp only [Act.put, lq1, lq2, lq3, lq4, lq5, lq6])
                      refine wt (i := 3) (v := ?vr12t2q3x12) rfl ?hr12t2q3x12 ?rr12t2q3x12
                      case hr12t2q3x12 => (intro w hSw; (try dsimp only at hSw); obtain ⟨⟨x1, x2⟩, x3, x4⟩ := hSw; go_simp; try with_reducible rfl)
                      (try simp only [Act.put, lq1, lq2, lq3, lq4, lq5, lq6])
                      refine wt (i := 4) (v := ?vr12t2q4x15) rfl ?hr12t2q4x15 ?rr12t2q4x15
                      case hr12t2q4x15 => (intro w hSw; (try dsimp only at hSw); obtain ⟨⟨x1, x2⟩, x3, x4⟩ := hSw; go_simp; try with_reducible rfl)
                      (try simp only [Act.put, lq1, lq2, lq3, lq4, lq5, lq6])
                      refine wt (i := 5) (v := ?vr12t2q5x18) rfl ?hr12t2q5x18 ?rr12t2q5x18
                      case hr12t2q5x18 => (intro w hSw; (try dsimp only at hSw); obtain ⟨⟨x1, x2⟩, x3, x4⟩ := hSw; go_simp; try with_reducible rfl)
                      (try simp only [Act.put, lq1, lq2, lq3, lq4, lq5, lq6])
                      refine wt (i := 6) (v := ?vr12t2q6x21) rfl ?hr12t2q6x21 ?rr12t2q6x21
                      case hr12t2q6x21 => (intro w hSw; (try dsimp only at hSw); obtain ⟨⟨x1, x2⟩, x3, x4⟩ := hSw; go_simp; try with_reducible rfl)
                      (try simp only [Act.put, lq1, lq2, lq3, lq4, lq5, lq6])
                      refine wt (i := 7) (v := ?vr12t2q7x24) rfl ?hr12t2q7x24 ?rr12t2q7x24
                      case hr12t2q7x24 => (intro w hSw; (try dsimp only at hSw); obtain ⟨⟨x1, x2⟩, x3, x4⟩ := hSw; go_simp; try with_reducible rfl)
                      (try simp only [Act.put, lq1, lq2, lq3, lq4, lq5, lq6])
                      refine wt (i := 8) (v := ?vr12t2q8x27) rfl ?hr12t2q8x27 ?rr12t2q8x27
                      case hr12t2q8x27 => (intro w hSw; (try dsimp only at hSw); obtain ⟨⟨x1, x2⟩, x3, x4⟩ := hSw; go_simp; try with_reducible rfl)
                      (try simp only [Act.put, lq1, lq2, lq3, lq4, lq5, lq6])
                      refine wt (i := 9) (v := ?vr12t2q9x30) rfl ?hr12t2q9x30 ?rr12t2q9x30
                      case hr12t2q9x30 => (intro w hSw; (try dsimp only at hSw); obtain ⟨⟨x1, x2⟩, x3, x4⟩ := hSw; go_simp; try with_reducible rfl)
                      (try simp only [Act.put, lq1, lq2, lq3, lq4, lq5, lq6])
                      refine wt (i := 10) (v := ?vr12t2q10x33) rfl ?hr12t2q10x33 ?rr12t2q10x33
                      case hr12t2q10x33 => (intro w hSw; (try dsimp only at hSw); obtain ⟨⟨x1, x2⟩, x3, x4⟩ := hSw; go_simp; try with_reducible rfl)
                      (try simp only [Act.put, lq1, lq2, lq3, lq4, lq5, lq6])
                      refine wt (i := 11) (v := ?vr12t2q11x36) rfl ?hr12t2q11x36 ?rr12t2q11x36
                      case hr12t2q11x36 => (intro w hSw; (try dsimp only at hSw); obtain ⟨⟨x1, x2⟩, x3, x4⟩ := hSw; go_simp; try with_reducible rfl)
                      (try simp only [Act.put, lq1, lq2, lq3, lq4, lq5, lq6])
                      refine wt (i := 12) (v := ?vr12t2q12x39) rfl ?hr12t2q12x39 ?rr12t2q12x39
                      case hr12t2q12x39 => (intro w hSw; (try dsimp only at hSw); obtain ⟨⟨x1, x2⟩, x3, x4⟩ := hSw; go_simp; try with_reducible rfl)
                      (try simp only [Act.put, lq1, lq2, lq3, lq4, lq5, lq6])
                      refine wt (i := 13) (v := ?vr12t2q13x42) rfl ?hr12t2q13x42 ?rr12t2q13x42
                      case hr12t2q13x42 => (intro w hSw; (try dsimp only at hSw); obtain ⟨⟨x1, x2⟩, x3, x4⟩ := hSw; go_simp; try with_reducible rfl)
                      (try simp only [Act.put, lq1, lq2, lq3, lq4, lq5, lq6])
                      refine wt (i := 14) (v := ?vr12t2q14x45) rfl ?hr12t2q14x45 ?rr12t2q14x45
                      case hr12t2q14x45 => (intro w hSw; (try dsimp only at hSw); obtain ⟨⟨x1, x2⟩, x3, x4⟩ := hSw; go_simp; try with_reducible rfl)
                      (try simp only [Act.put, lq1, lq2, lq3, lq4, lq5, lq6])
                      refine wt (i := 15) (v := ?vr12t2q15x48) rfl ?hr12t2q15x48 ?rr12t2q15x48
                      case hr12t2q15x48 => (intro w hSw; (try dsimp only at hSw); obtain ⟨⟨x1, x2⟩, x3, x4⟩ := hSw; go_simp; try with_reducible rfl)
                      (try simp only [Act.put, lq1, lq2, lq3, lq4, lq5, lq6])
                      refine wt (i := 16) (v := ?vr12t2q16x51) rfl ?hr12t2q16x51 ?rr12t2q16x51
                      case hr12t2q16x51 => (intro w hSw; (try dsimp only at hSw); obtain ⟨⟨x1, x2⟩, x3, x4⟩ := hSw; go_simp; try with_reducible rfl)
                      (try simp only [Act.put, lq1, lq2, lq3, lq4, lq5, lq6])
                      refine wt (i := 17) (v := ?vr12t2q17x54) rfl ?hr12t2q17x54 ?rr12t2q17x54
                      case hr12t2q17x54 => (intro w hSw; (try dsimp only at hSw); obtain ⟨⟨x1, x2⟩, x3, x4⟩ := hSw; go_simp; try with_reducible rfl)
                      (try simp only [Act.put, lq1, lq2, lq3, lq4, lq5, lq6])
                      refine wt (i := 18) (v := ?vr12t2q18x57) rfl ?hr12t2q18x57 ?rr12t2q18x57
                      case hr12t2q18x57 => (intro w hSw; (try dsimp only at hSw); obtain ⟨⟨x1, x2⟩, x3, x4⟩ := hSw; go_simp; try with_reducible rfl)
                      (try simp only [Act.put, lq1, lq2, lq3, lq4, lq5, lq6])
                      refine wt (i := 19) (v := ?vr12t2q19x60) rfl ?hr12t2q19x60 ?rr12t2q19x60
                      case hr12t2q19x60 => (intro w hSw; (try dsimp only at hSw); obtain ⟨⟨x1, x2⟩, x3, x4⟩ := hSw; go_simp; try with_reducible rfl)
                      (try simp only [Act.put, lq1, lq2, lq3, lq4, lq5, lq6])
                      refine wpAnyH_done (by kernel_rfl) ?_ _
                      go_wp2_with fail
                      go_meet
                      exact ⟨by rw [hD.out], hidb ⟨GE.out.drew, trivial⟩⟩
                    · have c3' : ¬ (la : Int) < 4 := by omega
                      have hD := hidb (hDD.trans (decide_eq_false (fun h => c3 h.2)))
                      clear c2 c3 hDD
                      refine wp_region_held_drew (S := (fun w' => (w'.cell? ⟨bA, u0, none⟩ = some (.int .i64 p0.1) ∧ w'.cell? ⟨bA, u0 + 1, none⟩ = some (.int .i64 p0.2)) ∧ w'.cell? ⟨bA, u1, none⟩ = some (.int .i64 p1.1) ∧ w'.cell? ⟨bA, u1 + 1, none⟩ = some (.int .i64 p1.2))) (by kernel_rfl) ?_ (fun hHeld => ?_)
                      · (try dsimp only); exact HC.out _ GE.out.drew
                      skip
                      refine wt (i := 0) (v := ?vr12t3q0x3) rfl ?hr12t3q0x3 ?rr12t3q0x3
                      case hr12t3q0x3 => (intro w hSw; (try dsimp only at hSw); obtain ⟨⟨x1, x2⟩, x3, x4⟩ := hSw; go_simp; try with_reducible rfl)
                      (try simp only [Act.put, lq1, lq2, lq4, lq5, lq6])
                      refine wt (i := 1) (v := ?vr12t3q1x6) rfl ?hr12t3q1x6 ?rr12t3q1x6
                      case hr12t3q1x6 => (intro w hSw; (try dsimp only at hSw); obtain ⟨⟨x1, x2⟩, x3, x4⟩ := hSw; go_simp; try with_reducible rfl)
                      (try simp only [Act.put, lq1, lq2, lq3, lq4, lq5, lq6])
                      refine wt (i := 2) (v := ?vr12t3q2x9) rfl ?hr12t3q2x9 ?rr12t3q2x9
                      case hr12t3q2x9 => (intro w hSw; (try dsimp only at hSw); obtain ⟨⟨x1, x2⟩, x3, x4⟩ := hSw; go_simp; try with_reducible rfl)
                      (try simp only [Act.put, lq1, lq2, lq3, lq4, lq5, lq6])
                      refine wt (i := 3) (v := ?vr12t3q3x12) rfl ?hr12t3q3x12 ?rr12t3q3x12
                      case hr12t3q3x12 => (intro w hSw; (try dsimp only at hSw); obtain ⟨⟨x1, x2⟩, x3, x4⟩ := hSw; go_simp; try with_reducible rfl)
                      (try simp only [Act.put, lq1, lq2, lq3, lq4, lq5, lq6])
                      refine wt (i := 4) (v := ?vr12t3q4x15) rfl ?hr12t3q4x15 ?rr12t3q4x15
                      case hr12t3q4x15 => (intro w hSw; (try dsimp only at hSw); obtain ⟨⟨x1, x2⟩, x3, x4⟩ := hSw; go_simp; try with_reducible rfl)
                      (try simp only [Act.put, lq1, lq2, lq3, lq4, lq5, lq6])
                      refine wt (i := 5) (v := ?vr12t3q5x18) rfl ?hr12t3q5x18 ?rr12t3q5x18
                      case hr12t3q5x18 => (intro w hSw; (try dsimp only at hSw); obtain ⟨⟨x1, x2⟩, x3, x4⟩ := hSw; go_simp; try with_reducible rfl)
                      (try simp only [Act.put, lq1, lq2, lq3, lq4, lq5, lq6])
                      refine wt (i := 6) (v := ?vr12t3q6x21) rfl ?hr12t3q6x21 ?rr12t3q6x21
                      case hr12t3q6x21 => (intro w hSw; (try dsimp only at hSw); obtain ⟨⟨x1, x2⟩, x3, x4⟩ := hSw; go_simp; try with_reducible rfl)
                      (try simp only [Act.put, lq1, lq2, lq3, lq4, lq5, lq6])
                      refine wt (i := 7) (v := ?vr12t3q7x24) rfl ?hr12t3q7x24 ?rr12t3q7x24
                      case hr12t3q7x24 => (intro w hSw; (try dsimp only at hSw); obtain ⟨⟨x1, x2⟩, x3, x4⟩ := hSw; go_simp; try with_reducible rfl)
                      (try simp only [Act.put, lq1, lq2, lq3, lq4, lq5, lq6])
                      refine wt (i := 8) (v := ?vr12t3q8x27) rfl ?hr12t3q8x27 ?rr12t3q8x27
                      case hr12t3q8x27 => (intro w hSw; (try dsimp only at hSw); obtain ⟨⟨x1, x2⟩, x3, x4⟩ := hSw; go_simp; try with_reducible rfl)
                      (try simp only [Act.put, lq1, lq2, lq3, lq4, lq5, lq6])
                      refine wt (i := 9) (v := ?vr12t3q9x30) rfl ?hr12t3q9x30 ?rr12t3q9x30
                      case hr12t3q9x30 => (intro w hSw; (try dsimp only at hSw); obtain ⟨⟨x1, x2⟩, x3, x4⟩ := hSw; go_simp; try with_reducible rfl)
                      (try simp only [Act.put, lq1, lq2, lq3, lq4, lq5, lq6])
                      refine wt (i := 10) (v := ?vr12t3q10x33) rfl ?hr12t3q10x33 ?rr12t3q10x33
                      case hr12t3q10x33 => (intro w hSw; (try dsimp only at hSw); obtain ⟨⟨x1, x2⟩, x3, x4⟩ := hSw; go_simp; try with_reducible rfl)
                      (try simp only [Act.put, lq1, lq2, lq3, lq4, lq5, lq6])
                      refine wt (i := 11) (v := ?vr12t3q11x36) rfl ?hr12t3q11x36 ?rr12t3q11x36
                      case hr12t3q11x36 => (intro w hSw; (try dsimp only at hSw); obtain ⟨⟨x1, x2⟩, x3, x4⟩ := hSw; go_simp; try with_reducible rfl)
                      (try simp only [Act.put, lq1, lq2, lq3, lq4, lq5, lq6])
                      refine wt (i := 12) (v := ?vr12t3q12x39) rfl ?hr12t3q12x39 ?rr12t3q12x39
                      case hr12t3q12x39 => (intro w hSw; (try dsimp only at hSw); obtain ⟨⟨x1, x2⟩, x3, x4⟩ := hSw; go_simp; try with_reducible rfl)
                      (try simp only [Act.put, lq1, lq2, lq3, lq4, lq5, lq6])
                      refine wt (i := 13) (v := ?vr12t3q13x42) rfl ?hr12t3q13x42 ?rr12t3q13x42
                      case hr12t3q13x42 => (intro w hSw; (try dsimp only at hSw); obtain ⟨⟨x1, x2⟩, x3, x4⟩ := hSw; go_simp; try with_reducible rfl)
                      (try simp only [Act.put, lq1, lq2, lq3, lq4, lq5, lq6])
                      refine wt (i := 14) (v := ?vr12t3q14x45) rfl ?hr12t3q14x45 ?rr12t3q14x45
                      case hr12t3q14x45 => (intro w hSw; (try dsimp only at hSw); obtain ⟨⟨x1, x2⟩, x3, x4⟩ := hSw; go_simp; try with_reducible rfl)
                      (try simp only [Act.put, lq1, lq2, lq3, lq4, lq5, lq6])
                      refine wt (i := 15) (v := ?vr12t3q15x48) rfl ?hr12t3q15x48 ?rr12t3q15x48
                      case hr12t3q15x48 => (intro w hSw; (try dsimp only at hSw); obtain ⟨⟨x1, x2⟩, x3, x4⟩ := hSw; go_simp; try with_reducible rfl)
                      (try simp only [Act.put, lq1, lq2, lq3, lq4, lq5, lq6])
                      refine wt (i := 16) (v := ?vr12t3q16x51) rfl ?hr12t3q16x51 ?rr12t3q16x51
                      case hr12t3q16x51 => (intro w hSw; (try dsimp only at hSw); obtain ⟨⟨x1, x2⟩, x3, x4⟩ := hSw; go_simp; try with_reducible rfl)
                      (try simp only [Act.put, lq1, lq2, lq3, lq4, lq5, lq6])
                      refine wt (i := 17) (v := ?vr12t3q17x54) rfl ?hr12t3q17x54 ?rr12t3q17x54
                      case hr12t3q17x54 => (intro w hSw; (try dsimp only at hSw); obtain ⟨⟨x1, x2⟩, x3, x4⟩ := hSw; go_simp; try with_reducible rfl)
                      (try simp only [Act.put, lq1, lq2, lq3, lq4, lq5, lq6])
                      refine wt (i := 18) (v := ?vr12t3q18x57) rfl ?hr12t3q18x57 ?rr12t3q18x57
                      case hr12t3q18x57 => (intro w hSw; (try dsimp only at hSw); obtain ⟨⟨x1, x2⟩, x3, x4⟩ := hSw; go_simp; try with_reducible rfl)
                      (try simp only [Act.put, lq1, lq2, lq3, lq4, lq5, lq6])
                      refine wt (i := 19) (v := ?vr12t3q19x60) rfl ?hr12t3q19x60 ?rr12t3q19x60
                      case hr12t3q19x60 => (intro w hSw; (try dsimp only at hSw); obtain ⟨⟨x1, x2⟩, x3, x4⟩ := hSw; go_simp; try with_reducible rfl)
                      (try simp only [Act.put, lq1, lq2, lq3, lq4, lq5, lq6])
                      refine wpAnyH_done (by kernel_rfl) ?_ _
                      go_wp2_with fail
                      go_meet
                      exact ⟨by rw [hD.out], hidb ⟨GE.out.drew, trivial⟩⟩
                  · rw [decide_eq_false c2] at g1
                    have hD := hidb (hDD.trans (decide_eq_false (fun h => c2 h.1)))
                    clear c2 hDD
                    refine wp_region_held_drew (S := (fun w' => (w'.cell? ⟨bA, u0, none⟩ = some (.int .i64 p0.1) ∧ w'.cell? ⟨bA, u0 + 1, none⟩ = some (.int .i64 p0.2)) ∧ w'.cell? ⟨bA, u1, none⟩ = some (.int .i64 p1.1) ∧ w'.cell? ⟨bA, u1 + 1, none⟩ = some (.int .i64 p1.2))) (by kernel_rfl) ?_ (fun hHeld => ?_)
                    · (try dsimp only); exact HC.out _ GE.out.drew
                    skip
                    refine wt (i := 0) (v := ?vr12t4q0x3) rfl ?hr12t4q0x3 ?rr12t4q0x3
                    case hr12t4q0x3 => (intro w hSw; (try dsimp only at hSw); obtain ⟨⟨x1, x2⟩, x3, x4⟩ := hSw; go_simp; try with_reducible rfl)
                    (try simp only [Act.put, lq1, lq2, lq4, lq5, lq6])
                    refine wt (i := 1) (v := ?vr12t4q1x6) rfl ?hr12t4q1x6 ?rr12t4q1x6
                    case hr12t4q1x6 => (intro w hSw; (try dsimp only at hSw); obtain ⟨⟨x1, x2⟩, x3, x4⟩ := hSw; go_simp; try with_reducible rfl)
                    (try simp only [Act.put, lq1, lq2, lq3, lq4, lq5, lq6])
                    refine wt (i := 2) (v := ?vr12t4q2x9) rfl ?hr12t4q2x9 ?rr12t4q2x9
                    case hr12t4q2x9 => (intro w hSw; (try dsimp only at hSw); obtain ⟨⟨x1, x2⟩, x3, x4⟩ := hSw; go_simp; try with_reducible rfl)
                    (try simp only [Act.put, lq1, lq2, lq3, lq4, lq5, lq6])
                    refine wt (i := 3) (v := ?vr12t4q3x12) rfl ?hr12t4q3x12 ?rr12t4q3x12
                    case hr12t4q3x12 => (intro w hSw; (try dsimp only at hSw); obtain ⟨⟨x1, x2⟩, x3, x4⟩ := hSw; go_simp; try with_reducible rfl)
                    (try simp only [Act.put, lq1, lq2, lq3, lq4, lq5, lq6])
                    refine wt (i := 4) (v := ?vr12t4q4x15) rfl ?hr12t4q4x15 ?rr12t4q4x15
                    case hr12t4q4x15 => (intro w hSw; (try dsimp only at hSw); obtain ⟨⟨x1, x2⟩, x3, x4⟩ := hSw; go_simp; try with_reducible rfl)
                    (try simp only [Act.put, lq1, lq2, lq3, lq4, lq5, lq6])
                    refine wt (i := 5) (v := ?vr12t4q5x18) rfl ?hr12t4q5x18 ?rr12t4q5x18
                    case hr12t4q5x18 => (intro w hSw; (try dsimp only at hSw); obtain ⟨⟨x1, x2⟩, x3, x4⟩ := hSw; go_simp; try with_reducible rfl)
                    (try simp only [Act.put, lq1, lq2, lq3, lq4, lq5, lq6])
                    refine wt (i := 6) (v := ?vr12t4q6x21) rfl ?hr12t4q6x21 ?rr12t4q6x21
                    case hr12t4q6x21 => (intro w hSw; (try dsimp only at hSw); obtain ⟨⟨x1, x2⟩, x3, x4⟩ := hSw; go_simp; try with_reducible rfl)
                    (try simp only [Act.put, lq1, lq2, lq3, lq4, lq5, lq6])
                    refine wt (i := 7) (v := ?vr12t4q7x24) rfl ?hr12t4q7x24 ?rr12t4q7x24
                    case hr12t4q7x24 => (intro w hSw; (try dsimp only at hSw); obtain ⟨⟨x1, x2⟩, x3, x4⟩ := hSw; go_simp; try with_reducible rfl)
                    (try simp only [Act.put, lq1, lq2, lq3, lq4, lq5, lq6])
                    refine wt (i := 8) (v := ?vr12t4q8x27) rfl ?hr12t4q8x27 ?rr12t4q8x27
                    case hr12t4q8x27 => (intro w hSw; (try dsimp only at hSw); obtain ⟨⟨x1, x2⟩, x3, x4⟩ := hSw; go_simp; try with_reducible rfl)
                    (try simp only [Act.put, lq1, lq2, lq3, lq4, lq5, lq6])
                    refine wt (i := 9) (v := ?vr12t4q9x30) rfl ?hr12t4q9x30 ?rr12t4q9x30
                    case hr12t4q9x30 => (intro w hSw; (try dsimp only at hSw); obtain ⟨⟨x1, x2⟩, x3, x4⟩ := hSw; go_simp; try with_reducible rfl)
                    (try simp only [Act.put, lq1, lq2, lq3, lq4, lq5, lq6])
                    refine wt (i := 10) (v := ?vr12t4q10x33) rfl ?hr12t4q10x33 ?rr12t4q10x33
                    case hr12t4q10x33 => (intro w hSw; (try dsimp only at hSw); obtain ⟨⟨x1, x2⟩, x3, x4⟩ := hSw; go_simp; try with_reducible rfl)
                    (try simp only [Act.put, lq1, lq2, lq3, lq4, lq5, lq6])
                    refine wt (i := 11) (v := ?vr12t4q11x36) rfl ?hr12t4q11x36 ?rr12t4q11x36
                    case hr12t4q11x36 => (intro w hSw; (try dsimp only at hSw); obtain ⟨⟨x1, x2⟩, x3, x4⟩ := hSw; go_simp; try with_reducible rfl)
                    (try simp only [Act.put, lq1, lq2, lq3, lq4, lq5, lq6])
                    refine wt (i := 12) (v := ?vr12t4q12x39) rfl ?hr12t4q12x39 ?rr12t4q12x39
                    case hr12t4q12x39 => (intro w hSw; (try dsimp only at hSw); obtain ⟨⟨x1, x2⟩, x3, x4⟩ := hSw; go_simp; try with_reducible rfl)
                    (try simp only [Act.put, lq1, lq2, lq3, lq4, lq5, lq6])
                    refine wt (i := 13) (v := ?vr12t4q13x42) rfl ?hr12t4q13x42 ?rr12t4q13x42
                    case hr12t4q13x42 => (intro w hSw; (try dsimp only at hSw); obtain ⟨⟨x1, x2⟩, x3, x4⟩ := hSw; go_simp; try with_reducible rfl)
                    (try simp only [Act.put, lq1, lq2, lq3, lq4, lq5, lq6])
                    refine wt (i := 14) (v := ?vr12t4q14x45) rfl ?hr12t4q14x45 ?rr12t4q14x45
                    case hr12t4q14x45 => (intro w hSw; (try dsimp only at hSw); obtain ⟨⟨x1, x2⟩, x3, x4⟩ := hSw; go_simp; try with_reducible rfl)
                    (try simp only [Act.put, lq1, lq2, lq3, lq4, lq5, lq6])
                    refine wu (i := 15) rfl ?_
                    (try simp only [Act.put, lq1, lq2, lq3, lq4, lq5, lq6])
                    refine wu (i := 16) rfl ?_
                    (try simp only [Act.put, lq1, lq2, lq3, lq4, lq5, lq6])
                    refine wu (i := 17) rfl ?_
                    (try simp only [Act.put, lq1, lq2, lq3, lq4, lq5, lq6])
                    refine wt (i := 18) (v := ?vr12t4q18x54) rfl ?hr12t4q18x54 ?rr12t4q18x54
                    case hr12t4q18x54 => (intro w hSw; (try dsimp only at hSw); obtain ⟨⟨x1, x2⟩, x3, x4⟩ := hSw; go_simp; try with_reducible rfl)
                    (try simp only [Act.put, lq1, lq2, lq3, lq4, lq5, lq6])
                    refine wt (i := 19) (v := ?vr12t4q19x57) rfl ?hr12t4q19x57 ?rr12t4q19x57
                    case hr12t4q19x57 => (intro w hSw; (try dsimp only at hSw); obtain ⟨⟨x1, x2⟩, x3, x4⟩ := hSw; go_simp; try with_reducible rfl)
                    (try simp only [Act.put, lq1, lq2, lq3, lq4, lq5, lq6])
                    refine wpAnyH_done (by kernel_rfl) ?_ _
                    go_wp2_with fail
                    go_meet
                    exact ⟨by rw [hD.out], hidb ⟨GE.out.drew, trivial⟩⟩
              case rest =>
                obtain ⟨rfl, E12⟩ := hcut
                clear GE
                have GE := hidb E12.out.1
                clear E12
                by_cases hbad : la < 2 ∨ (sx a 0 = sx a (la - 1) ∧ la < 4)
                · rw [decide_eq_true hbad]
                  have HZ := hidb (HNo.out (fun ha => by
                    have h1 := ha.1
                    have h3 := ha.2.2
                    rw [← HLa.out] at h1 h3
                    rcases hbad with h | ⟨h, h'⟩
                    · omega
                    · have := h3 h; omega))
                  clear hbad
                  go_wp2
                  go_ret
                  exact ⟨by rw [HZ.out]; rfl, GE.out⟩
                · rw [decide_eq_false hbad]
                  have HBad := hidb hbad
                  have F0 := hidb (show stk a 0 ∧ Gr w wc from ⟨fun i hi => absurd hi (Nat.not_lt_zero _), GE.out⟩)
                  clear hbad GE
                  go_upto_region 15 with fail
                  go_loopw [7] (fun t wr => ∃ k : Nat, k ≤ la ∧ t = .int .i64 (k : Int) ∧ Hid (stk a k ∧ Gr w wr)) (fun t _ => la - (intOf t).toNat)
                  case atStart => exact ⟨0, Nat.zero_le _, rfl, F0⟩
                  case round =>
                    clear F0
                    obtain ⟨k, hk, rfl, F⟩ := hrel
                    by_cases h2 : ¬ k < la
                    · have h2' : ¬ (k : Int) < (la : Int) := by omega
                      have har : arP a := by
                        refine ⟨?_, ?_, fun h => ?_⟩
                        · rw [← HLa.out]; exact Nat.not_lt.1 (fun h => HBad.out (.inl h))
                        · rw [← HLa.out, show la = k by omega]; exact F.out.1
                        · rw [← HLa.out] at h ⊢; exact Nat.not_lt.1 (fun h' => HBad.out (.inr ⟨h, h'⟩))
                      have E2 := hidb (show (∀ j, j < i + 1 → arP (lx Ls j)) ∧ Gr w wr from ⟨HYe.out har, F.out.2⟩)
                      have e1 := HE1.out
                      clear h2 har F
                      go_wp2
                      go_roundw
                      case rel => exact ⟨i + 1, H1.out, by go_num, E2⟩
                      case measure => have := H1.out; simp [intOf]; omega
                    · have h2' : (k : Int) < (la : Int) := by omega
                      have hkl : k < la := by omega
                      have H2 := hidb hkl
                      have e1 : IntKind.i64.wrap ((k : Int) + 1) = ((k + 1 : Nat) : Int) := by rw [show (k : Int) + 1 = ((k + 1 : Nat) : Int) by omega]; exact wr_in (by omega) (by have := HlA.out; omega)
                      have HEk := hidb e1
                      have ixk := HIA.out k hkl
                      obtain ⟨q0, hq0⟩ : ∃ z, z = sx a k := ⟨_, rfl⟩
                      obtain ⟨q1, hq1⟩ : ∃ z, z = sx a (k - 1) := ⟨_, rfl⟩
                      obtain ⟨v0, hv0⟩ : ∃ z, z = oA + k * 2 := ⟨_, rfl⟩
                      obtain ⟨v1, hv1⟩ : ∃ z, z = oA + (k - 1) * 2 := ⟨_, rfl⟩
                      have HC : Hid (∀ W, Gr w W → (W.cell? ⟨bA, v0, none⟩ = some (.int .i64 q0.1) ∧ W.cell? ⟨bA, v0 + 1, none⟩ = some (.int .i64 q0.2)) ∧ W.cell? ⟨bA, v1, none⟩ = some (.int .i64 q1.1) ∧ W.cell? ⟨bA, v1 + 1, none⟩ = some (.int .i64 q1.2)) := fun W hG => by
                        have h1 := ((HSA.out.gr hG).row k (by rw [← HLa.out]; exact hkl)).1
                        have h2 := ((HSA.out.gr hG).row (k - 1) (by rw [← HLa.out]; omega)).1
                        rw [hv0, hv1, hq0, hq1]
                        exact ⟨h1, h2⟩
                      rw [← hv0] at ixk
                      obtain ⟨k1, hk1⟩ : ∃ z : Int, z = ((k - 1 : Nat) : Int) := ⟨_, rfl⟩
                      have HK1 : Hid (0 < k → IntKind.i64.wrap ((k : Int) - 1) = k1 ∧ ∀ W, (Instr.indexAt 43 (.slice adA la capA) (.int .i64 k1)).run Tryd.prog W = .ok (.pointer (some ⟨bA, v1, none⟩)) W) := fun h0 => by
                        refine ⟨?_, ?_⟩
                        · rw [hk1, show (k : Int) - 1 = ((k - 1 : Nat) : Int) by omega]; exact wr_in (by omega) (by have := HlA.out; omega)
                        · rw [hk1, hv1]; exact HIA.out (k - 1) (by omega)
                      have HSt : Hid (¬ (¬ okS q0 ∨ (0 < k ∧ q0 = q1)) → stk a (k + 1)) := fun hn => stk_next F.out.1 (by rw [← hq0]; exact Classical.not_not.1 (fun h => hn (.inl h))) (fun h0 he => hn (.inr ⟨h0, by rw [hq0, hq1]; exact he⟩))
                      have HBd : Hid ((¬ okS q0 ∨ (0 < k ∧ q0 = q1)) → mcd Ls = 3) := fun hb => HNo.out (fun ha => by
                        have := ha.2.1 k (by rw [← HLa.out]; exact hkl)
                        rw [← hq0, ← hq1] at this
                        rcases hb with h | ⟨h, h'⟩
                        · exact h this.1
                        · exact this.2 h h')
                      have HPl := hidb (fun W => isPlace_any q0 W)
                      have g1 := sp_eq q0 q1
                      have GE := hidb F.out.2
                      obtain ⟨⟨y1, y2⟩, -⟩ := HC.out _ GE.out
                      clear h2 hkl hq0 hq1 hv0 hv1 hk1 F
                      go_wp2_with fail
                      refine (HPl.out _).mono ?_
                      rintro e w5 ⟨rfl, hB5⟩
                      replace GE := hidb (Gr.step GE.out hB5.out)
                      clear hB5 y1 y2 HPl
                      go_upto_region 18 with fail
                      go_cut [8, 85, 103] from 86 to 103 (fun _ _ t wx => t = .bool (decide (¬ okS q0 ∨ (0 < k ∧ q0 = q1))) ∧ Hid (Gr w wx ∧ True))
                      case first =>
                        by_cases d1 : okS q0
                        · rw [decide_eq_true d1]
                          by_cases d2 : 0 < k
                          · have d2' : (0 : Int) < (k : Int) := by omega
                            obtain ⟨ek1, ixk1⟩ := HK1.out d2
                            by_cases d3 : q0 = q1
                            · rw [decide_eq_true d3] at g1
                              have hD := hidb (show decide (¬ okS q0 ∨ (0 < k ∧ q0 = q1)) = true from decide_eq_true (.inr ⟨d2, d3⟩))
                              clear d1 d3
                              refine wp_region_held_drew (S := (fun w' => (w'.cell? ⟨bA, v0, none⟩ = some (.int .i64 q0.1) ∧ w'.cell? ⟨bA, v0 + 1, none⟩ = some (.int .i64 q0.2)) ∧ w'.cell? ⟨bA, v1, none⟩ = some (.int .i64 q1.1) ∧ w'.cell? ⟨bA, v1 + 1, none⟩ = some (.int .i64 q1.2))) (by kernel_rfl) ?_ (fun hHeld => ?_)
                              · (try dsimp only); exact HC.out _ GE.out.drew
                              skip
                              refine wt (i := 0) (v := ?vr18t7q0x3) rfl ?hr18t7q0x3 ?rr18t7q0x3
                              case hr18t7q0x3 => (intro w hSw; (try dsimp only at hSw); obtain ⟨⟨x1, x2⟩, x3, x4⟩ := hSw; go_simp; try with_reducible rfl)
                              (try simp only [Act.put, lq1, lq2, lq4, lq5, lq6])
                              refine wt (i := 1) (v := ?vr18t7q1x6) rfl ?hr18t7q1x6 ?rr18t7q1x6
                              case hr18t7q1x6 => (intro w hSw; (try dsimp only at hSw); obtain ⟨⟨x1, x2⟩, x3, x4⟩ := hSw; go_simp; try with_reducible rfl)
                              (try simp only [Act.put, lq1, lq2, lq3, lq4, lq5, lq6])
                              refine wt (i := 2) (v := ?vr18t7q2x9) rfl ?hr18t7q2x9 ?rr18t7q2x9
                              case hr18t7q2x9 => (intro w hSw; (try dsimp only at hSw); obtain ⟨⟨x1, x2⟩, x3, x4⟩ := hSw; go_simp; try with_reducible rfl)
                              (try simp only [Act.put, lq1, lq2, lq3, lq4, lq5, lq6])
                              refine wt (i := 3) (v := ?vr18t7q3x12) rfl ?hr18t7q3x12 ?rr18t7q3x12
                              case hr18t7q3x12 => (intro w hSw; (try dsimp only at hSw); obtain ⟨⟨x1, x2⟩, x3, x4⟩ := hSw; go_simp; try with_reducible rfl)
                              (try simp only [Act.put, lq1, lq2, lq3, lq4, lq5, lq6])
                              refine wt (i := 4) (v := ?vr18t7q4x15) rfl ?hr18t7q4x15 ?rr18t7q4x15
                              case hr18t7q4x15 => (intro w hSw; (try dsimp only at hSw); obtain ⟨⟨x1, x2⟩, x3, x4⟩ := hSw; go_simp; try with_reducible rfl)
                              (try simp only [Act.put, lq1, lq2, lq3, lq4, lq5, lq6])
                              refine wt (i := 5) (v := ?vr18t7q5x18) rfl ?hr18t7q5x18 ?rr18t7q5x18
                              case hr18t7q5x18 => (intro w hSw; (try dsimp only at hSw); obtain ⟨⟨x1, x2⟩, x3, x4⟩ := hSw; go_simp; try with_reducible rfl)
                              (try simp only [Act.put, lq1, lq2, lq3, lq4, lq5, lq6])
                              refine wt (i := 6) (v := ?vr18t7q6x21) rfl ?hr18t7q6x21 ?rr18t7q6x21
                              case hr18t7q6x21 => (intro w hSw; (try dsimp only at hSw); obtain ⟨⟨x1, x2⟩, x3, x4⟩ := hSw; go_simp; try with_reducible rfl)
                              (try simp only [Act.put, lq1, lq2, lq3, lq4, lq5, lq6])
                              refine wt (i := 7) (v := ?vr18t7q7x24) rfl ?hr18t7q7x24 ?rr18t7q7x24
                              case hr18t7q7x24 => (intro w hSw; (try dsimp only at hSw); obtain ⟨⟨x1, x2⟩, x3, x4⟩ := hSw; go_simp; try with_reducible rfl)
                              (try simp only [Act.put, lq1, lq2, lq3, lq4, lq5, lq6])
                              refine wt (i := 8) (v := ?vr18t7q8x27) rfl ?hr18t7q8x27 ?rr18t7q8x27
                              case hr18t7q8x27 => (intro w hSw; (try dsimp only at hSw); obtain ⟨⟨x1, x2⟩, x3, x4⟩ := hSw; go_simp; try with_reducible rfl)
                              (try simp only [Act.put, lq1, lq2, lq3, lq4, lq5, lq6])
                              refine wt (i := 9) (v := ?vr18t7q9x30) rfl ?hr18t7q9x30 ?rr18t7q9x30
                              case hr18t7q9x30 => (intro w hSw; (try dsimp only at hSw); obtain ⟨⟨x1, x2⟩, x3, x4⟩ := hSw; go_simp; try with_reducible rfl)
                              (try simp only [Act.put, lq1, lq2, lq3, lq4, lq5, lq6])
                              refine wt (i := 10) (v := ?vr18t7q10x33) rfl ?hr18t7q10x33 ?rr18t7q10x33
                              case hr18t7q10x33 => (intro w hSw; (try dsimp only at hSw); obtain ⟨⟨x1, x2⟩, x3, x4⟩ := hSw; go_simp; try with_reducible rfl)
                              (try simp only [Act.put, lq1, lq2, lq3, lq4, lq5, lq6])
                              refine wt (i := 11) (v := ?vr18t7q11x36) rfl ?hr18t7q11x36 ?rr18t7q11x36
                              case hr18t7q11x36 => (intro w hSw; (try dsimp only at hSw); obtain ⟨⟨x1, x2⟩, x3, x4⟩ := hSw; go_simp; try with_reducible rfl)
                              (try simp only [Act.put, lq1, lq2, lq3, lq4, lq5, lq6])
                              refine wt (i := 12) (v := ?vr18t7q12x39) rfl ?hr18t7q12x39 ?rr18t7q12x39
                              case hr18t7q12x39 => (intro w hSw; (try dsimp only at hSw); obtain ⟨⟨x1, x2⟩, x3, x4⟩ := hSw; go_simp; try with_reducible rfl)
                              (try simp only [Act.put, lq1, lq2, lq3, lq4, lq5, lq6])
                              refine wt (i := 13) (v := ?vr18t7q13x42) rfl ?hr18t7q13x42 ?rr18t7q13x42
                              case hr18t7q13x42 => (intro w hSw; (try dsimp only at hSw); obtain ⟨⟨x1, x2⟩, x3, x4⟩ := hSw; go_simp; try with_reducible rfl)
                              (try simp only [Act.put, lq1, lq2, lq3, lq4, lq5, lq6])
                              refine wt (i := 14) (v := ?vr18t7q14x45) rfl ?hr18t7q14x45 ?rr18t7q14x45
                              case hr18t7q14x45 => (intro w hSw; (try dsimp only at hSw); obtain ⟨⟨x1, x2⟩, x3, x4⟩ := hSw; go_simp; try with_reducible rfl)
                              (try simp only [Act.put, lq1, lq2, lq3, lq4, lq5, lq6])
                              refine wt (i := 15) (v := ?vr18t7q15x48) rfl ?hr18t7q15x48 ?rr18t7q15x48
                              case hr18t7q15x48 => (intro w hSw; (try dsimp only at hSw); obtain ⟨⟨x1, x2⟩, x3, x4⟩ := hSw; go_simp; try with_reducible rfl)
                              (try simp only [Act.put, lq1, lq2, lq3, lq4, lq5, lq6])
                              refine wt (i := 16) (v := ?vr18t7q16x51) rfl ?hr18t7q16x51 ?rr18t7q16x51
                              case hr18t7q16x51 => (intro w hSw; (try dsimp only at hSw); obtain ⟨⟨x1, x2⟩, x3, x4⟩ := hSw; go_simp; try with_reducible rfl)
                              (try simp only [Act.put, lq1, lq2, lq3, lq4, lq5, lq6])
                              refine wt (i := 17) (v := ?vr18t7q17x54) rfl ?hr18t7q17x54 ?rr18t7q17x54
                              case hr18t7q17x54 => (intro w hSw; (try dsimp only at hSw); obtain ⟨⟨x1, x2⟩, x3, x4⟩ := hSw; go_simp; try with_reducible rfl)
                              (try simp only [Act.put, lq1, lq2, lq3, lq4, lq5, lq6])
                              refine wpAnyH_done (by kernel_rfl) ?_ _
                              go_wp2_with fail
                              go_meet
                              exact ⟨by rw [hD.out], hidb ⟨GE.out.drew, trivial⟩⟩
                            · rw [decide_eq_false d3] at g1
                              have hD := hidb (show decide (¬ okS q0 ∨ (0 < k ∧ q0 = q1)) = false from decide_eq_false (fun h => h.elim (fun h => h d1) (fun h => d3 h.2)))
                              clear d1 d3
                              refine wp_region_held_drew (S := (fun w' => (w'.cell? ⟨bA, v0, none⟩ = some (.int .i64 q0.1) ∧ w'.cell? ⟨bA, v0 + 1, none⟩ = some (.int .i64 q0.2)) ∧ w'.cell? ⟨bA, v1, none⟩ = some (.int .i64 q1.1) ∧ w'.cell? ⟨bA, v1 + 1, none⟩ = some (.int .i64 q1.2))) (by kernel_rfl) ?_ (fun hHeld => ?_)
                              · (try dsimp only); exact HC.out _ GE.out.drew
                              skip
                              refine wt (i := 0) (v := ?vr18t8q0x3) rfl ?hr18t8q0x3 ?rr18t8q0x3
                              case hr18t8q0x3 => (intro w hSw; (try dsimp only at hSw); obtain ⟨⟨x1, x2⟩, x3, x4⟩ := hSw; go_simp; try with_reducible rfl)
                              (try simp only [Act.put, lq1, lq2, lq4, lq5, lq6])
                              refine wt (i := 1) (v := ?vr18t8q1x6) rfl ?hr18t8q1x6 ?rr18t8q1x6
                              case hr18t8q1x6 => (intro w hSw; (try dsimp only at hSw); obtain ⟨⟨x1, x2⟩, x3, x4⟩ := hSw; go_simp; try with_reducible rfl)
                              (try simp only [Act.put, lq1, lq2, lq3, lq4, lq5, lq6])
                              refine wt (i := 2) (v := ?vr18t8q2x9) rfl ?hr18t8q2x9 ?rr18t8q2x9
                              case hr18t8q2x9 => (intro w hSw; (try dsimp only at hSw); obtain ⟨⟨x1, x2⟩, x3, x4⟩ := hSw; go_simp; try with_reducible rfl)
                              (try simp only [Act.put, lq1, lq2, lq3, lq4, lq5, lq6])
                              refine wt (i := 3) (v := ?vr18t8q3x12) rfl ?hr18t8q3x12 ?rr18t8q3x12
                              case hr18t8q3x12 => (intro w hSw; (try dsimp only at hSw); obtain ⟨⟨x1, x2⟩, x3, x4⟩ := hSw; go_simp; try with_reducible rfl)
                              (try simp only [Act.put, lq1, lq2, lq3, lq4, lq5, lq6])
                              refine wt (i := 4) (v := ?vr18t8q4x15) rfl ?hr18t8q4x15 ?rr18t8q4x15
                              case hr18t8q4x15 => (intro w hSw; (try dsimp only at hSw); obtain ⟨⟨x1, x2⟩, x3, x4⟩ := hSw; go_simp; try with_reducible rfl)
                              (try simp only [Act.put, lq1, lq2, lq3, lq4, lq5, lq6])
                              refine wt (i := 5) (v := ?vr18t8q5x18) rfl ?hr18t8q5x18 ?rr18t8q5x18
                              case hr18t8q5x18 => (intro w hSw; (try dsimp only at hSw); obtain ⟨⟨x1, x2⟩, x3, x4⟩ := hSw; go_simp; try with_reducible rfl)
                              (try simp only [Act.put, lq1, lq2, lq3, lq4, lq5, lq6])
                              refine wt (i := 6) (v := ?vr18t8q6x21) rfl ?hr18t8q6x21 ?rr18t8q6x21
                              case hr18t8q6x21 => (intro w hSw; (try dsimp only at hSw); obtain ⟨⟨x1, x2⟩, x3, x4⟩ := hSw; go_simp; try with_reducible rfl)
                              (try simp only [Act.put, lq1, lq2, lq3, lq4, lq5, lq6])
                              refine wt (i := 7) (v := ?vr18t8q7x24) rfl ?hr18t8q7x24 ?rr18t8q7x24
                              case hr18t8q7x24 => (intro w hSw; (try dsimp only at hSw); obtain ⟨⟨x1, x2⟩, x3, x4⟩ := hSw; go_simp; try with_reducible rfl)
                              (try simp only [Act.put, lq1, lq2, lq3, lq4, lq5, lq6])
                              refine wt (i := 8) (v := ?vr18t8q8x27) rfl ?hr18t8q8x27 ?rr18t8q8x27
                              case hr18t8q8x27 => (intro w hSw; (try dsimp only at hSw); obtain ⟨⟨x1, x2⟩, x3, x4⟩ := hSw; go_simp; try with_reducible rfl)
                              (try simp only [Act.put, lq1, lq2, lq3, lq4, lq5, lq6])
                              refine wt (i := 9) (v := ?vr18t8q9x30) rfl ?hr18t8q9x30 ?rr18t8q9x30
                              case hr18t8q9x30 => (intro w hSw; (try dsimp only at hSw); obtain ⟨⟨x1, x2⟩, x3, x4⟩ := hSw; go_simp; try with_reducible rfl)
                              (try simp only [Act.put, lq1, lq2, lq3, lq4, lq5, lq6])
                              refine wt (i := 10) (v := ?vr18t8q10x33) rfl ?hr18t8q10x33 ?rr18t8q10x33
                              case hr18t8q10x33 => (intro w hSw; (try dsimp only at hSw); obtain ⟨⟨x1, x2⟩, x3, x4⟩ := hSw; go_simp; try with_reducible rfl)
                              (try simp only [Act.put, lq1, lq2, lq3, lq4, lq5, lq6])
                              refine wt (i := 11) (v := ?vr18t8q11x36) rfl ?hr18t8q11x36 ?rr18t8q11x36
                              case hr18t8q11x36 => (intro w hSw; (try dsimp only at hSw); obtain ⟨⟨x1, x2⟩, x3, x4⟩ := hSw; go_simp; try with_reducible rfl)
                              (try simp only [Act.put, lq1, lq2, lq3, lq4, lq5, lq6])
                              refine wt (i := 12) (v := ?vr18t8q12x39) rfl ?hr18t8q12x39 ?rr18t8q12x39
                              case hr18t8q12x39 => (intro w hSw; (try dsimp only at hSw); obtain ⟨⟨x1, x2⟩, x3, x4⟩ := hSw; go_simp; try with_reducible rfl)
                              (try simp only [Act.put, lq1, lq2, lq3, lq4, lq5, lq6])
                              refine wt (i := 13) (v := ?vr18t8q13x42) rfl ?hr18t8q13x42 ?rr18t8q13x42
                              case hr18t8q13x42 => (intro w hSw; (try dsimp only at hSw); obtain ⟨⟨x1, x2⟩, x3, x4⟩ := hSw; go_simp; try with_reducible rfl)
                              (try simp only [Act.put, lq1, lq2, lq3, lq4, lq5, lq6])
                              refine wt (i := 14) (v := ?vr18t8q14x45) rfl ?hr18t8q14x45 ?rr18t8q14x45
                              case hr18t8q14x45 => (intro w hSw; (try dsimp only at hSw); obtain ⟨⟨x1, x2⟩, x3, x4⟩ := hSw; go_simp; try with_reducible rfl)
                              (try simp only [Act.put, lq1, lq2, lq3, lq4, lq5, lq6])
                              refine wt (i := 15) (v := ?vr18t8q15x48) rfl ?hr18t8q15x48 ?rr18t8q15x48
                              case hr18t8q15x48 => (intro w hSw; (try dsimp only at hSw); obtain ⟨⟨x1, x2⟩, x3, x4⟩ := hSw; go_simp; try with_reducible rfl)
                              (try simp only [Act.put, lq1, lq2, lq3, lq4, lq5, lq6])
                              refine wt (i := 16) (v := ?vr18t8q16x51) rfl ?hr18t8q16x51 ?rr18t8q16x51
                              case hr18t8q16x51 => (intro w hSw; (try dsimp only at hSw); obtain ⟨⟨x1, x2⟩, x3, x4⟩ := hSw; go_simp; try with_reducible rfl)
                              (try simp only [Act.put, lq1, lq2, lq3, lq4, lq5, lq6])
                              refine wt (i := 17) (v := ?vr18t8q17x54) rfl ?hr18t8q17x54 ?rr18t8q17x54
                              case hr18t8q17x54 => (intro w hSw; (try dsimp only at hSw); obtain ⟨⟨x1, x2⟩, x3, x4⟩ := hSw; go_simp; try with_reducible rfl)
                              (try simp only [Act.put, lq1, lq2, lq3, lq4, lq5, lq6])
                              refine wpAnyH_done (by kernel_rfl) ?_ _
                              go_wp2_with fail
                              go_meet
                              exact ⟨by rw [hD.out], hidb ⟨GE.out.drew, trivial⟩⟩
                          · have d2' : ¬ (0 : Int) < (k : Int) := by omega
                            have hD := hidb (show decide (¬ okS q0 ∨ (0 < k ∧ q0 = q1)) = false from decide_eq_false (fun h => h.elim (fun h => h d1) (fun h => d2 h.1)))
                            clear d1
                            refine wp_region_held_drew (S := (fun _ => True)) (by kernel_rfl) ?_ (fun hHeld => ?_)
                            · (try dsimp only); (try exact trivial)
                            skip
                            refine wt (i := 0) (v := ?vr18t6q0x3) rfl ?hr18t6q0x3 ?rr18t6q0x3
                            case hr18t6q0x3 => (intro w hSw; (try dsimp only at hSw); go_simp; try with_reducible rfl)
                            (try simp only [Act.put, lq1, lq2, lq4, lq5, lq6])
                            refine wt (i := 1) (v := ?vr18t6q1x6) rfl ?hr18t6q1x6 ?rr18t6q1x6
                            case hr18t6q1x6 => (intro w hSw; (try dsimp only at hSw); go_simp; try with_reducible rfl)
                            (try simp only [Act.put, lq1, lq2, lq3, lq4, lq5, lq6])
                            refine wt (i := 2) (v := ?vr18t6q2x9) rfl ?hr18t6q2x9 ?rr18t6q2x9
                            case hr18t6q2x9 => (intro w hSw; (try dsimp only at hSw); go_simp; try with_reducible rfl)
                            (try simp only [Act.put, lq1, lq2, lq3, lq4, lq5, lq6])
                            refine wt (i := 3) (v := ?vr18t6q3x12) rfl ?hr18t6q3x12 ?rr18t6q3x12
                            case hr18t6q3x12 => (intro w hSw; (try dsimp only at hSw); go_simp; try with_reducible rfl)
                            (try simp only [Act.put, lq1, lq2, lq3, lq4, lq5, lq6])
                            refine wt (i := 4) (v := ?vr18t6q4x15) rfl ?hr18t6q4x15 ?rr18t6q4x15
                            case hr18t6q4x15 => (intro w hSw; (try dsimp only at hSw); go_simp; try with_reducible rfl)
                            (try simp only [Act.put, lq1, lq2, lq3, lq4, lq5, lq6])
                            refine wt (i := 5) (v := ?vr18t6q5x18) rfl ?hr18t6q5x18 ?rr18t6q5x18
                            case hr18t6q5x18 => (intro w hSw; (try dsimp only at hSw); go_simp; try with_reducible rfl)
                            (try simp only [Act.put, lq1, lq2, lq3, lq4, lq5, lq6])
                            refine wu (i := 6) rfl ?_
                            (try simp only [Act.put, lq1, lq2, lq3, lq4, lq5, lq6])
                            refine wu (i := 7) rfl ?_
                            (try simp only [Act.put, lq1, lq2, lq3, lq4, lq5, lq6])
                            refine wu (i := 8) rfl ?_
                            (try simp only [Act.put, lq1, lq2, lq3, lq4, lq5, lq6])
                            refine wu (i := 9) rfl ?_
                            (try simp only [Act.put, lq1, lq2, lq3, lq4, lq5, lq6])
                            refine wu (i := 10) rfl ?_
                            (try simp only [Act.put, lq1, lq2, lq3, lq4, lq5, lq6])
                            refine wu (i := 11) rfl ?_
                            (try simp only [Act.put, lq1, lq2, lq3, lq4, lq5, lq6])
                            refine wu (i := 12) rfl ?_
                            (try simp only [Act.put, lq1, lq2, lq3, lq4, lq5, lq6])
                            refine wu (i := 13) rfl ?_
                            (try simp only [Act.put, lq1, lq2, lq3, lq4, lq5, lq6])
                            refine wu (i := 14) rfl ?_
                            (try simp only [Act.put, lq1, lq2, lq3, lq4, lq5, lq6])
                            refine wu (i := 15) rfl ?_
                            (try simp only [Act.put, lq1, lq2, lq3, lq4, lq5, lq6])
                            refine wt (i := 16) (v := ?vr18t6q16x41) rfl ?hr18t6q16x41 ?rr18t6q16x41
                            case hr18t6q16x41 => (intro w hSw; (try dsimp only at hSw); go_simp; try with_reducible rfl)
                            (try simp only [Act.put, lq1, lq2, lq3, lq4, lq5, lq6])
                            refine wt (i := 17) (v := ?vr18t6q17x44) rfl ?hr18t6q17x44 ?rr18t6q17x44
                            case hr18t6q17x44 => (intro w hSw; (try dsimp only at hSw); go_simp; try with_reducible rfl)
                            (try simp only [Act.put, lq1, lq2, lq3, lq4, lq5, lq6])
                            refine wpAnyH_done (by kernel_rfl) ?_ _
                            go_wp2_with fail
                            go_meet
                            exact ⟨by rw [hD.out], hidb ⟨GE.out.drew, trivial⟩⟩
                        · rw [decide_eq_false d1]
                          have hD := hidb (show decide (¬ okS q0 ∨ (0 < k ∧ q0 = q1)) = true from decide_eq_true (.inl d1))
                          clear d1
                          refine wp_region_held_drew (S := (fun _ => True)) (by kernel_rfl) ?_ (fun hHeld => ?_)
                          · (try dsimp only); (try exact trivial)
                          skip
                          refine wt (i := 0) (v := ?vr18t5q0x3) rfl ?hr18t5q0x3 ?rr18t5q0x3
                          case hr18t5q0x3 => (intro w hSw; (try dsimp only at hSw); go_simp; try with_reducible rfl)
                          (try simp only [Act.put, lq1, lq2, lq4, lq5, lq6])
                          refine wt (i := 1) (v := ?vr18t5q1x6) rfl ?hr18t5q1x6 ?rr18t5q1x6
                          case hr18t5q1x6 => (intro w hSw; (try dsimp only at hSw); go_simp; try with_reducible rfl)
                          (try simp only [Act.put, lq1, lq2, lq3, lq4, lq5, lq6])
                          refine wt (i := 2) (v := ?vr18t5q2x9) rfl ?hr18t5q2x9 ?rr18t5q2x9
                          case hr18t5q2x9 => (intro w hSw; (try dsimp only at hSw); go_simp; try with_reducible rfl)
                          (try simp only [Act.put, lq1, lq2, lq3, lq4, lq5, lq6])
                          refine wu (i := 3) rfl ?_
                          (try simp only [Act.put, lq1, lq2, lq3, lq4, lq5, lq6])
                          refine wu (i := 4) rfl ?_
                          (try simp only [Act.put, lq1, lq2, lq3, lq4, lq5, lq6])
                          refine wu (i := 5) rfl ?_
                          (try simp only [Act.put, lq1, lq2, lq3, lq4, lq5, lq6])
                          refine wu (i := 6) rfl ?_
                          (try simp only [Act.put, lq1, lq2, lq3, lq4, lq5, lq6])
                          refine wu (i := 7) rfl ?_
                          (try simp only [Act.put, lq1, lq2, lq3, lq4, lq5, lq6])
                          refine wu (i := 8) rfl ?_
                          (try simp only [Act.put, lq1, lq2, lq3, lq4, lq5, lq6])
                          refine wu (i := 9) rfl ?_
                          (try simp only [Act.put, lq1, lq2, lq3, lq4, lq5, lq6])
                          refine wu (i := 10) rfl ?_
                          (try simp only [Act.put, lq1, lq2, lq3, lq4, lq5, lq6])
                          refine wu (i := 11) rfl ?_
                          (try simp only [Act.put, lq1, lq2, lq3, lq4, lq5, lq6])
                          refine wu (i := 12) rfl ?_
                          (try simp only [Act.put, lq1, lq2, lq3, lq4, lq5, lq6])
                          refine wu (i := 13) rfl ?_
                          (try simp only [Act.put, lq1, lq2, lq3, lq4, lq5, lq6])
                          refine wu (i := 14) rfl ?_
                          (try simp only [Act.put, lq1, lq2, lq3, lq4, lq5, lq6])
                          refine wu (i := 15) rfl ?_
                          (try simp only [Act.put, lq1, lq2, lq3, lq4, lq5, lq6])
                          refine wu (i := 16) rfl ?_
                          (try simp only [Act.put, lq1, lq2, lq3, lq4, lq5, lq6])
                          refine wt (i := 17) (v := ?vr18t5q17x40) rfl ?hr18t5q17x40 ?rr18t5q17x40
                          case hr18t5q17x40 => (intro w hSw; (try dsimp only at hSw); go_simp; try with_reducible rfl)
                          (try simp only [Act.put, lq1, lq2, lq3, lq4, lq5, lq6])
                          refine wpAnyH_done (by kernel_rfl) ?_ _
                          go_wp2_with fail
                          go_meet
                          exact ⟨by rw [hD.out], hidb ⟨GE.out.drew, trivial⟩⟩
                      case rest =>
                        obtain ⟨rfl, E18⟩ := hcut
                        clear GE
                        have GE := hidb E18.out.1
                        clear E18
                        by_cases hb : ¬ okS q0 ∨ (0 < k ∧ q0 = q1)
                        · rw [decide_eq_true hb]
                          have HZ := hidb (HBd.out hb)
                          generalize decide (okS q0) = dd at *
                          clear hb
                          go_wp2
                          go_ret
                          exact ⟨by rw [HZ.out]; rfl, GE.out⟩
                        · rw [decide_eq_false hb]
                          have F2 := hidb (show stk a (k + 1) ∧ Gr w wc from ⟨HSt.out hb, GE.out⟩)
                          have e2 := HEk.out
                          generalize decide (okS q0) = dd at *
                          clear hb
                          go_wp2
                          go_roundw
                          case rel => exact ⟨k + 1, H2.out, by go_num, F2⟩
                          case measure => have := H2.out; simp [intOf]; omega
    · have h1' : (i : Int) < (N : Int) := by omega
      have hiN : i < N := by omega
      have hiL : i < Ls.length := by rw [← HN.out]; exact hiN
      have H1 := hidb hiN
      have e1 : IntKind.i64.wrap ((i : Int) + 1) = ((i + 1 : Nat) : Int) := by rw [show (i : Int) + 1 = ((i + 1 : Nat) : Int) by omega]; exact wr_in (by omega) (by have := HNb.out; omega)
      obtain ⟨⟨ad', b', o', cap', c0, hS⟩, cb⟩ := HR.out.row i hiL
      have ix := HX.out i hiN
      have htk : tLn Ls (i + 1) = tLn Ls i + (lx Ls i).length := by unfold tLn; rw [take_flat Ls hiL, List.length_append, lx_get hiL]
      have hle : tLn Ls (i + 1) ≤ Ls.flatten.length := flat_le Ls (i + 1)
      have e2 : IntKind.i64.wrap ((tLn Ls i : Int) + ((lx Ls i).length : Int)) = (tLn Ls (i + 1) : Int) := by
        have := HLn.out
        rw [htk, show (tLn Ls i : Int) + ((lx Ls i).length : Int) = ((tLn Ls i + (lx Ls i).length : Nat) : Int) by omega]
        exact wr_in (by omega) (by omega)
      generalize (tLn Ls i : Int) = s0 at *
      generalize (lx Ls i).length = li at *
      clear h1 hiN hiL cb hS htk hle
      go_wp2
      go_roundw
      case rel => exact ⟨i + 1, H1.out, rfl, by go_num, hidb (by trivial)⟩
      case measure => have := H1.out; simp [intOf]; omega
end Go.Proofs.YtnadgoomkaldkaaDoor
