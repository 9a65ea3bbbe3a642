/-
  The law GridLines: its walk.
-/
import Derived.Test.YthpbkomchdgneaaDoorQGlF
namespace Go.Proofs.YthpbkomchdgneaaDoor
open Go.RowKit

theorem linL_len (low high s : Int) : (linL low high s).length = (laI high s - fiI low s + 1).toNat := mulL_len _ _ _
theorem few_iff {low high s : Int} : few low high s = true ↔ (refL low high s).length ≤ 4000 := by
  unfold few refL
  rw [mulL_len]
  simp only [decide_eq_true_eq]
  omega
theorem few_eq {low high s : Int} (h : few low high s = true) : refL low high s = linL low high s := by
  unfold few at h
  simp only [decide_eq_true_eq] at h
  unfold refL linL
  congr 1
  omega
theorem row_len {w : World} {v : Value} {l : List Int} (h : RowI w v l) : ∃ ad cap, v = .slice ad l.length cap := by
  rcases h with ⟨rfl, rfl⟩ | ⟨b, cap, rfl, _⟩
  · exact ⟨none, 0, rfl⟩
  · exact ⟨_, _, rfl⟩
/-- The law's own trial. -/
theorem trial_f : few 0 10 5 = true ∧ few 0 4 5 = true ∧ (linL 0 10 5).length = 3 ∧ (linL 0 4 5).length = 1 ∧ okB 0 0 10 4 = true := by decide
theorem lines_trial (g : Nat → Addr) (w : World) (hl : Laid w g) : Calls Tryd.prog 14 #[boV 0 0 10 4, .int .i64 5] w fun e w' => ∃ a c b d, e = .returned (.tuple #[.slice a 3 c, .slice b 1 d, .nilIface]) ∧ Gr w w' := by
  obtain ⟨t1, t2, t3, t4, t5⟩ := trial_f
  refine (lines_ok g 0 0 10 4 5 t5 (by decide) (by decide) w hl).mono ?_
  rintro e w' (⟨_, v, v', rfl, h1, h2, hB⟩ | ⟨h, _⟩)
  · obtain ⟨a, c, rfl⟩ := row_len h1
    obtain ⟨b, d, rfl⟩ := row_len h2
    rw [t3, t4]
    exact ⟨a, c, b, d, rfl, hB⟩
  · exact absurd ⟨t1, t2⟩ h
set_option maxHeartbeats 4000000 in
theorem gridLines_no (g : Nat → Addr) (a b c d s : Int) (h : okB a b c d = false ∨ s < 1) (w : World) (hl : Laid w g) : Calls Tryd.prog 5 #[boV a b c d, .int .i64 s] w fun e w' => e = .returned (.bool true) ∧ Gr w w' := by
  have HL := hidb hl
  have HH := hidb h
  have HN := hidb (fun w hl => lines_no g a b c d s h w hl)
  have HI := hidb (fun w => isBox_any a b c d w)
  clear hl h
  go_enter Tryd.func5, Tryd.ntmps5
  go_wp2_with fail
  refine (lines_trial g _ (HL.out.below (Gr.out (by ((with_reducible repeat' (first | assumption | refine Gr.drew ?_ | refine Gr.alloc ?_ _ | refine Gr.set ?_ (by first | omega | (simp; omega)) _ _ | exact Gr.refl _)); done))))).mono ?_
  rintro e w1 ⟨ad, ca, bd, cb, rfl, hB⟩
  have PA : At w1 w.heap.size (boL a b c d) := At.below hB (At.new4 w _ _ _ _ _)
  have HC : Gr w w1 := Gr.step (by ((with_reducible repeat' (first | assumption | refine Gr.drew ?_ | refine Gr.alloc ?_ _ | refine Gr.set ?_ (by first | omega | (simp; omega)) _ _ | exact Gr.refl _)); done)) hB
  clear hB
  obtain ⟨c0, c1, c2, c3⟩ := PA.c4
  go_wp2_with fail
  refine (HN.out _ (HL.out.below HC)).mono ?_
  rintro e w2 ⟨rfl, hB⟩
  replace HC : Gr w w2 := Gr.step HC hB
  replace PA := At.below hB PA
  clear hB c0 c1 c2 c3
  obtain ⟨c0, c1, c2, c3⟩ := PA.c4
  go_wp2_with fail
  refine (HI.out _).mono ?_
  rintro e w3 ⟨rfl, hB⟩
  replace HC : Gr w w3 := Gr.step HC hB
  clear hB c0 c1 c2 c3 PA
  cases hk : okB a b c d with
  | false =>
    go_wp2_with fail
    refine (coded_g g 2 (by decide) _ (HL.out.below HC)).mono ?_
    rintro e w4 ⟨rfl, hB⟩
    replace HC : Gr w w4 := Gr.step HC hB
    go_wp2
    go_ret
    exact ⟨rfl, HC⟩
  | true =>
    have hs : s < 1 := HH.out.resolve_left (by rw [hk]; decide)
    go_wp2_with fail
    refine (coded_g g 2 (by decide) _ (HL.out.below HC)).mono ?_
    rintro e w4 ⟨rfl, hB⟩
    replace HC : Gr w w4 := Gr.step HC hB
    go_wp2
    go_ret
    exact ⟨rfl, HC⟩
set_option maxHeartbeats 8000000 in
theorem gridLines_ok (g : Nat → Addr) (a b c d s : Int) (hk : okB a b c d = true) (hs : 1 ≤ s) (hs2 : s ≤ 9223372036854775807) (w : World) (hl : Laid w g) : Calls Tryd.prog 5 #[boV a b c d, .int .i64 s] w fun e w' => e = .returned (.bool true) ∧ Gr w w' := by
  have HL := hidb hl
  have HN := hidb (fun w hl => lines_ok g a b c d s hk hs hs2 w hl)
  have HI := hidb (fun w => isBox_any a b c d w)
  rw [hk] at HI
  have HM1 : Hid (s ≤ 1099511627776 → ∀ w, Calls Tryd.prog 16 #[.int .i64 a, .int .i64 c, .int .i64 s] w fun e w' => ∃ v, e = .returned v ∧ RowI w' v (refL a c s) ∧ Gr w w') := fun h w => by
    obtain ⟨h1, h2, h3, h4, h5, h6⟩ := okB_bd hk
    exact multiplesR_any a c s h1.1 h1.2 h3.1 h3.2 hs h w
  have HM2 : Hid (s ≤ 1099511627776 → ∀ w, Calls Tryd.prog 16 #[.int .i64 b, .int .i64 d, .int .i64 s] w fun e w' => ∃ v, e = .returned v ∧ RowI w' v (refL b d s) ∧ Gr w w') := fun h w => by
    obtain ⟨h1, h2, h3, h4, h5, h6⟩ := okB_bd hk
    exact multiplesR_any b d s h2.1 h2.2 h4.1 h4.2 hs h w
  have hs' : ¬ s < 1 := by omega
  have HW1 := hidb (few_iff (low := a) (high := c) (s := s))
  have HW2 := hidb (few_iff (low := b) (high := d) (s := s))
  have HE1 := hidb (few_eq (low := a) (high := c) (s := s))
  have HE2 := hidb (few_eq (low := b) (high := d) (s := s))
  clear hl hk hs hs2
  generalize few a c s = f1 at *
  generalize few b d s = f2 at *
  generalize linL a c s = L1 at *
  generalize linL b d s = L2 at *
  generalize refL a c s = R1 at *
  generalize refL b d s = R2 at *
  go_enter Tryd.func5, Tryd.ntmps5
  go_wp2_with fail
  refine (lines_trial g _ (HL.out.below (Gr.out (by ((with_reducible repeat' (first | assumption | refine Gr.drew ?_ | refine Gr.alloc ?_ _ | refine Gr.set ?_ (by first | omega | (simp; omega)) _ _ | exact Gr.refl _)); done))))).mono ?_
  rintro e w1 ⟨ad, ca, bd, cb, rfl, hB⟩
  have PA : At w1 w.heap.size (boL a b c d) := At.below hB (At.new4 w _ _ _ _ _)
  have HC : Gr w w1 := Gr.step (by ((with_reducible repeat' (first | assumption | refine Gr.drew ?_ | refine Gr.alloc ?_ _ | refine Gr.set ?_ (by first | omega | (simp; omega)) _ _ | exact Gr.refl _)); done)) hB
  clear hB
  obtain ⟨c0, c1, c2, c3⟩ := PA.c4
  go_wp2_with fail
  refine (HN.out _ (HL.out.below HC)).mono ?_
  rintro e w2 (⟨⟨t1, t2⟩, v1, v2, rfl, h1, h2, hB⟩ | ⟨ht, rfl, hB⟩)
  · have H1 := hidb h1
    have H2 := hidb h2
    have E1 := hidb (HE1.out t1)
    have E2 := hidb (HE2.out t2)
    have W1 := hidb (HW1.out.1 t1)
    have W2 := hidb (HW2.out.1 t2)
    replace HC : Gr w w2 := Gr.step HC hB
    replace PA := At.below hB PA
    clear hB c0 c1 c2 c3 h1 h2 t1 t2 HW1 HW2 HE1 HE2 HN
    obtain ⟨c0, c1, c2, c3⟩ := PA.c4
    go_wp2_with fail
    refine (HI.out _).mono ?_
    rintro e w3 ⟨rfl, hB⟩
    replace HC : Gr w w3 := Gr.step HC hB
    replace PA := At.below hB PA
    replace H1 := hidb (RowI.below hB H1.out)
    replace H2 := hidb (RowI.below hB H2.out)
    clear hB c0 c1 c2 c3
    by_cases hb : 1099511627776 < s
    · go_wp2
      go_ret
      exact ⟨rfl, HC⟩
    · obtain ⟨c0, c1, c2, c3⟩ := PA.c4
      have HM1' := hidb (HM1.out (by omega))
      have HM2' := hidb (HM2.out (by omega))
      clear HM1 HM2
      go_wp2_with fail
      refine (HM1'.out _).mono ?_
      rintro e w4 ⟨p, rfl, hp, hB⟩
      replace HC : Gr w w4 := Gr.step HC hB
      replace PA := At.below hB PA
      replace H1 := hidb (RowI.below hB H1.out)
      replace H2 := hidb (RowI.below hB H2.out)
      have P := hidb hp
      clear hB c0 c1 c2 c3 hp
      obtain ⟨c0, c1, c2, c3⟩ := PA.c4
      go_wp2_with fail
      refine (HM2'.out _).mono ?_
      rintro e w5 ⟨q, rfl, hq, hB⟩
      replace HC : Gr w w5 := Gr.step HC hB
      replace H1 := hidb (RowI.below hB H1.out)
      replace H2 := hidb (RowI.below hB H2.out)
      replace P := hidb (RowI.below hB P.out)
      have Q := hidb hq
      clear hB c0 c1 c2 c3 hq PA
      obtain ⟨pa, pc, hpp⟩ := row_len P.out
      obtain ⟨qa, qc, hqq⟩ := row_len Q.out
      subst hpp hqq
      have n1 : ¬ (4000 : Int) < (R1.length : Int) := by have := W1.out; omega
      have n2 : ¬ (4000 : Int) < (R2.length : Int) := by have := W2.out; omega
      go_wp2_with fail
      refine (sameInts_eq (by have := W1.out; omega) (by rw [E1.out]; exact H1.out) P.out).mono ?_
      rintro e w6 ⟨rfl, hB⟩
      replace HC : Gr w w6 := Gr.step HC hB
      replace H2 := hidb (RowI.below hB H2.out)
      replace Q := hidb (RowI.below hB Q.out)
      clear hB
      go_wp2_with fail
      refine (sameInts_eq (by have := W2.out; omega) (by rw [E2.out]; exact H2.out) Q.out).mono ?_
      rintro e w7 ⟨rfl, hB⟩
      replace HC : Gr w w7 := Gr.step HC hB
      clear hB
      go_wp2
      go_ret
      exact ⟨rfl, HC⟩
  · have hm : 4000 < R1.length ∨ 4000 < R2.length := by
      by_cases k1 : R1.length ≤ 4000
      · by_cases k2 : R2.length ≤ 4000
        · exact absurd ⟨HW1.out.2 k1, HW2.out.2 k2⟩ ht
        · exact .inr (by omega)
      · exact .inl (by omega)
    have HMM := hidb hm
    replace HC : Gr w w2 := Gr.step HC hB
    replace PA := At.below hB PA
    clear hB c0 c1 c2 c3 HW1 HW2 HE1 HE2 HN ht hm
    obtain ⟨c0, c1, c2, c3⟩ := PA.c4
    go_wp2_with fail
    refine (HI.out _).mono ?_
    rintro e w3 ⟨rfl, hB⟩
    replace HC : Gr w w3 := Gr.step HC hB
    replace PA := At.below hB PA
    clear hB c0 c1 c2 c3
    by_cases hb : 1099511627776 < s
    · go_wp2
      go_ret
      exact ⟨rfl, HC⟩
    · obtain ⟨c0, c1, c2, c3⟩ := PA.c4
      have HM1' := hidb (HM1.out (by omega))
      have HM2' := hidb (HM2.out (by omega))
      clear HM1 HM2
      go_wp2_with fail
      refine (HM1'.out _).mono ?_
      rintro e w4 ⟨p, rfl, hp, hB⟩
      replace HC : Gr w w4 := Gr.step HC hB
      replace PA := At.below hB PA
      have P := hidb hp
      clear hB c0 c1 c2 c3 hp
      obtain ⟨c0, c1, c2, c3⟩ := PA.c4
      go_wp2_with fail
      refine (HM2'.out _).mono ?_
      rintro e w5 ⟨q, rfl, hq, hB⟩
      replace HC : Gr w w5 := Gr.step HC hB
      have Q := hidb hq
      clear hB c0 c1 c2 c3 hq PA
      obtain ⟨pa, pc, hpp⟩ := row_len P.out
      obtain ⟨qa, qc, hqq⟩ := row_len Q.out
      subst hpp hqq
      by_cases k1 : (4000 : Int) < (R1.length : Int)
      · go_wp2_with fail
        refine (coded_g g 1 (by decide) _ (HL.out.below HC)).mono ?_
        rintro e w6 ⟨rfl, hB⟩
        replace HC : Gr w w6 := Gr.step HC hB
        go_wp2
        go_ret
        exact ⟨rfl, HC⟩
      · have k2 : (4000 : Int) < (R2.length : Int) := by have := HMM.out; omega
        go_wp2_with fail
        refine (coded_g g 1 (by decide) _ (HL.out.below HC)).mono ?_
        rintro e w6 ⟨rfl, hB⟩
        replace HC : Gr w w6 := Gr.step HC hB
        go_wp2
        go_ret
        exact ⟨rfl, HC⟩
theorem gridLines_walk (g : Nat → Addr) (a b c d s : Int) (hs2 : s ≤ 9223372036854775807) (w : World) (hl : Laid w g) : Calls Tryd.prog 5 #[boV a b c d, .int .i64 s] w fun e w' => e = .returned (.bool true) ∧ Gr w w' := by
  cases hk : okB a b c d with
  | false => exact gridLines_no g a b c d s (.inl hk) w hl
  | true =>
    by_cases hs : 1 ≤ s
    · exact gridLines_ok g a b c d s hk hs hs2 w hl
    · exact gridLines_no g a b c d s (.inr (by omega)) w hl
end Go.Proofs.YthpbkomchdgneaaDoor
