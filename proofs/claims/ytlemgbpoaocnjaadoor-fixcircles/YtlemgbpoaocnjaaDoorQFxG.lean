/-
  FixCircles: the law's walk.
-/
import Derived.Test.YtlemgbpoaocnjaaDoorQFxF
namespace Go.Proofs.YtlemgbpoaocnjaaDoor
open Go.RowKit BG
attribute [local go_sem ↓] Go.wp_at_zero Go.wp_at_succ

/-- Both sides at any two ranges. -/
theorem circles_both (g : Nat → Addr) (a b : Rg) (h : okR a ∧ okR b) : ∃ (n X Y c : Int) (E : Value), (∀ w, Laid w g → Calls Tryd.prog 20 #[a.v, b.v] w fun e w' => e = .returned (.tuple #[.int .i64 n, .agg #[.int .i64 X, .int .i64 Y], E]) ∧ Gr w w') ∧ (∀ w, Calls Tryd.prog 21 #[a.v, b.v] w fun e w' => e = .returned (.tuple #[.int .i64 n, .agg #[.int .i64 X, .int .i64 Y], .int .i64 c]) ∧ Gr w w') ∧ ((c = 0 ∧ E = .nilIface) ∨ (c = 2 ∧ E = errV g 1)) := by
  by_cases hx : a.x = b.x ∧ a.y = b.y
  · exact ⟨_, 0, 1, 0, .nilIface, fun w hl => between_same g a b h hx w hl, fun w => circles_same a b h hx w, .inl ⟨rfl, rfl⟩⟩
  · have cf := CF.of (ax := a.x) (ay := a.y) (aq := a.q) (bx := b.x) (b_y := b.y) (bq := b.q) h hx
    have ez := chd_eq (far a.x a.y b.x b.y) a.q b.q
    by_cases hz : chd (far a.x a.y b.x b.y) a.q b.q ≤ 0
    · refine ⟨_, 0, 1, 0, .nilIface, fun w hl => between_low g a b h hx hz w hl, fun w => circles_far a.x a.y a.q b.x b.y b.q _ _ cf _ _ _ ?_ w, .inl ⟨rfl, rfl⟩⟩
      rw [ez]
      unfold CP sgn
      rcases Int.lt_or_eq_of_le hz with k | k
      · left; exact ⟨k, by rw [if_pos k]; rfl, rfl, rfl⟩
      · right; left; exact ⟨k, by rw [if_neg (by omega), if_pos k]; rfl, rfl, rfl⟩
    · have hp : 0 < chd (far a.x a.y b.x b.y) a.q b.q := by omega
      rcases q_cases g (chd (far a.x a.y b.x b.y) a.q b.q) (far a.x a.y b.x b.y) with ⟨k1, k2⟩ | ⟨k1, k2, k3, k4⟩
      · refine ⟨_, _, _, 0, .nilIface, fun w hl => ?_, fun w => circles_far a.x a.y a.q b.x b.y b.q _ _ cf 2 0 (.agg #[.int .i64 (qx (chd (far a.x a.y b.x b.y) a.q b.q) (far a.x a.y b.x b.y)), .int .i64 (qy (chd (far a.x a.y b.x b.y) a.q b.q) (far a.x a.y b.x b.y))]) ?_ w, .inl ⟨rfl, rfl⟩⟩
        · have := between_two g a b h hx hp w hl
          rw [k1, k2, if_pos rfl] at this
          exact this
        · rw [ez]; right; right; left; exact ⟨hp, k1, rfl, rfl, rfl⟩
      · refine ⟨0, 0, 0, 2, errV g 1, fun w hl => ?_, fun w => circles_far a.x a.y a.q b.x b.y b.q _ _ cf 0 2 fr0 ?_ w, .inr ⟨rfl, rfl⟩⟩
        · have := between_two g a b h hx hp w hl
          rw [k1, k2, k3, k4, if_neg (by decide)] at this
          exact this
        · rw [ez]; right; right; right; exact ⟨hp, k1, rfl, rfl, rfl⟩
/-- The law's own trial. -/
theorem trial_c (g : Nat → Addr) (w : World) (hl : Laid w g) : Calls Tryd.prog 20 #[.agg #[.int .i64 0, .int .i64 0, .int .i64 25], .agg #[.int .i64 6, .int .i64 0, .int .i64 25]] w fun e w' => e = .returned (.tuple #[.int .i64 2, .agg #[.int .i64 64, .int .i64 1], .nilIface]) ∧ Gr w w' := by
  have h := between_two g ⟨0, 0, 25⟩ ⟨6, 0, 25⟩ ⟨by decide, by decide⟩ (by decide) (by decide) w hl
  rw [show chd (far (0 : Int) 0 6 0) 25 25 = 2304 by decide, show far (0 : Int) 0 6 0 = 36 by decide] at h
  have e1 : qf 2304 36 = true := by decide +kernel
  have e2 : qx 2304 36 = 64 := by decide +kernel
  have e3 : qy 2304 36 = 1 := by decide +kernel
  have e4 : qe g 2304 36 = .nilIface := by
    rcases q_cases g 2304 36 with ⟨_, h⟩ | ⟨h, _⟩
    · exact h
    · rw [e1] at h; cases h
  rw [e1, e2, e3, e4, if_pos rfl] at h
  exact h
theorem rcode_two (a b : Rg) : rcode [a, b] = if okR a ∧ okR b then 0 else 3 := by
  unfold rcode
  rw [if_neg (by simp)]
  simp
set_option maxRecDepth 4000 in
set_option maxHeartbeats 8000000 in
theorem fixCircles_law (g : Nat → Addr) (a b : Rg) (w : World) (hl : Laid w g) : Calls Tryd.prog 5 #[a.v, b.v] w fun e w' => e = .returned (.bool true) ∧ Gr w w' := by
  have HT := hidb (fun w hl => trial_c g w hl)
  have HL := hidb hl
  have HRE := hidb (fun W B hB t => rangesError_any _ B 2 [a, b] _ (rsl_two 22 (.inr rfl) (W := W) (B := B) hB a b t) (by simp))
  rw [rcode_two] at HRE
  clear hl
  by_cases h : okR a ∧ okR b
  · rw [if_pos h] at HRE
    obtain ⟨n, X, Y, c, E, HB, HCi, HE⟩ := circles_both g a b h
    have HBt := hidb HB
    have HCo := hidb HCi
    have HCd : Hid (∀ w, Laid w g → Calls Tryd.prog 10 #[E, .int .i64 c] w fun e w' => e = .returned (.bool true) ∧ Gr w w') := fun w hl => by
      rcases HE with ⟨rfl, rfl⟩ | ⟨rfl, rfl⟩
      · refine (coded_nil 0 w).mono ?_
        rintro e w' ⟨rfl, rfl⟩
        exact ⟨rfl, Gr.refl _⟩
      · exact (coded_sent g 1 (by decide) 2 w hl).mono fun e w' k => ⟨k.1, k.2⟩
    clear HE HB HCi h
    obtain ⟨ax, ay, aq⟩ := a
    obtain ⟨bx, b_y, bq⟩ := b
    have FA := (At.new3 w (.int .i64 ax) (.int .i64 ay) (.int .i64 aq) 58).alloc (.cells #[.int .i64 bx, .int .i64 b_y, .int .i64 bq] 58)
    have FB := At.nx3 (W := w) (.cells #[.int .i64 ax, .int .i64 ay, .int .i64 aq] 58) (.int .i64 bx) (.int .i64 b_y) (.int .i64 bq) 58
    have HC : Gr w ((w.alloc (.cells #[.int .i64 ax, .int .i64 ay, .int .i64 aq] 58)).alloc (.cells #[.int .i64 bx, .int .i64 b_y, .int .i64 bq] 58)) := ((Gr.refl w).alloc _).alloc _
    go_enter Tryd.func5, Tryd.ntmps5
    go_wp2_with fail
    refine (HT.out _ (HL.out.below HC.out)).mono ?_
    rintro e w1 ⟨rfl, hB⟩
    replace FA := At.below hB FA
    replace FB := At.below hB FB
    replace HC := Gr.step HC hB
    clear hB HT
    have FF1 := At.new2 w1 (.int .i64 64) (.int .i64 1) 25
    obtain ⟨F, hF⟩ : ∃ F, F = w1.heap.size := ⟨_, rfl⟩
    rw [← hF] at FF1
    have hFl : w.heap.size + 1 < F := by rw [hF]; exact FB.lt
    replace FA := FA.alloc (.cells #[.int .i64 64, .int .i64 1] 25)
    replace FB := FB.alloc (.cells #[.int .i64 64, .int .i64 1] 25)
    replace HC := HC.alloc (.cells #[.int .i64 64, .int .i64 1] 25)
    obtain ⟨a0, a1, a2⟩ := FA.c3
    obtain ⟨b0, b1, b2⟩ := FB.c3
    go_wp2_with fail
    rw [← hF]
    clear hF
    generalize w1.alloc (.cells #[.int .i64 64, .int .i64 1] 25) = w2 at *
    refine (HBt.out _ (HL.out.below HC.out)).mono ?_
    rintro e w3 ⟨rfl, hB⟩
    replace FA := At.below hB FA
    replace FB := At.below hB FB
    replace FF1 := At.below hB FF1
    replace HC := Gr.step HC hB
    clear hB HBt a0 a1 a2 b0 b1 b2
    obtain ⟨a0, a1, a2⟩ := FA.c3
    obtain ⟨b0, b1, b2⟩ := FB.c3
    obtain ⟨x0, x1⟩ := FF1.c2
    obtain ⟨y0, y1⟩ := FF1.f2
    have hge : w.heap.size ≤ F := by omega
    have ne0 : ¬ F = w.heap.size := by omega
    have ne1 : ¬ F = w.heap.size + 1 := by omega
    have FF2 := At.fill2 (FF1.has rfl) (.int .i64 X) (.int .i64 Y)
    have FA2 := (FA.skip ne0 0 (.int .i64 X)).skip ne0 1 (.int .i64 Y)
    have FB2 := (FB.skip ne1 0 (.int .i64 X)).skip ne1 1 (.int .i64 Y)
    have HC2 := (HC.set hge 0 (.int .i64 X)).set hge 1 (.int .i64 Y)
    clear FA FB FF1 HC
    go_wp2_with fail
    clear x0 x1 y0 y1 a0 a1 a2 b0 b1 b2
    have hs4 : w3.heap.size = ((w3.setCell ⟨F, 0, none⟩ (.int .i64 X)).setCell ⟨F, 1, none⟩ (.int .i64 Y)).heap.size := by simp
    generalize (w3.setCell ⟨F, 0, none⟩ (.int .i64 X)).setCell ⟨F, 1, none⟩ (.int .i64 Y) = w4 at *
    refine (HRE.out w4 w3.heap.size hs4 58).mono ?_
    rintro e w5 ⟨rfl, hB⟩
    replace FA2 := At.below hB (FA2.alloc _)
    replace FB2 := At.below hB (FB2.alloc _)
    replace FF2 := At.below hB (FF2.alloc _)
    replace HC2 := Gr.step (HC2.alloc _) hB
    clear hB HRE hs4
    obtain ⟨a0, a1, a2⟩ := FA2.c3
    obtain ⟨b0, b1, b2⟩ := FB2.c3
    go_wp2_with fail
    refine (HCo.out _).mono ?_
    rintro e w6 ⟨rfl, hB⟩
    replace FF2 := At.below hB FF2
    replace HC2 := Gr.step HC2 hB
    clear hB HCo a0 a1 a2 b0 b1 b2 FA2 FB2
    have FG := At.new2 w6 (.int .i64 X) (.int .i64 Y) 25
    replace FF2 := FF2.alloc (.cells #[.int .i64 X, .int .i64 Y] 25)
    replace HC2 := HC2.alloc (.cells #[.int .i64 X, .int .i64 Y] 25)
    go_wp2_with fail
    refine (HCd.out _ (HL.out.below HC2.out)).mono ?_
    rintro e w7 ⟨rfl, hB⟩
    replace FF2 := At.below hB FF2
    replace FG := At.below hB FG
    replace HC2 := Gr.step HC2 hB
    clear hB HCd
    obtain ⟨x0, x1⟩ := FF2.c2
    obtain ⟨z0, z1⟩ := FG.c2
    go_wp2
    go_ret
    exact ⟨by simp, HC2⟩
  · rw [if_neg h] at HRE
    have HBt := hidb (fun w hl => between_bad g a b h w hl)
    have HCd : Hid (∀ w, Laid w g → Calls Tryd.prog 10 #[errV g 2, .int .i64 3] w fun e w' => e = .returned (.bool true) ∧ Gr w w') := fun w hl => (coded_sent g 2 (by decide) 3 w hl).mono fun e w' k => ⟨k.1, k.2⟩
    clear h
    obtain ⟨ax, ay, aq⟩ := a
    obtain ⟨bx, b_y, bq⟩ := b
    have FA := (At.new3 w (.int .i64 ax) (.int .i64 ay) (.int .i64 aq) 58).alloc (.cells #[.int .i64 bx, .int .i64 b_y, .int .i64 bq] 58)
    have FB := At.nx3 (W := w) (.cells #[.int .i64 ax, .int .i64 ay, .int .i64 aq] 58) (.int .i64 bx) (.int .i64 b_y) (.int .i64 bq) 58
    have HC : Gr w ((w.alloc (.cells #[.int .i64 ax, .int .i64 ay, .int .i64 aq] 58)).alloc (.cells #[.int .i64 bx, .int .i64 b_y, .int .i64 bq] 58)) := ((Gr.refl w).alloc _).alloc _
    go_enter Tryd.func5, Tryd.ntmps5
    go_wp2_with fail
    refine (HT.out _ (HL.out.below HC.out)).mono ?_
    rintro e w1 ⟨rfl, hB⟩
    replace FA := At.below hB FA
    replace FB := At.below hB FB
    replace HC := Gr.step HC hB
    clear hB HT
    have FF1 := At.new2 w1 (.int .i64 64) (.int .i64 1) 25
    obtain ⟨F, hF⟩ : ∃ F, F = w1.heap.size := ⟨_, rfl⟩
    rw [← hF] at FF1
    have hFl : w.heap.size + 1 < F := by rw [hF]; exact FB.lt
    replace FA := FA.alloc (.cells #[.int .i64 64, .int .i64 1] 25)
    replace FB := FB.alloc (.cells #[.int .i64 64, .int .i64 1] 25)
    replace HC := HC.alloc (.cells #[.int .i64 64, .int .i64 1] 25)
    obtain ⟨a0, a1, a2⟩ := FA.c3
    obtain ⟨b0, b1, b2⟩ := FB.c3
    go_wp2_with fail
    rw [← hF]
    clear hF
    generalize w1.alloc (.cells #[.int .i64 64, .int .i64 1] 25) = w2 at *
    refine (HBt.out _ (HL.out.below HC.out)).mono ?_
    rintro e w3 ⟨rfl, hB⟩
    replace FA := At.below hB FA
    replace FB := At.below hB FB
    replace FF1 := At.below hB FF1
    replace HC := Gr.step HC hB
    clear hB HBt a0 a1 a2 b0 b1 b2
    obtain ⟨a0, a1, a2⟩ := FA.c3
    obtain ⟨b0, b1, b2⟩ := FB.c3
    obtain ⟨x0, x1⟩ := FF1.c2
    obtain ⟨y0, y1⟩ := FF1.f2
    have hge : w.heap.size ≤ F := by omega
    have ne0 : ¬ F = w.heap.size := by omega
    have ne1 : ¬ F = w.heap.size + 1 := by omega
    have FF2 := At.fill2 (FF1.has rfl) (.int .i64 0) (.int .i64 0)
    have HC2 := (HC.set hge 0 (.int .i64 0)).set hge 1 (.int .i64 0)
    clear FA FB FF1 HC
    go_wp2_with fail
    clear x0 x1 y0 y1 a0 a1 a2 b0 b1 b2
    have hs4 : w3.heap.size = ((w3.setCell ⟨F, 0, none⟩ (.int .i64 0)).setCell ⟨F, 1, none⟩ (.int .i64 0)).heap.size := by simp
    generalize (w3.setCell ⟨F, 0, none⟩ (.int .i64 0)).setCell ⟨F, 1, none⟩ (.int .i64 0) = w4 at *
    refine (HRE.out w4 w3.heap.size hs4 58).mono ?_
    rintro e w5 ⟨rfl, hB⟩
    replace FF2 := At.below hB (FF2.alloc _)
    replace HC2 := Gr.step (HC2.alloc _) hB
    clear hB HRE hs4
    go_wp2_with fail
    refine (HCd.out _ (HL.out.below HC2.out)).mono ?_
    rintro e w7 ⟨rfl, hB⟩
    replace FF2 := At.below hB FF2
    replace HC2 := Gr.step HC2 hB
    clear hB HCd
    obtain ⟨x0, x1⟩ := FF2.c2
    go_wp2
    go_ret
    exact ⟨by simp, HC2⟩
end Go.Proofs.YtlemgbpoaocnjaaDoor
