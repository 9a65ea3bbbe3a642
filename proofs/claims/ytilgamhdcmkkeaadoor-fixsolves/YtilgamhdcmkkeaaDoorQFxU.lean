/-
  FixSolves.
-/
import Derived.Test.YtilgamhdcmkkeaaDoorQFxQ
import Derived.Test.YtilgamhdcmkkeaaDoorQFxS
namespace Go.Proofs.YtilgamhdcmkkeaaDoor
open Go.RowKit BG
attribute [local go_sem ↓] Go.wp_at_zero Go.wp_at_succ

theorem coded_i (g : Nat → Addr) (i : Nat) (hi : i < 8) (n : Int) (hn : n = (i : Int) + 1) (w : World) (hl : Laid w g) : Calls Tryd.prog 10 #[errV g i, .int .i64 n] w fun e w' => e = .returned (.bool true) ∧ Gr w w' := by
  subst hn
  refine (coded_sent g i hi _ w hl).mono ?_
  rintro e w' ⟨rfl, hB⟩
  exact ⟨by simp, hB⟩
theorem coded_0 (w : World) : Calls Tryd.prog 10 #[.nilIface, .int .i64 0] w fun e w' => e = .returned (.bool true) ∧ Gr w w' := by
  refine (coded_nil 0 w).mono ?_
  rintro e w' ⟨rfl, rfl⟩
  exact ⟨rfl, Gr.refl _⟩
theorem rcode_err {g : Nat → Addr} {l : List Rg} (h : ¬ rerr g l = .nilIface) : ∃ i, i < 8 ∧ rerr g l = errV g i ∧ (rcode l : Int) = (i : Int) + 1 := by
  unfold rerr at h
  unfold rerr rcode
  by_cases c1 : 60 < l.length
  · rw [if_pos c1, if_pos c1]; exact ⟨1, by decide, rfl, rfl⟩
  · rw [if_neg c1] at h
    rw [if_neg c1, if_neg c1]
    by_cases c2 : ∀ r ∈ l, okR r
    · rw [if_pos c2] at h; exact absurd rfl h
    · rw [if_neg c2, if_neg c2]; exact ⟨2, by decide, rfl, rfl⟩
theorem rcode_nil {g : Nat → Addr} {l : List Rg} (h : rerr g l = .nilIface) : (rcode l : Int) = 0 := by
  unfold rerr at h
  unfold rcode
  by_cases c1 : 60 < l.length
  · rw [if_pos c1] at h; cases h
  · rw [if_neg c1] at h
    rw [if_neg c1]
    by_cases c2 : ∀ r ∈ l, okR r
    · rw [if_pos c2]; rfl
    · rw [if_neg c2] at h; cases h
theorem sol_lid {l : List Rg} (hok : ∀ r ∈ l, okR r) (ll : l.length ≤ 70) : (sX l).natAbs ≤ 2 * lid ∧ (sY l).natAbs ≤ 2 * lid ∧ (sOv l).natAbs ≤ 2 * lid := by
  have h := sms_bd hok ll
  have f := fun {a b : Nat} (ha : a < 3) (hb : b < 3) => br_lid (br_lt (crs_bw h ha hb).2 (by decide))
  exact ⟨f (by decide) (by decide), f (by decide) (by decide), f (by decide) (by decide)⟩
theorem qy_ne {x y : Int} (hy : ¬ y = 0) (hf : qf x y = true) : (qy x y == 0) = false := by
  have h1 : fits (rn x.natAbs y.natAbs) (rd x.natAbs y.natAbs) := by unfold qf at hf; exact of_decide_eq_true hf
  have h2 : 0 < rd x.natAbs y.natAbs := by
    unfold rd
    have hy' : 0 < y.natAbs := by omega
    exact Nat.div_pos (Nat.le_of_dvd hy' (Nat.gcd_dvd_right _ _)) (Nat.gcd_pos_of_pos_right _ hy')
  unfold qy ry
  rw [if_pos h1]
  simp
  omega
set_option maxHeartbeats 1000000 in
theorem fixSolves_long (g : Nat → Addr) (ad : Option Addr) (n cap : Nat) (w : World) (hl : Laid w g) (hn : 70 < n) : Calls Tryd.prog 3 #[.slice ad n cap] w fun e w' => e = .returned (.bool true) ∧ Gr w w' := by
  have CF := hidb (fixes_any g w hl)
  have hn' : 70 < (n : Int) := by omega
  clear hl hn
  go_enter Tryd.func3, Tryd.ntmps3
  go_wp2_with fail
  refine CF.out.mono ?_
  rintro e w1 ⟨rfl, hB⟩
  go_wp2
  go_ret
  exact ⟨rfl, hB⟩
set_option maxRecDepth 4000 in
set_option maxHeartbeats 8000000 in
theorem fixSolves_1 (g : Nat → Addr) (ad : Option Addr) (b o cap : Nat) (l : List Rg) (w : World) (hl : Laid w g) (h : RSo w ad b o cap l) (ll : l.length ≤ 70) (hr : ¬ rerr g l = .nilIface) : Calls Tryd.prog 3 #[.slice ad l.length cap] w fun e w' => e = .returned (.bool true) ∧ Gr w w' := by
  have HL := hidb hl
  have CF := hidb (fixes_any g w hl)
  have CR := hidb (fun W1 (hG : Gr w W1) => rangesO ad b o cap l W1 (h.below hG.out) (by omega))
  have CS := hidb (fun W1 (hG : Gr w W1) ad1 b1 cap1 h1 => solve_all g ad1 b1 cap1 l (.agg #[.int .i64 0, .int .i64 0]) (.agg #[.int .i64 0, .int .i64 0]) (rerr g l) W1 h1 (by omega) (hl.below hG.out) (.inl ⟨hr, rfl, rfl, rfl⟩))
  have CE := hidb (fun W1 (hG : Gr w W1) => rangesErrorO ad b o cap l W1 (h.below hG.out) (by omega))
  have CV := hidb (fun W1 (hG : Gr w W1) ad1 b1 cap1 h1 => valid_any g ad1 b1 cap1 l W1 h1 (by omega) (hl.below hG.out))
  obtain ⟨i, hi, he, hc⟩ := rcode_err hr
  rw [he] at CS CV
  have zp : 0 < (rcode l : Int) := by omega
  have HI := hidb hi
  have HC := hidb hc
  clear hr he hc hi
  generalize (rcode l : Int) = z at *
  have hn' : ¬ 70 < (l.length : Int) := by omega
  clear hl h
  go_enter Tryd.func3, Tryd.ntmps3
  go_wp2_with fail
  refine CF.out.mono ?_
  rintro e w1 ⟨rfl, hB⟩
  have G := hidb hB
  clear hB
  go_wp2_with fail
  refine (CR.out _ G.out).mono ?_
  rintro e w2 ⟨ad1, b1, cap1, rfl, h1, hB⟩
  replace G := hidb (Gr.step G.out hB.out)
  have H1 := hidb h1
  clear hB h1
  go_wp2_with fail
  refine (CS.out _ G.out _ _ _ H1.out).mono ?_
  rintro e w3 ⟨rfl, hB⟩
  replace G := hidb (((Gr.step G.out hB.out).alloc (.cells #[.int .i64 0, .int .i64 0] 25)).alloc (.cells #[.int .i64 0, .int .i64 0] 25))
  have XA := hidb ((At.new2 w3 (.int .i64 0) (.int .i64 0) 25).alloc (.cells #[.int .i64 0, .int .i64 0] 25))
  have YA := hidb (At.nx2 (W := w3) (.cells #[.int .i64 0, .int .i64 0] 25) (.int .i64 0) (.int .i64 0) 25)
  clear hB H1
  go_wp2_with fail
  refine (CE.out _ G.out).mono ?_
  rintro e w4 ⟨rfl, hB⟩
  replace G := hidb (Gr.step G.out hB.out)
  replace XA := hidb (At.below hB.out XA.out)
  replace YA := hidb (At.below hB.out YA.out)
  clear hB
  generalize w3.heap.size = P at *
  go_wp2_with fail
  refine (CR.out _ G.out).mono ?_
  rintro e w5 ⟨ad2, b2, cap2, rfl, h2, hB⟩
  replace G := hidb (Gr.step G.out hB.out)
  replace XA := hidb (At.below hB.out XA.out)
  replace YA := hidb (At.below hB.out YA.out)
  have H2 := hidb h2
  clear hB h2
  go_wp2_with fail
  refine (CV.out _ G.out _ _ _ H2.out).mono ?_
  rintro e w6 ⟨rfl, hB⟩
  replace G := hidb (Gr.step G.out hB.out)
  replace XA := hidb (At.below hB.out XA.out)
  replace YA := hidb (At.below hB.out YA.out)
  clear hB H2
  go_wp2_with fail
  refine (coded_i g i HI.out _ HC.out _ (HL.out.below G.out.out)).mono ?_
  rintro e w7 ⟨rfl, hB⟩
  replace G := hidb (Gr.step G.out hB.out)
  replace XA := hidb (At.below hB.out XA.out)
  replace YA := hidb (At.below hB.out YA.out)
  clear hB
  obtain ⟨x0, x1⟩ := XA.out.c2
  obtain ⟨y0, y1⟩ := YA.out.c2
  go_wp2_with fail
  refine (coded_i g i (by exact HI.out) _ HC.out _ (HL.out.below G.out.out)).mono ?_
  rintro e w8 ⟨rfl, hB⟩
  replace G := hidb (Gr.step G.out hB.out)
  clear hB
  go_wp2
  go_ret
  exact ⟨rfl, G.out⟩
set_option maxRecDepth 4000 in
set_option maxHeartbeats 8000000 in
theorem fixSolves_2 (g : Nat → Addr) (ad : Option Addr) (b o cap : Nat) (l : List Rg) (w : World) (hl : Laid w g) (h : RSo w ad b o cap l) (ll : l.length ≤ 70) (hr : rerr g l = .nilIface) (hz : sOv l = 0) : Calls Tryd.prog 3 #[.slice ad l.length cap] w fun e w' => e = .returned (.bool true) ∧ Gr w w' := by
  have HL := hidb hl
  have CF := hidb (fixes_any g w hl)
  have CR := hidb (fun W1 (hG : Gr w W1) => rangesO ad b o cap l W1 (h.below hG.out) (by omega))
  have CS := hidb (fun W1 (hG : Gr w W1) ad1 b1 cap1 h1 => solve_all g ad1 b1 cap1 l (.agg #[.int .i64 0, .int .i64 0]) (.agg #[.int .i64 0, .int .i64 0]) (errV g 5) W1 h1 (by omega) (hl.below hG.out) (.inr (.inl ⟨hr, hz, rfl, rfl, rfl⟩)))
  have CE := hidb (fun W1 (hG : Gr w W1) => rangesErrorO ad b o cap l W1 (h.below hG.out) (by omega))
  have CV := hidb (fun W1 (hG : Gr w W1) ad1 b1 cap1 h1 => valid_any g ad1 b1 cap1 l W1 h1 (by omega) (hl.below hG.out))
  obtain ⟨_, hok⟩ := rerr_nil hr
  have CO := hidb (fun W1 (hG : Gr w W1) => solved_any ad b o cap l W1 (h.below hG.out) ll hok)
  rw [rcode_nil hr] at CE
  rw [hr] at CV
  rw [show decide (¬ sOv l = 0) = false by simp [hz]] at CO
  clear hz hr hok
  have hn' : ¬ 70 < (l.length : Int) := by omega
  clear hl h
  go_enter Tryd.func3, Tryd.ntmps3
  go_wp2_with fail
  refine CF.out.mono ?_
  rintro e w1 ⟨rfl, hB⟩
  have G := hidb hB
  clear hB
  go_wp2_with fail
  refine (CR.out _ G.out).mono ?_
  rintro e w2 ⟨ad1, b1, cap1, rfl, h1, hB⟩
  replace G := hidb (Gr.step G.out hB.out)
  have H1 := hidb h1
  clear hB h1
  go_wp2_with fail
  refine (CS.out _ G.out _ _ _ H1.out).mono ?_
  rintro e w3 ⟨rfl, hB⟩
  replace G := hidb (((Gr.step G.out hB.out).alloc (.cells #[.int .i64 0, .int .i64 0] 25)).alloc (.cells #[.int .i64 0, .int .i64 0] 25))
  have XA := hidb ((At.new2 w3 (.int .i64 0) (.int .i64 0) 25).alloc (.cells #[.int .i64 0, .int .i64 0] 25))
  have YA := hidb (At.nx2 (W := w3) (.cells #[.int .i64 0, .int .i64 0] 25) (.int .i64 0) (.int .i64 0) 25)
  clear hB H1
  go_wp2_with fail
  refine (CE.out _ G.out).mono ?_
  rintro e w4 ⟨rfl, hB⟩
  replace G := hidb (Gr.step G.out hB.out)
  replace XA := hidb (At.below hB.out XA.out)
  replace YA := hidb (At.below hB.out YA.out)
  clear hB
  generalize w3.heap.size = P at *
  go_wp2_with fail
  refine (CR.out _ G.out).mono ?_
  rintro e w5 ⟨ad2, b2, cap2, rfl, h2, hB⟩
  replace G := hidb (Gr.step G.out hB.out)
  replace XA := hidb (At.below hB.out XA.out)
  replace YA := hidb (At.below hB.out YA.out)
  have H2 := hidb h2
  clear hB h2
  go_wp2_with fail
  refine (CV.out _ G.out _ _ _ H2.out).mono ?_
  rintro e w6 ⟨rfl, hB⟩
  replace G := hidb (Gr.step G.out hB.out)
  replace XA := hidb (At.below hB.out XA.out)
  replace YA := hidb (At.below hB.out YA.out)
  clear hB H2
  go_wp2_with fail
  refine (coded_0 _).mono ?_
  rintro e w7 ⟨rfl, hB⟩
  replace G := hidb (Gr.step G.out hB.out)
  replace XA := hidb (At.below hB.out XA.out)
  replace YA := hidb (At.below hB.out YA.out)
  clear hB
  obtain ⟨x0, x1⟩ := XA.out.c2
  obtain ⟨y0, y1⟩ := YA.out.c2
  go_wp2_with fail
  refine (CO.out _ G.out).mono ?_
  rintro e w8 ⟨m1, m2, m3, v1, v2, v3, rfl, s1, s2, s3, hB⟩
  replace G := hidb ((((Gr.step G.out hB.out).alloc (.cells #[.bool m1, v1] 38)).alloc (.cells #[.bool m2, v2] 38)).alloc (.cells #[.bool m3, v3] 38))
  replace XA := hidb ((((At.below hB.out XA.out).alloc (.cells #[.bool m1, v1] 38)).alloc (.cells #[.bool m2, v2] 38)).alloc (.cells #[.bool m3, v3] 38))
  replace YA := hidb ((((At.below hB.out YA.out).alloc (.cells #[.bool m1, v1] 38)).alloc (.cells #[.bool m2, v2] 38)).alloc (.cells #[.bool m3, v3] 38))
  obtain ⟨ad1, cp1, f1⟩ := s1.form'
  obtain ⟨ad2, cp2, f2⟩ := s2.form'
  obtain ⟨ad3, cp3, f3⟩ := s3.form'
  have PA := hidb (((At.new2 w8 (.bool m1) v1 38).alloc (.cells #[.bool m2, v2] 38)).alloc (.cells #[.bool m3, v3] 38))
  have QA := hidb ((At.nx2 (W := w8) (.cells #[.bool m1, v1] 38) (.bool m2) v2 38).alloc (.cells #[.bool m3, v3] 38))
  have DA := hidb (At.ny2 (W := w8) (.cells #[.bool m1, v1] 38) (.cells #[.bool m2, v2] 38) (.bool m3) v3 38)
  have K1 := hidb (sg_alloc (sg_alloc (sg_alloc s1 (.cells #[.bool m1, v1] 38)) (.cells #[.bool m2, v2] 38)) (.cells #[.bool m3, v3] 38))
  have K2 := hidb (sg_alloc (sg_alloc (sg_alloc s2 (.cells #[.bool m1, v1] 38)) (.cells #[.bool m2, v2] 38)) (.cells #[.bool m3, v3] 38))
  have K3 := hidb (sg_alloc (sg_alloc (sg_alloc s3 (.cells #[.bool m1, v1] 38)) (.cells #[.bool m2, v2] 38)) (.cells #[.bool m3, v3] 38))
  clear hB x0 x1 y0 y1 s1 s2 s3
  subst f1 f2 f3
  go_wp2_with fail
  refine (coded_i g 5 (by decide) 6 rfl _ (HL.out.below G.out.out)).mono ?_
  rintro e w8 ⟨rfl, hB⟩
  replace G := hidb (Gr.step G.out hB.out)
  clear hB
  go_wp2
  go_ret
  exact ⟨rfl, G.out⟩
set_option maxRecDepth 4000 in
set_option maxHeartbeats 8000000 in
theorem fixSolves_3 (g : Nat → Addr) (ad : Option Addr) (b o cap : Nat) (l : List Rg) (w : World) (hl : Laid w g) (h : RSo w ad b o cap l) (ll : l.length ≤ 70) (hr : rerr g l = .nilIface) (hz : ¬ sOv l = 0) (hfx : qf (sX l) (sOv l) = false) : Calls Tryd.prog 3 #[.slice ad l.length cap] w fun e w' => e = .returned (.bool true) ∧ Gr w w' := by
  have HL := hidb hl
  have CF := hidb (fixes_any g w hl)
  have CR := hidb (fun W1 (hG : Gr w W1) => rangesO ad b o cap l W1 (h.below hG.out) (by omega))
  have CS := hidb (fun W1 (hG : Gr w W1) ad1 b1 cap1 h1 => solve_all g ad1 b1 cap1 l (.agg #[.int .i64 0, .int .i64 0]) (.agg #[.int .i64 0, .int .i64 0]) (errV g 1) W1 h1 (by omega) (hl.below hG.out) (.inr (.inr (.inl ⟨hr, hz, hfx, rfl, rfl, rfl⟩))))
  have CE := hidb (fun W1 (hG : Gr w W1) => rangesErrorO ad b o cap l W1 (h.below hG.out) (by omega))
  have CV := hidb (fun W1 (hG : Gr w W1) ad1 b1 cap1 h1 => valid_any g ad1 b1 cap1 l W1 h1 (by omega) (hl.below hG.out))
  obtain ⟨_, hok⟩ := rerr_nil hr
  have CO := hidb (fun W1 (hG : Gr w W1) => solved_any ad b o cap l W1 (h.below hG.out) ll hok)
  rw [rcode_nil hr] at CE
  rw [hr] at CV
  rw [show decide (¬ sOv l = 0) = true by simp [hz]] at CO
  have LD := sol_lid hok ll
  have RX := hidb (fun (W1 : World) (m n : Bool) (u v : Value) (a : Sg W1 m u (sX l)) (b : Sg W1 n v (sOv l)) => reduced_all LD.1 LD.2.2 hz a b)
  have RY := hidb (fun (W1 : World) (m n : Bool) (u v : Value) (a : Sg W1 m u (sY l)) (b : Sg W1 n v (sOv l)) => reduced_all LD.2.1 LD.2.2 hz a b)
  rw [hfx] at RX
  clear hz hr hok LD
  have hn' : ¬ 70 < (l.length : Int) := by omega
  clear hl h
  go_enter Tryd.func3, Tryd.ntmps3
  go_wp2_with fail
  refine CF.out.mono ?_
  rintro e w1 ⟨rfl, hB⟩
  have G := hidb hB
  clear hB
  go_wp2_with fail
  refine (CR.out _ G.out).mono ?_
  rintro e w2 ⟨ad1, b1, cap1, rfl, h1, hB⟩
  replace G := hidb (Gr.step G.out hB.out)
  have H1 := hidb h1
  clear hB h1
  go_wp2_with fail
  refine (CS.out _ G.out _ _ _ H1.out).mono ?_
  rintro e w3 ⟨rfl, hB⟩
  replace G := hidb (((Gr.step G.out hB.out).alloc (.cells #[.int .i64 0, .int .i64 0] 25)).alloc (.cells #[.int .i64 0, .int .i64 0] 25))
  have XA := hidb ((At.new2 w3 (.int .i64 0) (.int .i64 0) 25).alloc (.cells #[.int .i64 0, .int .i64 0] 25))
  have YA := hidb (At.nx2 (W := w3) (.cells #[.int .i64 0, .int .i64 0] 25) (.int .i64 0) (.int .i64 0) 25)
  clear hB H1
  go_wp2_with fail
  refine (CE.out _ G.out).mono ?_
  rintro e w4 ⟨rfl, hB⟩
  replace G := hidb (Gr.step G.out hB.out)
  replace XA := hidb (At.below hB.out XA.out)
  replace YA := hidb (At.below hB.out YA.out)
  clear hB
  generalize w3.heap.size = P at *
  go_wp2_with fail
  refine (CR.out _ G.out).mono ?_
  rintro e w5 ⟨ad2, b2, cap2, rfl, h2, hB⟩
  replace G := hidb (Gr.step G.out hB.out)
  replace XA := hidb (At.below hB.out XA.out)
  replace YA := hidb (At.below hB.out YA.out)
  have H2 := hidb h2
  clear hB h2
  go_wp2_with fail
  refine (CV.out _ G.out _ _ _ H2.out).mono ?_
  rintro e w6 ⟨rfl, hB⟩
  replace G := hidb (Gr.step G.out hB.out)
  replace XA := hidb (At.below hB.out XA.out)
  replace YA := hidb (At.below hB.out YA.out)
  clear hB H2
  go_wp2_with fail
  refine (coded_0 _).mono ?_
  rintro e w7 ⟨rfl, hB⟩
  replace G := hidb (Gr.step G.out hB.out)
  replace XA := hidb (At.below hB.out XA.out)
  replace YA := hidb (At.below hB.out YA.out)
  clear hB
  obtain ⟨x0, x1⟩ := XA.out.c2
  obtain ⟨y0, y1⟩ := YA.out.c2
  go_wp2_with fail
  refine (CO.out _ G.out).mono ?_
  rintro e w8 ⟨m1, m2, m3, v1, v2, v3, rfl, s1, s2, s3, hB⟩
  replace G := hidb ((((Gr.step G.out hB.out).alloc (.cells #[.bool m1, v1] 38)).alloc (.cells #[.bool m2, v2] 38)).alloc (.cells #[.bool m3, v3] 38))
  replace XA := hidb ((((At.below hB.out XA.out).alloc (.cells #[.bool m1, v1] 38)).alloc (.cells #[.bool m2, v2] 38)).alloc (.cells #[.bool m3, v3] 38))
  replace YA := hidb ((((At.below hB.out YA.out).alloc (.cells #[.bool m1, v1] 38)).alloc (.cells #[.bool m2, v2] 38)).alloc (.cells #[.bool m3, v3] 38))
  obtain ⟨ad1, cp1, f1⟩ := s1.form'
  obtain ⟨ad2, cp2, f2⟩ := s2.form'
  obtain ⟨ad3, cp3, f3⟩ := s3.form'
  have PA := hidb (((At.new2 w8 (.bool m1) v1 38).alloc (.cells #[.bool m2, v2] 38)).alloc (.cells #[.bool m3, v3] 38))
  have QA := hidb ((At.nx2 (W := w8) (.cells #[.bool m1, v1] 38) (.bool m2) v2 38).alloc (.cells #[.bool m3, v3] 38))
  have DA := hidb (At.ny2 (W := w8) (.cells #[.bool m1, v1] 38) (.cells #[.bool m2, v2] 38) (.bool m3) v3 38)
  have K1 := hidb (sg_alloc (sg_alloc (sg_alloc s1 (.cells #[.bool m1, v1] 38)) (.cells #[.bool m2, v2] 38)) (.cells #[.bool m3, v3] 38))
  have K2 := hidb (sg_alloc (sg_alloc (sg_alloc s2 (.cells #[.bool m1, v1] 38)) (.cells #[.bool m2, v2] 38)) (.cells #[.bool m3, v3] 38))
  have K3 := hidb (sg_alloc (sg_alloc (sg_alloc s3 (.cells #[.bool m1, v1] 38)) (.cells #[.bool m2, v2] 38)) (.cells #[.bool m3, v3] 38))
  clear hB x0 x1 y0 y1 s1 s2 s3
  subst f1 f2 f3
  obtain ⟨p0, p1⟩ := PA.out.c2
  obtain ⟨d0, d1⟩ := DA.out.c2
  go_wp2_with fail
  refine (RX.out _ _ _ _ _ K1.out K3.out).mono ?_
  rintro e w9 ⟨rfl, hB⟩
  replace G := hidb ((Gr.step G.out hB).alloc (.cells #[.int .i64 (qx (sX l) (sOv l)), .int .i64 (qy (sX l) (sOv l))] 25))
  replace XA := hidb ((At.below hB XA.out).alloc (.cells #[.int .i64 (qx (sX l) (sOv l)), .int .i64 (qy (sX l) (sOv l))] 25))
  replace YA := hidb ((At.below hB YA.out).alloc (.cells #[.int .i64 (qx (sX l) (sOv l)), .int .i64 (qy (sX l) (sOv l))] 25))
  replace QA := hidb ((At.below hB QA.out).alloc (.cells #[.int .i64 (qx (sX l) (sOv l)), .int .i64 (qy (sX l) (sOv l))] 25))
  replace DA := hidb ((At.below hB DA.out).alloc (.cells #[.int .i64 (qx (sX l) (sOv l)), .int .i64 (qy (sX l) (sOv l))] 25))
  have AA := hidb (At.new2 w9 (.int .i64 (qx (sX l) (sOv l))) (.int .i64 (qy (sX l) (sOv l))) 25)
  replace K2 := hidb (sg_alloc (K2.out.below hB) (.cells #[.int .i64 (qx (sX l) (sOv l)), .int .i64 (qy (sX l) (sOv l))] 25))
  replace K3 := hidb (sg_alloc (K3.out.below hB) (.cells #[.int .i64 (qx (sX l) (sOv l)), .int .i64 (qy (sX l) (sOv l))] 25))
  clear hB p0 p1 d0 d1
  obtain ⟨p0, p1⟩ := QA.out.c2
  obtain ⟨d0, d1⟩ := DA.out.c2
  go_wp2_with fail
  refine (RY.out _ _ _ _ _ K2.out K3.out).mono ?_
  rintro e w10 ⟨rfl, hB⟩
  replace G := hidb ((Gr.step G.out hB).alloc (.cells #[.int .i64 (qx (sY l) (sOv l)), .int .i64 (qy (sY l) (sOv l))] 25))
  replace XA := hidb ((At.below hB XA.out).alloc (.cells #[.int .i64 (qx (sY l) (sOv l)), .int .i64 (qy (sY l) (sOv l))] 25))
  replace YA := hidb ((At.below hB YA.out).alloc (.cells #[.int .i64 (qx (sY l) (sOv l)), .int .i64 (qy (sY l) (sOv l))] 25))
  replace AA := hidb ((At.below hB AA.out).alloc (.cells #[.int .i64 (qx (sY l) (sOv l)), .int .i64 (qy (sY l) (sOv l))] 25))
  have BA := hidb (At.new2 w10 (.int .i64 (qx (sY l) (sOv l))) (.int .i64 (qy (sY l) (sOv l))) 25)
  clear hB p0 p1 d0 d1 K1 K2 K3 PA QA DA
  go_wp2_with fail
  refine (coded_i g 1 (by decide) 2 rfl _ (HL.out.below G.out.out)).mono ?_
  rintro e w8 ⟨rfl, hB⟩
  replace G := hidb (Gr.step G.out hB.out)
  clear hB
  go_wp2
  go_ret
  exact ⟨rfl, G.out⟩
set_option maxRecDepth 4000 in
set_option maxHeartbeats 8000000 in
theorem fixSolves_4 (g : Nat → Addr) (ad : Option Addr) (b o cap : Nat) (l : List Rg) (w : World) (hl : Laid w g) (h : RSo w ad b o cap l) (ll : l.length ≤ 70) (hr : rerr g l = .nilIface) (hz : ¬ sOv l = 0) (hfx : qf (sX l) (sOv l) = true) (hfy : qf (sY l) (sOv l) = false) : Calls Tryd.prog 3 #[.slice ad l.length cap] w fun e w' => e = .returned (.bool true) ∧ Gr w w' := by
  have HL := hidb hl
  have CF := hidb (fixes_any g w hl)
  have CR := hidb (fun W1 (hG : Gr w W1) => rangesO ad b o cap l W1 (h.below hG.out) (by omega))
  have CS := hidb (fun W1 (hG : Gr w W1) ad1 b1 cap1 h1 => solve_all g ad1 b1 cap1 l (.agg #[.int .i64 0, .int .i64 0]) (.agg #[.int .i64 0, .int .i64 0]) (errV g 1) W1 h1 (by omega) (hl.below hG.out) (.inr (.inr (.inr (.inl ⟨hr, hz, hfx, hfy, rfl, rfl, rfl⟩)))))
  have CE := hidb (fun W1 (hG : Gr w W1) => rangesErrorO ad b o cap l W1 (h.below hG.out) (by omega))
  have CV := hidb (fun W1 (hG : Gr w W1) ad1 b1 cap1 h1 => valid_any g ad1 b1 cap1 l W1 h1 (by omega) (hl.below hG.out))
  obtain ⟨_, hok⟩ := rerr_nil hr
  have CO := hidb (fun W1 (hG : Gr w W1) => solved_any ad b o cap l W1 (h.below hG.out) ll hok)
  rw [rcode_nil hr] at CE
  rw [hr] at CV
  rw [show decide (¬ sOv l = 0) = true by simp [hz]] at CO
  have LD := sol_lid hok ll
  have RX := hidb (fun (W1 : World) (m n : Bool) (u v : Value) (a : Sg W1 m u (sX l)) (b : Sg W1 n v (sOv l)) => reduced_all LD.1 LD.2.2 hz a b)
  have RY := hidb (fun (W1 : World) (m n : Bool) (u v : Value) (a : Sg W1 m u (sY l)) (b : Sg W1 n v (sOv l)) => reduced_all LD.2.1 LD.2.2 hz a b)
  rw [hfx] at RX
  rw [hfy] at RY
  clear hz hr hok LD
  have hn' : ¬ 70 < (l.length : Int) := by omega
  clear hl h
  go_enter Tryd.func3, Tryd.ntmps3
  go_wp2_with fail
  refine CF.out.mono ?_
  rintro e w1 ⟨rfl, hB⟩
  have G := hidb hB
  clear hB
  go_wp2_with fail
  refine (CR.out _ G.out).mono ?_
  rintro e w2 ⟨ad1, b1, cap1, rfl, h1, hB⟩
  replace G := hidb (Gr.step G.out hB.out)
  have H1 := hidb h1
  clear hB h1
  go_wp2_with fail
  refine (CS.out _ G.out _ _ _ H1.out).mono ?_
  rintro e w3 ⟨rfl, hB⟩
  replace G := hidb (((Gr.step G.out hB.out).alloc (.cells #[.int .i64 0, .int .i64 0] 25)).alloc (.cells #[.int .i64 0, .int .i64 0] 25))
  have XA := hidb ((At.new2 w3 (.int .i64 0) (.int .i64 0) 25).alloc (.cells #[.int .i64 0, .int .i64 0] 25))
  have YA := hidb (At.nx2 (W := w3) (.cells #[.int .i64 0, .int .i64 0] 25) (.int .i64 0) (.int .i64 0) 25)
  clear hB H1
  go_wp2_with fail
  refine (CE.out _ G.out).mono ?_
  rintro e w4 ⟨rfl, hB⟩
  replace G := hidb (Gr.step G.out hB.out)
  replace XA := hidb (At.below hB.out XA.out)
  replace YA := hidb (At.below hB.out YA.out)
  clear hB
  generalize w3.heap.size = P at *
  go_wp2_with fail
  refine (CR.out _ G.out).mono ?_
  rintro e w5 ⟨ad2, b2, cap2, rfl, h2, hB⟩
  replace G := hidb (Gr.step G.out hB.out)
  replace XA := hidb (At.below hB.out XA.out)
  replace YA := hidb (At.below hB.out YA.out)
  have H2 := hidb h2
  clear hB h2
  go_wp2_with fail
  refine (CV.out _ G.out _ _ _ H2.out).mono ?_
  rintro e w6 ⟨rfl, hB⟩
  replace G := hidb (Gr.step G.out hB.out)
  replace XA := hidb (At.below hB.out XA.out)
  replace YA := hidb (At.below hB.out YA.out)
  clear hB H2
  go_wp2_with fail
  refine (coded_0 _).mono ?_
  rintro e w7 ⟨rfl, hB⟩
  replace G := hidb (Gr.step G.out hB.out)
  replace XA := hidb (At.below hB.out XA.out)
  replace YA := hidb (At.below hB.out YA.out)
  clear hB
  obtain ⟨x0, x1⟩ := XA.out.c2
  obtain ⟨y0, y1⟩ := YA.out.c2
  go_wp2_with fail
  refine (CO.out _ G.out).mono ?_
  rintro e w8 ⟨m1, m2, m3, v1, v2, v3, rfl, s1, s2, s3, hB⟩
  replace G := hidb ((((Gr.step G.out hB.out).alloc (.cells #[.bool m1, v1] 38)).alloc (.cells #[.bool m2, v2] 38)).alloc (.cells #[.bool m3, v3] 38))
  replace XA := hidb ((((At.below hB.out XA.out).alloc (.cells #[.bool m1, v1] 38)).alloc (.cells #[.bool m2, v2] 38)).alloc (.cells #[.bool m3, v3] 38))
  replace YA := hidb ((((At.below hB.out YA.out).alloc (.cells #[.bool m1, v1] 38)).alloc (.cells #[.bool m2, v2] 38)).alloc (.cells #[.bool m3, v3] 38))
  obtain ⟨ad1, cp1, f1⟩ := s1.form'
  obtain ⟨ad2, cp2, f2⟩ := s2.form'
  obtain ⟨ad3, cp3, f3⟩ := s3.form'
  have PA := hidb (((At.new2 w8 (.bool m1) v1 38).alloc (.cells #[.bool m2, v2] 38)).alloc (.cells #[.bool m3, v3] 38))
  have QA := hidb ((At.nx2 (W := w8) (.cells #[.bool m1, v1] 38) (.bool m2) v2 38).alloc (.cells #[.bool m3, v3] 38))
  have DA := hidb (At.ny2 (W := w8) (.cells #[.bool m1, v1] 38) (.cells #[.bool m2, v2] 38) (.bool m3) v3 38)
  have K1 := hidb (sg_alloc (sg_alloc (sg_alloc s1 (.cells #[.bool m1, v1] 38)) (.cells #[.bool m2, v2] 38)) (.cells #[.bool m3, v3] 38))
  have K2 := hidb (sg_alloc (sg_alloc (sg_alloc s2 (.cells #[.bool m1, v1] 38)) (.cells #[.bool m2, v2] 38)) (.cells #[.bool m3, v3] 38))
  have K3 := hidb (sg_alloc (sg_alloc (sg_alloc s3 (.cells #[.bool m1, v1] 38)) (.cells #[.bool m2, v2] 38)) (.cells #[.bool m3, v3] 38))
  clear hB x0 x1 y0 y1 s1 s2 s3
  subst f1 f2 f3
  obtain ⟨p0, p1⟩ := PA.out.c2
  obtain ⟨d0, d1⟩ := DA.out.c2
  go_wp2_with fail
  refine (RX.out _ _ _ _ _ K1.out K3.out).mono ?_
  rintro e w9 ⟨rfl, hB⟩
  replace G := hidb ((Gr.step G.out hB).alloc (.cells #[.int .i64 (qx (sX l) (sOv l)), .int .i64 (qy (sX l) (sOv l))] 25))
  replace XA := hidb ((At.below hB XA.out).alloc (.cells #[.int .i64 (qx (sX l) (sOv l)), .int .i64 (qy (sX l) (sOv l))] 25))
  replace YA := hidb ((At.below hB YA.out).alloc (.cells #[.int .i64 (qx (sX l) (sOv l)), .int .i64 (qy (sX l) (sOv l))] 25))
  replace QA := hidb ((At.below hB QA.out).alloc (.cells #[.int .i64 (qx (sX l) (sOv l)), .int .i64 (qy (sX l) (sOv l))] 25))
  replace DA := hidb ((At.below hB DA.out).alloc (.cells #[.int .i64 (qx (sX l) (sOv l)), .int .i64 (qy (sX l) (sOv l))] 25))
  have AA := hidb (At.new2 w9 (.int .i64 (qx (sX l) (sOv l))) (.int .i64 (qy (sX l) (sOv l))) 25)
  replace K2 := hidb (sg_alloc (K2.out.below hB) (.cells #[.int .i64 (qx (sX l) (sOv l)), .int .i64 (qy (sX l) (sOv l))] 25))
  replace K3 := hidb (sg_alloc (K3.out.below hB) (.cells #[.int .i64 (qx (sX l) (sOv l)), .int .i64 (qy (sX l) (sOv l))] 25))
  clear hB p0 p1 d0 d1
  obtain ⟨p0, p1⟩ := QA.out.c2
  obtain ⟨d0, d1⟩ := DA.out.c2
  go_wp2_with fail
  refine (RY.out _ _ _ _ _ K2.out K3.out).mono ?_
  rintro e w10 ⟨rfl, hB⟩
  replace G := hidb ((Gr.step G.out hB).alloc (.cells #[.int .i64 (qx (sY l) (sOv l)), .int .i64 (qy (sY l) (sOv l))] 25))
  replace XA := hidb ((At.below hB XA.out).alloc (.cells #[.int .i64 (qx (sY l) (sOv l)), .int .i64 (qy (sY l) (sOv l))] 25))
  replace YA := hidb ((At.below hB YA.out).alloc (.cells #[.int .i64 (qx (sY l) (sOv l)), .int .i64 (qy (sY l) (sOv l))] 25))
  replace AA := hidb ((At.below hB AA.out).alloc (.cells #[.int .i64 (qx (sY l) (sOv l)), .int .i64 (qy (sY l) (sOv l))] 25))
  have BA := hidb (At.new2 w10 (.int .i64 (qx (sY l) (sOv l))) (.int .i64 (qy (sY l) (sOv l))) 25)
  clear hB p0 p1 d0 d1 K1 K2 K3 PA QA DA
  go_wp2_with fail
  refine (coded_i g 1 (by decide) 2 rfl _ (HL.out.below G.out.out)).mono ?_
  rintro e w8 ⟨rfl, hB⟩
  replace G := hidb (Gr.step G.out hB.out)
  clear hB
  go_wp2
  go_ret
  exact ⟨rfl, G.out⟩
set_option maxRecDepth 4000 in
set_option maxHeartbeats 8000000 in
theorem fixSolves_5 (g : Nat → Addr) (ad : Option Addr) (b o cap : Nat) (l : List Rg) (w : World) (hl : Laid w g) (h : RSo w ad b o cap l) (ll : l.length ≤ 70) (hr : rerr g l = .nilIface) (hz : ¬ sOv l = 0) (hfx : qf (sX l) (sOv l) = true) (hfy : qf (sY l) (sOv l) = true) : Calls Tryd.prog 3 #[.slice ad l.length cap] w fun e w' => e = .returned (.bool true) ∧ Gr w w' := by
  have HL := hidb hl
  have CF := hidb (fixes_any g w hl)
  have CR := hidb (fun W1 (hG : Gr w W1) => rangesO ad b o cap l W1 (h.below hG.out) (by omega))
  have CS := hidb (fun W1 (hG : Gr w W1) ad1 b1 cap1 h1 => solve_all g ad1 b1 cap1 l (.agg #[.int .i64 (qx (sX l) (sOv l)), .int .i64 (qy (sX l) (sOv l))]) (.agg #[.int .i64 (qx (sY l) (sOv l)), .int .i64 (qy (sY l) (sOv l))]) (.nilIface) W1 h1 (by omega) (hl.below hG.out) (.inr (.inr (.inr (.inr ⟨hr, hz, hfx, hfy, rfl, rfl, rfl⟩)))))
  have CE := hidb (fun W1 (hG : Gr w W1) => rangesErrorO ad b o cap l W1 (h.below hG.out) (by omega))
  have CV := hidb (fun W1 (hG : Gr w W1) ad1 b1 cap1 h1 => valid_any g ad1 b1 cap1 l W1 h1 (by omega) (hl.below hG.out))
  have HQ := hidb (qy_ne hz hfx)
  obtain ⟨_, hok⟩ := rerr_nil hr
  have CO := hidb (fun W1 (hG : Gr w W1) => solved_any ad b o cap l W1 (h.below hG.out) ll hok)
  rw [rcode_nil hr] at CE
  rw [hr] at CV
  rw [show decide (¬ sOv l = 0) = true by simp [hz]] at CO
  have LD := sol_lid hok ll
  have RX := hidb (fun (W1 : World) (m n : Bool) (u v : Value) (a : Sg W1 m u (sX l)) (b : Sg W1 n v (sOv l)) => reduced_all LD.1 LD.2.2 hz a b)
  have RY := hidb (fun (W1 : World) (m n : Bool) (u v : Value) (a : Sg W1 m u (sY l)) (b : Sg W1 n v (sOv l)) => reduced_all LD.2.1 LD.2.2 hz a b)
  rw [hfx] at RX
  rw [hfy] at RY
  clear hz hr hok LD
  have hn' : ¬ 70 < (l.length : Int) := by omega
  clear hl h
  go_enter Tryd.func3, Tryd.ntmps3
  go_wp2_with fail
  refine CF.out.mono ?_
  rintro e w1 ⟨rfl, hB⟩
  have G := hidb hB
  clear hB
  go_wp2_with fail
  refine (CR.out _ G.out).mono ?_
  rintro e w2 ⟨ad1, b1, cap1, rfl, h1, hB⟩
  replace G := hidb (Gr.step G.out hB.out)
  have H1 := hidb h1
  clear hB h1
  go_wp2_with fail
  refine (CS.out _ G.out _ _ _ H1.out).mono ?_
  rintro e w3 ⟨rfl, hB⟩
  replace G := hidb (((Gr.step G.out hB.out).alloc (.cells #[.int .i64 (qx (sX l) (sOv l)), .int .i64 (qy (sX l) (sOv l))] 25)).alloc (.cells #[.int .i64 (qx (sY l) (sOv l)), .int .i64 (qy (sY l) (sOv l))] 25))
  have XA := hidb ((At.new2 w3 (.int .i64 (qx (sX l) (sOv l))) (.int .i64 (qy (sX l) (sOv l))) 25).alloc (.cells #[.int .i64 (qx (sY l) (sOv l)), .int .i64 (qy (sY l) (sOv l))] 25))
  have YA := hidb (At.nx2 (W := w3) (.cells #[.int .i64 (qx (sX l) (sOv l)), .int .i64 (qy (sX l) (sOv l))] 25) (.int .i64 (qx (sY l) (sOv l))) (.int .i64 (qy (sY l) (sOv l))) 25)
  clear hB H1
  go_wp2_with fail
  refine (CE.out _ G.out).mono ?_
  rintro e w4 ⟨rfl, hB⟩
  replace G := hidb (Gr.step G.out hB.out)
  replace XA := hidb (At.below hB.out XA.out)
  replace YA := hidb (At.below hB.out YA.out)
  clear hB
  generalize w3.heap.size = P at *
  go_wp2_with fail
  refine (CR.out _ G.out).mono ?_
  rintro e w5 ⟨ad2, b2, cap2, rfl, h2, hB⟩
  replace G := hidb (Gr.step G.out hB.out)
  replace XA := hidb (At.below hB.out XA.out)
  replace YA := hidb (At.below hB.out YA.out)
  have H2 := hidb h2
  clear hB h2
  go_wp2_with fail
  refine (CV.out _ G.out _ _ _ H2.out).mono ?_
  rintro e w6 ⟨rfl, hB⟩
  replace G := hidb (Gr.step G.out hB.out)
  replace XA := hidb (At.below hB.out XA.out)
  replace YA := hidb (At.below hB.out YA.out)
  clear hB H2
  go_wp2_with fail
  refine (coded_0 _).mono ?_
  rintro e w7 ⟨rfl, hB⟩
  replace G := hidb (Gr.step G.out hB.out)
  replace XA := hidb (At.below hB.out XA.out)
  replace YA := hidb (At.below hB.out YA.out)
  clear hB
  obtain ⟨x0, x1⟩ := XA.out.c2
  obtain ⟨y0, y1⟩ := YA.out.c2
  go_upto_region 7 with fail
  go_cut [9] from 41 to 48 (fun s9 wx => (∃ bb, s9 = .bool bb) ∧ wx = w7)
  case first =>
    have e2 := HQ.out
    rcases Bool.eq_false_or_eq_true (qx (sX l) (sOv l) == 0) with e1 | e1
    · go_wp2
      go_meet
      exact ⟨⟨_, rfl⟩, rfl⟩
    · go_wp2
      go_meet
      exact ⟨⟨_, rfl⟩, rfl⟩
  case rest =>
    obtain ⟨⟨bb, rfl⟩, rfl⟩ := hcut
    go_wp2_with fail
    refine (CO.out _ G.out).mono ?_
    rintro e w8 ⟨m1, m2, m3, v1, v2, v3, rfl, s1, s2, s3, hB⟩
    replace G := hidb ((((Gr.step G.out hB.out).alloc (.cells #[.bool m1, v1] 38)).alloc (.cells #[.bool m2, v2] 38)).alloc (.cells #[.bool m3, v3] 38))
    replace XA := hidb ((((At.below hB.out XA.out).alloc (.cells #[.bool m1, v1] 38)).alloc (.cells #[.bool m2, v2] 38)).alloc (.cells #[.bool m3, v3] 38))
    replace YA := hidb ((((At.below hB.out YA.out).alloc (.cells #[.bool m1, v1] 38)).alloc (.cells #[.bool m2, v2] 38)).alloc (.cells #[.bool m3, v3] 38))
    obtain ⟨ad1, cp1, f1⟩ := s1.form'
    obtain ⟨ad2, cp2, f2⟩ := s2.form'
    obtain ⟨ad3, cp3, f3⟩ := s3.form'
    have PA := hidb (((At.new2 w8 (.bool m1) v1 38).alloc (.cells #[.bool m2, v2] 38)).alloc (.cells #[.bool m3, v3] 38))
    have QA := hidb ((At.nx2 (W := w8) (.cells #[.bool m1, v1] 38) (.bool m2) v2 38).alloc (.cells #[.bool m3, v3] 38))
    have DA := hidb (At.ny2 (W := w8) (.cells #[.bool m1, v1] 38) (.cells #[.bool m2, v2] 38) (.bool m3) v3 38)
    have K1 := hidb (sg_alloc (sg_alloc (sg_alloc s1 (.cells #[.bool m1, v1] 38)) (.cells #[.bool m2, v2] 38)) (.cells #[.bool m3, v3] 38))
    have K2 := hidb (sg_alloc (sg_alloc (sg_alloc s2 (.cells #[.bool m1, v1] 38)) (.cells #[.bool m2, v2] 38)) (.cells #[.bool m3, v3] 38))
    have K3 := hidb (sg_alloc (sg_alloc (sg_alloc s3 (.cells #[.bool m1, v1] 38)) (.cells #[.bool m2, v2] 38)) (.cells #[.bool m3, v3] 38))
    clear hB x0 x1 y0 y1 s1 s2 s3
    subst f1 f2 f3
    obtain ⟨p0, p1⟩ := PA.out.c2
    obtain ⟨d0, d1⟩ := DA.out.c2
    go_wp2_with fail
    refine (RX.out _ _ _ _ _ K1.out K3.out).mono ?_
    rintro e w9 ⟨rfl, hB⟩
    replace G := hidb ((Gr.step G.out hB).alloc (.cells #[.int .i64 (qx (sX l) (sOv l)), .int .i64 (qy (sX l) (sOv l))] 25))
    replace XA := hidb ((At.below hB XA.out).alloc (.cells #[.int .i64 (qx (sX l) (sOv l)), .int .i64 (qy (sX l) (sOv l))] 25))
    replace YA := hidb ((At.below hB YA.out).alloc (.cells #[.int .i64 (qx (sX l) (sOv l)), .int .i64 (qy (sX l) (sOv l))] 25))
    replace QA := hidb ((At.below hB QA.out).alloc (.cells #[.int .i64 (qx (sX l) (sOv l)), .int .i64 (qy (sX l) (sOv l))] 25))
    replace DA := hidb ((At.below hB DA.out).alloc (.cells #[.int .i64 (qx (sX l) (sOv l)), .int .i64 (qy (sX l) (sOv l))] 25))
    have AA := hidb (At.new2 w9 (.int .i64 (qx (sX l) (sOv l))) (.int .i64 (qy (sX l) (sOv l))) 25)
    replace K2 := hidb (sg_alloc (K2.out.below hB) (.cells #[.int .i64 (qx (sX l) (sOv l)), .int .i64 (qy (sX l) (sOv l))] 25))
    replace K3 := hidb (sg_alloc (K3.out.below hB) (.cells #[.int .i64 (qx (sX l) (sOv l)), .int .i64 (qy (sX l) (sOv l))] 25))
    clear hB p0 p1 d0 d1
    obtain ⟨p0, p1⟩ := QA.out.c2
    obtain ⟨d0, d1⟩ := DA.out.c2
    go_wp2_with fail
    refine (RY.out _ _ _ _ _ K2.out K3.out).mono ?_
    rintro e w10 ⟨rfl, hB⟩
    replace G := hidb ((Gr.step G.out hB).alloc (.cells #[.int .i64 (qx (sY l) (sOv l)), .int .i64 (qy (sY l) (sOv l))] 25))
    replace XA := hidb ((At.below hB XA.out).alloc (.cells #[.int .i64 (qx (sY l) (sOv l)), .int .i64 (qy (sY l) (sOv l))] 25))
    replace YA := hidb ((At.below hB YA.out).alloc (.cells #[.int .i64 (qx (sY l) (sOv l)), .int .i64 (qy (sY l) (sOv l))] 25))
    replace AA := hidb ((At.below hB AA.out).alloc (.cells #[.int .i64 (qx (sY l) (sOv l)), .int .i64 (qy (sY l) (sOv l))] 25))
    have BA := hidb (At.new2 w10 (.int .i64 (qx (sY l) (sOv l))) (.int .i64 (qy (sY l) (sOv l))) 25)
    clear hB p0 p1 d0 d1 K1 K2 K3 PA QA DA
    obtain ⟨x0, x1⟩ := XA.out.c2
    obtain ⟨y0, y1⟩ := YA.out.c2
    obtain ⟨p0, p1⟩ := AA.out.c2
    obtain ⟨d0, d1⟩ := BA.out.c2
    go_wp2
    go_ret
    exact ⟨rfl, G.out⟩
theorem fixSolves_law (g : Nat → Addr) (ad : Option Addr) (b o cap : Nat) (l : List Rg) (w : World) (hl : Laid w g) (h : RSo w ad b o cap l) : Calls Tryd.prog 3 #[.slice ad l.length cap] w fun e w' => e = .returned (.bool true) ∧ Gr w w' := by
  by_cases ll : l.length ≤ 70
  · by_cases hr : rerr g l = .nilIface
    · by_cases hz : sOv l = 0
      · exact fixSolves_2 g ad b o cap l w hl h ll hr hz
      · by_cases hx : qf (sX l) (sOv l) = true
        · by_cases hy : qf (sY l) (sOv l) = true
          · exact fixSolves_5 g ad b o cap l w hl h ll hr hz hx hy
          · exact fixSolves_4 g ad b o cap l w hl h ll hr hz hx (by simpa using hy)
        · exact fixSolves_3 g ad b o cap l w hl h ll hr hz (by simpa using hx)
    · exact fixSolves_1 g ad b o cap l w hl h ll hr
  · exact fixSolves_long g ad l.length cap w hl (by omega)
end Go.Proofs.YtilgamhdcmkkeaaDoor
