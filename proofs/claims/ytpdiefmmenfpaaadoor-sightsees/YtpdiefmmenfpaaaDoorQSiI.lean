/-
  Sight: what the statements call besides: small, seen, look, coded, LookError.
-/
import Derived.Test.YtpdiefmmenfpaaaDoorQSiH
namespace Go.Proofs.YtpdiefmmenfpaaaDoor
open Go.RowKit
attribute [local go_sem ↓] Go.wp_at_zero Go.wp_at_succ

theorem small4_nil (w : World) : Calls Tryd.prog 17 #[.pointer none] w fun e w' => e = .returned (.bool false) ∧ w' = w := by
  go_enter Tryd.func17, Tryd.ntmps17
  go_wp2
  go_ret
  exact ⟨rfl, rfl⟩
theorem small4_any (pb po : Nat) (W H : Int) (ad : Option Addr) (n cap : Nat) (w : World) (hp : PtR w pb po W H (.slice ad n cap)) : Calls Tryd.prog 17 #[.pointer (some ⟨pb, po, none⟩)] w fun e w' => e = .returned (.bool (decide (n ≤ 80))) ∧ w' = w := by
  obtain ⟨p0, p1, p2⟩ := hp
  by_cases c : n ≤ 80
  · have c' : (n : Int) ≤ 80 := by omega
    rw [decide_eq_true c]
    clear c
    go_enter Tryd.func17, Tryd.ntmps17
    go_wp2
    go_ret
    exact ⟨rfl, rfl⟩
  · have c' : ¬ (n : Int) ≤ 80 := by omega
    rw [decide_eq_false c]
    clear c
    go_enter Tryd.func17, Tryd.ntmps17
    go_wp2
    go_ret
    exact ⟨rfl, rfl⟩
theorem small4_arg {w : World} {ad : Option Addr} (h : RArg w ad) : ∃ s : Bool, (∀ W, Gr w W → Calls Tryd.prog 17 #[.pointer ad] W fun e w' => e = .returned (.bool s) ∧ w' = W) ∧ (s = true → ∃ pb po W H sd b o cap l, ad = some ⟨pb, po, none⟩ ∧ Rin w pb po W H sd b o cap l ∧ (¬ l.length = 0 → sd = some ⟨b, o, none⟩ ∧ Rs w b o cap l) ∧ l.length ≤ 80) := by
  rcases h with rfl | ⟨pb, po, W, H, sd, b, o, cap, l, rfl, hr, hc⟩
  · exact ⟨false, fun W _ => small4_nil W, fun h => by cases h⟩
  · exact ⟨decide (l.length ≤ 80), fun W1 hG => small4_any pb po W H sd l.length cap W1 (hr.below hG).pt, fun h => ⟨pb, po, W, H, sd, b, o, cap, l, rfl, hr, hc, of_decide_eq_true h⟩⟩
theorem coded4_nil (n : Int) (w : World) : Calls Tryd.prog 22 #[.nilIface, .int .i64 n] w fun e w' => e = .returned (.bool (0 == n)) ∧ w' = w := by
  go_enter Tryd.func22, Tryd.ntmps22
  go_wp2_with (go_at_call 36; refine (code_nil _).mono ?_; rintro e w' ⟨rfl, rfl⟩)
  go_ret
  exact ⟨rfl, rfl⟩
theorem coded4_sent (a : Nat → Addr) (i : Nat) (hi : i < 8) (n : Int) (w : World) (hl : Laid w a) (hn : n = (i : Int) + 1) : Calls Tryd.prog 22 #[errV a i, .int .i64 n] w fun e w' => e = .returned (.bool true) ∧ Gr w w' := by
  have h : Calls Tryd.prog 22 #[errV a i, .int .i64 n] w fun e w' => e = .returned (.bool ((i : Int) + 1 == n)) ∧ Below w.heap.size w w' := by
    clear hn
    go_enter Tryd.func22, Tryd.ntmps22
    go_wp2_with (go_at_call 36; refine (code_sent a i hi _ hl).mono ?_; rintro e w' ⟨rfl, hb⟩)
    go_ret
    exact ⟨rfl, hb⟩
  refine h.mono ?_
  rintro e w' ⟨rfl, hb⟩
  exact ⟨by rw [hn]; simp, hb⟩
theorem rs_new3 (w : World) (x y z : Int) (t : Nat) : Rs (w.alloc (.cells #[.int .i64 x, .int .i64 y, .int .i64 z] t)) w.heap.size 0 3 [x, y, z] := by
  have A := At.new3 w (.int .i64 x) (.int .i64 y) (.int .i64 z) t
  refine ⟨fun i hi => ?_, A.lt, Nat.le_refl _⟩
  rw [Nat.zero_add]
  match i, hi with
  | 0, _ => exact A.c3.1
  | 1, _ => exact A.c3.2.1
  | 2, _ => exact A.c3.2.2
theorem ok_050 : Ok [0, 5, 0] 3 1 := ⟨by decide, by decide, by decide, by decide, rfl, hi_gl (by decide)⟩
theorem see_050 : decide (seeP [0, 5, 0] 3 1 0 2 9 1) = true := by decide +kernel
set_option maxRecDepth 4000 in
set_option maxHeartbeats 4000000 in
theorem seen_any (g : Nat → Addr) (w : World) (hl : Lai w g) : Calls Tryd.prog 16 #[] w fun e w' => e = .returned (.bool true) ∧ Gr w w' := by
  have G0 := hidb ((Gr.refl w).alloc (.cells #[.int .i64 0, .int .i64 5, .int .i64 0] 3))
  have C := hidb (sees_ok g (m := 3) (n := 1) (f := 0) (t := 2) 0 2 9 1 rfl rfl _ (rs_new3 w 0 5 0 3) ok_050 (by decide) (hl.below G0.out.out) (by decide))
  rw [see_050] at C
  clear hl
  go_enter Tryd.func16, Tryd.ntmps16
  go_wp2_with fail
  refine C.out.mono ?_
  rintro e w1 ⟨rfl, hB⟩
  have G1 := hidb (Gr.step G0.out hB.out)
  clear hB G0 C
  go_wp2
  go_ret
  exact ⟨rfl, G1.out⟩
set_option maxRecDepth 4000 in
set_option maxHeartbeats 4000000 in
theorem look_any (f t e u : Int) (w : World) : Calls Tryd.prog 19 #[loV f t e u] w fun ee w' => ee = .returned (loV f t e u) ∧ Gr w w' := by
  go_enter Tryd.func19, Tryd.ntmps19
  go_wp2
  refine bodyPost_ret (v := loV f t e u) (by simp [results, Tryd.results19, go_sem]) rfl ⟨rfl, ?_⟩
  exact ((Gr.refl w).alloc _).alloc _
/-- A look's error. -/
def lcode (W H : Int) (l : List Int) (f t e u : Int) : Nat := if vcode W H l = 0 then (if loB l.length f t e u = true then 0 else 4) else vcode W H l
theorem loB_no {N : Nat} {f t e u : Int} (h : ¬ (((0 ≤ f ∧ f < N) ∧ (0 ≤ t ∧ t < N)) ∧ (0 ≤ e ∧ e ≤ 1048576) ∧ 0 ≤ u ∧ u ≤ 1048576)) : loB N f t e u = false := by
  cases k : loB N f t e u with
  | false => rfl
  | true => exact absurd (loB_yes k) h
theorem loB_is {N : Nat} {f t e u : Int} (h : (((0 ≤ f ∧ f < N) ∧ (0 ≤ t ∧ t < N)) ∧ (0 ≤ e ∧ e ≤ 1048576) ∧ 0 ≤ u ∧ u ≤ 1048576)) : loB N f t e u = true := by
  unfold loB inI
  simp only [Bool.and_eq_true, decide_eq_true_eq]
  omega
set_option maxRecDepth 4000 in
set_option maxHeartbeats 8000000 in
theorem lookError_any {pb po : Nat} {W H : Int} {ad : Option Addr} {b o cap : Nat} {l : List Int} (f t e u : Int) (w : World) (hR : Rin w pb po W H ad b o cap l) (ll : l.length ≤ 20000) : Calls Tryd.prog 21 #[.pointer (some ⟨pb, po, none⟩), loV f t e u] w fun ee w' => ee = .returned (.int .i64 (lcode W H l f t e u : Int)) ∧ Gr w w' := by
  have F := hidb (show KF w (w.alloc (.cells #[.int .i64 f, .int .i64 t, .int .i64 e, .int .i64 u] 47)) w.heap.size [.int .i64 f, .int .i64 t, .int .i64 e, .int .i64 u] from ⟨At.new4 _ _ _ _ _ _, (Gr.refl w).alloc _⟩)
  have CW := hidb (rasterError_any pb po W H ad b o cap l _ (hR.below F.out.gr).pt (hR.below F.out.gr).sl ll)
  have HR := hidb hR
  by_cases hv : vcode W H l = 0
  · unfold lcode
    rw [hv] at CW
    rw [if_pos hv]
    obtain ⟨N, hN⟩ : ∃ N, N = l.length := ⟨_, rfl⟩
    have HN := hidb hN
    rw [← hN]
    obtain ⟨z, hz⟩ : ∃ z : Int, z = ((if loB N f t e u = true then 0 else 4 : Nat) : Int) := ⟨_, rfl⟩
    rw [← hz]
    have HZ := hidb hz
    clear hR ll hv hN hz
    go_enter Tryd.func21, Tryd.ntmps21
    go_wp2_with fail
    refine CW.out.mono ?_
    rintro ee w1 ⟨rfl, hB⟩
    replace F := hidb (F.out.below hB.out)
    clear hB CW
    obtain ⟨r0, r1, r2, r3⟩ := F.out.a0.c4
    obtain ⟨p0, p1, p2⟩ := (HR.out.below F.out.gr).pt.all
    rw [← HN.out] at p2
    have G := hidb F.out.gr
    clear F HR
    go_upto_region 4 with fail
    by_cases h0 : f < 0
    · have d0 : decide (f < 0) = true := decide_eq_true h0
      have HK : Hid (loB N f t e u = false) := loB_no (by omega)
      go_quiet (fail)
      go_wp2
      go_ret
      exact ⟨by have h := HZ.out; rw [HK.out] at h; subst h; rfl, by first | exact G.out | exact G.out.drewN _ | exact G.out.drew⟩
    · have d0 : decide (f < 0) = false := decide_eq_false h0
      by_cases h1 : t < 0
      · have d1 : decide (t < 0) = true := decide_eq_true h1
        have HK : Hid (loB N f t e u = false) := loB_no (by omega)
        go_quiet (fail)
        go_wp2
        go_ret
        exact ⟨by have h := HZ.out; rw [HK.out] at h; subst h; rfl, by first | exact G.out | exact G.out.drewN _ | exact G.out.drew⟩
      · have d1 : decide (t < 0) = false := decide_eq_false h1
        by_cases h2 : (N : Int) ≤ f
        · have d2 : decide ((N : Int) ≤ f) = true := decide_eq_true h2
          have HK : Hid (loB N f t e u = false) := loB_no (by omega)
          go_quiet (fail)
          go_wp2
          go_ret
          exact ⟨by have h := HZ.out; rw [HK.out] at h; subst h; rfl, by first | exact G.out | exact G.out.drewN _ | exact G.out.drew⟩
        · have d2 : decide ((N : Int) ≤ f) = false := decide_eq_false h2
          by_cases h3 : (N : Int) ≤ t
          · have d3 : decide ((N : Int) ≤ t) = true := decide_eq_true h3
            have HK : Hid (loB N f t e u = false) := loB_no (by omega)
            go_quiet (fail)
            go_wp2
            go_ret
            exact ⟨by have h := HZ.out; rw [HK.out] at h; subst h; rfl, by first | exact G.out | exact G.out.drewN _ | exact G.out.drew⟩
          · have d3 : decide ((N : Int) ≤ t) = false := decide_eq_false h3
            go_quiet (fail)
            by_cases k0 : e < 0
            · have HK : Hid (loB N f t e u = false) := loB_no (by omega)
              go_wp2
              go_ret
              exact ⟨by have h := HZ.out; rw [HK.out] at h; subst h; rfl, by first | exact G.out | exact G.out.drewN _ | exact G.out.drew⟩
            · skip
              by_cases k1 : u < 0
              · have HK : Hid (loB N f t e u = false) := loB_no (by omega)
                go_wp2
                go_ret
                exact ⟨by have h := HZ.out; rw [HK.out] at h; subst h; rfl, by first | exact G.out | exact G.out.drewN _ | exact G.out.drew⟩
              · skip
                by_cases k2 : (1048576 : Int) < e
                · have HK : Hid (loB N f t e u = false) := loB_no (by omega)
                  go_wp2
                  go_ret
                  exact ⟨by have h := HZ.out; rw [HK.out] at h; subst h; rfl, by first | exact G.out | exact G.out.drewN _ | exact G.out.drew⟩
                · skip
                  by_cases k3 : (1048576 : Int) < u
                  · have HK : Hid (loB N f t e u = false) := loB_no (by omega)
                    go_wp2
                    go_ret
                    exact ⟨by have h := HZ.out; rw [HK.out] at h; subst h; rfl, by first | exact G.out | exact G.out.drewN _ | exact G.out.drew⟩
                  · skip
                    have HK : Hid (loB N f t e u = true) := loB_is (by omega)
                    go_wp2
                    go_ret
                    exact ⟨by have h := HZ.out; rw [HK.out] at h; subst h; rfl, by first | exact G.out | exact G.out.drewN _ | exact G.out.drew⟩
  · unfold lcode
    rw [if_neg hv]
    have hv' : (0 : Int) < (vcode W H l : Int) := by omega
    generalize (vcode W H l : Int) = vc at *
    clear hR ll hv HR
    go_enter Tryd.func21, Tryd.ntmps21
    go_wp2_with fail
    refine CW.out.mono ?_
    rintro ee w1 ⟨rfl, hB⟩
    have G := hidb (Gr.step F.out.gr hB.out)
    clear hB CW F
    go_wp2
    go_ret
    exact ⟨rfl, G.out⟩
end Go.Proofs.YtpdiefmmenfpaaaDoor
