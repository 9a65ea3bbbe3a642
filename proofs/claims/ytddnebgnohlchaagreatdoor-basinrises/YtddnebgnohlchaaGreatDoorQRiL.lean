/-
  BasinRises, by its ways.
-/
import Derived.Test.YtddnebgnohlchaaGreatDoorQJ24
import Derived.Test.YtddnebgnohlchaaGreatDoorQDrX
namespace Go.Proofs.YtddnebgnohlchaaGreatDoor
open Go.RowKit
attribute [local go_sem ↓] Go.wp_at_zero Go.wp_at_succ

set_option maxRecDepth 4000 in
set_option maxHeartbeats 4000000 in
theorem rises_no (g : Nat → Addr) (u x y : Value) (w : World) (hl : Laid w g) (h1 : ∀ W, Gr w W → Calls Tryz.prog 6 #[u] W fun e w' => e = .returned (.bool false) ∧ w' = W) : Calls Tryz.prog 4 #[u, x, y] w fun e w' => e = .returned (.bool true) ∧ Gr w w' := by
  have CR := hidb (based_any g w hl.lai)
  have S1 := hidb h1
  clear hl h1
  go_enter Tryz.func4, Tryz.ntmps4
  go_wp2_with fail
  refine CR.out.mono ?_
  rintro e w1 ⟨rfl, hB⟩
  have G := hidb hB
  clear hB
  go_wp2_with fail
  refine (S1.out _ G.out).mono ?_
  rintro e w2 ⟨rfl, rfl⟩
  go_wp2
  go_ret
  exact ⟨rfl, G.out⟩
set_option maxRecDepth 4000 in
set_option maxHeartbeats 8000000 in
theorem rises_A (g : Nat → Addr) {pb po : Nat} {W H : Int} {ad : Option Addr} {b o cap : Nat} {l : List Int} (c water : Int) (w : World) (hl : Laid w g) (ra : Rin w pb po W H ad b o cap l) (ll : l.length ≤ 80) (hv : ¬ vcode W H l = 0) : Calls Tryz.prog 4 #[.pointer (some ⟨pb, po, none⟩), .int .i64 c, .int .i64 water] w fun e w' => e = .returned (.bool true) ∧ Gr w w' := by
  have CR := hidb (based_any g w hl.lai)
  have S1 := hidb (fun W1 (hG : Gr w W1) => small4_any pb po W H ad l.length cap W1 (ra.below hG).pt)
  rw [decide_eq_true ll] at S1
  have C1 := hidb (fun W1 (hG : Gr w W1) => brise_no g (.int .i64 c) (.int .i64 water) W1 (ra.below hG).sl (by omega) (hl.below hG.out).lai hv)
  have CW := hidb (fun W1 (hG : Gr w W1) => rasterError_any pb po W H ad b o cap l W1 (ra.below hG).pt (ra.below hG).sl (by omega))
  have hc8 : vcode W H l ≤ 8 := by unfold vcode; split; omega; split; omega; split <;> omega
  have CE := hidb (fun W1 (hG : Gr w W1) => coded_evc g (vcode W H l) hc8 W1 (hl.below hG.out))
  have HR := hidb ra
  have hv' : (0 : Int) < (vcode W H l : Int) := by omega
  obtain ⟨vc, hvc⟩ : ∃ z : Int, z = (vcode W H l : Int) := ⟨_, rfl⟩
  rw [← hvc] at CW CE hv'
  have hz : ¬ vc = 0 := by omega
  generalize vcode W H l = v at *
  generalize evc g v = ev at *
  clear hl ra ll hv hc8 hvc
  go_enter Tryz.func4, Tryz.ntmps4
  go_wp2_with fail
  refine CR.out.mono ?_
  rintro e w1 ⟨rfl, hB⟩
  have G := hidb hB
  clear hB
  go_wp2_with fail
  refine (S1.out _ G.out).mono ?_
  rintro e w2 ⟨rfl, rfl⟩
  obtain ⟨p0, p1, p2⟩ := (HR.out.below G.out).pt.all
  go_wp2_with fail
  refine (C1.out _ G.out).mono ?_
  rintro e w3 ⟨rfl, hB3⟩
  replace G := hidb (Gr.step G.out hB3.out)
  clear hB3 p0 p1 p2
  go_upto_region 6 with fail
  have AF := hidb (At.new2 w3 (.int .i64 0) (.int .i64 0) 50)
  have GF := hidb ((Gr.refl w3).alloc (.cells #[.int .i64 0, .int .i64 0] 50))
  generalize hFb : w3.heap.size = FB at *
  clear hFb
  generalize w3.alloc (.cells #[.int .i64 0, .int .i64 0] 50) = w4 at *
  replace G := hidb (Gr.step G.out GF.out)
  clear GF
  go_wp2_with fail
  refine (CW.out _ G.out).mono ?_
  rintro e w7 ⟨rfl, hB7⟩
  replace G := hidb (Gr.step G.out hB7.out)
  replace AF := hidb (At.below hB7.out AF.out)
  clear hB7
  obtain ⟨p0, p1, p2⟩ := (HR.out.below G.out).pt.all
  go_wp2_with fail
  refine (CE.out _ G.out).mono ?_
  rintro e w8 ⟨rfl, hB8⟩
  replace G := hidb (Gr.step G.out hB8.out)
  replace AF := hidb (At.below hB8.out AF.out)
  clear hB8 p0 p1 p2
  obtain ⟨f0, f1⟩ := AF.out.c2
  go_wp2
  go_ret
  exact ⟨rfl, G.out⟩
set_option maxRecDepth 4000 in
set_option maxHeartbeats 16000000 in
theorem rises_B (g : Nat → Addr) {m n pb po b o cap : Nat} {l : List Int} (c water : Int) (w : World) (hl : Laid w g) (ra : Rin w pb po m n (some ⟨b, o, none⟩) b o cap l) (hr : Rs w b o cap l) (ok : Ok l m n) (ll : l.length ≤ 80) (hv : vcode m n l = 0) (hc : ¬ ((0 ≤ c ∧ c < (l.length : Int)) ∧ 0 ≤ water ∧ water ≤ 1099511627776)) : Calls Tryz.prog 4 #[.pointer (some ⟨pb, po, none⟩), .int .i64 c, .int .i64 water] w fun e w' => e = .returned (.bool true) ∧ Gr w w' := by
  have CR := hidb (based_any g w hl.lai)
  have S1 := hidb (fun W1 (hG : Gr w W1) => small4_any pb po m n (some ⟨b, o, none⟩) l.length cap W1 (ra.below hG).pt)
  rw [decide_eq_true ll] at S1
  have C1 := hidb (fun W1 (hG : Gr w W1) => brise_out g c water hc W1 (hr.below hG.out) ok hv (hl.below hG.out).lai)
  have CW := hidb (fun W1 (hG : Gr w W1) => rasterError_any pb po m n (some ⟨b, o, none⟩) b o cap l W1 (ra.below hG).pt (ra.below hG).sl (by omega))
  rw [hv] at CW
  have CE := hidb (fun W1 (hG : Gr w W1) => coded_evc g 4 (by omega) W1 (hl.below hG.out))
  have HR := hidb ra
  generalize evc g 4 = ev at *
  obtain ⟨N, hN⟩ : ∃ N, N = l.length := ⟨_, rfl⟩
  have HN := hidb hN
  have HP : Hid (∀ W, Gr w W → PtR W pb po m n (.slice (some ⟨b, o, none⟩) N cap)) := fun W hG => by rw [hN]; exact (ra.below hG).pt
  rw [← hN] at C1 hc
  clear hl ra hr ok ll hv hN
  go_enter Tryz.func4, Tryz.ntmps4
  go_wp2_with fail
  refine CR.out.mono ?_
  rintro e w1 ⟨rfl, hB⟩
  have G := hidb hB
  clear hB
  go_wp2_with fail
  refine (S1.out _ G.out).mono ?_
  rintro e w2 ⟨rfl, rfl⟩
  obtain ⟨p0, p1, p2⟩ := (HP.out _ G.out).all
  go_wp2_with fail
  refine (C1.out _ G.out).mono ?_
  rintro e w3 ⟨rfl, hB3⟩
  replace G := hidb (Gr.step G.out hB3.out)
  clear hB3 p0 p1 p2
  go_upto_region 6 with fail
  have AF := hidb (At.new2 w3 (.int .i64 0) (.int .i64 0) 50)
  have GF := hidb ((Gr.refl w3).alloc (.cells #[.int .i64 0, .int .i64 0] 50))
  generalize hFb : w3.heap.size = FB at *
  clear hFb
  generalize w3.alloc (.cells #[.int .i64 0, .int .i64 0] 50) = w4 at *
  replace G := hidb (Gr.step G.out GF.out)
  clear GF
  go_wp2_with fail
  refine (CW.out _ G.out).mono ?_
  rintro e w7 ⟨rfl, hB7⟩
  replace G := hidb (Gr.step G.out hB7.out)
  replace AF := hidb (At.below hB7.out AF.out)
  clear hB7
  obtain ⟨p0, p1, p2⟩ := (HP.out _ G.out).all
  by_cases h1 : c < 0
  · skip
    go_wp2_with fail
    refine (CE.out _ G.out).mono ?_
    rintro e w8 ⟨rfl, hB8⟩
    replace G := hidb (Gr.step G.out hB8.out)
    replace AF := hidb (At.below hB8.out AF.out)
    clear hB8 p0 p1 p2
    obtain ⟨f0, f1⟩ := AF.out.c2
    go_wp2
    go_ret
    exact ⟨rfl, G.out⟩
  · have h1' : ¬ c < 0 := h1
    by_cases h2 : (N : Int) ≤ c
    · skip
      go_wp2_with fail
      refine (CE.out _ G.out).mono ?_
      rintro e w8 ⟨rfl, hB8⟩
      replace G := hidb (Gr.step G.out hB8.out)
      replace AF := hidb (At.below hB8.out AF.out)
      clear hB8 p0 p1 p2
      obtain ⟨f0, f1⟩ := AF.out.c2
      go_wp2
      go_ret
      exact ⟨rfl, G.out⟩
    · have h2' : ¬ (N : Int) ≤ c := h2
      by_cases h3 : water < 0
      · skip
        go_wp2_with fail
        refine (CE.out _ G.out).mono ?_
        rintro e w8 ⟨rfl, hB8⟩
        replace G := hidb (Gr.step G.out hB8.out)
        replace AF := hidb (At.below hB8.out AF.out)
        clear hB8 p0 p1 p2
        obtain ⟨f0, f1⟩ := AF.out.c2
        go_wp2
        go_ret
        exact ⟨rfl, G.out⟩
      · have h3' : ¬ water < 0 := h3
        have h4 : 1099511627776 < water := by omega
        clear hc
        go_wp2_with fail
        refine (CE.out _ G.out).mono ?_
        rintro e w8 ⟨rfl, hB8⟩
        replace G := hidb (Gr.step G.out hB8.out)
        replace AF := hidb (At.below hB8.out AF.out)
        clear hB8 p0 p1 p2
        obtain ⟨f0, f1⟩ := AF.out.c2
        go_wp2
        go_ret
        exact ⟨rfl, G.out⟩
set_option maxRecDepth 4000 in
set_option maxHeartbeats 8000000 in
theorem rises_C (g : Nat → Addr) {m n pb po b o cap : Nat} {l : List Int} (c : Nat) (water : Int) (w : World) (hl : Laid w g) (ra : Rin w pb po m n (some ⟨b, o, none⟩) b o cap l) (hr : Rs w b o cap l) (ok : Ok l m n) (ll : l.length ≤ 80) (hv : vcode m n l = 0) (hc : c < l.length) (hw : 0 ≤ water ∧ water ≤ 1099511627776) (hrim : rim m n c) : Calls Tryz.prog 4 #[.pointer (some ⟨pb, po, none⟩), .int .i64 (c : Int), .int .i64 water] w fun e w' => e = .returned (.bool true) ∧ Gr w w' := by
  have CR := hidb (based_any g w hl.lai)
  have S1 := hidb (fun W1 (hG : Gr w W1) => small4_any pb po m n (some ⟨b, o, none⟩) l.length cap W1 (ra.below hG).pt)
  rw [decide_eq_true ll] at S1
  have C1 := hidb (fun W1 (hG : Gr w W1) => brise_rim g c water hc hw hrim W1 (hr.below hG.out) ok hv (hl.below hG.out))
  have CW := hidb (fun W1 (hG : Gr w W1) => rasterError_any pb po m n (some ⟨b, o, none⟩) b o cap l W1 (ra.below hG).pt (ra.below hG).sl (by omega))
  rw [hv] at CW
  have CI := hidb (fun W1 (hG : Gr w W1) => isRim_any (pb := pb) (po := po) (m := m) (n := n) (cap := cap) (H := n) (ad := some ⟨b, o, none⟩) l.length c ok.m1 ok.len (by omega) hc W1 (ra.below hG).pt)
  rw [decide_eq_true hrim] at CI
  have CE := hidb (fun W1 (hG : Gr w W1) => coded_evc g 6 (by omega) W1 (hl.below hG.out))
  have HR := hidb ra
  generalize evc g 6 = ev at *
  obtain ⟨N, hN⟩ : ∃ N, N = l.length := ⟨_, rfl⟩
  have HP : Hid (∀ W, Gr w W → PtR W pb po m n (.slice (some ⟨b, o, none⟩) N cap)) := fun W hG => by rw [hN]; exact (ra.below hG).pt
  have h1 : ¬ (N : Int) ≤ (c : Int) := by omega
  have h2 : ¬ (c : Int) < 0 := by omega
  have h3 : ¬ water < 0 := by omega
  have h4 : ¬ 1099511627776 < water := by omega
  rw [← hN] at C1
  clear hl ra hr ok ll hv hN hc hw hrim
  go_enter Tryz.func4, Tryz.ntmps4
  go_wp2_with fail
  refine CR.out.mono ?_
  rintro e w1 ⟨rfl, hB⟩
  have G := hidb hB
  clear hB
  go_wp2_with fail
  refine (S1.out _ G.out).mono ?_
  rintro e w2 ⟨rfl, rfl⟩
  obtain ⟨p0, p1, p2⟩ := (HP.out _ G.out).all
  go_wp2_with fail
  refine (C1.out _ G.out).mono ?_
  rintro e w3 ⟨rfl, hB3⟩
  replace G := hidb (Gr.step G.out hB3.out)
  clear hB3 p0 p1 p2
  go_upto_region 6 with fail
  have AF := hidb (At.new2 w3 (.int .i64 0) (.int .i64 0) 50)
  have GF := hidb ((Gr.refl w3).alloc (.cells #[.int .i64 0, .int .i64 0] 50))
  generalize hFb : w3.heap.size = FB at *
  clear hFb
  generalize w3.alloc (.cells #[.int .i64 0, .int .i64 0] 50) = w4 at *
  replace G := hidb (Gr.step G.out GF.out)
  clear GF
  go_wp2_with fail
  refine (CW.out _ G.out).mono ?_
  rintro e w7 ⟨rfl, hB7⟩
  replace G := hidb (Gr.step G.out hB7.out)
  replace AF := hidb (At.below hB7.out AF.out)
  clear hB7
  obtain ⟨p0, p1, p2⟩ := (HP.out _ G.out).all
  go_wp2_with fail
  refine (CI.out _ G.out).mono ?_
  rintro e wi ⟨rfl, hBi⟩
  replace G := hidb (Gr.step G.out hBi.out)
  replace AF := hidb (At.below hBi.out AF.out)
  clear hBi p0 p1 p2
  obtain ⟨p0, p1, p2⟩ := (HP.out _ G.out).all
  go_wp2_with fail
  refine (CE.out _ G.out).mono ?_
  rintro e w8 ⟨rfl, hB8⟩
  replace G := hidb (Gr.step G.out hB8.out)
  replace AF := hidb (At.below hB8.out AF.out)
  clear hB8 p0 p1 p2
  obtain ⟨f0, f1⟩ := AF.out.c2
  go_wp2
  go_ret
  exact ⟨rfl, G.out⟩
/-- What the law makes of Rise's answer. -/
structure DF (w' : World) (m n : Nat) (l : List Int) (c : Nat) (a b t : Int) (K : List Int) (v : Value) : Prop where
  sl : ∃ ad bb cap, v = .slice ad K.length cap ∧ ISl w' ad bb 0 cap K
  b1 : 1 ≤ b ∧ b ≤ 1048576
  thr : ∀ h, lwB a b false h = decide (h ≤ t)
  len : K.length ≤ 80
  all : ∀ L : List Bool, (∀ k, glb L k = true ↔ Rch m l t c k) → on (wtL L l.length) = K
theorem srI_on {O S : List Nat} (h : S.Perm O) (hs : S.Pairwise (· < ·)) : on S = srI (on O) := by
  refine List.Perm.eq_of_pairwise (le := fun a b : Int => a ≤ b) (fun a b _ _ h1 h2 => by omega) ?_ ?_ ?_
  · exact List.Pairwise.map _ (fun a b hab => by show (a : Int) ≤ (b : Int); omega) hs
  · have := List.pairwise_mergeSort (le := fun x y : Int => decide (x ≤ y)) (fun a b c h1 h2 => by have := of_decide_eq_true h1; have := of_decide_eq_true h2; exact decide_eq_true (by omega)) (fun a b => by by_cases h : a ≤ b; simp [h]; simp; omega) (on O)
    exact this.imp (fun h => of_decide_eq_true h)
  · exact (h.map _).trans (List.mergeSort_perm _ _).symm
theorem wtL_up (L : List Bool) (k : Nat) : (wtL L k).Pairwise (· < ·) := List.Pairwise.filter _ List.pairwise_lt_range
theorem QAns.df {m n c : Nat} {l : List Int} {water : Int} {w' : World} {a b : Int} {v : Value} (h : QAns m n l c water w' a b v) (ok : Ok l m n) (ll : l.length ≤ 80) (hc : c < l.length) (hw : 0 ≤ water ∧ water ≤ 1099511627776) : (∃ t K, DF w' m n l c a b t K v) ∧ ∀ {pb po Lb Lo Lcap : Nat} (W : World), PtR W pb po m n (.slice (some ⟨Lb, Lo, none⟩) l.length Lcap) → Rs W Lb Lo Lcap l → Calls Tryz.prog 18 #[.pointer (some ⟨pb, po, none⟩), .int .i64 (c : Int), .int .i64 water, .agg #[.int .i64 a, .int .i64 b]] W fun e w' => e = .returned (.bool true) ∧ Gr W w' := by
  rcases h with ⟨h1, rfl, rfl, rfl⟩ | ⟨top, O, base, g, cap, h1, h2, h3, h4, rfl, h5⟩
  · refine ⟨⟨gl l c - 1, [], ⟨none, 0, 0, rfl, ISl.nil _ _ _ _ _⟩, by omega, fun h => ?_, by simp, fun L hL => ?_⟩, fun W hp hR => isRise_lo c water hc (by omega) h1 W hp hR ok⟩
    · unfold lwB
      rw [if_neg (by decide), Int.mul_one]
      by_cases c1 : h < gl l c
      · rw [decide_eq_true c1, decide_eq_true (by omega)]
      · rw [decide_eq_false c1, decide_eq_false (by omega)]
    · have : wtL L l.length = [] := by
        refine List.eq_nil_iff_forall_not_mem.2 (fun k hk => ?_)
        unfold wtL at hk
        have := ((hL k).1 (List.mem_filter.1 hk).2).base.1
        omega
      rw [this]
      rfl
  · have hu := upF ok (by omega) hw h1 h2 h4
    have hlen : O.length ≤ l.length := nodup_len h2.nd (fun x hx => ((h2.all x).1 hx).le.2)
    have hKl : (srI (on O)).length = O.length := by rw [srI_len]; simp
    refine ⟨⟨top - 1, srI (on O), ?_, hu.b1, hu.thr, by omega, fun L hL => ?_⟩, fun W hp hR => isRise_up c water top a b O hc (by omega) hw h2 h3 hu W hp hR ok⟩
    · rw [hKl]
      obtain ⟨ad, bb, cap2, e1, e2⟩ := own_isl2 h5
      rw [hKl] at e1
      simp only [Value.slice.injEq] at e1
      obtain ⟨rfl, -, rfl⟩ := e1
      exact ⟨_, bb, cap, rfl, e2⟩
    · exact srI_on (wtL_perm rfl hL h2.nd h2.all) (wtL_up _ _)
set_option maxRecDepth 4000 in
set_option maxHeartbeats 16000000 in
theorem rises_D (g : Nat → Addr) {m n pb po b o cap : Nat} {l : List Int} (c : Nat) (water : Int) (w : World) (hl : Laid w g) (ra : Rin w pb po m n (some ⟨b, o, none⟩) b o cap l) (hr : Rs w b o cap l) (ok : Ok l m n) (ll : l.length ≤ 80) (hv : vcode m n l = 0) (hc : c < l.length) (hw : 0 ≤ water ∧ water ≤ 1099511627776) (hrim : ¬ rim m n c) : Calls Tryz.prog 4 #[.pointer (some ⟨pb, po, none⟩), .int .i64 (c : Int), .int .i64 water] w fun e w' => e = .returned (.bool true) ∧ Gr w w' := by
  have CR := hidb (based_any g w hl.lai)
  have S1 := hidb (fun W1 (hG : Gr w W1) => small4_any pb po m n (some ⟨b, o, none⟩) l.length cap W1 (ra.below hG).pt)
  rw [decide_eq_true ll] at S1
  have C1 := hidb (fun W1 (hG : Gr w W1) => brise_ok g c water hc hw hrim W1 (hr.below hG.out) ok hv (hl.below hG.out))
  have CW := hidb (fun W1 (hG : Gr w W1) => rasterError_any pb po m n (some ⟨b, o, none⟩) b o cap l W1 (ra.below hG).pt (ra.below hG).sl (by omega))
  rw [hv] at CW
  have CI := hidb (fun W1 (hG : Gr w W1) => isRim_any (pb := pb) (po := po) (m := m) (n := n) (cap := cap) (H := n) (ad := some ⟨b, o, none⟩) l.length c ok.m1 ok.len (by omega) hc W1 (ra.below hG).pt)
  rw [decide_eq_false hrim] at CI
  have HQd := hidb (fun (w' : World) (a b : Int) (v : Value) (h : QAns m n l c water w' a b v) => h.df ok ll hc hw)
  have HWt : Hid (∀ (num den t : Int), (1 ≤ den ∧ den ≤ 1048576) → (∀ h, lwB num den false h = decide (h ≤ t)) → ∀ W, Gr w W → Calls Tryz.prog 19 #[.pointer (some ⟨pb, po, none⟩), .int .i64 (c : Int), .int .i64 num, .int .i64 den, .bool false] W fun e w' => ∃ B, e = .returned (.slice (some ⟨B, 0, none⟩) l.length l.length) ∧ ∃ L, WtOk W w' m n l.length l t c B L) := fun num den t h1 h2 W hG => (wet_gen c num den false t h1 h2 hc W (ra.below hG).pt (hr.below hG.out) ok).mono (fun e w' ⟨B, e1, L, h3, h4⟩ => ⟨B, e1, L, ⟨h3.d, h3.len, h3.gr⟩, h4⟩)
  have HR := hidb ra
  have HRs := hidb (fun W (hG : Gr w W) => hr.below hG.out)
  obtain ⟨N, hN⟩ : ∃ N, N = l.length := ⟨_, rfl⟩
  have HN := hidb hN
  have HP : Hid (∀ W, Gr w W → PtR W pb po m n (.slice (some ⟨b, o, none⟩) N cap)) := fun W hG => by rw [hN]; exact (ra.below hG).pt
  have h1 : ¬ (N : Int) ≤ (c : Int) := by omega
  have h2 : ¬ (c : Int) < 0 := by omega
  have h3 : ¬ water < 0 := by omega
  have h4 : ¬ 1099511627776 < water := by omega
  have HL := hidb (show N ≤ 80 by omega)
  rw [← hN] at C1 HWt
  clear hl ra hr ok ll hv hN hc hw hrim
  go_enter Tryz.func4, Tryz.ntmps4
  go_wp2_with fail
  refine CR.out.mono ?_
  rintro e w1 ⟨rfl, hB⟩
  have G := hidb hB
  clear hB
  go_wp2_with fail
  refine (S1.out _ G.out).mono ?_
  rintro e w2 ⟨rfl, rfl⟩
  obtain ⟨p0, p1, p2⟩ := (HP.out _ G.out).all
  go_wp2_with fail
  refine (C1.out _ G.out).mono ?_
  rintro e w3 ⟨⟨a, bb, v, rfl, hq⟩, hB3⟩
  replace G := hidb (Gr.step G.out hB3.out)
  obtain ⟨⟨t, K, hdf⟩, hIR⟩ := HQd.out w3 a bb v hq
  have HIR : Hid (∀ W, Gr w W → Calls Tryz.prog 18 #[.pointer (some ⟨pb, po, none⟩), .int .i64 (c : Int), .int .i64 water, .agg #[.int .i64 a, .int .i64 bb]] W fun e w' => e = .returned (.bool true) ∧ Gr W w') := fun W hG => hIR W (by rw [← HN.out]; exact HP.out W hG) (HRs.out W hG)
  obtain ⟨ad, b2, cap2, hvs, hsl⟩ := hdf.sl
  subst hvs
  have HSl := hidb (fun W (hG : Gr w3 W) => hsl.below hG.out)
  have HThr := hidb hdf.thr
  have HB1 := hidb hdf.b1
  have HAll := hidb hdf.all
  have HKl := hidb hdf.len
  clear hB3 p0 p1 p2 hq hdf hIR hsl
  go_upto_region 6 with fail
  have AF := hidb (At.new2 w3 (.int .i64 a) (.int .i64 bb) 50)
  have GF := hidb ((Gr.refl w3).alloc (.cells #[.int .i64 a, .int .i64 bb] 50))
  have G3 := G
  generalize w3.alloc (.cells #[.int .i64 a, .int .i64 bb] 50) = w4 at *
  replace G := hidb (Gr.step G.out GF.out)
  go_wp2_with fail
  refine (CW.out _ G.out).mono ?_
  rintro e w7 ⟨rfl, hB7⟩
  replace G := hidb (Gr.step G.out hB7.out)
  replace GF := hidb (Gr.step GF.out hB7.out)
  replace AF := hidb (At.below hB7.out AF.out)
  clear hB7
  obtain ⟨p0, p1, p2⟩ := (HP.out _ G.out).all
  go_wp2_with fail
  refine (CI.out _ G.out).mono ?_
  rintro e wi ⟨rfl, hBi⟩
  replace G := hidb (Gr.step G.out hBi.out)
  replace GF := hidb (Gr.step GF.out hBi.out)
  replace AF := hidb (At.below hBi.out AF.out)
  clear hBi p0 p1 p2
  obtain ⟨f0, f1⟩ := AF.out.c2
  go_wp2_with fail
  refine (HIR.out _ G.out).mono ?_
  rintro e w8 ⟨rfl, hB8⟩
  replace G := hidb (Gr.step G.out hB8.out)
  replace GF := hidb (Gr.step GF.out hB8.out)
  replace AF := hidb (At.below hB8.out AF.out)
  clear hB8 f0 f1
  obtain ⟨f0, f1⟩ := AF.out.c2
  go_wp2_with fail
  refine (HWt.out a bb t HB1.out HThr.out _ G.out).mono ?_
  rintro e w9 ⟨B, rfl, L, hW⟩
  replace G := hidb (Gr.step G.out hW.1.2.2.out)
  replace GF := hidb (Gr.step GF.out hW.1.2.2.out)
  have HBs := hidb (fun W (hG : Gr w9 W) => At.below hG.out hW.1.1)
  have HLl := hidb hW.1.2.1
  have HFin := hidb (HAll.out L hW.2)
  clear hW f0 f1 h1 h2 h3 h4
  have HS9 := hidb (HSl.out _ GF.out)
  obtain ⟨Q, hQ⟩ : ∃ Q, Q = K.length := ⟨_, rfl⟩
  have HQ := hidb hQ
  rw [← hQ]
  clear hQ
  go_wp2
  go_loopw [16, 17] (fun s t wr => ∃ (i q : Nat), i ≤ N ∧ t = .int .i64 (i : Int) ∧ Hid (wr.ownsRow w9.heap.size 3 1 s q (ir (on (wtL L i))) ∧ (on (wtL L i)).length = q ∧ Gr w9 wr)) (fun _ t _ => N - (intOf t).toNat)
  case atStart => exact ⟨0, 0, Nat.zero_le _, rfl, hidb ⟨World.ownsRow_nil _ _ _ _, rfl, Gr.refl _⟩⟩
  case round =>
    obtain ⟨i, q, hi, rfl, E⟩ := hrel
    obtain ⟨ad1, cap1, rfl⟩ := own_shape1' E.out.1
    by_cases h1 : ¬ i < N
    · have h1' : ¬ (i : Int) < (N : Int) := by omega
      obtain rfl : i = N := by omega
      have HO : Hid (wr.ownsRow w9.heap.size 3 1 (.slice ad1 q cap1) q (ir K) ∧ K.length = q) := by
        have := E.out
        rw [HN.out, HFin.out] at this
        exact ⟨this.1, this.2.1⟩
      have hql : q = Q := by rw [← HO.out.2, HQ.out]
      subst hql
      obtain ⟨ad3, b3, cap3, e3, hI3⟩ := own_isl2 HO.out.1
      rw [HO.out.2] at e3
      simp only [Value.slice.injEq] at e3
      obtain ⟨rfl, -, rfl⟩ := e3
      have HSa := hidb (sameInts_eq (l := K) (by have := HKl.out; omega) wr (HS9.out.below E.out.2.2.out) hI3)
      rw [HO.out.2] at HSa
      have HG := hidb (Gr.step G.out E.out.2.2.out)
      clear h1 hI3
      go_wp2_with fail
      refine HSa.out.mono ?_
      rintro e w11 ⟨rfl, hB11⟩
      replace HG := hidb (Gr.step HG.out hB11.out)
      clear hB11
      go_wp2
      go_ret
      exact ⟨rfl, HG.out⟩
    · have h1' : (i : Int) < (N : Int) := by omega
      have hiN : i < N := by omega
      have HiN := hidb hiN
      have e1 : IntKind.i64.wrap ((i : Int) + 1) = ((i + 1 : Nat) : Int) := by rw [show (i : Int) + 1 = ((i + 1 : Nat) : Int) by omega]; exact wrap_in (by have := HL.out; omega) (by have := HL.out; omega)
      have ixB := bindex B N N i hiN
      obtain ⟨cB, -⟩ := (HBs.out _ E.out.2.2).getb (j := i) (by rw [HLl.out]; exact hiN)
      have HSc := hidb (wtL_succ L i)
      have HLw := hidb (wtL_len L i)
      cases hb : glb L i with
      | false =>
        rw [hb] at cB
        have HS2 : Hid (wtL L (i + 1) = wtL L i) := by show _ = _; rw [HSc.out, hb]; rfl
        clear hb h1 hiN
        go_wp2
        go_roundw
        case rel => exact ⟨i + 1, q, HiN.out, by go_num, by rw [HS2.out]; exact E⟩
        case measure => have := HiN.out; simp [intOf]; omega
      | true =>
        rw [hb] at cB
        have HS2 : Hid (on (wtL L (i + 1)) = on (wtL L i) ++ [(i : Int)]) := by show _ = _; rw [HSc.out, hb]; simp [on]
        have hql : (on (wtL L i)).length = q ∧ q ≤ 20000 := ⟨E.out.2.1, by have := E.out.2.1; rw [List.length_map] at this; have := HLw.out; have := HL.out; have := HiN.out; omega⟩
        have HQl := hidb hql
        clear hb h1 hiN hql
        go_wp2_with (at_builtin; refine wpList_i1 _ w9.heap.size (.slice ad1 q cap1) (on (wtL L i)) (i : Int) q wr.heap.size _ _ rfl rfl rfl rfl HQl.out.1 HQl.out.2 (E.out.1.alloc _) (At.new1 _ _ _) (by have := E.out.2.2.out.size; simp; omega) ?_; intro g3 cap3 w12 hown hgrow)
        have G12 := hidb (gr_app E.out.2.2 E.out.1 (Nat.le_refl _) hgrow.out)
        rw [← HS2.out] at hown
        clear hgrow
        go_wp2
        go_roundw
        case rel => exact ⟨i + 1, q + 1, HiN.out, by go_num, hidb ⟨hown.out, by rw [HS2.out, List.length_append, HQl.out.1]; rfl, G12.out⟩⟩
        case measure => have := HiN.out; simp [intOf]; omega
theorem basinRises_law (g : Nat → Addr) (a : Option Addr) (c water : Int) (w : World) (hl : Laid w g) (ha : RArg w a) : Calls Tryz.prog 4 #[.pointer a, .int .i64 c, .int .i64 water] w fun e w' => e = .returned (.bool true) ∧ Gr w w' := by
  obtain ⟨s, h1, h2⟩ := small4_arg ha
  cases s with
  | false => exact rises_no g _ _ _ w hl h1
  | true =>
    obtain ⟨pb, po, W, H, sd, b, o, cap, l, rfl, hr, hc, ll⟩ := h2 rfl
    by_cases hv : vcode W H l = 0
    · obtain ⟨m, n, rfl, rfl, ok⟩ := ok_of hv
      have h0 : ¬ l.length = 0 := by
        have := Nat.mul_le_mul ok.m1 ok.n1
        rw [ok.len]
        omega
      obtain ⟨rfl, hRs⟩ := hc h0
      by_cases hcc : (0 ≤ c ∧ c < (l.length : Int)) ∧ 0 ≤ water ∧ water ≤ 1099511627776
      · obtain ⟨k, rfl⟩ : ∃ k : Nat, c = (k : Int) := ⟨c.toNat, by omega⟩
        by_cases hrim : rim m n k
        · exact rises_C g k water w hl hr hRs ok ll hv (by omega) hcc.2 hrim
        · exact rises_D g k water w hl hr hRs ok ll hv (by omega) hcc.2 hrim
      · exact rises_B g c water w hl hr hRs ok ll hv hcc
    · exact rises_A g c water w hl hr ll hv
end Go.Proofs.YtddnebgnohlchaaGreatDoor
