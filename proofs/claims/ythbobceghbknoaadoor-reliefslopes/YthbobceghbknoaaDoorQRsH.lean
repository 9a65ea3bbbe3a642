/-
  ReliefSlopes.
-/
import Derived.Test.YthbobceghbknoaaDoorQRsG
import Derived.Test.YthbobceghbknoaaDoorQRlO
namespace Go.Proofs.YthbobceghbknoaaDoor
open Go.RowKit

set_option maxRecDepth 4000 in
set_option maxHeartbeats 4000000 in
theorem reliefSlopes_no (g : Nat → Addr) (cell x y z : Int) (u : Value) (w : World) (hl : Laid w g) (h1 : ∀ W, Gr w W → Calls Tryd.prog 6 #[u] W fun e w' => e = .returned (.bool false) ∧ w' = W) : Calls Tryd.prog 3 #[u, .int .i64 cell, .int .i64 x, .int .i64 y, .int .i64 z] w fun e w' => e = .returned (.bool true) ∧ Gr w w' := by
  have CR := hidb (grounded_any g w hl)
  have S1 := hidb h1
  clear hl h1
  go_enter Tryd.func3, Tryd.ntmps3
  go_wp2_with fail
  refine CR.out.mono ?_
  rintro e w1 ⟨rfl, hB⟩
  have HG := hidb hB
  clear hB CR
  go_wp2_with fail
  refine (S1.out _ HG.out).mono ?_
  rintro e w2 ⟨rfl, rfl⟩
  go_wp2
  go_ret
  exact ⟨rfl, HG.out⟩
set_option maxRecDepth 4000 in
set_option maxHeartbeats 16000000 in
theorem reliefSlopes_A (g : Nat → Addr) {W H : Int} {ad : Option Addr} {pb po b o cap : Nat} {l : List Int} (cell x y z : Int) (w : World) (hl : Laid w g) (ra : Rin w pb po W H ad b o cap l) (ll : l.length ≤ 200) (hv : ¬ vcode W H l = 0) : Calls Tryd.prog 3 #[.pointer (some ⟨pb, po, none⟩), .int .i64 cell, .int .i64 x, .int .i64 y, .int .i64 z] w fun e w' => e = .returned (.bool true) ∧ Gr w w' := by
  have CR := hidb (grounded_any g w hl)
  have RP := hidb ra.pt
  have S1 := hidb (fun W1 (hG : Gr w W1) => small_any pb po W H ad l.length cap W1 (ra.below hG).pt)
  rw [decide_eq_true ll] at S1
  have CA := hidb (fun W1 (hG : Gr w W1) => slope_A g (W := W) (H := H) cell W1 (ra.below hG).sl (by omega) (hl.below hG.out) hv)
  have CP := hidb (fun W1 (hG : Gr w W1) => shade_err g (vcode W H l - 1) (W := W) (H := H) (v := .slice ad l.length cap) cell x y z W1 (fun W2 hG2 => slope_A g (W := W) (H := H) cell W2 ((ra.below hG).below hG2).sl (by omega) ((hl.below hG.out).below hG2.out) hv))
  have CW := hidb (fun W1 (hG : Gr w W1) => rasterError_any pb po W H ad b o cap l W1 (ra.below hG).pt (ra.below hG).sl (by omega))
  have CN := hidb (fun W1 (hG : Gr w W1) => coded_evc g (vcode W H l) (by have := vcode_lt W H l; omega) W1 (hl.below hG.out))
  rw [evc_of hv] at CN
  have zp : 0 < (vcode W H l : Int) := by omega
  have zn : ¬ (vcode W H l : Int) = 0 := by omega
  have zb : ((vcode W H l : Int) == 0) = false := by simp; omega
  generalize vcode W H l - 1 = ei at *
  clear hv
  generalize (vcode W H l : Int) = zz at *
  clear hl ra ll
  go_enter Tryd.func3, Tryd.ntmps3
  go_wp2_with fail
  refine CR.out.mono ?_
  rintro e w1 ⟨rfl, hB⟩
  have HG := hidb hB
  clear hB
  go_wp2_with fail
  refine (S1.out _ HG.out).mono ?_
  rintro e w2 ⟨rfl, rfl⟩
  obtain ⟨p0, p1, p2⟩ := RP.out.below HG.out.out
  go_wp2_with fail
  clear p0 p1 p2
  refine (CA.out _ HG.out).mono ?_
  rintro e w3 ⟨rfl, hB⟩
  replace HG := hidb (Gr.step HG.out hB.out)
  clear hB
  obtain ⟨p0, p1, p2⟩ := RP.out.below HG.out.out
  go_wp2_with fail
  clear p0 p1 p2
  refine (CP.out _ HG.out).mono ?_
  rintro e w4 ⟨rfl, hB⟩
  replace HG := hidb (Gr.step HG.out hB.out)
  clear hB
  go_wp2_with fail
  refine (CW.out _ HG.out).mono ?_
  rintro e w5 ⟨rfl, hB⟩
  replace HG := hidb (Gr.step HG.out hB.out)
  clear hB
  go_wp2_with fail
  refine (CN.out _ HG.out).mono ?_
  rintro e w6 ⟨rfl, hB⟩
  replace HG := hidb (Gr.step HG.out hB.out)
  clear hB
  go_wp2_with fail
  refine (CN.out _ HG.out).mono ?_
  rintro e w6 ⟨rfl, hB⟩
  replace HG := hidb (Gr.step HG.out hB.out)
  clear hB
  go_wp2
  go_ret
  exact ⟨by first | rfl | (simp; done), HG.out⟩
set_option maxRecDepth 4000 in
set_option maxHeartbeats 16000000 in
theorem reliefSlopes_B (g : Nat → Addr) {m n pb po b o cap : Nat} {l : List Int} (cell x y z : Int) (w : World) (hl : Laid w g) (rp : PtR w pb po m n (.slice (some ⟨b, o, none⟩) l.length cap)) (rs : Rs w b o cap l) (ok : Ok l m n) (hv : vcode m n l = 0) (ll : l.length ≤ 200) (hc : ¬ (0 ≤ cell ∧ cell < l.length)) : Calls Tryd.prog 3 #[.pointer (some ⟨pb, po, none⟩), .int .i64 cell, .int .i64 x, .int .i64 y, .int .i64 z] w fun e w' => e = .returned (.bool true) ∧ Gr w w' := by
  have CR := hidb (grounded_any g w hl)
  have RP := hidb rp
  have S1 := hidb (fun W1 (hG : Gr w W1) => small_any pb po m n (some ⟨b, o, none⟩) l.length cap W1 (rp.below hG.out))
  rw [decide_eq_true ll] at S1
  have CW := hidb (fun W1 (hG : Gr w W1) => rasterError_any pb po m n (some ⟨b, o, none⟩) b o cap l W1 (rp.below hG.out) (rs.isl.below hG.out) (by omega))
  rw [hv] at CW
  have CA := hidb (fun W1 (hG : Gr w W1) => slope_B g cell W1 (rs.below hG.out) ok hv (hl.below hG.out) hc)
  have CP := hidb (fun W1 (hG : Gr w W1) => shade_err g 3 (W := m) (H := n) (v := .slice (some ⟨b, o, none⟩) l.length cap) cell x y z W1 (fun W2 hG2 => slope_B g cell W2 ((rs.below hG.out).below hG2.out) ok hv ((hl.below hG.out).below hG2.out) hc))
  have CN := hidb (fun W1 (hG : Gr w W1) => coded_evc g 4 (by decide) W1 (hl.below hG.out))
  rw [show evc g 4 = errV g 3 from rfl] at CN
  have hor : cell < 0 ∨ (¬ cell < 0 ∧ (l.length : Int) ≤ cell) := by omega
  clear hl rp rs ok hv ll hc
  generalize l.length = ln at *
  rcases hor with c1 | ⟨c1, c2⟩
  · go_enter Tryd.func3, Tryd.ntmps3
    go_wp2_with fail
    refine CR.out.mono ?_
    rintro e w1 ⟨rfl, hB⟩
    have HG := hidb hB
    clear hB
    go_wp2_with fail
    refine (S1.out _ HG.out).mono ?_
    rintro e w2 ⟨rfl, rfl⟩
    obtain ⟨p0, p1, p2⟩ := RP.out.below HG.out.out
    go_wp2_with fail
    clear p0 p1 p2
    refine (CA.out _ HG.out).mono ?_
    rintro e w3 ⟨rfl, hB⟩
    replace HG := hidb (Gr.step HG.out hB.out)
    clear hB
    obtain ⟨p0, p1, p2⟩ := RP.out.below HG.out.out
    go_wp2_with fail
    clear p0 p1 p2
    refine (CP.out _ HG.out).mono ?_
    rintro e w4 ⟨rfl, hB⟩
    replace HG := hidb (Gr.step HG.out hB.out)
    clear hB
    go_wp2_with fail
    refine (CW.out _ HG.out).mono ?_
    rintro e w5 ⟨rfl, hB⟩
    replace HG := hidb (Gr.step HG.out hB.out)
    clear hB
    go_wp2_with fail
    refine (CN.out _ HG.out).mono ?_
    rintro e w6 ⟨rfl, hB⟩
    replace HG := hidb (Gr.step HG.out hB.out)
    clear hB
    go_wp2_with fail
    refine (CN.out _ HG.out).mono ?_
    rintro e w6 ⟨rfl, hB⟩
    replace HG := hidb (Gr.step HG.out hB.out)
    clear hB
    go_wp2
    go_ret
    exact ⟨by first | rfl | (simp; done), HG.out⟩
  · go_enter Tryd.func3, Tryd.ntmps3
    go_wp2_with fail
    refine CR.out.mono ?_
    rintro e w1 ⟨rfl, hB⟩
    have HG := hidb hB
    clear hB
    go_wp2_with fail
    refine (S1.out _ HG.out).mono ?_
    rintro e w2 ⟨rfl, rfl⟩
    obtain ⟨p0, p1, p2⟩ := RP.out.below HG.out.out
    go_wp2_with fail
    clear p0 p1 p2
    refine (CA.out _ HG.out).mono ?_
    rintro e w3 ⟨rfl, hB⟩
    replace HG := hidb (Gr.step HG.out hB.out)
    clear hB
    obtain ⟨p0, p1, p2⟩ := RP.out.below HG.out.out
    go_wp2_with fail
    clear p0 p1 p2
    refine (CP.out _ HG.out).mono ?_
    rintro e w4 ⟨rfl, hB⟩
    replace HG := hidb (Gr.step HG.out hB.out)
    clear hB
    go_wp2_with fail
    refine (CW.out _ HG.out).mono ?_
    rintro e w5 ⟨rfl, hB⟩
    replace HG := hidb (Gr.step HG.out hB.out)
    clear hB
    obtain ⟨p0, p1, p2⟩ := RP.out.below HG.out.out
    go_wp2_with fail
    clear p0 p1 p2
    refine (CN.out _ HG.out).mono ?_
    rintro e w6 ⟨rfl, hB⟩
    replace HG := hidb (Gr.step HG.out hB.out)
    clear hB
    go_wp2_with fail
    refine (CN.out _ HG.out).mono ?_
    rintro e w6 ⟨rfl, hB⟩
    replace HG := hidb (Gr.step HG.out hB.out)
    clear hB
    go_wp2
    go_ret
    exact ⟨by first | rfl | (simp; done), HG.out⟩
set_option maxRecDepth 4000 in
set_option maxHeartbeats 32000000 in
theorem reliefSlopes_C (g : Nat → Addr) {m n pb po b o cap : Nat} {l : List Int} (i : Nat) (hi : i < l.length) (x y z : Int) (w : World) (hl : Laid w g) (rp : PtR w pb po m n (.slice (some ⟨b, o, none⟩) l.length cap)) (rs : Rs w b o cap l) (ok : Ok l m n) (hv : vcode m n l = 0) (ll : l.length ≤ 200) (hs : liI x y z = false) : Calls Tryd.prog 3 #[.pointer (some ⟨pb, po, none⟩), .int .i64 (i : Int), .int .i64 x, .int .i64 y, .int .i64 z] w fun e w' => e = .returned (.bool true) ∧ Gr w w' := by
  have CR := hidb (grounded_any g w hl)
  have RP := hidb rp
  have S1 := hidb (fun W1 (hG : Gr w W1) => small_any pb po m n (some ⟨b, o, none⟩) l.length cap W1 (rp.below hG.out))
  rw [decide_eq_true ll] at S1
  have CW := hidb (fun W1 (hG : Gr w W1) => rasterError_any pb po m n (some ⟨b, o, none⟩) b o cap l W1 (rp.below hG.out) (rs.isl.below hG.out) (by omega))
  rw [hv] at CW
  have CA := hidb (fun W1 (hG : Gr w W1) => slope_C g i hi W1 (rs.below hG.out) ok hv (hl.below hG.out))
  have CS := hidb (fun W1 (hG : Gr w W1) => slopeOf_any i hi W1 (rp.below hG.out) (rs.below hG.out) ok)
  have CP := hidb (fun W1 (hG : Gr w W1) => shade_C g i hi x y z W1 (rs.below hG.out) ok hv (hl.below hG.out) hs)
  have CN := hidb (fun W1 (hG : Gr w W1) => coded_evc g 3 (by decide) W1 (hl.below hG.out))
  rw [show evc g 3 = errV g 2 from rfl] at CN
  obtain ⟨iI, hiI⟩ : ∃ q : Int, q = (i : Int) := ⟨_, rfl⟩
  rw [← hiI] at CA CP CS
  rw [← hiI]
  have c1 : ¬ iI < 0 := by omega
  have c2 : ¬ (l.length : Int) ≤ iI := by omega
  have hor : 1024 < x ∨ (¬ 1024 < x ∧ x < -1024) ∨ (¬ 1024 < x ∧ ¬ x < -1024 ∧ 1024 < y) ∨ (¬ 1024 < x ∧ ¬ x < -1024 ∧ ¬ 1024 < y ∧ y < -1024) ∨ (¬ 1024 < x ∧ ¬ x < -1024 ∧ ¬ 1024 < y ∧ ¬ y < -1024 ∧ 1024 < z) ∨ (¬ 1024 < x ∧ ¬ x < -1024 ∧ ¬ 1024 < y ∧ ¬ y < -1024 ∧ ¬ 1024 < z ∧ z < -1024) ∨ (x = 0 ∧ y = 0 ∧ z = 0) := by
    unfold liI inI at hs
    simp only [Bool.and_eq_false_iff, decide_eq_false_iff_not, Bool.not_eq_false', decide_eq_true_eq] at hs
    omega
  generalize eaI l m n i = ea at *
  generalize noI l m n i = no at *
  clear hl rp rs ok hv ll hs hi hiI
  generalize l.length = ln at *
  rcases hor with d1 | ⟨d1, d2⟩ | ⟨d1, d2, d3⟩ | ⟨d1, d2, d3, d4⟩ | ⟨d1, d2, d3, d4, d5⟩ | ⟨d1, d2, d3, d4, d5, d6⟩ | ⟨rfl, rfl, rfl⟩
  all_goals
    go_enter Tryd.func3, Tryd.ntmps3
    go_wp2_with fail
    refine CR.out.mono ?_
    rintro e w1 ⟨rfl, hB⟩
    have HG := hidb hB
    clear hB
    go_wp2_with fail
    refine (S1.out _ HG.out).mono ?_
    rintro e w2 ⟨rfl, rfl⟩
    obtain ⟨p0, p1, p2⟩ := RP.out.below HG.out.out
    go_wp2_with fail
    clear p0 p1 p2
    refine (CA.out _ HG.out).mono ?_
    rintro e w3 ⟨rfl, hB⟩
    replace HG := hidb (Gr.step HG.out hB.out)
    clear hB
    obtain ⟨p0, p1, p2⟩ := RP.out.below HG.out.out
    go_wp2_with fail
    clear p0 p1 p2
    refine (CP.out _ HG.out).mono ?_
    rintro e w4 ⟨rfl, hB⟩
    replace HG := hidb (Gr.step HG.out hB.out)
    clear hB
    go_wp2_with fail
    refine (CW.out _ HG.out).mono ?_
    rintro e w5 ⟨rfl, hB⟩
    replace HG := hidb (Gr.step HG.out hB.out)
    clear hB
    obtain ⟨p0, p1, p2⟩ := RP.out.below HG.out.out
    go_wp2_with fail
    clear p0 p1 p2
    refine (CS.out _ HG.out).mono ?_
    rintro e w6 ⟨rfl, hB⟩
    replace HG := hidb (Gr.step HG.out hB.out)
    clear hB
    go_wp2_with fail
    refine (CN.out _ HG.out).mono ?_
    rintro e w6 ⟨rfl, hB⟩
    replace HG := hidb (Gr.step HG.out hB.out)
    clear hB
    go_wp2
    go_ret
    exact ⟨by first | rfl | (simp; done), HG.out⟩
set_option maxRecDepth 4000 in
set_option maxHeartbeats 32000000 in
theorem reliefSlopes_D (g : Nat → Addr) {m n pb po b o cap : Nat} {l : List Int} (i : Nat) (hi : i < l.length) (x y z : Int) (w : World) (hl : Laid w g) (rp : PtR w pb po m n (.slice (some ⟨b, o, none⟩) l.length cap)) (rs : Rs w b o cap l) (ok : Ok l m n) (hv : vcode m n l = 0) (ll : l.length ≤ 200) (hs : liI x y z = true) : Calls Tryd.prog 3 #[.pointer (some ⟨pb, po, none⟩), .int .i64 (i : Int), .int .i64 x, .int .i64 y, .int .i64 z] w fun e w' => e = .returned (.bool true) ∧ Gr w w' := by
  have CR := hidb (grounded_any g w hl)
  have RP := hidb rp
  have S1 := hidb (fun W1 (hG : Gr w W1) => small_any pb po m n (some ⟨b, o, none⟩) l.length cap W1 (rp.below hG.out))
  rw [decide_eq_true ll] at S1
  have CW := hidb (fun W1 (hG : Gr w W1) => rasterError_any pb po m n (some ⟨b, o, none⟩) b o cap l W1 (rp.below hG.out) (rs.isl.below hG.out) (by omega))
  rw [hv] at CW
  have CA := hidb (fun W1 (hG : Gr w W1) => slope_C g i hi W1 (rs.below hG.out) ok hv (hl.below hG.out))
  have CS := hidb (fun W1 (hG : Gr w W1) => slopeOf_any i hi W1 (rp.below hG.out) (rs.below hG.out) ok)
  have CP := hidb (fun W1 (hG : Gr w W1) => shade_D g i hi x y z W1 (rs.below hG.out) ok hv (hl.below hG.out) hs)
  have CI := hidb (fun (v : Nat) (hS : ShOk (-(eaI l m n i)) (-(noI l m n i)) 2048 x y z v) W1 (hG : Gr w W1) => isShade_any i hi x y z v W1 (rp.below hG.out) (rs.below hG.out) ok hs hS)
  obtain ⟨iI, hiI⟩ : ∃ q : Int, q = (i : Int) := ⟨_, rfl⟩
  rw [← hiI] at CA CP CS CI
  rw [← hiI]
  have c1 : ¬ iI < 0 := by omega
  have c2 : ¬ (l.length : Int) ≤ iI := by omega
  have hand : (¬ 1024 < x ∧ ¬ x < -1024 ∧ ¬ 1024 < y ∧ ¬ y < -1024 ∧ ¬ 1024 < z ∧ ¬ z < -1024) ∧ (¬ x = 0 ∨ (x = 0 ∧ ¬ y = 0) ∨ (x = 0 ∧ y = 0 ∧ ¬ z = 0)) := by
    unfold liI inI at hs
    simp only [Bool.and_eq_true, decide_eq_true_eq, Bool.not_eq_true', decide_eq_false_iff_not] at hs
    omega
  generalize eaI l m n i = ea at *
  generalize noI l m n i = no at *
  clear hl rp rs ok hv ll hs hi hiI
  generalize l.length = ln at *
  obtain ⟨⟨d1, d2, d3, d4, d5, d6⟩, hor⟩ := hand
  have f5 : decide (1024 < z) = false := decide_eq_false d5
  have f6 : decide (z < -1024) = false := decide_eq_false d6
  rcases hor with q1 | ⟨rfl, q2⟩ | ⟨rfl, rfl, q3⟩
  all_goals
    go_enter Tryd.func3, Tryd.ntmps3
    go_wp2_with fail
    refine CR.out.mono ?_
    rintro e w1 ⟨rfl, hB⟩
    have HG := hidb hB
    clear hB
    go_wp2_with fail
    refine (S1.out _ HG.out).mono ?_
    rintro e w2 ⟨rfl, rfl⟩
    obtain ⟨p0, p1, p2⟩ := RP.out.below HG.out.out
    go_wp2_with fail
    clear p0 p1 p2
    refine (CA.out _ HG.out).mono ?_
    rintro e w3 ⟨rfl, hB⟩
    replace HG := hidb (Gr.step HG.out hB.out)
    clear hB
    obtain ⟨p0, p1, p2⟩ := RP.out.below HG.out.out
    go_wp2_with fail
    clear p0 p1 p2
    refine (CP.out _ HG.out).mono ?_
    rintro e w4 ⟨v, rfl, hS, hB⟩
    have KI := hidb (CI.out v hS)
    clear hS
    replace HG := hidb (Gr.step HG.out hB.out)
    clear hB
    go_wp2_with fail
    refine (CW.out _ HG.out).mono ?_
    rintro e w5 ⟨rfl, hB⟩
    replace HG := hidb (Gr.step HG.out hB.out)
    clear hB
    obtain ⟨p0, p1, p2⟩ := RP.out.below HG.out.out
    go_wp2_with fail
    clear p0 p1 p2
    refine (CS.out _ HG.out).mono ?_
    rintro e w6 ⟨rfl, hB⟩
    replace HG := hidb (Gr.step HG.out hB.out)
    clear hB
    go_wp2_with fail
    refine (KI.out _ HG.out).mono ?_
    rintro e w6 ⟨rfl, hB⟩
    replace HG := hidb (Gr.step HG.out hB.out)
    clear hB
    go_wp2
    go_ret
    exact ⟨by first | rfl | (simp; done), HG.out⟩
theorem reliefSlopes_law (g : Nat → Addr) (cell x y z : Int) (a : Option Addr) (w : World) (hl : Laid w g) (ha : RArg w a) : Calls Tryd.prog 3 #[.pointer a, .int .i64 cell, .int .i64 x, .int .i64 y, .int .i64 z] w fun e w' => e = .returned (.bool true) ∧ Gr w w' := by
  obtain ⟨s, c1, k1⟩ := small_arg ha
  cases s
  · exact reliefSlopes_no g cell x y z _ w hl c1
  · obtain ⟨pb, po, W, H, sd, b, o, cap, l, rfl, ra, hcap, ll⟩ := k1 rfl
    by_cases hv : vcode W H l = 0
    · obtain ⟨m, n, rfl, rfl, ok⟩ := ok_of hv
      obtain ⟨rfl, rs⟩ := hcap (by intro e; have h0 := ok.len; rw [e] at h0; have h3 := Nat.mul_le_mul ok.m1 ok.n1; omega)
      by_cases hc : 0 ≤ cell ∧ cell < l.length
      · have e : cell = ((cell.toNat : Nat) : Int) := by omega
        rw [e]
        by_cases hs : liI x y z = true
        · exact reliefSlopes_D g cell.toNat (by omega) x y z w hl ra.pt rs ok hv ll hs
        · exact reliefSlopes_C g cell.toNat (by omega) x y z w hl ra.pt rs ok hv ll (by simpa using hs)
      · exact reliefSlopes_B g cell x y z w hl ra.pt rs ok hv ll hc
    · exact reliefSlopes_A g cell x y z w hl ra ll hv
end Go.Proofs.YthbobceghbknoaaDoor
