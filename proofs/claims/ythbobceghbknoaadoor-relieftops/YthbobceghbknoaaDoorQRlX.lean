/-
  ReliefTops: no answer asked, an invalid raster; the law.
-/
import Derived.Test.YthbobceghbknoaaDoorQRlW
import Derived.Test.YthbobceghbknoaaDoorQRlO
namespace Go.Proofs.YthbobceghbknoaaDoor
open Go.RowKit

set_option maxRecDepth 4000 in
set_option maxHeartbeats 4000000 in
theorem reliefTops_no (g : Nat → Addr) (num den : Int) (u : Value) (w : World) (hl : Laid w g) (h1 : ∀ W, Gr w W → Calls Tryd.prog 6 #[u] W fun e w' => e = .returned (.bool false) ∧ w' = W) : Calls Tryd.prog 4 #[u, .int .i64 num, .int .i64 den] w fun e w' => e = .returned (.bool true) ∧ Gr w w' := by
  have CR := hidb (grounded_any g w hl)
  have S1 := hidb h1
  clear hl h1
  go_enter Tryd.func4, Tryd.ntmps4
  go_wp2_with fail
  refine CR.out.mono ?_
  rintro e w1 ⟨rfl, hB⟩
  have HG := hidb hB
  clear hB CR
  go_wp2_with fail
  refine (S1.out _ HG.out).mono ?_
  rintro e w2 ⟨rfl, rfl⟩
  go_wp2
  go_ret
  exact ⟨rfl, HG.out⟩
set_option maxRecDepth 4000 in
set_option maxHeartbeats 16000000 in
theorem reliefTops_A (g : Nat → Addr) {W H : Int} {ad : Option Addr} {pb po b o cap : Nat} {l : List Int} (num den : Int) (w : World) (hl : Laid w g) (ra : Rin w pb po W H ad b o cap l) (ll : l.length ≤ 200) (hv : ¬ vcode W H l = 0) : Calls Tryd.prog 4 #[.pointer (some ⟨pb, po, none⟩), .int .i64 num, .int .i64 den] w fun e w' => e = .returned (.bool true) ∧ Gr w w' := by
  have CR := hidb (grounded_any g w hl)
  have RP := hidb ra.pt
  have S1 := hidb (fun W1 (hG : Gr w W1) => small_any pb po W H ad l.length cap W1 (ra.below hG).pt)
  rw [decide_eq_true ll] at S1
  have CA := hidb (fun W1 (hG : Gr w W1) => tops_A g (W := W) (H := H) W1 (ra.below hG).sl (by omega) (hl.below hG.out) hv)
  have CP := hidb (fun W1 (hG : Gr w W1) => above_A g (W := W) (H := H) num den W1 (ra.below hG).sl (by omega) (hl.below hG.out) hv)
  have CW := hidb (fun W1 (hG : Gr w W1) => rasterError_any pb po W H ad b o cap l W1 (ra.below hG).pt (ra.below hG).sl (by omega))
  have CN := hidb (fun W1 (hG : Gr w W1) => coded_evc g (vcode W H l) (by have := vcode_lt W H l; omega) W1 (hl.below hG.out))
  rw [evc_of hv] at CN
  have zp : 0 < (vcode W H l : Int) := by omega
  generalize vcode W H l - 1 = ei at *
  clear hv
  generalize (vcode W H l : Int) = z at *
  clear hl ra ll
  go_enter Tryd.func4, Tryd.ntmps4
  go_wp2_with fail
  refine CR.out.mono ?_
  rintro e w1 ⟨rfl, hB⟩
  have HG := hidb hB
  clear hB CR
  go_wp2_with fail
  refine (S1.out _ HG.out).mono ?_
  rintro e w2 ⟨rfl, rfl⟩
  obtain ⟨p0, p1, p2⟩ := RP.out.below HG.out.out
  go_wp2_with fail
  clear p0 p1 p2
  refine (CA.out _ HG.out).mono ?_
  rintro e w3 ⟨rfl, hB⟩
  replace HG := hidb (Gr.step HG.out hB.out)
  clear hB
  obtain ⟨p0, p1, p2⟩ := RP.out.below HG.out.out
  go_wp2_with fail
  clear p0 p1 p2
  refine (CP.out _ HG.out).mono ?_
  rintro e w4 ⟨rfl, hB⟩
  replace HG := hidb (Gr.step HG.out hB.out)
  clear hB
  go_wp2_with fail
  refine (CW.out _ HG.out).mono ?_
  rintro e w5 ⟨rfl, hB⟩
  replace HG := hidb (Gr.step HG.out hB.out)
  clear hB
  go_wp2_with fail
  refine (CN.out _ HG.out).mono ?_
  rintro e w6 ⟨rfl, hB⟩
  replace HG := hidb (Gr.step HG.out hB.out)
  clear hB
  go_wp2_with fail
  refine (CN.out _ HG.out).mono ?_
  rintro e w7 ⟨rfl, hB⟩
  replace HG := hidb (Gr.step HG.out hB.out)
  clear hB
  go_wp2
  go_ret
  exact ⟨by simp, HG.out⟩
theorem reliefTops_law (g : Nat → Addr) (num den : Int) (a : Option Addr) (w : World) (hl : Laid w g) (ha : RArg w a) : Calls Tryd.prog 4 #[.pointer a, .int .i64 num, .int .i64 den] w fun e w' => e = .returned (.bool true) ∧ Gr w w' := by
  obtain ⟨s, c1, k1⟩ := small_arg ha
  cases s
  · exact reliefTops_no g num den _ w hl c1
  · obtain ⟨pb, po, W, H, sd, b, o, cap, l, rfl, ra, hcap, ll⟩ := k1 rfl
    by_cases hv : vcode W H l = 0
    · obtain ⟨m, n, rfl, rfl, ok⟩ := ok_of hv
      obtain ⟨rfl, rs⟩ := hcap (by intro e; have h0 := ok.len; rw [e] at h0; have h3 := Nat.mul_le_mul ok.m1 ok.n1; omega)
      exact reliefTops_B g num den w hl ra.pt rs ok hv ll
    · exact reliefTops_A g num den w hl ra ll hv
end Go.Proofs.YthbobceghbknoaaDoor
