/-
  DrainFloods: where the raster is no small one; where it is no right one.; DrainGathers: the ways in which little is looked at.
-/
import Derived.Test.YtbkggcfogmgmmaaDoorQDrU
import Derived.Test.YtbkggcfogmgmmaaDoorQDrW
import Derived.Test.YtbkggcfogmgmmaaDoorQJ9
import Derived.Test.YtbkggcfogmgmmaaDoorQJ13
namespace Go.Proofs.YtbkggcfogmgmmaaDoor
open Go.RowKit
attribute [local go_sem ↓] Go.wp_at_zero Go.wp_at_succ

set_option maxRecDepth 4000 in
set_option maxHeartbeats 4000000 in
theorem floods_no (g : Nat → Addr) (u : Value) (w : World) (hl : Laid w g) (h1 : ∀ W, Gr w W → Calls Tryd.prog 10 #[u] W fun e w' => e = .returned (.bool false) ∧ w' = W) : Calls Tryd.prog 3 #[u] w fun e w' => e = .returned (.bool true) ∧ Gr w w' := by
  have CR := hidb (drains_any g w hl.lai)
  have S1 := hidb h1
  clear hl h1
  go_enter Tryd.func3, Tryd.ntmps3
  go_wp2_with fail
  refine CR.out.mono ?_
  rintro e w1 ⟨rfl, hB⟩
  have G := hidb hB
  clear hB
  go_wp2_with fail
  refine (S1.out _ G.out).mono ?_
  rintro e w2 ⟨rfl, rfl⟩
  go_wp2
  go_ret
  exact ⟨rfl, G.out⟩
set_option maxRecDepth 4000 in
set_option maxHeartbeats 8000000 in
theorem floods_A (g : Nat → Addr) {pb po : Nat} {W H : Int} {ad : Option Addr} {b o cap : Nat} {l : List Int} (w : World) (hl : Laid w g) (ra : Rin w pb po W H ad b o cap l) (ll : l.length ≤ 80) (hv : ¬ vcode W H l = 0) : Calls Tryd.prog 3 #[.pointer (some ⟨pb, po, none⟩)] w fun e w' => e = .returned (.bool true) ∧ Gr w w' := by
  have CR := hidb (drains_any g w hl.lai)
  have S1 := hidb (fun W1 (hG : Gr w W1) => small4_any pb po W H ad l.length cap W1 (ra.below hG).pt)
  rw [decide_eq_true ll] at S1
  have C1 := hidb (fun W1 (hG : Gr w W1) => fill_no g W1 (ra.below hG).sl (by omega) (hl.below hG.out).lai hv)
  have C2 := hidb (fun W1 (hG : Gr w W1) => flow_no g W1 (ra.below hG).sl (by omega) (hl.below hG.out).lai hv)
  have C3 := hidb (fun W1 (hG : Gr w W1) => order_no g W1 (ra.below hG).sl (by omega) (hl.below hG.out).lai hv)
  have CW := hidb (fun W1 (hG : Gr w W1) => rasterError_any pb po W H ad b o cap l W1 (ra.below hG).pt (ra.below hG).sl (by omega))
  have hc8 : vcode W H l ≤ 8 := by unfold vcode; split; omega; split; omega; split <;> omega
  have CE := hidb (fun W1 (hG : Gr w W1) => coded_evc g (vcode W H l) hc8 W1 (hl.below hG.out))
  have HR := hidb ra
  have hv' : (0 : Int) < (vcode W H l : Int) := by omega
  obtain ⟨vc, hvc⟩ : ∃ z : Int, z = (vcode W H l : Int) := ⟨_, rfl⟩
  rw [← hvc] at CW CE hv'
  generalize vcode W H l = v at *
  generalize evc g v = ev at *
  clear hl ra ll hv hc8 hvc
  go_enter Tryd.func3, Tryd.ntmps3
  go_wp2_with fail
  refine CR.out.mono ?_
  rintro e w1 ⟨rfl, hB⟩
  have G := hidb hB
  clear hB
  go_wp2_with fail
  refine (S1.out _ G.out).mono ?_
  rintro e w2 ⟨rfl, rfl⟩
  obtain ⟨p0, p1, p2⟩ := (HR.out.below G.out).pt.all
  go_wp2_with fail
  refine (C1.out _ G.out).mono ?_
  rintro e w3 ⟨rfl, hB3⟩
  replace G := hidb (Gr.step G.out hB3.out)
  clear hB3 p0 p1 p2
  have A5 := hidb (At.new3 w3 (.int .i64 0) (.int .i64 0) (.slice none 0 0) 27)
  replace G := hidb (G.out.alloc (.cells #[.int .i64 0, .int .i64 0, .slice none 0 0] 27))
  obtain ⟨T5, hT5⟩ : ∃ z, z = w3.heap.size := ⟨_, rfl⟩
  go_upto_region 6 with fail
  rw [← hT5] at A5 ⊢
  generalize w3.alloc (.cells #[.int .i64 0, .int .i64 0, .slice none 0 0] 27) = w4 at *
  clear hT5
  obtain ⟨p0, p1, p2⟩ := (HR.out.below G.out).pt.all
  go_wp2_with fail
  refine (C2.out _ G.out).mono ?_
  rintro e w5 ⟨rfl, hB5⟩
  replace G := hidb (Gr.step G.out hB5.out)
  replace A5 := hidb (At.below hB5.out A5.out)
  clear hB5 p0 p1 p2
  obtain ⟨p0, p1, p2⟩ := (HR.out.below G.out).pt.all
  go_wp2_with fail
  refine (C3.out _ G.out).mono ?_
  rintro e w6 ⟨rfl, hB6⟩
  replace G := hidb (Gr.step G.out hB6.out)
  replace A5 := hidb (At.below hB6.out A5.out)
  clear hB6 p0 p1 p2
  go_wp2_with fail
  refine (CW.out _ G.out).mono ?_
  rintro e w7 ⟨rfl, hB7⟩
  replace G := hidb (Gr.step G.out hB7.out)
  replace A5 := hidb (At.below hB7.out A5.out)
  clear hB7
  go_wp2_with fail
  refine (CE.out _ G.out).mono ?_
  rintro e w8 ⟨rfl, hB8⟩
  replace G := hidb (Gr.step G.out hB8.out)
  replace A5 := hidb (At.below hB8.out A5.out)
  clear hB8
  go_wp2_with fail
  refine (CE.out _ G.out).mono ?_
  rintro e w9 ⟨rfl, hB9⟩
  replace G := hidb (Gr.step G.out hB9.out)
  replace A5 := hidb (At.below hB9.out A5.out)
  clear hB9
  go_wp2_with fail
  refine (CE.out _ G.out).mono ?_
  rintro e w10 ⟨rfl, hB10⟩
  replace G := hidb (Gr.step G.out hB10.out)
  replace A5 := hidb (At.below hB10.out A5.out)
  clear hB10
  obtain ⟨a0, a1, a2⟩ := A5.out.c3
  go_wp2
  go_ret
  exact ⟨rfl, G.out⟩
end Go.Proofs.YtbkggcfogmgmmaaDoor
namespace Go.Proofs.YtbkggcfogmgmmaaDoor
open Go.RowKit
attribute [local go_sem ↓] Go.wp_at_zero Go.wp_at_succ

/-- A list of whole numbers that the law is handed. -/
def IArg (w : World) (v : Value) : Prop := ∃ sd b o cap l, v = .slice sd (List.length l) cap ∧ ISl w sd b o cap l ∧ (¬ l.length = 0 → sd = some ⟨b, o, none⟩ ∧ Rs w b o cap l)
set_option maxRecDepth 4000 in
set_option maxHeartbeats 4000000 in
theorem gathers_no (g : Nat → Addr) (u v c : Value) (w : World) (hl : Laid w g) (h1 : ∀ W, Gr w W → Calls Tryd.prog 10 #[u] W fun e w' => e = .returned (.bool false) ∧ w' = W) : Calls Tryd.prog 4 #[u, v, c] w fun e w' => e = .returned (.bool true) ∧ Gr w w' := by
  have CR := hidb (drains_any g w hl.lai)
  have S1 := hidb h1
  clear hl h1
  go_enter Tryd.func4, Tryd.ntmps4
  go_wp2_with fail
  refine CR.out.mono ?_
  rintro e w1 ⟨rfl, hB⟩
  have G := hidb hB
  clear hB
  go_wp2_with fail
  refine (S1.out _ G.out).mono ?_
  rintro e w2 ⟨rfl, rfl⟩
  go_wp2
  go_ret
  exact ⟨rfl, G.out⟩
set_option maxRecDepth 4000 in
set_option maxHeartbeats 4000000 in
theorem gathers_long (g : Nat → Addr) (u c : Value) (ra : Option Addr) (M rcap : Nat) (hM : 200 < M) (w : World) (hl : Laid w g) (h1 : ∀ W, Gr w W → Calls Tryd.prog 10 #[u] W fun e w' => e = .returned (.bool true) ∧ w' = W) : Calls Tryd.prog 4 #[u, .slice ra M rcap, c] w fun e w' => e = .returned (.bool true) ∧ Gr w w' := by
  have CR := hidb (drains_any g w hl.lai)
  have S1 := hidb h1
  have hM' : (200 : Int) < (M : Int) := by omega
  clear hl h1
  go_enter Tryd.func4, Tryd.ntmps4
  go_wp2_with fail
  refine CR.out.mono ?_
  rintro e w1 ⟨rfl, hB⟩
  have G := hidb hB
  clear hB
  go_wp2_with fail
  refine (S1.out _ G.out).mono ?_
  rintro e w2 ⟨rfl, rfl⟩
  go_wp2
  go_ret
  exact ⟨rfl, G.out⟩
set_option maxRecDepth 4000 in
set_option maxHeartbeats 8000000 in
theorem gathers_A (g : Nat → Addr) {pb po : Nat} {W H : Int} {ad : Option Addr} {b o cap : Nat} {l : List Int} (ra : Option Addr) (M rcap : Nat) (hM : M ≤ 200) (c : Int) (w : World) (hl : Laid w g) (hR : Rin w pb po W H ad b o cap l) (ll : l.length ≤ 80) (hv : ¬ vcode W H l = 0) : Calls Tryd.prog 4 #[.pointer (some ⟨pb, po, none⟩), .slice ra M rcap, .int .i64 c] w fun e w' => e = .returned (.bool true) ∧ Gr w w' := by
  have CR := hidb (drains_any g w hl.lai)
  have S1 := hidb (fun W1 (hG : Gr w W1) => small4_any pb po W H ad l.length cap W1 (hR.below hG).pt)
  rw [decide_eq_true ll] at S1
  have C1 := hidb (fun W1 (hG : Gr w W1) => gather_no g (.slice ra M rcap) W1 (hR.below hG).sl (by omega) (hl.below hG.out).lai hv)
  have C2 := hidb (fun W1 (hG : Gr w W1) => way_no g (.int .i64 c) W1 (hR.below hG).sl (by omega) (hl.below hG.out).lai hv)
  have CW := hidb (fun W1 (hG : Gr w W1) => rasterError_any pb po W H ad b o cap l W1 (hR.below hG).pt (hR.below hG).sl (by omega))
  have hc8 : vcode W H l ≤ 8 := by unfold vcode; split; omega; split; omega; split <;> omega
  have CE := hidb (fun W1 (hG : Gr w W1) => coded_evc g (vcode W H l) hc8 W1 (hl.below hG.out))
  have HR := hidb hR
  have hv' : (0 : Int) < (vcode W H l : Int) := by omega
  have hM' : ¬ (200 : Int) < (M : Int) := by omega
  obtain ⟨vc, hvc⟩ : ∃ z : Int, z = (vcode W H l : Int) := ⟨_, rfl⟩
  rw [← hvc] at CW CE hv'
  generalize vcode W H l = v at *
  generalize evc g v = ev at *
  clear hl hR ll hv hc8 hvc
  go_enter Tryd.func4, Tryd.ntmps4
  go_wp2_with fail
  refine CR.out.mono ?_
  rintro e w1 ⟨rfl, hB⟩
  have G := hidb hB
  clear hB
  go_wp2_with fail
  refine (S1.out _ G.out).mono ?_
  rintro e w2 ⟨rfl, rfl⟩
  obtain ⟨p0, p1, p2⟩ := (HR.out.below G.out).pt.all
  go_wp2_with fail
  refine (C1.out _ G.out).mono ?_
  rintro e w3 ⟨rfl, hB3⟩
  replace G := hidb (Gr.step G.out hB3.out)
  clear hB3 p0 p1 p2
  obtain ⟨p0, p1, p2⟩ := (HR.out.below G.out).pt.all
  go_wp2_with fail
  refine (C2.out _ G.out).mono ?_
  rintro e w5 ⟨rfl, hB5⟩
  replace G := hidb (Gr.step G.out hB5.out)
  clear hB5 p0 p1 p2
  go_wp2_with fail
  refine (CW.out _ G.out).mono ?_
  rintro e w7 ⟨rfl, hB7⟩
  replace G := hidb (Gr.step G.out hB7.out)
  clear hB7
  go_wp2_with fail
  refine (CE.out _ G.out).mono ?_
  rintro e w8 ⟨rfl, hB8⟩
  replace G := hidb (Gr.step G.out hB8.out)
  clear hB8
  go_wp2_with fail
  refine (CE.out _ G.out).mono ?_
  rintro e w9 ⟨rfl, hB9⟩
  replace G := hidb (Gr.step G.out hB9.out)
  clear hB9
  go_wp2
  go_ret
  exact ⟨rfl, G.out⟩
end Go.Proofs.YtbkggcfogmgmmaaDoor
