/-
  field.Most, Least, and their errors (FaD.tpl, once for each way).
-/
import Derived.Test.YtphpfongdbidoaaDoorQFaC
import Derived.Test.YtphpfongdbidoaaDoorQFdD
namespace Go.Proofs.YtphpfongdbidoaaDoor
open Go.RowKit

set_option maxRecDepth 4000 in
set_option maxHeartbeats 4000000 in
theorem pickedM_no (g : Nat → Addr) {W H : Int} {ad : Option Addr} {b o cap : Nat} {l : List Int} (n : Int) (w : World) (h : ISl w ad b o cap l) (ll : l.length ≤ 20000) (hl : Lai w g) (hc : ¬ hcode W H l n = 0) : Calls Tryd.prog 27 #[raV W H (.slice ad l.length cap), .int .i64 n, .func (.func 28) #[] #[]] w fun e w' => e = .returned (.tuple #[raV 0 0 (.slice none 0 0), evc g (hcode W H l n)]) ∧ Gr w w' := by
  have C1 := hidb (fun w1 (hB : Gr w w1) => reached_any g (W := W) (H := H) n w1 (h.below hB.out) ll (hl.below hB.out))
  have G0 := hidb (((Gr.refl w).alloc (.cells #[.int .i64 W, .int .i64 H, .slice ad l.length cap] 27)).alloc (.cells #[.int .i64 0, .int .i64 0, .slice none 0 0] 27))
  have A0 := hidb (At.nx3 (W := w) (.cells #[.int .i64 W, .int .i64 H, .slice ad l.length cap] 27) (.int .i64 0) (.int .i64 0) (.slice none 0 0) 27)
  clear h ll hl
  obtain ⟨i, hi⟩ := evc_ne g hc
  rw [hi] at C1 ⊢
  clear hi hc
  go_enter Tryd.func27, Tryd.ntmps27
  go_wp2_with fail
  refine (C1.out _ G0.out).mono ?_
  rintro e w1 ⟨rfl, hB⟩
  replace G0 := hidb (Gr.step G0.out hB.out)
  have A1 := At.below hB.out A0.out
  obtain ⟨a0, a1, a2⟩ := A1.c3
  obtain ⟨f0, f1, f2⟩ := A1.f3
  have AH := A1.has (n := 3) rfl
  clear hB A0 A1
  go_wp2
  refine bodyPost_ret (v := .tuple #[raV 0 0 (.slice none 0 0), errV g i]) (by simp [results, Tryd.results27, go_sem, a0, a1, a2]) rfl ⟨rfl, ?_⟩
  exact ((G0.out.set (by omega) _ _).set (by omega) _ _).set (by omega) _ _
set_option maxRecDepth 4000 in
set_option maxHeartbeats 4000000 in
theorem Most_no (g : Nat → Addr) {W H : Int} {ad : Option Addr} {b o cap : Nat} {l : List Int} (n : Int) (w : World) (h : ISl w ad b o cap l) (ll : l.length ≤ 20000) (hl : Lai w g) (hc : ¬ hcode W H l n = 0) : Calls Tryd.prog 9 #[raV W H (.slice ad l.length cap), .int .i64 n] w fun e w' => e = .returned (.tuple #[raV 0 0 (.slice none 0 0), evc g (hcode W H l n)]) ∧ Gr w w' := by
  have C1 := hidb (fun w1 (hB : Gr w w1) => pickedM_no g (W := W) (H := H) n w1 (h.below hB.out) ll (hl.below hB.out) hc)
  have G0 := hidb (((Gr.refl w).alloc (.cells #[.int .i64 W, .int .i64 H, .slice ad l.length cap] 27)).alloc (.cells #[.int .i64 0, .int .i64 0, .slice none 0 0] 27))
  have A0 := hidb (At.nx3 (W := w) (.cells #[.int .i64 W, .int .i64 H, .slice ad l.length cap] 27) (.int .i64 0) (.int .i64 0) (.slice none 0 0) 27)
  clear h ll hl
  obtain ⟨i, hi⟩ := evc_ne g hc
  rw [hi] at C1 ⊢
  clear hi hc
  go_enter Tryd.func9, Tryd.ntmps9
  go_wp2_with fail
  refine (C1.out _ G0.out).mono ?_
  rintro e w1 ⟨rfl, hB⟩
  replace G0 := hidb (Gr.step G0.out hB.out)
  have A1 := At.below hB.out A0.out
  obtain ⟨a0, a1, a2⟩ := A1.c3
  obtain ⟨f0, f1, f2⟩ := A1.f3
  have AH := A1.has (n := 3) rfl
  clear hB A0 A1
  go_wp2
  refine bodyPost_ret (v := .tuple #[raV 0 0 (.slice none 0 0), errV g i]) (by simp [results, Tryd.results9, go_sem, a0, a1, a2]) rfl ⟨rfl, ?_⟩
  exact ((G0.out.set (by omega) _ _).set (by omega) _ _).set (by omega) _ _
set_option maxRecDepth 4000 in
set_option maxHeartbeats 4000000 in
theorem Most_ok (g : Nat → Addr) {m n rch b o cap : Nat} {l : List Int} (w : World) (h : Rs w b o cap l) (ok : Ok l m n) (hl : Lai w g) (hc : hcode m n l rch = 0) (hr : rch ≤ 128) : Calls Tryd.prog 9 #[raV m n (.slice (some ⟨b, o, none⟩) l.length cap), .int .i64 (rch : Int)] w fun e w' => ∃ B, e = .returned (.tuple #[raV m n (.slice (some ⟨B, 0, none⟩) l.length l.length), .nilIface]) ∧ At w' B (ir (mpL true l m n rch)) ∧ w.heap.size ≤ B ∧ Gr w w' := by
  have C1 := hidb (fun w1 (hB : Gr w w1) => pickedM g w1 (h.below hB.out) ok (hl.below hB.out) hc hr)
  have G0 := hidb (((Gr.refl w).alloc (.cells #[.int .i64 m, .int .i64 n, .slice (some ⟨b, o, none⟩) l.length cap] 27)).alloc (.cells #[.int .i64 0, .int .i64 0, .slice none 0 0] 27))
  have A0 := hidb (At.nx3 (W := w) (.cells #[.int .i64 m, .int .i64 n, .slice (some ⟨b, o, none⟩) l.length cap] 27) (.int .i64 0) (.int .i64 0) (.slice none 0 0) 27)
  have lw := hidb ((Gr.refl w).out.size)
  clear h ok hl hc hr lw
  generalize (rch : Int) = rI at *
  go_enter Tryd.func9, Tryd.ntmps9
  go_wp2_with fail
  refine (C1.out _ G0.out).mono ?_
  rintro e w1 ⟨B, rfl, hAB, hBw, hB⟩
  simp at hBw
  replace G0 := hidb (Gr.step G0.out hB.out)
  have A1 := At.below hB.out A0.out
  obtain ⟨a0, a1, a2⟩ := A1.c3
  obtain ⟨f0, f1, f2⟩ := A1.f3
  have AH := A1.has (n := 3) rfl
  clear hB A0 A1
  have HAB := hidb hAB
  have HBw := hidb hBw
  clear hAB hBw
  go_wp2
  refine bodyPost_ret (v := .tuple #[raV m n (.slice (some ⟨B, 0, none⟩) l.length l.length), .nilIface]) (by simp [results, Tryd.results9, go_sem, a0, a1, a2]) rfl ⟨B, rfl, ?_, by have := HBw.out; omega, ?_⟩
  · have hne : ¬ w.heap.size + 1 = B := by have := HBw.out; omega
    exact ((HAB.out.skip hne 0 _).skip hne 1 _).skip hne 2 _
  · exact ((G0.out.set (by omega) _ _).set (by omega) _ _).set (by omega) _ _
set_option maxRecDepth 4000 in
set_option maxHeartbeats 4000000 in
theorem pickedL_no (g : Nat → Addr) {W H : Int} {ad : Option Addr} {b o cap : Nat} {l : List Int} (n : Int) (w : World) (h : ISl w ad b o cap l) (ll : l.length ≤ 20000) (hl : Lai w g) (hc : ¬ hcode W H l n = 0) : Calls Tryd.prog 27 #[raV W H (.slice ad l.length cap), .int .i64 n, .func (.func 29) #[] #[]] w fun e w' => e = .returned (.tuple #[raV 0 0 (.slice none 0 0), evc g (hcode W H l n)]) ∧ Gr w w' := by
  have C1 := hidb (fun w1 (hB : Gr w w1) => reached_any g (W := W) (H := H) n w1 (h.below hB.out) ll (hl.below hB.out))
  have G0 := hidb (((Gr.refl w).alloc (.cells #[.int .i64 W, .int .i64 H, .slice ad l.length cap] 27)).alloc (.cells #[.int .i64 0, .int .i64 0, .slice none 0 0] 27))
  have A0 := hidb (At.nx3 (W := w) (.cells #[.int .i64 W, .int .i64 H, .slice ad l.length cap] 27) (.int .i64 0) (.int .i64 0) (.slice none 0 0) 27)
  clear h ll hl
  obtain ⟨i, hi⟩ := evc_ne g hc
  rw [hi] at C1 ⊢
  clear hi hc
  go_enter Tryd.func27, Tryd.ntmps27
  go_wp2_with fail
  refine (C1.out _ G0.out).mono ?_
  rintro e w1 ⟨rfl, hB⟩
  replace G0 := hidb (Gr.step G0.out hB.out)
  have A1 := At.below hB.out A0.out
  obtain ⟨a0, a1, a2⟩ := A1.c3
  obtain ⟨f0, f1, f2⟩ := A1.f3
  have AH := A1.has (n := 3) rfl
  clear hB A0 A1
  go_wp2
  refine bodyPost_ret (v := .tuple #[raV 0 0 (.slice none 0 0), errV g i]) (by simp [results, Tryd.results27, go_sem, a0, a1, a2]) rfl ⟨rfl, ?_⟩
  exact ((G0.out.set (by omega) _ _).set (by omega) _ _).set (by omega) _ _
set_option maxRecDepth 4000 in
set_option maxHeartbeats 4000000 in
theorem Least_no (g : Nat → Addr) {W H : Int} {ad : Option Addr} {b o cap : Nat} {l : List Int} (n : Int) (w : World) (h : ISl w ad b o cap l) (ll : l.length ≤ 20000) (hl : Lai w g) (hc : ¬ hcode W H l n = 0) : Calls Tryd.prog 10 #[raV W H (.slice ad l.length cap), .int .i64 n] w fun e w' => e = .returned (.tuple #[raV 0 0 (.slice none 0 0), evc g (hcode W H l n)]) ∧ Gr w w' := by
  have C1 := hidb (fun w1 (hB : Gr w w1) => pickedL_no g (W := W) (H := H) n w1 (h.below hB.out) ll (hl.below hB.out) hc)
  have G0 := hidb (((Gr.refl w).alloc (.cells #[.int .i64 W, .int .i64 H, .slice ad l.length cap] 27)).alloc (.cells #[.int .i64 0, .int .i64 0, .slice none 0 0] 27))
  have A0 := hidb (At.nx3 (W := w) (.cells #[.int .i64 W, .int .i64 H, .slice ad l.length cap] 27) (.int .i64 0) (.int .i64 0) (.slice none 0 0) 27)
  clear h ll hl
  obtain ⟨i, hi⟩ := evc_ne g hc
  rw [hi] at C1 ⊢
  clear hi hc
  go_enter Tryd.func10, Tryd.ntmps10
  go_wp2_with fail
  refine (C1.out _ G0.out).mono ?_
  rintro e w1 ⟨rfl, hB⟩
  replace G0 := hidb (Gr.step G0.out hB.out)
  have A1 := At.below hB.out A0.out
  obtain ⟨a0, a1, a2⟩ := A1.c3
  obtain ⟨f0, f1, f2⟩ := A1.f3
  have AH := A1.has (n := 3) rfl
  clear hB A0 A1
  go_wp2
  refine bodyPost_ret (v := .tuple #[raV 0 0 (.slice none 0 0), errV g i]) (by simp [results, Tryd.results10, go_sem, a0, a1, a2]) rfl ⟨rfl, ?_⟩
  exact ((G0.out.set (by omega) _ _).set (by omega) _ _).set (by omega) _ _
set_option maxRecDepth 4000 in
set_option maxHeartbeats 4000000 in
theorem Least_ok (g : Nat → Addr) {m n rch b o cap : Nat} {l : List Int} (w : World) (h : Rs w b o cap l) (ok : Ok l m n) (hl : Lai w g) (hc : hcode m n l rch = 0) (hr : rch ≤ 128) : Calls Tryd.prog 10 #[raV m n (.slice (some ⟨b, o, none⟩) l.length cap), .int .i64 (rch : Int)] w fun e w' => ∃ B, e = .returned (.tuple #[raV m n (.slice (some ⟨B, 0, none⟩) l.length l.length), .nilIface]) ∧ At w' B (ir (mpL false l m n rch)) ∧ w.heap.size ≤ B ∧ Gr w w' := by
  have C1 := hidb (fun w1 (hB : Gr w w1) => pickedL g w1 (h.below hB.out) ok (hl.below hB.out) hc hr)
  have G0 := hidb (((Gr.refl w).alloc (.cells #[.int .i64 m, .int .i64 n, .slice (some ⟨b, o, none⟩) l.length cap] 27)).alloc (.cells #[.int .i64 0, .int .i64 0, .slice none 0 0] 27))
  have A0 := hidb (At.nx3 (W := w) (.cells #[.int .i64 m, .int .i64 n, .slice (some ⟨b, o, none⟩) l.length cap] 27) (.int .i64 0) (.int .i64 0) (.slice none 0 0) 27)
  have lw := hidb ((Gr.refl w).out.size)
  clear h ok hl hc hr lw
  generalize (rch : Int) = rI at *
  go_enter Tryd.func10, Tryd.ntmps10
  go_wp2_with fail
  refine (C1.out _ G0.out).mono ?_
  rintro e w1 ⟨B, rfl, hAB, hBw, hB⟩
  simp at hBw
  replace G0 := hidb (Gr.step G0.out hB.out)
  have A1 := At.below hB.out A0.out
  obtain ⟨a0, a1, a2⟩ := A1.c3
  obtain ⟨f0, f1, f2⟩ := A1.f3
  have AH := A1.has (n := 3) rfl
  clear hB A0 A1
  have HAB := hidb hAB
  have HBw := hidb hBw
  clear hAB hBw
  go_wp2
  refine bodyPost_ret (v := .tuple #[raV m n (.slice (some ⟨B, 0, none⟩) l.length l.length), .nilIface]) (by simp [results, Tryd.results10, go_sem, a0, a1, a2]) rfl ⟨B, rfl, ?_, by have := HBw.out; omega, ?_⟩
  · have hne : ¬ w.heap.size + 1 = B := by have := HBw.out; omega
    exact ((HAB.out.skip hne 0 _).skip hne 1 _).skip hne 2 _
  · exact ((G0.out.set (by omega) _ _).set (by omega) _ _).set (by omega) _ _
end Go.Proofs.YtphpfongdbidoaaDoor
