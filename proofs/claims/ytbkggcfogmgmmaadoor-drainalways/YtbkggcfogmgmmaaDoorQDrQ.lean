/-
  drain.Fill; Fill, Flow, Order of what is no right raster.
-/
import Derived.Test.YtbkggcfogmgmmaaDoorQDrP
namespace Go.Proofs.YtbkggcfogmgmmaaDoor
open Go.RowKit
attribute [local go_sem ↓] Go.wp_at_zero Go.wp_at_succ

abbrev ra0 : Value := raV 0 0 (.slice none 0 0)
/-- Two blocks of three cells, and what was there. -/
structure P2 (w W : World) (A B : Nat) (t u : List Value) : Prop where
  a : At W A t
  b : At W B u
  gr : Gr w W
  n : A ≠ B ∧ w.heap.size ≤ A ∧ w.heap.size ≤ B
theorem P2.below {w W w' : World} {A B : Nat} {t u : List Value} (h : P2 w W A B t u) (hB : Below W.heap.size W w') : P2 w w' A B t u := ⟨At.below hB h.a, At.below hB h.b, Gr.step h.gr hB, h.n⟩
theorem P2.drew {w W : World} {A B : Nat} {t u : List Value} (h : P2 w W A B t u) : P2 w W.drew A B t u := ⟨h.a, h.b, h.gr.drew, h.n⟩
theorem P2.new (w : World) (a b c d e f : Value) (t u : Nat) : P2 w ((w.alloc (.cells #[a, b, c] t)).alloc (.cells #[d, e, f] u)) w.heap.size (w.heap.size + 1) [a, b, c] [d, e, f] :=
  ⟨(At.new3 w a b c t).alloc _, At.nx3 _ _ _ _ _, ((Gr.refl w).alloc _).alloc _, by omega, Nat.le_refl _, by omega⟩
theorem P2.fill {w W : World} {A B : Nat} {t u : List Value} (h : P2 w W A B t u) (x y z : Value) : Gr w (((W.setCell ⟨B, 0, none⟩ x).setCell ⟨B, 1, none⟩ y).setCell ⟨B, 2, none⟩ z) := ((h.gr.set h.n.2.2 0 x).set h.n.2.2 1 y).set h.n.2.2 2 z
set_option maxRecDepth 4000 in
set_option maxHeartbeats 8000000 in
theorem fill_ok (g : Nat → Addr) {m n Lb Lo Lcap : Nat} {l : List Int} (w : World) (hR : Rs w Lb Lo Lcap l) (ok : Ok l m n) (hv : vcode m n l = 0) (hl : Lai w g) : Calls Tryd.prog 11 #[raV m n (.slice (some ⟨Lb, Lo, none⟩) l.length Lcap)] w fun e w' => ∃ LV, e = .returned (.tuple #[raV m n (.slice (some ⟨LV, 0, none⟩) l.length l.length), .nilIface]) ∧ At w' LV (ir (fiL m n l)) ∧ w.heap.size ≤ LV ∧ Gr w w' := by
  have PX := hidb (P2.new w (.int .i64 (m : Int)) (.int .i64 (n : Int)) (.slice (some ⟨Lb, Lo, none⟩) l.length Lcap) (.int .i64 0) (.int .i64 0) (.slice none 0 0) 27 27)
  have C1 := hidb (valid_lai g m n _ Lb Lo Lcap l _ (hR.below PX.out.gr.out).isl (by have := ok.len_le; omega) (hl.below PX.out.gr.out))
  rw [hv, show evc g 0 = .nilIface from rfl] at C1
  have HF := hidb (fun W (hG : Gr w W) => flooded_any W (hR.below hG.out) ok)
  have HFi := hidb (fun (w1 w2 : World) base F LV FL a b c Lv Fl vo ord vq q (h : FM w1 w2 base F LV FL l.length a b c Lv Fl vo ord vq q) (hs : Syn m l (flo m n l l.length) Lv Fl q) => FM.fiL h hs)
  clear hR ok hv hl
  go_enter Tryd.func11, Tryd.ntmps11
  obtain ⟨q0, q1, q2⟩ := PX.out.a.c3
  go_wp2_with fail
  refine C1.out.mono ?_
  rintro e w1 ⟨rfl, hB⟩
  clear q0 q1 q2
  have PY := PX.out.below hB.out
  clear hB C1 PX
  go_upto_region 4 with fail
  generalize hA : w.heap.size = A at *
  have hAB : ¬ A = A + 1 := by omega
  have hBA : ¬ A + 1 = A := by omega
  have HPY := hidb PY
  clear PY
  refine wp_region_held_drew (S := (fun w' => w'.cell? ⟨A, 0, none⟩ = some (.int .i64 (m : Int)) ∧ w'.cell? ⟨A, 1, none⟩ = some (.int .i64 (n : Int)) ∧ w'.cell? ⟨A, 2, none⟩ = some (.slice (some ⟨Lb, Lo, none⟩) l.length Lcap))) (by kernel_rfl) ?_ (fun hHeld => ?_)
  · (try dsimp only); (with_reducible first | exact HPY.out.a.c3 | exact HPY.out.drew.a.c3 | exact PZ.a.c3 | exact PZ.drew.a.c3 | (refine At.c3 ?_; repeat (first | exact PZ.a | refine At.drew ?_ | refine At.skip ?_ (by omega) _ _)))
  refine wpAnyH_take (i := 0) (v := ?vg0) rfl (by kernel_rfl) (by kernel_rfl) (by kernel_rfl) (fun _ _ _ h => h) (Or.inl ⟨by kernel_rfl, ?hg0⟩) (by assumption) ?rg0
  case hg0 => (intro w hSw; (try dsimp only at hSw); go_simp; try with_reducible rfl)
  (try simp only [Act.put, List.getElem_toArray, List.getElem_cons_zero, List.setIfInBounds_toArray, List.set_cons_zero, List.set_cons_succ])
  refine wpAnyH_take (i := 1) (v := ?vg1) rfl (by kernel_rfl) (by kernel_rfl) (by kernel_rfl) (fun _ _ _ h => h) (Or.inl ⟨by kernel_rfl, ?hg1⟩) (by assumption) ?rg1
  case hg1 => (intro w hSw; (try dsimp only at hSw); go_simp; try with_reducible rfl)
  (try simp only [Act.put, List.getElem_toArray, List.getElem_cons_zero, List.getElem_cons_succ, List.setIfInBounds_toArray, List.set_cons_zero, List.set_cons_succ])
  refine wpAnyH_take (i := 2) (v := ?vg2) rfl (by kernel_rfl) (by kernel_rfl) (by kernel_rfl) (fun _ _ _ h => h) (Or.inl ⟨by kernel_rfl, ?hg2⟩) (by assumption) ?rg2
  case hg2 => (intro w hSw; (try dsimp only at hSw); go_simp; try with_reducible rfl)
  (try simp only [Act.put, List.getElem_toArray, List.getElem_cons_zero, List.getElem_cons_succ, List.setIfInBounds_toArray, List.set_cons_zero, List.set_cons_succ])
  refine wpAnyH_take (i := 3) (v := ?vg3) rfl (by kernel_rfl) (by kernel_rfl) (by kernel_rfl) (fun _ _ _ h => h) (Or.inl ⟨by kernel_rfl, ?hg3⟩) (by assumption) ?rg3
  case hg3 => (intro w hSw; (try dsimp only at hSw); go_simp; try with_reducible rfl)
  (try simp only [Act.put, List.getElem_toArray, List.getElem_cons_zero, List.getElem_cons_succ, List.setIfInBounds_toArray, List.set_cons_zero, List.set_cons_succ])
  refine wpAnyH_take (i := 4) (v := ?vg4) rfl (by kernel_rfl) (by kernel_rfl) (by kernel_rfl) (fun _ _ _ h => h) (Or.inl ⟨by kernel_rfl, ?hg4⟩) (by assumption) ?rg4
  case hg4 => (intro w hSw; (try dsimp only at hSw); go_simp; try with_reducible rfl)
  (try simp only [Act.put, List.getElem_toArray, List.getElem_cons_zero, List.getElem_cons_succ, List.setIfInBounds_toArray, List.set_cons_zero, List.set_cons_succ])
  refine wpAnyH_ready (rs := [5]) (by kernel_rfl) (by simp) ?_
  refine AllReadyH.cons rfl (fun K hK => ?_) AllReadyH.nil
  go_simp
  go_wp2_with ((go_at_call 37; (with_reducible first | refine (HF.out _ HPY.out.gr).mono ?_ | refine (HF.out _ HPY.out.drew.gr).mono ?_); rintro e w2 ⟨F, base, LV, FL, Lv, Fl, vo, vq, q, rfl, hM, hS⟩; have c3 := hM.c3.1; have HZ := hidb (show At w2 LV (ir (fiL m n l)) ∧ w1.heap.size ≤ LV from ⟨by rw [← (HFi.out _ _ _ _ _ _ _ _ _ _ _ _ _ _ _ hM hS).1]; exact hM.lv, hM.b1.1.2.1⟩); (with_reducible first | have PZ := HPY.out.below hM.gr.out | have PZ := HPY.out.drew.below hM.gr.out); clear hM hS; obtain ⟨f0, f1, f2⟩ := PZ.b.f3; obtain ⟨d0, d1, d2⟩ := PZ.b.c3))
  refine hK.out _ _ ?_ (fun hHeld => ?_)
  · (try dsimp only); (with_reducible first | exact HPY.out.a.c3 | exact HPY.out.drew.a.c3 | exact PZ.a.c3 | exact PZ.drew.a.c3 | (refine At.c3 ?_; repeat (first | exact PZ.a | refine At.drew ?_ | refine At.skip ?_ (by omega) _ _)))
  clear hK K
  refine wpAnyH_take (i := 6) (v := ?vg6) rfl (by kernel_rfl) (by kernel_rfl) (by kernel_rfl) (fun _ _ _ h => h) (Or.inl ⟨by kernel_rfl, ?hg6⟩) (by assumption) ?rg6
  case hg6 => (intro w hSw; (try dsimp only at hSw); go_simp; try with_reducible rfl)
  (try simp only [Act.put, List.getElem_toArray, List.getElem_cons_zero, List.getElem_cons_succ, List.setIfInBounds_toArray, List.set_cons_zero, List.set_cons_succ])
  refine wpAnyH_take (i := 7) (v := ?vg7) rfl (by kernel_rfl) (by kernel_rfl) (by kernel_rfl) (fun _ _ _ h => h) (Or.inl ⟨by kernel_rfl, ?hg7⟩) (by assumption) ?rg7
  case hg7 => (intro w hSw; (try dsimp only at hSw); go_simp; try with_reducible rfl)
  (try simp only [Act.put, List.getElem_toArray, List.getElem_cons_zero, List.getElem_cons_succ, List.setIfInBounds_toArray, List.set_cons_zero, List.set_cons_succ])
  refine wpAnyH_ready (rs := [8]) (by kernel_rfl) (by simp) ?_
  refine AllReadyH.cons rfl (fun K hK => ?_) AllReadyH.nil
  go_simp
  refine hK.out _ _ ?_ (fun hHeld => ?_)
  · (try dsimp only); (with_reducible first | exact HPY.out.a.c3 | exact HPY.out.drew.a.c3 | exact PZ.a.c3 | exact PZ.drew.a.c3 | (refine At.c3 ?_; repeat (first | exact PZ.a | refine At.drew ?_ | refine At.skip ?_ (by omega) _ _)))
  clear hK K
  refine wpAnyH_take (i := 9) (v := ?vg9) rfl (by kernel_rfl) (by kernel_rfl) (by kernel_rfl) (fun _ _ _ h => h) (Or.inl ⟨by kernel_rfl, ?hg9⟩) (by assumption) ?rg9
  case hg9 => (intro w hSw; (try dsimp only at hSw); go_simp; try with_reducible rfl)
  (try simp only [Act.put, List.getElem_toArray, List.getElem_cons_zero, List.getElem_cons_succ, List.setIfInBounds_toArray, List.set_cons_zero, List.set_cons_succ])
  refine wpAnyH_ready (rs := [10]) (by kernel_rfl) (by simp) ?_
  refine AllReadyH.cons rfl (fun K hK => ?_) AllReadyH.nil
  go_simp
  refine hK.out _ _ ?_ (fun hHeld => ?_)
  · (try dsimp only); (with_reducible first | exact HPY.out.a.c3 | exact HPY.out.drew.a.c3 | exact PZ.a.c3 | exact PZ.drew.a.c3 | (refine At.c3 ?_; repeat (first | exact PZ.a | refine At.drew ?_ | refine At.skip ?_ (by omega) _ _)))
  clear hK K
  refine wpAnyH_ready (rs := [11]) (by kernel_rfl) (by simp) ?_
  refine AllReadyH.cons rfl (fun K hK => ?_) AllReadyH.nil
  go_simp
  refine hK.out _ _ ?_ (fun hHeld => ?_)
  · (try dsimp only); (with_reducible first | exact HPY.out.a.c3 | exact HPY.out.drew.a.c3 | exact PZ.a.c3 | exact PZ.drew.a.c3 | (refine At.c3 ?_; repeat (first | exact PZ.a | refine At.drew ?_ | refine At.skip ?_ (by omega) _ _)))
  clear hK K
  refine wpAnyH_done (by kernel_rfl) ?_ _
  go_wp2
  refine bodyPost_ret (v := .tuple #[raV m n (.slice (some ⟨LV, 0, none⟩) l.length l.length), .nilIface]) (by simp [results, Tryd.results11, go_sem, d0, d1, d2]) rfl ⟨LV, rfl, ?_, ?_, ?_⟩
  · have h1 := HPY.out.b.lt
    have h2 := HZ.out.2
    have hz := HZ.out.1
    ((with_reducible repeat' (first | assumption | exact At.new1 _ _ _ | exact At.new2 _ _ _ _ | exact At.new3 _ _ _ _ _ | exact At.nx1 _ _ _ | exact At.nx2 _ _ _ _ | exact At.nx3 _ _ _ _ _ | exact At.ny1 _ _ _ _ | exact At.ny2 _ _ _ _ _ | exact At.ny3 _ _ _ _ _ _ | exact At.nz1 _ _ _ _ _ | exact At.nz2 _ _ _ _ _ _ | exact At.nz3 _ _ _ _ _ _ _ | exact Has.new1 _ _ _ | exact Has.new2 _ _ _ _ | exact Has.new3 _ _ _ _ _ | exact Has.nx1 _ _ _ | exact Has.nx2 _ _ _ _ | exact Has.nx3 _ _ _ _ _ | exact Has.ny1 _ _ _ _ | exact Has.ny2 _ _ _ _ _ | exact Has.ny3 _ _ _ _ _ _ | exact Has.nz1 _ _ _ _ _ | exact Has.nz2 _ _ _ _ _ _ | exact Has.nz3 _ _ _ _ _ _ _ | refine At.fill1 ?_ _ | refine At.fill2 ?_ _ _ | refine At.fill3 ?_ _ _ _ | refine At.swap ?_ (by first | omega | (simp; omega)) _ _ | refine At.alloc ?_ _ | refine At.drew ?_ | refine At.skip ?_ (by first | omega | (simp; omega)) _ _ | refine At.below (by assumption) ?_ | refine Has.alloc ?_ _ | refine Has.drew ?_ | refine Has.set ?_ _ _ _ | refine Has.below (by assumption) ?_)); done)
  · have h2 := HZ.out.2
    have h1 := HPY.out.b.lt
    omega
  · have pgr := PZ.gr
    ((with_reducible repeat' (first | assumption | refine Gr.drew ?_ | refine Gr.alloc ?_ _ | refine Gr.set ?_ (by first | omega | (simp; omega)) _ _ | exact Gr.refl _)); done)
set_option maxRecDepth 4000 in
set_option maxHeartbeats 8000000 in
theorem flow_no (g : Nat → Addr) {W H : Int} {ad : Option Addr} {b o cap : Nat} {l : List Int} (w : World) (h : ISl w ad b o cap l) (ll : l.length ≤ 20000) (hl : Lai w g) (hv : ¬ vcode W H l = 0) : Calls Tryd.prog 12 #[raV W H (.slice ad l.length cap)] w fun e w' => e = .returned (.tuple #[.slice none 0 0, evc g (vcode W H l)]) ∧ Gr w w' := by
  have PX : Hid (PF w (w.alloc (.cells #[.int .i64 W, .int .i64 H, .slice ad l.length cap] 27)) w.heap.size [.int .i64 W, .int .i64 H, .slice ad l.length cap]) := ⟨At.new3 _ _ _ _ _, (Gr.refl w).alloc _⟩
  have C1 := hidb (valid_lai g W H ad b o cap l _ (h.below PX.out.gr.out) ll (hl.below PX.out.gr.out))
  rw [evc_of hv] at C1 ⊢
  generalize vcode W H l - 1 = ei at *
  clear h ll hl hv
  go_enter Tryd.func12, Tryd.ntmps12
  obtain ⟨q0, q1, q2⟩ := PX.out.a.c3
  go_wp2_with fail
  refine C1.out.mono ?_
  rintro e w1 ⟨rfl, hB⟩
  clear q0 q1 q2
  go_wp2
  go_ret2
  exact ⟨rfl, Gr.step PX.out.gr hB.out⟩
set_option maxRecDepth 4000 in
set_option maxHeartbeats 8000000 in
theorem order_no (g : Nat → Addr) {W H : Int} {ad : Option Addr} {b o cap : Nat} {l : List Int} (w : World) (h : ISl w ad b o cap l) (ll : l.length ≤ 20000) (hl : Lai w g) (hv : ¬ vcode W H l = 0) : Calls Tryd.prog 13 #[raV W H (.slice ad l.length cap)] w fun e w' => e = .returned (.tuple #[.slice none 0 0, evc g (vcode W H l)]) ∧ Gr w w' := by
  have PX : Hid (PF w (w.alloc (.cells #[.int .i64 W, .int .i64 H, .slice ad l.length cap] 27)) w.heap.size [.int .i64 W, .int .i64 H, .slice ad l.length cap]) := ⟨At.new3 _ _ _ _ _, (Gr.refl w).alloc _⟩
  have C1 := hidb (valid_lai g W H ad b o cap l _ (h.below PX.out.gr.out) ll (hl.below PX.out.gr.out))
  rw [evc_of hv] at C1 ⊢
  generalize vcode W H l - 1 = ei at *
  clear h ll hl hv
  go_enter Tryd.func13, Tryd.ntmps13
  obtain ⟨q0, q1, q2⟩ := PX.out.a.c3
  go_wp2_with fail
  refine C1.out.mono ?_
  rintro e w1 ⟨rfl, hB⟩
  clear q0 q1 q2
  go_wp2
  go_ret2
  exact ⟨rfl, Gr.step PX.out.gr hB.out⟩
set_option maxRecDepth 4000 in
set_option maxHeartbeats 8000000 in
theorem fill_no (g : Nat → Addr) {W H : Int} {ad : Option Addr} {b o cap : Nat} {l : List Int} (w : World) (h : ISl w ad b o cap l) (ll : l.length ≤ 20000) (hl : Lai w g) (hv : ¬ vcode W H l = 0) : Calls Tryd.prog 11 #[raV W H (.slice ad l.length cap)] w fun e w' => e = .returned (.tuple #[ra0, evc g (vcode W H l)]) ∧ Gr w w' := by
  have PX := hidb (P2.new w (.int .i64 W) (.int .i64 H) (.slice ad l.length cap) (.int .i64 0) (.int .i64 0) (.slice none 0 0) 27 27)
  have C1 := hidb (valid_lai g W H ad b o cap l _ (h.below PX.out.gr.out) ll (hl.below PX.out.gr.out))
  rw [evc_of hv] at C1 ⊢
  generalize vcode W H l - 1 = ei at *
  clear h ll hl hv
  go_enter Tryd.func11, Tryd.ntmps11
  obtain ⟨q0, q1, q2⟩ := PX.out.a.c3
  go_wp2_with fail
  refine C1.out.mono ?_
  rintro e w1 ⟨rfl, hB⟩
  clear q0 q1 q2
  have PY := PX.out.below hB.out
  obtain ⟨z0, z1, z2⟩ := PY.b.c3
  obtain ⟨f0, f1, f2⟩ := PY.b.f3
  go_wp2
  refine bodyPost_ret (v := .tuple #[ra0, errV g ei]) (by simp [results, Tryd.results11, go_sem, z0, z1, z2]) rfl ⟨rfl, ?_⟩
  exact PY.fill _ _ _
end Go.Proofs.YtbkggcfogmgmmaaDoor
