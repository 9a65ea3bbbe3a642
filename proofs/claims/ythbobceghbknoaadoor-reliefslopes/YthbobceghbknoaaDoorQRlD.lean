/-
  relief.At of any raster; mercatorlaw3.grounded.
-/
import Derived.Test.YthbobceghbknoaaDoorQRlC
namespace Go.Proofs.YthbobceghbknoaaDoor
open Go.RowKit

theorem evc_of {g : Nat → Addr} {c : Nat} (h : ¬ c = 0) : evc g c = errV g (c - 1) := by unfold evc; rw [if_neg h]
abbrev fr00 : Value := .agg #[.int .i64 0, .int .i64 0]
set_option maxRecDepth 4000 in
set_option maxHeartbeats 4000000 in
theorem at_A (g : Nat → Addr) {W H : Int} {ad : Option Addr} {b o cap : Nat} {l : List Int} (x y : Int) (w : World) (h : ISl w ad b o cap l) (ll : l.length ≤ 20000) (hl : Laid w g) (hv : ¬ vcode W H l = 0) : Calls Tryd.prog 18 #[raV W H (.slice ad l.length cap), spV x y] w fun e w' => e = .returned (.tuple #[fr00, errV g (vcode W H l - 1)]) ∧ Gr w w' := by
  have F := hidb (GF.new w (.int .i64 W) (.int .i64 H) (.slice ad l.length cap) (.int .i64 x) (.int .i64 y) (.int .i64 0) (.int .i64 0) 31 52 48)
  have C1 := hidb (valid_any g W H ad b o cap l _ (h.below F.out.gr.out) ll (hl.below F.out.gr.out))
  rw [evc_of hv] at C1
  generalize vcode W H l - 1 = ei at *
  clear h ll hl hv
  go_enter Tryd.func18, Tryd.ntmps18
  go_wp2_with fail
  refine C1.out.mono ?_
  rintro e w1 ⟨rfl, hB⟩
  have E := F.out.below hB.out
  clear hB F
  obtain ⟨z0, z1⟩ := E.a2.c2
  obtain ⟨f0, f1⟩ := E.a2.f2
  go_wp2
  refine bodyPost_ret (v := .tuple #[fr00, errV g ei]) (by simp [results, Tryd.results18, go_sem, z0, z1]) rfl ⟨rfl, ?_⟩
  exact (E.fill (Nat.le_refl _) _ _).gr
set_option maxRecDepth 4000 in
set_option maxHeartbeats 4000000 in
theorem at_B (g : Nat → Addr) {m n : Nat} {b o cap : Nat} {l : List Int} (x y : Int) (w : World) (h : Rs w b o cap l) (ok : Ok l m n) (hv : vcode m n l = 0) (hl : Laid w g) (ho : onI m n x y = false) : Calls Tryd.prog 18 #[raV m n (.slice (some ⟨b, o, none⟩) l.length cap), spV x y] w fun e w' => e = .returned (.tuple #[fr00, errV g 3]) ∧ Gr w w' := by
  have F := hidb (GF.new w (.int .i64 m) (.int .i64 n) (.slice (some ⟨b, o, none⟩) l.length cap) (.int .i64 x) (.int .i64 y) (.int .i64 0) (.int .i64 0) 31 52 48)
  have C1 := hidb (valid_any g m n (some ⟨b, o, none⟩) b o cap l _ (h.isl.below F.out.gr.out) (by have := ok.len_le; omega) (hl.below F.out.gr.out))
  rw [hv, show evc g 0 = .nilIface from rfl] at C1
  have C2 := hidb (fun W1 => on_any m n ok.m2 ok.n2 (.slice (some ⟨b, o, none⟩) l.length cap) x y W1)
  rw [ho] at C2
  have HL := hidb hl
  clear h ok hl hv ho
  go_enter Tryd.func18, Tryd.ntmps18
  go_wp2_with fail
  refine C1.out.mono ?_
  rintro e w1 ⟨rfl, hB⟩
  have E := F.out.below hB.out
  clear hB F C1
  obtain ⟨x0, x1⟩ := E.a1.c2
  obtain ⟨y0, y1, y2⟩ := E.a0.c3
  have HE := hidb E
  clear E
  go_wp2_with fail
  refine (C2.out _).mono ?_
  rintro e w2 ⟨rfl, hB⟩
  clear x0 x1 y0 y1 y2
  have E := HE.out.below hB.out
  clear HE hB
  obtain ⟨z0, z1⟩ := E.a2.c2
  obtain ⟨f0, f1⟩ := E.a2.f2
  have cE : w2.cell? ⟨0, 0, none⟩ = some (errV g 3) := (HL.out.below E.gr.out).cell 3 (by decide)
  have hne : ¬ w.heap.size + 1 + 1 = 0 := by have : 0 < w.heap.size := lt_of_cell (HL.out.cell 3 (by decide)); omega
  go_upto_region 5 with fail
  go_region_held (fun w' => w'.cell? ⟨0, 0, none⟩ = some (errV g 3))
    (first | (with_reducible assumption) | exact cE | exact keep2 cE hne)
    (fail)
  all_goals
    go_wp2
    refine bodyPost_ret (v := .tuple #[fr00, errV g 3]) (by simp [results, Tryd.results18, go_sem, z0, z1]) rfl ⟨rfl, ?_⟩
    first | exact (E.fill (Nat.le_refl _) _ _).gr | exact (E.fill (Nat.le_refl _) _ _).gr.drew | exact (E.drew.fill (Nat.le_refl _) _ _).gr
theorem on_nat {m n : Nat} {x y : Int} (h : onI m n x y = true) (hm : 1 ≤ m) (hn : 1 ≤ n) : ∃ X S : Nat, x = (X : Int) ∧ -y = (S : Int) ∧ X ≤ 256 * (m - 1) ∧ S ≤ 256 * (n - 1) := by
  unfold onI inI at h
  simp only [Bool.and_eq_true, decide_eq_true_eq] at h
  exact ⟨x.toNat, (-y).toNat, by omega, by omega, by omega, by omega⟩
set_option maxRecDepth 4000 in
set_option maxHeartbeats 4000000 in
theorem at_C (g : Nat → Addr) {m n X S : Nat} {b o cap : Nat} {l : List Int} (x y : Int) (hx : x = (X : Int)) (hy : -y = (S : Int)) (w : World) (h : Rs w b o cap l) (ok : Ok l m n) (hv : vcode m n l = 0) (hl : Laid w g) (ho : onI m n x y = true) (hX : X ≤ 256 * (m - 1)) (hS : S ≤ 256 * (n - 1)) : Calls Tryd.prog 18 #[raV m n (.slice (some ⟨b, o, none⟩) l.length cap), spV x y] w fun e w' => e = .returned (.tuple #[frE (gh l m n X S), .nilIface]) ∧ Gr w w' := by
  have F := hidb (GF.new w (.int .i64 m) (.int .i64 n) (.slice (some ⟨b, o, none⟩) l.length cap) (.int .i64 x) (.int .i64 y) (.int .i64 0) (.int .i64 0) 31 52 48)
  have C1 := hidb (valid_any g m n (some ⟨b, o, none⟩) b o cap l _ (h.isl.below F.out.gr.out) (by have := ok.len_le; omega) (hl.below F.out.gr.out))
  rw [hv, show evc g 0 = .nilIface from rfl] at C1
  have C2 := hidb (fun W1 => on_any m n ok.m2 ok.n2 (.slice (some ⟨b, o, none⟩) l.length cap) x y W1)
  rw [ho] at C2
  have C3 := hidb (fun W1 (hG : Gr w W1) => ground_any x y hx hy W1 (h.below hG.out) ok hX hS)
  unfold frE at C3 ⊢
  generalize frN (gh l m n X S) = fn at *
  generalize frD (gh l m n X S) = fd at *
  clear h ok hl hv ho hx hy hX hS
  go_enter Tryd.func18, Tryd.ntmps18
  go_wp2_with fail
  refine C1.out.mono ?_
  rintro e w1 ⟨rfl, hB⟩
  have E := F.out.below hB.out
  clear hB F C1
  obtain ⟨x0, x1⟩ := E.a1.c2
  obtain ⟨y0, y1, y2⟩ := E.a0.c3
  have HE := hidb E
  clear E
  go_wp2_with fail
  refine (C2.out _).mono ?_
  rintro e w2 ⟨rfl, hB⟩
  clear x0 x1 y0 y1 y2
  have E := HE.out.below hB.out
  clear HE hB
  obtain ⟨x0, x1⟩ := E.a1.c2
  obtain ⟨y0, y1, y2⟩ := E.a0.c3
  have HE := hidb E
  clear E
  go_wp2_with fail
  refine (C3.out _ HE.out.gr).mono ?_
  rintro e w3 ⟨rfl, hB⟩
  clear x0 x1 y0 y1 y2
  have E := HE.out.below hB.out
  clear HE hB
  obtain ⟨z0, z1⟩ := E.a2.c2
  obtain ⟨f0, f1⟩ := E.a2.f2
  go_wp2
  refine bodyPost_ret (v := .tuple #[.agg #[.int .i64 fn, .int .i64 fd], .nilIface]) (by simp [results, Tryd.results18, go_sem, z0, z1]) rfl ⟨rfl, ?_⟩
  exact (E.fill (Nat.le_refl _) _ _).gr
theorem frE_128 : frN (gh [0, 1] 2 1 128 0) = 1 ∧ frD (gh [0, 1] 2 1 128 0) = 2 := by decide
theorem rs_new2 (w : World) (t : Nat) : Rs (w.alloc (.cells #[.int .i64 0, .int .i64 1] t)) w.heap.size 0 2 [0, 1] := by
  have h := At.new2 w (.int .i64 0) (.int .i64 1) t
  refine ⟨fun i hi => ?_, h.2, by decide⟩
  rw [Nat.zero_add]
  match i, hi with
  | 0, _ => exact h.c2.1
  | 1, _ => exact h.c2.2
theorem ok_01 : Ok [0, 1] 2 1 := ⟨by decide, by decide, by decide, by decide, rfl, hi_gl (by decide)⟩
set_option maxRecDepth 4000 in
set_option maxHeartbeats 4000000 in
theorem grounded_any (g : Nat → Addr) (w : World) (hl : Laid w g) : Calls Tryd.prog 5 #[] w fun e w' => e = .returned (.bool true) ∧ Gr w w' := by
  have G0 := hidb ((Gr.refl w).alloc (.cells #[.int .i64 0, .int .i64 1] 3))
  have C := hidb (at_C g (m := 2) (n := 1) (X := 128) (S := 0) 128 0 rfl rfl _ (rs_new2 w 3) ok_01 (by decide) (hl.below G0.out.out) (by decide) (by decide) (by decide))
  rw [show frE (gh [0, 1] 2 1 128 0) = .agg #[.int .i64 1, .int .i64 2] by unfold frE; rw [frE_128.1, frE_128.2]] at C
  clear hl
  go_enter Tryd.func5, Tryd.ntmps5
  go_wp2_with fail
  refine C.out.mono ?_
  rintro e w1 ⟨rfl, hB⟩
  have G1 := hidb (Gr.step G0.out hB.out)
  clear hB G0 C
  go_wp2
  go_ret
  exact ⟨rfl, G1.out.alloc _⟩
end Go.Proofs.YthbobceghbknoaaDoor
