/-
  field.Fine.
-/
import Derived.Test.YtphpfongdbidoaaDoorQFsC
import Derived.Test.YtphpfongdbidoaaDoorQFsD
namespace Go.Proofs.YtphpfongdbidoaaDoor
open Go.RowKit

/-- The first k are done. -/
def fill (f : Nat → Int) (K k : Nat) : List Int := (List.range k).map f ++ List.replicate (K - k) 0
theorem fill_len {f : Nat → Int} {K k : Nat} (h : k ≤ K) : (fill f K k).length = K := by simp [fill]; omega
theorem fill_zero (f : Nat → Int) (K : Nat) : fill f K 0 = List.replicate K 0 := by simp [fill]
theorem fill_end (f : Nat → Int) (K : Nat) : fill f K K = (List.range K).map f := by simp [fill]
theorem fill_set {f : Nat → Int} {K k : Nat} (h : k < K) : (fill f K k).set k (f k) = fill f K (k + 1) := by
  unfold fill
  obtain ⟨j, hj⟩ : ∃ j, K - k = j + 1 := ⟨K - k - 1, by omega⟩
  rw [List.set_append_right _ _ (by simp), List.range_succ, List.map_append, List.append_assoc, hj, show K - (k + 1) = j by omega]
  simp [List.replicate_succ]
/-- A raster that is filled: the one that is read, the answer, the new one, its cells. -/
structure RaF (w W : World) (C B : Nat) (k0 kc : List Value) (L : List Int) : Prop where
  a0 : At W w.heap.size k0
  a1 : At W (w.heap.size + 1) [.int .i64 0, .int .i64 0, .slice none 0 0]
  c0 : At W C kc
  b0 : At W B (ir L)
  cb : B < C
  bw : w.heap.size + 1 < B
  gr : Gr w W
theorem RaF.drew {w W : World} {C B : Nat} {k0 kc : List Value} {L : List Int} (h : RaF w W C B k0 kc L) : RaF w W.drew C B k0 kc L := ⟨h.a0, h.a1, h.c0, h.b0, h.cb, h.bw, h.gr.drew⟩
theorem RaF.drewN {w W : World} {C B : Nat} {k0 kc : List Value} {L : List Int} (h : RaF w W C B k0 kc L) (n : Nat) : RaF w (W.drewN n) C B k0 kc L := ⟨h.a0.drewN n, h.a1.drewN n, h.c0.drewN n, h.b0.drewN n, h.cb, h.bw, h.gr.drewN n⟩
theorem RaF.put {w W : World} {C B : Nat} {k0 kc : List Value} {L : List Int} (h : RaF w W C B k0 kc L) (j : Nat) (x : Int) : RaF w (W.setCell ⟨B, j, none⟩ (.int .i64 x)) C B k0 kc (L.set j x) := by
  have h1 := h.cb
  have h2 := h.bw
  exact ⟨h.a0.skip (by omega) _ _, h.a1.skip (by omega) _ _, h.c0.skip (by omega) _ _, by rw [← ir_set]; exact h.b0.put j _, h.cb, h.bw, h.gr.set (by omega) _ _⟩
/-- A cell of the finer raster; where it lies in the coarser one. -/
def fiC (m by' j : Nat) : Nat := j / (m * by') / by' * m + j % (m * by') / by'
theorem fi_at {l : List Int} {m n by' j : Nat} (ok : Ok l m n) (hb : 1 ≤ by') (hj : j < (m * by') * (n * by')) : j / (m * by') / by' < n ∧ j % (m * by') / by' < m ∧ fiC m by' j < l.length := by
  have hm := ok.m1
  have hp : 0 < m * by' := Nat.mul_pos (by omega) (by omega)
  have h1 : j / (m * by') / by' < n := Nat.div_lt_of_lt_mul (by rw [Nat.mul_comm by' n]; exact Nat.div_lt_of_lt_mul hj)
  have h2 : j % (m * by') / by' < m := Nat.div_lt_of_lt_mul (by rw [Nat.mul_comm by' m]; exact Nat.mod_lt _ hp)
  exact ⟨h1, h2, ok.cell h2 h1⟩
set_option maxRecDepth 4000 in
set_option maxHeartbeats 4000000 in
theorem fine_no (g : Nat → Addr) {W H : Int} {ad : Option Addr} {b o cap : Nat} {l : List Int} (n : Int) (w : World) (h : ISl w ad b o cap l) (ll : l.length ≤ 20000) (hl : Lai w g) (hc : ¬ scode W H l n = 0) : Calls Tryd.prog 19 #[raV W H (.slice ad l.length cap), .int .i64 n] w fun e w' => e = .returned (.tuple #[raV 0 0 (.slice none 0 0), evc g (scode W H l n)]) ∧ Gr w w' := by
  have C1 := hidb (fun w1 (hB : Gr w w1) => scaled_any g (W := W) (H := H) n w1 (h.below hB.out) ll (hl.below hB.out))
  have G0 := hidb (((Gr.refl w).alloc (.cells #[.int .i64 W, .int .i64 H, .slice ad l.length cap] 27)).alloc (.cells #[.int .i64 0, .int .i64 0, .slice none 0 0] 27))
  have A0 := hidb (At.nx3 (W := w) (.cells #[.int .i64 W, .int .i64 H, .slice ad l.length cap] 27) (.int .i64 0) (.int .i64 0) (.slice none 0 0) 27)
  clear h ll hl
  obtain ⟨i, hi⟩ := evc_ne g hc
  rw [hi] at C1 ⊢
  clear hi hc
  go_enter Tryd.func19, Tryd.ntmps19
  go_wp2_with fail
  refine (C1.out _ G0.out).mono ?_
  rintro e w1 ⟨rfl, hB⟩
  replace G0 := hidb (Gr.step G0.out hB.out)
  have A1 := At.below hB.out A0.out
  obtain ⟨a0, a1, a2⟩ := A1.c3
  obtain ⟨f0, f1, f2⟩ := A1.f3
  have AH := A1.has (n := 3) rfl
  clear hB A0 A1
  go_wp2
  refine bodyPost_ret (v := .tuple #[raV 0 0 (.slice none 0 0), errV g i]) (by simp [results, Tryd.results19, go_sem, a0, a1, a2]) rfl ⟨rfl, ?_⟩
  exact ((G0.out.set (by omega) _ _).set (by omega) _ _).set (by omega) _ _
set_option maxRecDepth 4000 in
set_option maxHeartbeats 4000000 in
theorem coarse_no (g : Nat → Addr) {W H : Int} {ad : Option Addr} {b o cap : Nat} {l : List Int} (n : Int) (w : World) (h : ISl w ad b o cap l) (ll : l.length ≤ 20000) (hl : Lai w g) (hc : ¬ scode W H l n = 0) : Calls Tryd.prog 18 #[raV W H (.slice ad l.length cap), .int .i64 n] w fun e w' => e = .returned (.tuple #[raV 0 0 (.slice none 0 0), evc g (scode W H l n)]) ∧ Gr w w' := by
  have C1 := hidb (fun w1 (hB : Gr w w1) => scaled_any g (W := W) (H := H) n w1 (h.below hB.out) ll (hl.below hB.out))
  have G0 := hidb (((Gr.refl w).alloc (.cells #[.int .i64 W, .int .i64 H, .slice ad l.length cap] 27)).alloc (.cells #[.int .i64 0, .int .i64 0, .slice none 0 0] 27))
  have A0 := hidb (At.nx3 (W := w) (.cells #[.int .i64 W, .int .i64 H, .slice ad l.length cap] 27) (.int .i64 0) (.int .i64 0) (.slice none 0 0) 27)
  clear h ll hl
  obtain ⟨i, hi⟩ := evc_ne g hc
  rw [hi] at C1 ⊢
  clear hi hc
  go_enter Tryd.func18, Tryd.ntmps18
  go_wp2_with fail
  refine (C1.out _ G0.out).mono ?_
  rintro e w1 ⟨rfl, hB⟩
  replace G0 := hidb (Gr.step G0.out hB.out)
  have A1 := At.below hB.out A0.out
  obtain ⟨a0, a1, a2⟩ := A1.c3
  obtain ⟨f0, f1, f2⟩ := A1.f3
  have AH := A1.has (n := 3) rfl
  clear hB A0 A1
  go_wp2
  refine bodyPost_ret (v := .tuple #[raV 0 0 (.slice none 0 0), errV g i]) (by simp [results, Tryd.results18, go_sem, a0, a1, a2]) rfl ⟨rfl, ?_⟩
  exact ((G0.out.set (by omega) _ _).set (by omega) _ _).set (by omega) _ _
set_option maxRecDepth 4000 in
set_option maxHeartbeats 4000000 in
theorem fine_big (g : Nat → Addr) {m n by' : Nat} {ad : Option Addr} {b o cap : Nat} {l : List Int} (w : World) (h : ISl w ad b o cap l) (ok : Ok l m n) (hl : Lai w g) (hc : scode m n l by' = 0) (hb2 : by' ≤ 128) (hbig : 128 < m * by' ∨ 128 < n * by') : Calls Tryd.prog 19 #[raV m n (.slice ad l.length cap), .int .i64 (by' : Int)] w fun e w' => e = .returned (.tuple #[raV 0 0 (.slice none 0 0), errV g 1]) ∧ Gr w w' := by
  have C1 := hidb (fun w1 (hB : Gr w w1) => scaled_any g (W := m) (H := n) by' w1 (h.below hB.out) (by have := ok.len_le; omega) (hl.below hB.out))
  rw [hc, show evc g 0 = .nilIface from rfl] at C1
  have G0 := hidb (((Gr.refl w).alloc (.cells #[.int .i64 m, .int .i64 n, .slice ad l.length cap] 27)).alloc (.cells #[.int .i64 0, .int .i64 0, .slice none 0 0] 27))
  have A0 := hidb (At.nx3 (W := w) (.cells #[.int .i64 m, .int .i64 n, .slice ad l.length cap] 27) (.int .i64 0) (.int .i64 0) (.slice none 0 0) 27)
  have B0 := hidb ((At.new3 w (.int .i64 m) (.int .i64 n) (.slice ad l.length cap) 27).alloc (.cells #[.int .i64 0, .int .i64 0, .slice none 0 0] 27))
  have HL := hidb hl
  have pm : m * by' ≤ 128 * 128 := Nat.mul_le_mul ok.m2 hb2
  have pn : n * by' ≤ 128 * 128 := Nat.mul_le_mul ok.n2 hb2
  obtain ⟨P, hP⟩ : ∃ P, P = m * by' := ⟨_, rfl⟩
  obtain ⟨Q, hQ⟩ : ∃ P, P = n * by' := ⟨_, rfl⟩
  rw [← hP] at pm hbig
  rw [← hQ] at pn hbig
  have e1 : IntKind.i64.wrap ((m : Int) * (by' : Int)) = (P : Int) := by rw [← Int.natCast_mul, ← hP]; exact wrap_in (by omega) (by omega)
  have e2 : IntKind.i64.wrap ((n : Int) * (by' : Int)) = (Q : Int) := by rw [← Int.natCast_mul, ← hQ]; exact wrap_in (by omega) (by omega)
  have c1 : (128 : Int) < (P : Int) ∨ (¬ (128 : Int) < (P : Int) ∧ (128 : Int) < (Q : Int)) := by omega
  generalize (by' : Int) = bI at *
  clear h ok hl hc hP hQ hb2 pm pn hbig
  rcases c1 with c1 | ⟨c1, c2⟩
  all_goals
    go_enter Tryd.func19, Tryd.ntmps19
    go_wp2_with fail
    refine (C1.out _ G0.out).mono ?_
    rintro e w1 ⟨rfl, hB⟩
    replace G0 := hidb (Gr.step G0.out hB.out)
    have A1 := At.below hB.out A0.out
    obtain ⟨a0, a1, a2⟩ := A1.c3
    obtain ⟨f0, f1, f2⟩ := A1.f3
    have AH := A1.has (n := 3) rfl
    obtain ⟨b0, b1, b2⟩ := (At.below hB.out B0.out).c3
    have cE : w1.cell? ⟨0, 0, none⟩ = some (errV g 1) := (HL.out.below G0.out.out).cell 1 (by decide)
    clear hB A0 A1 B0
    go_upto_region 5 with fail
    clear b0 b1 b2
    go_region
    all_goals
      go_wp2
      refine bodyPost_ret (v := .tuple #[raV 0 0 (.slice none 0 0), errV g 1]) (by simp [results, Tryd.results19, go_sem, a0, a1, a2]) rfl ⟨rfl, ?_⟩
      first
        | exact ((G0.out.set (by omega) _ _).set (by omega) _ _).set (by omega) _ _
        | exact (((G0.out.set (by omega) _ _).set (by omega) _ _).set (by omega) _ _).drew
        | exact (((G0.out.set (by omega) _ _).set (by omega) _ _).set (by omega) _ _).drewN _
end Go.Proofs.YtphpfongdbidoaaDoor
