/-
  fix.Nearest.
-/
import Derived.Test.YtehkonddgiakaaaDoorQJ12
import Derived.Test.YtehkonddgiakaaaDoorQGlB
import Derived.Deep.DrawnRows
namespace Go.Proofs.YtehkonddgiakaaaDoor
open Go.RowKit
attribute [local go_sem ↓] Go.wp_at_zero Go.wp_at_succ

/-- Nearest's own blocks: the box, the answer, the nearest so far. -/
structure NeP (w W : World) (a b c d : Int) : Prop where
  a0 : At W w.heap.size [.int .i64 a, .int .i64 b, .int .i64 c, .int .i64 d]
  a1 : At W (w.heap.size + 1) [.int .i64 0, .int .i64 0]
  gr : Gr w W
theorem NeP.below {w W w' : World} {a b c d : Int} (h : NeP w W a b c d) (hB : Below W.heap.size W w') : NeP w w' a b c d := ⟨h.a0.below hB, h.a1.below hB, Gr.step h.gr hB⟩
theorem NeP.alloc {w W : World} {a b c d : Int} (h : NeP w W a b c d) (o : Obj) : NeP w (W.alloc o) a b c d := ⟨h.a0.alloc o, h.a1.alloc o, h.gr.alloc o⟩
theorem NeP.drew {w W : World} {a b c d : Int} (h : NeP w W a b c d) : NeP w W.drew a b c d := ⟨h.a0, h.a1, h.gr.drew⟩
theorem NeP.set {w W : World} {a b c d : Int} (h : NeP w W a b c d) {B : Nat} (hc : w.heap.size + 1 < B) (o : Nat) (v : Value) : NeP w (W.setCell ⟨B, o, none⟩ v) a b c d := ⟨h.a0.skip (by omega) _ _, h.a1.skip (by omega) _ _, h.gr.set (by omega) _ _⟩
theorem NeP.new (w : World) (a b c d : Int) (t t' : Nat) : NeP w ((w.alloc (.cells #[.int .i64 a, .int .i64 b, .int .i64 c, .int .i64 d] t)).alloc (.cells #[.int .i64 0, .int .i64 0] t')) a b c d :=
  ⟨(At.new4 w _ _ _ _ t).alloc _, At.nx2 (W := w) _ _ _ t', ((Gr.refl w).alloc _).alloc _⟩
structure NeF (w W : World) (N : Nat) (a b c d p q : Int) : Prop where
  pr : NeP w W a b c d
  n0 : At W N [.int .i64 p, .int .i64 q]
  nw : w.heap.size + 1 < N
theorem NeF.below {w W w' : World} {N : Nat} {a b c d p q : Int} (h : NeF w W N a b c d p q) (hB : Below W.heap.size W w') : NeF w w' N a b c d p q := ⟨h.pr.below hB, h.n0.below hB, h.nw⟩
theorem NeF.alloc {w W : World} {N : Nat} {a b c d p q : Int} (h : NeF w W N a b c d p q) (o : Obj) : NeF w (W.alloc o) N a b c d p q := ⟨h.pr.alloc o, h.n0.alloc o, h.nw⟩
theorem not_okB {a b c d : Int} (h : okB a b c d = false) : ¬ inP a b ∨ (inP a b ∧ ¬ inP c d) ∨ (inP a b ∧ inP c d ∧ c < a) ∨ (inP a b ∧ inP c d ∧ ¬ c < a ∧ d < b) := by
  unfold okB inI at h
  unfold inP
  simp only [Bool.and_eq_false_iff, decide_eq_false_iff_not] at h
  omega
theorem okB_inP {a b c d : Int} (h : okB a b c d = true) : inP a b ∧ inP c d ∧ ¬ c < a ∧ ¬ d < b := by
  have := okB_bd h
  unfold inP
  omega
set_option maxRecDepth 4000 in
set_option maxHeartbeats 4000000 in
theorem nearest_no1 (g : Nat → Addr) (ad : Option Addr) (b0 cap : Nat) (l : List Rg) (a b c d : Int) (w : World) (h : RSl 30 w ad b0 cap l) (ll : l.length ≤ 70) (hl : Laid w g) (i : Nat) (hr : rerr g l = errV g i) : Calls Tryd.prog 18 #[.slice ad l.length cap, boV a b c d] w fun e w' => e = .returned (.tuple #[spV 0 0, .int .i64 0, errV g i]) ∧ Gr w w' := by
  have C1 := hidb (fun W (hG : Gr w W) => valid_any g ad b0 cap l W (h.below hG.out) (by omega) (hl.below hG.out))
  rw [hr] at C1
  have P := hidb (NeP.new w a b c d 47 45)
  clear h ll hl hr
  go_enter Tryd.func18, Tryd.ntmps18
  go_wp2_with fail
  refine (C1.out _ P.out.gr).mono ?_
  rintro e w1 ⟨rfl, hB⟩
  replace P := hidb (P.out.below hB.out)
  clear hB
  obtain ⟨a0, a1⟩ := P.out.a1.c2
  obtain ⟨f0, f1⟩ := P.out.a1.f2
  have AH := P.out.a1.has (n := 2) rfl
  go_wp2
  refine bodyPost_ret (v := .tuple #[spV 0 0, .int .i64 0, errV g i]) (by simp [results, Tryd.results18, go_sem, a0, a1]) rfl ⟨rfl, ?_⟩
  exact (P.out.gr.set (by omega) _ _).set (by omega) _ _
set_option maxRecDepth 4000 in
set_option maxHeartbeats 4000000 in
theorem nearest_no2 (g : Nat → Addr) (ad : Option Addr) (b0 cap : Nat) (l : List Rg) (a b c d : Int) (w : World) (h : RSl 30 w ad b0 cap l) (ll : l.length ≤ 70) (hl : Laid w g) (hr : rerr g l = .nilIface) (hb : okB a b c d = false) : Calls Tryd.prog 18 #[.slice ad l.length cap, boV a b c d] w fun e w' => e = .returned (.tuple #[spV 0 0, .int .i64 0, errV g 2]) ∧ Gr w w' := by
  have C1 := hidb (fun W (hG : Gr w W) => valid_any g ad b0 cap l W (h.below hG.out) (by omega) (hl.below hG.out))
  rw [hr] at C1
  have C2 := hidb (fun W => placed_any a b W)
  have C3 := hidb (fun W => placed_any c d W)
  have P := hidb (NeP.new w a b c d 47 45)
  have HL := hidb hl
  have hb' := not_okB hb
  clear h ll hl hr hb
  rcases hb' with k1 | ⟨k1, k2⟩ | ⟨k1, k2, k3⟩ | ⟨k1, k2, k3, k4⟩
  case inl =>
    rw [decide_eq_false k1] at C2
    clear k1
    go_enter Tryd.func18, Tryd.ntmps18
    go_wp2_with fail
    refine (C1.out _ P.out.gr).mono ?_
    rintro e w1 ⟨rfl, hB⟩
    replace P := hidb (P.out.below hB.out)
    clear hB
    obtain ⟨b0, b1, b2, b3⟩ := P.out.a0.c4
    go_wp2_with fail
    refine (C2.out _).mono ?_
    rintro e w2 ⟨rfl, hB, _⟩
    replace P := hidb (P.out.below hB.out)
    clear hB b0 b1 b2 b3
    obtain ⟨a0, a1⟩ := P.out.a1.c2
    obtain ⟨f0, f1⟩ := P.out.a1.f2
    have AH := P.out.a1.has (n := 2) rfl
    have cE : w2.cell? ⟨2, 0, none⟩ = some (errV g 2) := (HL.out.below P.out.gr.out).cell 2 (by decide)
    have hne : ¬ w.heap.size + 1 = 2 := by have : 2 < w.heap.size := lt_of_cell (HL.out.cell 2 (by decide)); omega
    have hne' : ¬ 2 = w.heap.size + 1 := fun e => hne e.symm
    go_upto_region 5 with fail
    go_region
    all_goals
      go_wp2
      refine bodyPost_ret (v := .tuple #[spV 0 0, .int .i64 0, errV g 2]) (by simp [results, Tryd.results18, go_sem, a0, a1]) rfl ⟨rfl, ?_⟩
      first | exact (P.out.gr.set (by omega) _ _).set (by omega) _ _ | exact ((P.out.gr.set (by omega) _ _).set (by omega) _ _).drew | exact ((P.out.gr.set (by omega) _ _).set (by omega) _ _).drewN _ | exact (P.out.gr.drew.set (by omega) _ _).set (by omega) _ _
  all_goals
    rw [decide_eq_true k1] at C2
    first | rw [decide_eq_true k2] at C3 | rw [decide_eq_false k2] at C3
    clear k1 k2
    go_enter Tryd.func18, Tryd.ntmps18
    go_wp2_with fail
    refine (C1.out _ P.out.gr).mono ?_
    rintro e w1 ⟨rfl, hB⟩
    replace P := hidb (P.out.below hB.out)
    clear hB
    obtain ⟨b0, b1, b2, b3⟩ := P.out.a0.c4
    go_wp2_with fail
    refine (C2.out _).mono ?_
    rintro e w2 ⟨rfl, hB, _⟩
    replace P := hidb (P.out.below hB.out)
    clear hB b0 b1 b2 b3
    obtain ⟨b0, b1, b2, b3⟩ := P.out.a0.c4
    go_wp2_with fail
    refine (C3.out _).mono ?_
    rintro e w3 ⟨rfl, hB, _⟩
    replace P := hidb (P.out.below hB.out)
    clear hB b0 b1 b2 b3
    obtain ⟨b0, b1, b2, b3⟩ := P.out.a0.c4
    obtain ⟨a0, a1⟩ := P.out.a1.c2
    obtain ⟨f0, f1⟩ := P.out.a1.f2
    have AH := P.out.a1.has (n := 2) rfl
    have cE : w3.cell? ⟨2, 0, none⟩ = some (errV g 2) := (HL.out.below P.out.gr.out).cell 2 (by decide)
    have hne : ¬ w.heap.size + 1 = 2 := by have : 2 < w.heap.size := lt_of_cell (HL.out.cell 2 (by decide)); omega
    have hne' : ¬ 2 = w.heap.size + 1 := fun e => hne e.symm
    go_upto_region 5 with fail
    clear b0 b1 b2 b3
    go_region
    all_goals
      go_wp2
      refine bodyPost_ret (v := .tuple #[spV 0 0, .int .i64 0, errV g 2]) (by simp [results, Tryd.results18, go_sem, a0, a1]) rfl ⟨rfl, ?_⟩
      first | exact (P.out.gr.set (by omega) _ _).set (by omega) _ _ | exact ((P.out.gr.set (by omega) _ _).set (by omega) _ _).drew | exact ((P.out.gr.set (by omega) _ _).set (by omega) _ _).drewN _ | exact (P.out.gr.drew.set (by omega) _ _).set (by omega) _ _
/-- How many points a box has. -/
def cnt (a b c d : Int) : Int := (c - a + 1) * (d - b + 1)
theorem cnt_wr {a b c d : Int} (h : okB a b c d = true) : ∃ u u1 v v1 : Int, (u = c - a ∧ IntKind.i64.wrap (c - a) = u) ∧ (u1 = u + 1 ∧ IntKind.i64.wrap (u + 1) = u1) ∧ (v = d - b ∧ IntKind.i64.wrap (d - b) = v) ∧ (v1 = v + 1 ∧ IntKind.i64.wrap (v + 1) = v1) ∧ IntKind.i64.wrap (u1 * v1) = cnt a b c d ∧ 1 ≤ u1 ∧ 1 ≤ v1 := by
  obtain ⟨⟨a1, a2⟩, ⟨b1, b2⟩, ⟨c1, c2⟩, ⟨d1, d2⟩, h1, h2⟩ := okB_bd h
  refine ⟨c - a, c - a + 1, d - b, d - b + 1, ⟨rfl, wr_in (by omega) (by omega)⟩, ⟨rfl, wr_in (by omega) (by omega)⟩, ⟨rfl, wr_in (by omega) (by omega)⟩, ⟨rfl, wr_in (by omega) (by omega)⟩, ?_, by omega, by omega⟩
  show _ = (c - a + 1) * (d - b + 1)
  have k1 : 0 ≤ (c - a + 1) * (d - b + 1) := Int.mul_nonneg (by omega) (by omega)
  have k2 : (c - a + 1) * (d - b + 1) ≤ 33554433 * 33554433 := Int.mul_le_mul (by omega) (by omega) (by omega) (by omega)
  generalize (c - a + 1) * (d - b + 1) = z at *
  exact wr_in (by omega) (by omega)
set_option maxRecDepth 4000 in
set_option maxHeartbeats 4000000 in
theorem nearest_no3 (g : Nat → Addr) (ad : Option Addr) (b0 cap : Nat) (l : List Rg) (a b c d : Int) (w : World) (h : RSl 30 w ad b0 cap l) (ll : l.length ≤ 70) (hl : Laid w g) (hr : rerr g l = .nilIface) (hb : okB a b c d = true) (hc : 100000 < cnt a b c d) : Calls Tryd.prog 18 #[.slice ad l.length cap, boV a b c d] w fun e w' => e = .returned (.tuple #[spV 0 0, .int .i64 0, errV g 1]) ∧ Gr w w' := by
  have C1 := hidb (fun W (hG : Gr w W) => valid_any g ad b0 cap l W (h.below hG.out) (by omega) (hl.below hG.out))
  rw [hr] at C1
  obtain ⟨k1, k2, k3, k4⟩ := okB_inP hb
  obtain ⟨u, u1, v, v1, ⟨-, e1⟩, ⟨-, e2⟩, ⟨-, e3⟩, ⟨-, e4⟩, e5, -, -⟩ := cnt_wr hb
  have C2 := hidb (fun W => placed_any a b W)
  have C3 := hidb (fun W => placed_any c d W)
  rw [decide_eq_true k1] at C2
  rw [decide_eq_true k2] at C3
  have P := hidb (NeP.new w a b c d 47 45)
  have HL := hidb hl
  generalize cnt a b c d = z at *
  clear h ll hl hr hb k1 k2
  go_enter Tryd.func18, Tryd.ntmps18
  go_wp2_with fail
  refine (C1.out _ P.out.gr).mono ?_
  rintro e w1 ⟨rfl, hB⟩
  replace P := hidb (P.out.below hB.out)
  clear hB
  obtain ⟨b0, b1, b2, b3⟩ := P.out.a0.c4
  go_wp2_with fail
  refine (C2.out _).mono ?_
  rintro e w2 ⟨rfl, hB, _⟩
  replace P := hidb (P.out.below hB.out)
  clear hB b0 b1 b2 b3
  obtain ⟨b0, b1, b2, b3⟩ := P.out.a0.c4
  go_wp2_with fail
  refine (C3.out _).mono ?_
  rintro e w3 ⟨rfl, hB, _⟩
  replace P := hidb (P.out.below hB.out)
  clear hB b0 b1 b2 b3
  obtain ⟨b0, b1, b2, b3⟩ := P.out.a0.c4
  obtain ⟨a0, a1⟩ := P.out.a1.c2
  obtain ⟨f0, f1⟩ := P.out.a1.f2
  have AH := P.out.a1.has (n := 2) rfl
  have cE : w3.cell? ⟨1, 0, none⟩ = some (errV g 1) := (HL.out.below P.out.gr.out).cell 1 (by decide)
  have hne : ¬ w.heap.size + 1 = 1 := by have : 1 < w.heap.size := lt_of_cell (HL.out.cell 1 (by decide)); omega
  have hne' : ¬ 1 = w.heap.size + 1 := fun e => hne e.symm
  have hz : ¬ w.heap.size = 1 - 1 := by have : 1 < w.heap.size := lt_of_cell (HL.out.cell 1 (by decide)); omega
  simp only [Nat.reduceSub] at hz
  go_upto_region 7 with fail
  clear b0 b1 b2 b3
  go_region
  all_goals
    go_wp2
    refine bodyPost_ret (v := .tuple #[spV 0 0, .int .i64 0, errV g 1]) (by simp [results, Tryd.results18, go_sem, a0, a1]) rfl ⟨rfl, ?_⟩
    first | exact (P.out.gr.set (by omega) _ _).set (by omega) _ _ | exact ((P.out.gr.set (by omega) _ _).set (by omega) _ _).drew | exact ((P.out.gr.set (by omega) _ _).set (by omega) _ _).drewN _ | exact (P.out.gr.drew.set (by omega) _ _).set (by omega) _ _
end Go.Proofs.YtehkonddgiakaaaDoor
