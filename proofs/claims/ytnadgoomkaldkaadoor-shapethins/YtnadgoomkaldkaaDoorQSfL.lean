/-
  mercatorref5.WayEnds.
-/
import Derived.Test.YtnadgoomkaldkaaDoorQTk
import Derived.Test.YtnadgoomkaldkaaDoorQJ8
import Derived.Test.YtnadgoomkaldkaaDoorQSfG
namespace Go.Proofs.YtnadgoomkaldkaaDoor
open Go.RowKit
attribute [local go_sem ↓] Go.wp_at_zero Go.wp_at_succ

/-- Where a way ends. -/
def wyE (Ls : List (List Sp)) (k : Nat) : Sp := if k % 2 = 0 then sx (lx Ls (k / 2)) ((lx Ls (k / 2)).length - 1) else sx (lx Ls (k / 2)) 0
structure B3 (w W : World) (A B C : Nat) (p q r : Sp) : Prop where
  a : At W A [.int .i64 p.1, .int .i64 p.2]
  b : At W B [.int .i64 q.1, .int .i64 q.2]
  c : At W C [.int .i64 r.1, .int .i64 r.2]
  g : Gr w W
  lo : w.heap.size ≤ A ∧ w.heap.size ≤ B ∧ w.heap.size ≤ C
  ne : A ≠ B ∧ A ≠ C ∧ B ≠ C
theorem B3.new (w : World) (x y z : Value) (t : Nat) (hx : x = .int .i64 0) (hy : y = .int .i64 0) (hz : z = .int .i64 0) : B3 w (((w.alloc (.cells #[x, x] t)).alloc (.cells #[y, y] t)).alloc (.cells #[z, z] t)) w.heap.size (w.heap.size + 1) (w.heap.size + 1 + 1) (0, 0) (0, 0) (0, 0) := by
  subst hx; subst hy; subst hz
  exact ⟨((At.new2 _ _ _ _).alloc _).alloc _, (At.nx2 _ _ _ _).alloc _, At.ny2 _ _ _ _ _, (((Gr.refl w).alloc _).alloc _).alloc _, by omega, by omega⟩
theorem B3.drew {w W : World} {A B C : Nat} {p q r : Sp} (h : B3 w W A B C p q r) : B3 w W.drew A B C p q r := ⟨h.a.drew, h.b.drew, h.c.drew, h.g.drew, h.lo, h.ne⟩
theorem B3.put1 {w W : World} {A B C : Nat} {p q r : Sp} (h : B3 w W A B C p q r) (x : Sp) : B3 w ((W.setCell ⟨A, 0, none⟩ (.int .i64 x.1)).setCell ⟨A, 1, none⟩ (.int .i64 x.2)) A B C x q r :=
  ⟨At.fill2 (h.a.has rfl) _ _, (h.b.skip h.ne.1 _ _).skip h.ne.1 _ _, (h.c.skip h.ne.2.1 _ _).skip h.ne.2.1 _ _, (h.g.set h.lo.1 _ _).set h.lo.1 _ _, h.lo, h.ne⟩
theorem B3.put2 {w W : World} {A B C : Nat} {p q r : Sp} (h : B3 w W A B C p q r) (x : Sp) : B3 w ((W.setCell ⟨B, 0, none⟩ (.int .i64 x.1)).setCell ⟨B, 1, none⟩ (.int .i64 x.2)) A B C p x r :=
  ⟨(h.a.skip h.ne.1.symm _ _).skip h.ne.1.symm _ _, At.fill2 (h.b.has rfl) _ _, (h.c.skip h.ne.2.2 _ _).skip h.ne.2.2 _ _, (h.g.set h.lo.2.1 _ _).set h.lo.2.1 _ _, h.lo, h.ne⟩
theorem B3.put3 {w W : World} {A B C : Nat} {p q r : Sp} (h : B3 w W A B C p q r) (x : Sp) : B3 w ((W.setCell ⟨C, 0, none⟩ (.int .i64 x.1)).setCell ⟨C, 1, none⟩ (.int .i64 x.2)) A B C p q x :=
  ⟨(h.a.skip h.ne.2.1.symm _ _).skip h.ne.2.1.symm _ _, (h.b.skip h.ne.2.2.symm _ _).skip h.ne.2.2.symm _ _, At.fill2 (h.c.has rfl) _ _, (h.g.set h.lo.2.2 _ _).set h.lo.2.2 _ _, h.lo, h.ne⟩
set_option maxRecDepth 4000 in
set_option maxHeartbeats 16000000 in
theorem wayEnds_any {pb po : Nat} {ad : Option Addr} {b o cap k : Nat} {Ls : List (List Sp)} (w : World) (hp : w.cell? ⟨pb, po, none⟩ = some (.slice ad Ls.length cap) ∧ pb < w.heap.size) (h : LLs w ad b o cap Ls) (hk : k < 2 * Ls.length) (hN : Ls.length ≤ 5000) (h2 : 2 ≤ (lx Ls (k / 2)).length) (ll : (lx Ls (k / 2)).length ≤ 5000) : Calls Tryd.prog 47 #[.pointer (some ⟨pb, po, none⟩), .int .i64 (tdI k)] w fun e w' => e = .returned (.tuple #[sv (ouP Ls k).1, sv (ouP Ls k).2, sv (wyE Ls k)]) ∧ Gr w w' := by
  have hi : k / 2 < Ls.length := by omega
  obtain ⟨⟨ad', b', o', cap', c0w, hS⟩, hb⟩ := h.row (k / 2) hi
  have ix := h.ix (k / 2) hi
  have cP := hp.1
  have HB := hidb (B3.new w (.int .i64 0) (.int .i64 0) (.int .i64 0) 52 rfl rfl rfl)
  have cP := (HB.out.g.out.cell (p := ⟨pb, po, none⟩) hp.2).trans hp.1
  have c0 := (HB.out.g.out.cell (p := ⟨b, o + k / 2, none⟩) hb).trans c0w
  unfold ouP wyE
  generalize lx Ls (k / 2) = a at *
  have ix0 := hS.ix 0 (by omega)
  have ix1 := hS.ix 1 (by omega)
  have ixm := hS.ix (a.length - 1) (by omega)
  have ixn := hS.ix (a.length - 2) (by omega)
  have HC : Hid (∀ W, Gr w W → (W.cell? ⟨b', o', none⟩ = some (.int .i64 (sx a 0).1) ∧ W.cell? ⟨b', o' + 1, none⟩ = some (.int .i64 (sx a 0).2)) ∧ (W.cell? ⟨b', o' + 2, none⟩ = some (.int .i64 (sx a 1).1) ∧ W.cell? ⟨b', o' + 2 + 1, none⟩ = some (.int .i64 (sx a 1).2)) ∧ (W.cell? ⟨b', o' + (a.length - 1) * 2, none⟩ = some (.int .i64 (sx a (a.length - 1)).1) ∧ W.cell? ⟨b', o' + (a.length - 1) * 2 + 1, none⟩ = some (.int .i64 (sx a (a.length - 1)).2)) ∧ W.cell? ⟨b', o' + (a.length - 2) * 2, none⟩ = some (.int .i64 (sx a (a.length - 2)).1) ∧ W.cell? ⟨b', o' + (a.length - 2) * 2 + 1, none⟩ = some (.int .i64 (sx a (a.length - 2)).2)) := fun W hG => by
    have r0 := ((hS.gr hG).row 0 (by omega)).1
    have r1 := ((hS.gr hG).row 1 (by omega)).1
    rw [Nat.zero_mul, Nat.add_zero] at r0
    rw [Nat.one_mul] at r1
    exact ⟨r0, r1, ((hS.gr hG).row (a.length - 1) (by omega)).1, ((hS.gr hG).row (a.length - 2) (by omega)).1⟩
  rw [Nat.zero_mul, Nat.add_zero] at ix0
  rw [Nat.one_mul] at ix1
  push_cast at ix0 ix1
  have em : IntKind.i64.wrap ((a.length : Int) - 1) = ((a.length - 1 : Nat) : Int) := by rw [show (a.length : Int) - 1 = ((a.length - 1 : Nat) : Int) by omega]; exact wr_in (by omega) (by omega)
  have en : IntKind.i64.wrap ((a.length : Int) - 2) = ((a.length - 2 : Nat) : Int) := by rw [show (a.length : Int) - 2 = ((a.length - 2 : Nat) : Int) by omega]; exact wr_in (by omega) (by omega)
  have hin : k / 2 ≤ 5000 := by omega
  obtain ⟨m1, hm1⟩ : ∃ z, z = a.length - 1 := ⟨_, rfl⟩
  obtain ⟨m2, hm2⟩ : ∃ z, z = a.length - 2 := ⟨_, rfl⟩
  rw [← hm1] at ixm em HC ⊢
  rw [← hm2] at ixn en HC ⊢
  obtain ⟨la, hla⟩ : ∃ z, z = a.length := ⟨_, rfl⟩
  rw [← hla] at c0 ix0 ix1 ixm ixn em en
  generalize sx a 0 = p at *
  generalize sx a 1 = q at *
  generalize sx a m1 = r at *
  generalize sx a m2 = s at *
  generalize hx1 : o' + m1 * 2 = x1 at *
  generalize hx2 : o' + m2 * 2 = x2 at *
  by_cases c : k % 2 = 0
  · rw [if_pos c, if_pos c]
    have ht : tdI k = ((k / 2 : Nat) : Int) + 1 := by unfold tdI; rw [if_pos c]
    rw [ht]
    have e1 : IntKind.i64.wrap (((k / 2 : Nat) : Int) + 1 - 1) = ((k / 2 : Nat) : Int) := by rw [show ((k / 2 : Nat) : Int) + 1 - 1 = ((k / 2 : Nat) : Int) by omega]; exact wr_in (by omega) (by omega)
    have h0 : (0 : Int) < ((k / 2 : Nat) : Int) + 1 := by omega
    generalize k / 2 = i at *
    generalize hT : (i : Int) + 1 = T at *
    clear c ht hin hT h hk hN h2 ll hi c0w hS hb hp hm1 hm2 hla hx1 hx2 ixn en
    go_enter Tryd.func47, Tryd.ntmps47
    go_upto_region 1 with fail
    generalize ((w.alloc (.cells #[.int .i64 0, .int .i64 0] 52)).alloc (.cells #[.int .i64 0, .int .i64 0] 52)).alloc (.cells #[.int .i64 0, .int .i64 0] 52) = W1 at *
    generalize w.heap.size = A at *
    go_upto_region 3 with fail
    clear cP c0
    refine wp_region_held_drew (S := (fun w' => (w'.cell? ⟨b', o', none⟩ = some (.int .i64 p.1) ∧ w'.cell? ⟨b', o' + 1, none⟩ = some (.int .i64 p.2)) ∧ (w'.cell? ⟨b', o' + 2, none⟩ = some (.int .i64 q.1) ∧ w'.cell? ⟨b', o' + 2 + 1, none⟩ = some (.int .i64 q.2)) ∧ (w'.cell? ⟨b', x1, none⟩ = some (.int .i64 r.1) ∧ w'.cell? ⟨b', x1 + 1, none⟩ = some (.int .i64 r.2)) ∧ (w'.cell? ⟨b', x2, none⟩ = some (.int .i64 s.1) ∧ w'.cell? ⟨b', x2 + 1, none⟩ = some (.int .i64 s.2)))) (by kernel_rfl) ?_ (fun hHeld => ?_)
    · (try dsimp only); exact HC.out _ HB.out.drew.g
    have H3 := hidb HB.out.drew
    generalize W1.drew = V0 at *
    refine wt (i := 0) (v := ?vw3q0x4) rfl ?hw3q0x4 ?rw3q0x4
    case hw3q0x4 => (intro w hSw; (try dsimp only at hSw); obtain ⟨⟨x1a, x1b⟩, ⟨x2a, x2b⟩, ⟨x3a, x3b⟩, x4a, x4b⟩ := hSw; go_simp; try with_reducible rfl)
    (try simp only [Act.put, lq1, lq2, lq4, lq5, lq6])
    refine wt (i := 1) (v := ?vw3q1x7) rfl ?hw3q1x7 ?rw3q1x7
    case hw3q1x7 => (intro w hSw; (try dsimp only at hSw); obtain ⟨⟨x1a, x1b⟩, ⟨x2a, x2b⟩, ⟨x3a, x3b⟩, x4a, x4b⟩ := hSw; go_simp; try with_reducible rfl)
    (try simp only [Act.put, lq1, lq2, lq3, lq4, lq5, lq6])
    refine wt (i := 2) (v := ?vw3q2x10) rfl ?hw3q2x10 ?rw3q2x10
    case hw3q2x10 => (intro w hSw; (try dsimp only at hSw); obtain ⟨⟨x1a, x1b⟩, ⟨x2a, x2b⟩, ⟨x3a, x3b⟩, x4a, x4b⟩ := hSw; go_simp; try with_reducible rfl)
    (try simp only [Act.put, lq1, lq2, lq3, lq4, lq5, lq6])
    refine wt (i := 3) (v := ?vw3q3x13) rfl ?hw3q3x13 ?rw3q3x13
    case hw3q3x13 => (intro w hSw; (try dsimp only at hSw); obtain ⟨⟨x1a, x1b⟩, ⟨x2a, x2b⟩, ⟨x3a, x3b⟩, x4a, x4b⟩ := hSw; go_simp; try with_reducible rfl)
    (try simp only [Act.put, lq1, lq2, lq3, lq4, lq5, lq6])
    refine wt (i := 4) (v := ?vw3q4x16) rfl ?hw3q4x16 ?rw3q4x16
    case hw3q4x16 => (intro w hSw; (try dsimp only at hSw); obtain ⟨⟨x1a, x1b⟩, ⟨x2a, x2b⟩, ⟨x3a, x3b⟩, x4a, x4b⟩ := hSw; go_simp; try with_reducible rfl)
    (try simp only [Act.put, lq1, lq2, lq3, lq4, lq5, lq6])
    refine wt (i := 5) (v := ?vw3q5x19) rfl ?hw3q5x19 ?rw3q5x19
    case hw3q5x19 => (intro w hSw; (try dsimp only at hSw); obtain ⟨⟨x1a, x1b⟩, ⟨x2a, x2b⟩, ⟨x3a, x3b⟩, x4a, x4b⟩ := hSw; go_simp; try with_reducible rfl)
    (try simp only [Act.put, lq1, lq2, lq3, lq4, lq5, lq6])
    refine wt (i := 6) (v := ?vw3q6x22) rfl ?hw3q6x22 ?rw3q6x22
    case hw3q6x22 => (intro w hSw; (try dsimp only at hSw); obtain ⟨⟨x1a, x1b⟩, ⟨x2a, x2b⟩, ⟨x3a, x3b⟩, x4a, x4b⟩ := hSw; go_simp; try with_reducible rfl)
    (try simp only [Act.put, lq1, lq2, lq3, lq4, lq5, lq6])
    refine wt (i := 7) (v := ?vw3q7x25) rfl ?hw3q7x25 ?rw3q7x25
    case hw3q7x25 => (intro w hSw; (try dsimp only at hSw); obtain ⟨⟨x1a, x1b⟩, ⟨x2a, x2b⟩, ⟨x3a, x3b⟩, x4a, x4b⟩ := hSw; go_simp; try with_reducible rfl)
    (try simp only [Act.put, lq1, lq2, lq3, lq4, lq5, lq6])
    refine wt (i := 8) (v := ?vw3q8x28) rfl ?hw3q8x28 ?rw3q8x28
    case hw3q8x28 => (intro w hSw; (try dsimp only at hSw); obtain ⟨⟨x1a, x1b⟩, ⟨x2a, x2b⟩, ⟨x3a, x3b⟩, x4a, x4b⟩ := hSw; go_simp; try with_reducible rfl)
    (try simp only [Act.put, lq1, lq2, lq3, lq4, lq5, lq6])
    refine wt (i := 9) (v := ?vw3q9x31) rfl ?hw3q9x31 ?rw3q9x31
    case hw3q9x31 => (intro w hSw; (try dsimp only at hSw); obtain ⟨⟨x1a, x1b⟩, ⟨x2a, x2b⟩, ⟨x3a, x3b⟩, x4a, x4b⟩ := hSw; go_simp; try with_reducible rfl)
    (try simp only [Act.put, lq1, lq2, lq3, lq4, lq5, lq6])
    refine wt (i := 10) (v := ?vw3q10x34) rfl ?hw3q10x34 ?rw3q10x34
    case hw3q10x34 => (intro w hSw; (try dsimp only at hSw); obtain ⟨⟨x1a, x1b⟩, ⟨x2a, x2b⟩, ⟨x3a, x3b⟩, x4a, x4b⟩ := hSw; go_simp; try with_reducible rfl)
    (try simp only [Act.put, lq1, lq2, lq3, lq4, lq5, lq6])
    refine wt (i := 11) (v := ?vw3q11x37) rfl ?hw3q11x37 ?rw3q11x37
    case hw3q11x37 => (intro w hSw; (try dsimp only at hSw); obtain ⟨⟨x1a, x1b⟩, ⟨x2a, x2b⟩, ⟨x3a, x3b⟩, x4a, x4b⟩ := hSw; go_simp; try with_reducible rfl)
    (try simp only [Act.put, lq1, lq2, lq3, lq4, lq5, lq6])
    refine wpAnyH_ready (rs := [12]) (by kernel_rfl) (by simp) ?_
    refine AllReadyH.cons rfl (fun K hK => ?_) AllReadyH.nil
    obtain ⟨z0, z1⟩ := H3.out.a.c2
    obtain ⟨y0, y1⟩ := H3.out.a.f2
    go_simp
    refine hK.out _ _ ?_ (fun hHeld => ?_)
    · (try dsimp only); exact HC.out _ (H3.out.put1 p).g
    clear hK K
    have H4 := hidb (H3.out.put1 p)
    replace H3 := H4
    clear H4 z0 z1 y0 y1
    generalize (V0.setCell ⟨A, 0, none⟩ (.int .i64 p.1)).setCell ⟨A, 1, none⟩ (.int .i64 p.2) = V1 at *
    refine wpAnyH_ready (rs := [13]) (by kernel_rfl) (by simp) ?_
    refine AllReadyH.cons rfl (fun K hK => ?_) AllReadyH.nil
    obtain ⟨z0, z1⟩ := H3.out.b.c2
    obtain ⟨y0, y1⟩ := H3.out.b.f2
    go_simp
    refine hK.out _ _ ?_ (fun hHeld => ?_)
    · (try dsimp only); exact HC.out _ (H3.out.put2 q).g
    clear hK K
    have H4 := hidb (H3.out.put2 q)
    replace H3 := H4
    clear H4 z0 z1 y0 y1
    generalize (V1.setCell ⟨(A + 1), 0, none⟩ (.int .i64 q.1)).setCell ⟨(A + 1), 1, none⟩ (.int .i64 q.2) = V2 at *
    refine wpAnyH_ready (rs := [14]) (by kernel_rfl) (by simp) ?_
    refine AllReadyH.cons rfl (fun K hK => ?_) AllReadyH.nil
    obtain ⟨z0, z1⟩ := H3.out.c.c2
    obtain ⟨y0, y1⟩ := H3.out.c.f2
    go_simp
    refine hK.out _ _ ?_ (fun hHeld => ?_)
    · (try dsimp only); exact HC.out _ (H3.out.put3 r).g
    clear hK K
    have H4 := hidb (H3.out.put3 r)
    replace H3 := H4
    clear H4 z0 z1 y0 y1
    generalize (V2.setCell ⟨(A + 1 + 1), 0, none⟩ (.int .i64 r.1)).setCell ⟨(A + 1 + 1), 1, none⟩ (.int .i64 r.2) = V3 at *
    refine wpAnyH_done (by kernel_rfl) ?_ _
    obtain ⟨a0, a1⟩ := H3.out.a.c2
    obtain ⟨b0, b1⟩ := H3.out.b.c2
    obtain ⟨d0, d1⟩ := H3.out.c.c2
    go_wp2_with fail
    refine bodyPost_ret (v := .tuple #[sv p, sv q, sv r]) (by simp [results, Tryd.results47, go_sem, a0, a1, b0, b1, d0, d1]) rfl ?_
    exact ⟨rfl, H3.out.g⟩
  · rw [if_neg c, if_neg c]
    have ht : tdI k = -(((k / 2 : Nat) : Int) + 1) := by unfold tdI; rw [if_neg c]
    rw [ht]
    have e0 : IntKind.i64.wrap (-(-(((k / 2 : Nat) : Int) + 1))) = ((k / 2 : Nat) : Int) + 1 := by rw [Int.neg_neg]; exact wr_in (by omega) (by omega)
    have e1 : IntKind.i64.wrap (((k / 2 : Nat) : Int) + 1 - 1) = ((k / 2 : Nat) : Int) := by rw [show ((k / 2 : Nat) : Int) + 1 - 1 = ((k / 2 : Nat) : Int) by omega]; exact wr_in (by omega) (by omega)
    have h0 : ¬ (0 : Int) < -(((k / 2 : Nat) : Int) + 1) := by omega
    generalize k / 2 = i at *
    generalize hT : (i : Int) + 1 = T at *
    generalize hU : -T = U at *
    clear c ht hin hT hU h hk hN h2 ll hi c0w hS hb hp hm1 hm2 hla hx1 hx2 ix1
    go_enter Tryd.func47, Tryd.ntmps47
    go_upto_region 1 with fail
    generalize ((w.alloc (.cells #[.int .i64 0, .int .i64 0] 52)).alloc (.cells #[.int .i64 0, .int .i64 0] 52)).alloc (.cells #[.int .i64 0, .int .i64 0] 52) = W1 at *
    generalize w.heap.size = A at *
    go_upto_region 5 with fail
    clear cP c0
    refine wp_region_held_drew (S := (fun w' => (w'.cell? ⟨b', o', none⟩ = some (.int .i64 p.1) ∧ w'.cell? ⟨b', o' + 1, none⟩ = some (.int .i64 p.2)) ∧ (w'.cell? ⟨b', o' + 2, none⟩ = some (.int .i64 q.1) ∧ w'.cell? ⟨b', o' + 2 + 1, none⟩ = some (.int .i64 q.2)) ∧ (w'.cell? ⟨b', x1, none⟩ = some (.int .i64 r.1) ∧ w'.cell? ⟨b', x1 + 1, none⟩ = some (.int .i64 r.2)) ∧ (w'.cell? ⟨b', x2, none⟩ = some (.int .i64 s.1) ∧ w'.cell? ⟨b', x2 + 1, none⟩ = some (.int .i64 s.2)))) (by kernel_rfl) ?_ (fun hHeld => ?_)
    · (try dsimp only); exact HC.out _ HB.out.drew.g
    have H3 := hidb HB.out.drew
    generalize W1.drew = V0 at *
    refine wt (i := 0) (v := ?vw5q0x4) rfl ?hw5q0x4 ?rw5q0x4
    case hw5q0x4 => (intro w hSw; (try dsimp only at hSw); obtain ⟨⟨x1a, x1b⟩, ⟨x2a, x2b⟩, ⟨x3a, x3b⟩, x4a, x4b⟩ := hSw; go_simp; try with_reducible rfl)
    (try simp only [Act.put, lq1, lq2, lq4, lq5, lq6])
    refine wt (i := 1) (v := ?vw5q1x7) rfl ?hw5q1x7 ?rw5q1x7
    case hw5q1x7 => (intro w hSw; (try dsimp only at hSw); obtain ⟨⟨x1a, x1b⟩, ⟨x2a, x2b⟩, ⟨x3a, x3b⟩, x4a, x4b⟩ := hSw; go_simp; try with_reducible rfl)
    (try simp only [Act.put, lq1, lq2, lq3, lq4, lq5, lq6])
    refine wt (i := 2) (v := ?vw5q2x10) rfl ?hw5q2x10 ?rw5q2x10
    case hw5q2x10 => (intro w hSw; (try dsimp only at hSw); obtain ⟨⟨x1a, x1b⟩, ⟨x2a, x2b⟩, ⟨x3a, x3b⟩, x4a, x4b⟩ := hSw; go_simp; try with_reducible rfl)
    (try simp only [Act.put, lq1, lq2, lq3, lq4, lq5, lq6])
    refine wt (i := 3) (v := ?vw5q3x13) rfl ?hw5q3x13 ?rw5q3x13
    case hw5q3x13 => (intro w hSw; (try dsimp only at hSw); obtain ⟨⟨x1a, x1b⟩, ⟨x2a, x2b⟩, ⟨x3a, x3b⟩, x4a, x4b⟩ := hSw; go_simp; try with_reducible rfl)
    (try simp only [Act.put, lq1, lq2, lq3, lq4, lq5, lq6])
    refine wt (i := 4) (v := ?vw5q4x16) rfl ?hw5q4x16 ?rw5q4x16
    case hw5q4x16 => (intro w hSw; (try dsimp only at hSw); obtain ⟨⟨x1a, x1b⟩, ⟨x2a, x2b⟩, ⟨x3a, x3b⟩, x4a, x4b⟩ := hSw; go_simp; try with_reducible rfl)
    (try simp only [Act.put, lq1, lq2, lq3, lq4, lq5, lq6])
    refine wt (i := 5) (v := ?vw5q5x19) rfl ?hw5q5x19 ?rw5q5x19
    case hw5q5x19 => (intro w hSw; (try dsimp only at hSw); obtain ⟨⟨x1a, x1b⟩, ⟨x2a, x2b⟩, ⟨x3a, x3b⟩, x4a, x4b⟩ := hSw; go_simp; try with_reducible rfl)
    (try simp only [Act.put, lq1, lq2, lq3, lq4, lq5, lq6])
    refine wt (i := 6) (v := ?vw5q6x22) rfl ?hw5q6x22 ?rw5q6x22
    case hw5q6x22 => (intro w hSw; (try dsimp only at hSw); obtain ⟨⟨x1a, x1b⟩, ⟨x2a, x2b⟩, ⟨x3a, x3b⟩, x4a, x4b⟩ := hSw; go_simp; try with_reducible rfl)
    (try simp only [Act.put, lq1, lq2, lq3, lq4, lq5, lq6])
    refine wt (i := 7) (v := ?vw5q7x25) rfl ?hw5q7x25 ?rw5q7x25
    case hw5q7x25 => (intro w hSw; (try dsimp only at hSw); obtain ⟨⟨x1a, x1b⟩, ⟨x2a, x2b⟩, ⟨x3a, x3b⟩, x4a, x4b⟩ := hSw; go_simp; try with_reducible rfl)
    (try simp only [Act.put, lq1, lq2, lq3, lq4, lq5, lq6])
    refine wt (i := 8) (v := ?vw5q8x28) rfl ?hw5q8x28 ?rw5q8x28
    case hw5q8x28 => (intro w hSw; (try dsimp only at hSw); obtain ⟨⟨x1a, x1b⟩, ⟨x2a, x2b⟩, ⟨x3a, x3b⟩, x4a, x4b⟩ := hSw; go_simp; try with_reducible rfl)
    (try simp only [Act.put, lq1, lq2, lq3, lq4, lq5, lq6])
    refine wt (i := 9) (v := ?vw5q9x31) rfl ?hw5q9x31 ?rw5q9x31
    case hw5q9x31 => (intro w hSw; (try dsimp only at hSw); obtain ⟨⟨x1a, x1b⟩, ⟨x2a, x2b⟩, ⟨x3a, x3b⟩, x4a, x4b⟩ := hSw; go_simp; try with_reducible rfl)
    (try simp only [Act.put, lq1, lq2, lq3, lq4, lq5, lq6])
    refine wt (i := 10) (v := ?vw5q10x34) rfl ?hw5q10x34 ?rw5q10x34
    case hw5q10x34 => (intro w hSw; (try dsimp only at hSw); obtain ⟨⟨x1a, x1b⟩, ⟨x2a, x2b⟩, ⟨x3a, x3b⟩, x4a, x4b⟩ := hSw; go_simp; try with_reducible rfl)
    (try simp only [Act.put, lq1, lq2, lq3, lq4, lq5, lq6])
    refine wt (i := 11) (v := ?vw5q11x37) rfl ?hw5q11x37 ?rw5q11x37
    case hw5q11x37 => (intro w hSw; (try dsimp only at hSw); obtain ⟨⟨x1a, x1b⟩, ⟨x2a, x2b⟩, ⟨x3a, x3b⟩, x4a, x4b⟩ := hSw; go_simp; try with_reducible rfl)
    (try simp only [Act.put, lq1, lq2, lq3, lq4, lq5, lq6])
    refine wt (i := 12) (v := ?vw5q12x40) rfl ?hw5q12x40 ?rw5q12x40
    case hw5q12x40 => (intro w hSw; (try dsimp only at hSw); obtain ⟨⟨x1a, x1b⟩, ⟨x2a, x2b⟩, ⟨x3a, x3b⟩, x4a, x4b⟩ := hSw; go_simp; try with_reducible rfl)
    (try simp only [Act.put, lq1, lq2, lq3, lq4, lq5, lq6])
    refine wt (i := 13) (v := ?vw5q13x43) rfl ?hw5q13x43 ?rw5q13x43
    case hw5q13x43 => (intro w hSw; (try dsimp only at hSw); obtain ⟨⟨x1a, x1b⟩, ⟨x2a, x2b⟩, ⟨x3a, x3b⟩, x4a, x4b⟩ := hSw; go_simp; try with_reducible rfl)
    (try simp only [Act.put, lq1, lq2, lq3, lq4, lq5, lq6])
    refine wt (i := 14) (v := ?vw5q14x46) rfl ?hw5q14x46 ?rw5q14x46
    case hw5q14x46 => (intro w hSw; (try dsimp only at hSw); obtain ⟨⟨x1a, x1b⟩, ⟨x2a, x2b⟩, ⟨x3a, x3b⟩, x4a, x4b⟩ := hSw; go_simp; try with_reducible rfl)
    (try simp only [Act.put, lq1, lq2, lq3, lq4, lq5, lq6])
    refine wpAnyH_ready (rs := [15]) (by kernel_rfl) (by simp) ?_
    refine AllReadyH.cons rfl (fun K hK => ?_) AllReadyH.nil
    obtain ⟨z0, z1⟩ := H3.out.a.c2
    obtain ⟨y0, y1⟩ := H3.out.a.f2
    go_simp
    refine hK.out _ _ ?_ (fun hHeld => ?_)
    · (try dsimp only); exact HC.out _ (H3.out.put1 r).g
    clear hK K
    have H4 := hidb (H3.out.put1 r)
    replace H3 := H4
    clear H4 z0 z1 y0 y1
    generalize (V0.setCell ⟨A, 0, none⟩ (.int .i64 r.1)).setCell ⟨A, 1, none⟩ (.int .i64 r.2) = V4 at *
    refine wpAnyH_ready (rs := [16]) (by kernel_rfl) (by simp) ?_
    refine AllReadyH.cons rfl (fun K hK => ?_) AllReadyH.nil
    obtain ⟨z0, z1⟩ := H3.out.b.c2
    obtain ⟨y0, y1⟩ := H3.out.b.f2
    go_simp
    refine hK.out _ _ ?_ (fun hHeld => ?_)
    · (try dsimp only); exact HC.out _ (H3.out.put2 s).g
    clear hK K
    have H4 := hidb (H3.out.put2 s)
    replace H3 := H4
    clear H4 z0 z1 y0 y1
    generalize (V4.setCell ⟨(A + 1), 0, none⟩ (.int .i64 s.1)).setCell ⟨(A + 1), 1, none⟩ (.int .i64 s.2) = V5 at *
    refine wpAnyH_ready (rs := [17]) (by kernel_rfl) (by simp) ?_
    refine AllReadyH.cons rfl (fun K hK => ?_) AllReadyH.nil
    obtain ⟨z0, z1⟩ := H3.out.c.c2
    obtain ⟨y0, y1⟩ := H3.out.c.f2
    go_simp
    refine hK.out _ _ ?_ (fun hHeld => ?_)
    · (try dsimp only); exact HC.out _ (H3.out.put3 p).g
    clear hK K
    have H4 := hidb (H3.out.put3 p)
    replace H3 := H4
    clear H4 z0 z1 y0 y1
    generalize (V5.setCell ⟨(A + 1 + 1), 0, none⟩ (.int .i64 p.1)).setCell ⟨(A + 1 + 1), 1, none⟩ (.int .i64 p.2) = V6 at *
    refine wpAnyH_done (by kernel_rfl) ?_ _
    obtain ⟨a0, a1⟩ := H3.out.a.c2
    obtain ⟨b0, b1⟩ := H3.out.b.c2
    obtain ⟨d0, d1⟩ := H3.out.c.c2
    go_wp2_with fail
    refine bodyPost_ret (v := .tuple #[sv r, sv s, sv p]) (by simp [results, Tryd.results47, go_sem, a0, a1, b0, b1, d0, d1]) rfl ?_
    exact ⟨rfl, H3.out.g⟩
end Go.Proofs.YtnadgoomkaldkaaDoor
