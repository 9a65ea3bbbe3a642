/-
  shape.net.out: the first piece of a way.
-/
import Derived.Test.YtnadgoomkaldkaaDoorQSfC
namespace Go.Proofs.YtnadgoomkaldkaaDoor
open Go.RowKit
attribute [local go_sem ↓] Go.wp_at_zero Go.wp_at_succ

/-- The first piece of a way, out of its node. -/
def ouP (Ls : List (List Sp)) (k : Nat) : Pc := if k % 2 = 0 then (sx (lx Ls (k / 2)) 0, sx (lx Ls (k / 2)) 1) else (sx (lx Ls (k / 2)) ((lx Ls (k / 2)).length - 1), sx (lx Ls (k / 2)) ((lx Ls (k / 2)).length - 2))
theorem nindex (ad : Option Addr) (n cap : Nat) (i : Int) (w : World) : (Instr.indexAt 61 (.slice ad n cap) (.int .i64 i)).run Tryd.prog w = (Instr.indexAt 30 (.slice ad n cap) (.int .i64 i)).run Tryd.prog w := by
  have h1 : Tryd.prog.underlying 61 = some (.slice (Tryd.prog.elem 61)) := by kernel_rfl
  have h2 : Tryd.prog.underlying 30 = some (.slice (Tryd.prog.elem 30)) := by kernel_rfl
  have h3 : Tryd.prog.elem 61 = Tryd.prog.elem 30 := by kernel_rfl
  cases ad with
  | some a => rw [run_indexAt_slice (P := Tryd.prog) (w := w) _ _ _ _ _ _ h1, run_indexAt_slice (P := Tryd.prog) (w := w) _ _ _ _ _ _ h2, h3]
  | none => simp [Instr.indexAt, run_underlying h1, run_underlying h2, asIntOf]
set_option maxRecDepth 4000 in
set_option maxHeartbeats 4000000 in
theorem out_any {ad : Option Addr} {b o cap k : Nat} {Ls : List (List Sp)} (w : World) (h : LLs w ad b o cap Ls) (hk : k < 2 * Ls.length) (hN : Ls.length ≤ 5000) (h2 : 2 ≤ (lx Ls (k / 2)).length) (ll : (lx Ls (k / 2)).length ≤ 5000) : Calls Tryd.prog 66 #[.slice ad Ls.length cap, .int .i64 k] w fun e w' => e = .returned (pv (ouP Ls k)) ∧ Gr w w' := by
  have e1 : (k : Int).tmod 2 = ((k % 2 : Nat) : Int) := by rw [Int.tmod_eq_emod_of_nonneg (by omega)]; omega
  have e2 : (k : Int).tdiv 2 = ((k / 2 : Nat) : Int) := by rw [Int.tdiv_eq_ediv_of_nonneg (by omega)]; omega
  have e3 : IntKind.i64.wrap ((k / 2 : Nat) : Int) = ((k / 2 : Nat) : Int) := wr_in (by omega) (by omega)
  have e6 : IntKind.i64.wrap ((k % 2 : Nat) : Int) = ((k % 2 : Nat) : Int) := wr_in (by omega) (by omega)
  have hi : k / 2 < Ls.length := by omega
  have ix := fun w => (nindex ad Ls.length cap ((k / 2 : Nat) : Int) w).trans (h.ix (k / 2) hi w)
  obtain ⟨⟨ad', b', o', cap', c0, hS⟩, hb⟩ := h.row (k / 2) hi
  have HG := hidb (fun v => (Gr.refl w).alloc v)
  unfold ouP
  generalize k / 2 = i at *
  generalize lx Ls i = a at *
  obtain ⟨m, hm⟩ : ∃ m, a.length = m + 2 := ⟨a.length - 2, by omega⟩
  by_cases c : k % 2 = 0
  · rw [if_pos c]
    rw [c] at e1 e6
    have ix0 := hS.ix 0 (by omega)
    have ix1 := hS.ix 1 (by omega)
    have r0 := (hS.row 0 (by omega))
    have r1 := (hS.row 1 (by omega))
    rw [Nat.zero_mul, Nat.add_zero] at ix0 r0
    rw [Nat.one_mul] at ix1 r1
    push_cast at ix0 ix1
    have HQ := hidb (fun W (hW : Gr w W) => And.intro (by have := ((hS.gr hW).row 0 (by omega)).1; rw [Nat.zero_mul, Nat.add_zero] at this; exact this) (by have := ((hS.gr hW).row 1 (by omega)).1; rw [Nat.one_mul] at this; exact this))
    have hW := At.new4 w (.int .i64 0) (.int .i64 0) (.int .i64 0) (.int .i64 0) 84
    have G1 := HG.out (.cells #[.int .i64 0, .int .i64 0, .int .i64 0, .int .i64 0] 84)
    have d0 := (G1.out.cell (p := ⟨b, o + i, none⟩) hb).trans c0
    have q0 := G1.out.size
    generalize sx a 0 = p at *
    generalize sx a 1 = q at *
    clear r0 r1 hm
    clear HG c0 hS h hi hk hN h2 ll c e6
    go_enter Tryd.func66, Tryd.ntmps66
    go_upto_region 1 with fail
    generalize w.alloc (.cells #[.int .i64 0, .int .i64 0, .int .i64 0, .int .i64 0] 84) = W1 at *
    have FW : At ((((W1.setCell ⟨w.heap.size, 0, none⟩ (.int .i64 p.1)).setCell ⟨w.heap.size, 1, none⟩ (.int .i64 p.2)).setCell ⟨w.heap.size, 2, none⟩ (.int .i64 q.1)).setCell ⟨w.heap.size, 3, none⟩ (.int .i64 q.2)) w.heap.size [.int .i64 p.1, .int .i64 p.2, .int .i64 q.1, .int .i64 q.2] := (((hW.put 0 (.int .i64 p.1)).put 1 (.int .i64 p.2)).put 2 (.int .i64 q.1)).put 3 (.int .i64 q.2)
    obtain ⟨z0, z1, z2, z3⟩ := FW.c4
    obtain ⟨y0, y1, y2, y3⟩ := hW.c4
    have x0 : W1.frozen? ⟨w.heap.size, 0, none⟩ = false := (hW.1 0 (by simp)).2
    have x1 : W1.frozen? ⟨w.heap.size, 1, none⟩ = false := (hW.1 1 (by simp)).2
    have x2 : W1.frozen? ⟨w.heap.size, 2, none⟩ = false := (hW.1 2 (by simp)).2
    have x3 : W1.frozen? ⟨w.heap.size, 3, none⟩ = false := (hW.1 3 (by simp)).2
    clear FW
    go_upto_region 3 with fail
    refine wp_region_held_drew (S := (fun w' => (w'.cell? ⟨b', o', none⟩ = some (.int .i64 p.1) ∧ w'.cell? ⟨b', o' + 1, none⟩ = some (.int .i64 p.2)) ∧ w'.cell? ⟨b', o' + 2, none⟩ = some (.int .i64 q.1) ∧ w'.cell? ⟨b', o' + 2 + 1, none⟩ = some (.int .i64 q.2))) (by kernel_rfl) ?_ (fun hHeld => ?_)
    · (try dsimp only); (refine HQ.out _ ?_; ((with_reducible repeat' (first | assumption | refine Gr.drew ?_ | refine Gr.alloc ?_ _ | refine Gr.set ?_ (by first | omega | (simp; omega)) _ _ | exact Gr.refl _)); done))
    refine wpAnyH_take (i := 0) (v := ?vt1q0x2) rfl (by kernel_rfl) (by kernel_rfl) (by kernel_rfl) (fun _ _ _ h => h) (Or.inl ⟨by kernel_rfl, ?ht1q0x2⟩) (by assumption) ?rt1q0x2
    case ht1q0x2 => (intro w hSw; (try dsimp only at hSw); go_simp; try with_reducible rfl)
    (try simp only [Act.put, List.getElem_toArray, List.getElem_cons_zero, List.setIfInBounds_toArray, List.set_cons_zero, List.set_cons_succ])
    refine wpAnyH_take (i := 1) (v := ?vt1q1x5) rfl (by kernel_rfl) (by kernel_rfl) (by kernel_rfl) (fun _ _ _ h => h) (Or.inl ⟨by kernel_rfl, ?ht1q1x5⟩) (by assumption) ?rt1q1x5
    case ht1q1x5 => (intro w hSw; (try dsimp only at hSw); go_simp; try with_reducible rfl)
    (try simp only [Act.put, List.getElem_toArray, List.getElem_cons_zero, List.getElem_cons_succ, List.setIfInBounds_toArray, List.set_cons_zero, List.set_cons_succ])
    refine wpAnyH_take (i := 2) (v := ?vt1q2x8) rfl (by kernel_rfl) (by kernel_rfl) (by kernel_rfl) (fun _ _ _ h => h) (Or.inl ⟨by kernel_rfl, ?ht1q2x8⟩) (by assumption) ?rt1q2x8
    case ht1q2x8 => (intro w hSw; (try dsimp only at hSw); go_simp; try with_reducible rfl)
    (try simp only [Act.put, List.getElem_toArray, List.getElem_cons_zero, List.getElem_cons_succ, List.setIfInBounds_toArray, List.set_cons_zero, List.set_cons_succ])
    refine wpAnyH_take (i := 3) (v := ?vt1q3x11) rfl (by kernel_rfl) (by kernel_rfl) (by kernel_rfl) (fun _ _ _ h => h) (Or.inl ⟨by kernel_rfl, ?ht1q3x11⟩) (by assumption) ?rt1q3x11
    case ht1q3x11 => (intro w hSw; (try dsimp only at hSw); go_simp; try with_reducible rfl)
    (try simp only [Act.put, List.getElem_toArray, List.getElem_cons_zero, List.getElem_cons_succ, List.setIfInBounds_toArray, List.set_cons_zero, List.set_cons_succ])
    refine wpAnyH_take (i := 4) (v := ?vt1q4x14) rfl (by kernel_rfl) (by kernel_rfl) (by kernel_rfl) (fun _ _ _ h => h) (Or.inl ⟨by kernel_rfl, ?ht1q4x14⟩) (by assumption) ?rt1q4x14
    case ht1q4x14 => (intro w hSw; (try dsimp only at hSw); go_simp; try with_reducible rfl)
    (try simp only [Act.put, List.getElem_toArray, List.getElem_cons_zero, List.getElem_cons_succ, List.setIfInBounds_toArray, List.set_cons_zero, List.set_cons_succ])
    refine wpAnyH_take (i := 5) (v := ?vt1q5x17) rfl (by kernel_rfl) (by kernel_rfl) (by kernel_rfl) (fun _ _ _ h => h) (Or.inl ⟨by kernel_rfl, ?ht1q5x17⟩) (by assumption) ?rt1q5x17
    case ht1q5x17 => (intro w hSw; (try dsimp only at hSw); go_simp; try with_reducible rfl)
    (try simp only [Act.put, List.getElem_toArray, List.getElem_cons_zero, List.getElem_cons_succ, List.setIfInBounds_toArray, List.set_cons_zero, List.set_cons_succ])
    refine wpAnyH_take (i := 6) (v := ?vt1q6x20) rfl (by kernel_rfl) (by kernel_rfl) (by kernel_rfl) (fun _ _ _ h => h) (Or.inl ⟨by kernel_rfl, ?ht1q6x20⟩) (by assumption) ?rt1q6x20
    case ht1q6x20 => (intro w hSw; (try dsimp only at hSw); go_simp; try with_reducible rfl)
    (try simp only [Act.put, List.getElem_toArray, List.getElem_cons_zero, List.getElem_cons_succ, List.setIfInBounds_toArray, List.set_cons_zero, List.set_cons_succ])
    refine wpAnyH_ready (rs := [7]) (by kernel_rfl) (by simp) ?_
    refine AllReadyH.cons rfl (fun K hK => ?_) AllReadyH.nil
    go_simp
    refine hK.out _ _ ?_ (fun hHeld => ?_)
    · (try dsimp only); (refine HQ.out _ ?_; ((with_reducible repeat' (first | assumption | refine Gr.drew ?_ | refine Gr.alloc ?_ _ | refine Gr.set ?_ (by first | omega | (simp; omega)) _ _ | exact Gr.refl _)); done))
    clear hK K
    refine wpAnyH_done (by kernel_rfl) ?_ _
    go_wp2
    refine bodyPost_ret (v := pv (p, q)) (by simp [results, Tryd.results66, go_sem, z0, z1, z2, z3, pv]) rfl ⟨rfl, ?_⟩
    ((with_reducible repeat' (first | assumption | refine Gr.drew ?_ | refine Gr.alloc ?_ _ | refine Gr.set ?_ (by first | omega | (simp; omega)) _ _ | exact Gr.refl _)); done)
  · rw [if_neg c]
    rw [show k % 2 = 1 by omega] at e1 e6
    have ix0 := hS.ix (m + 1) (by omega)
    have ix1 := hS.ix m (by omega)
    have HQ := hidb (fun W (hW : Gr w W) => And.intro ((hS.gr hW).row (m + 1) (by omega)).1 ((hS.gr hW).row m (by omega)).1)
    rw [hm] at c0 ix0 ix1 ⊢
    rw [show m + 2 - 1 = m + 1 by omega, show m + 2 - 2 = m by omega]
    have f1 : IntKind.i64.wrap (((m + 2 : Nat) : Int) - 1) = ((m + 1 : Nat) : Int) := by rw [show ((m + 2 : Nat) : Int) - 1 = ((m + 1 : Nat) : Int) by omega]; exact wr_in (by omega) (by omega)
    have f2 : IntKind.i64.wrap (((m + 2 : Nat) : Int) - 2) = (m : Int) := by rw [show ((m + 2 : Nat) : Int) - 2 = (m : Int) by omega]; exact wr_in (by omega) (by omega)
    have hW := At.new4 w (.int .i64 0) (.int .i64 0) (.int .i64 0) (.int .i64 0) 84
    have G1 := HG.out (.cells #[.int .i64 0, .int .i64 0, .int .i64 0, .int .i64 0] 84)
    have d0 := (G1.out.cell (p := ⟨b, o + i, none⟩) hb).trans c0
    have q0 := G1.out.size
    generalize sx a (m + 1) = p at *
    generalize sx a m = q at *
    generalize m + 1 = m1 at *
    generalize m + 2 = m2 at *
    clear hm
    clear HG c0 hS h hi hk hN h2 ll c e6
    go_enter Tryd.func66, Tryd.ntmps66
    go_upto_region 1 with fail
    generalize w.alloc (.cells #[.int .i64 0, .int .i64 0, .int .i64 0, .int .i64 0] 84) = W1 at *
    have FW : At ((((W1.setCell ⟨w.heap.size, 0, none⟩ (.int .i64 p.1)).setCell ⟨w.heap.size, 1, none⟩ (.int .i64 p.2)).setCell ⟨w.heap.size, 2, none⟩ (.int .i64 q.1)).setCell ⟨w.heap.size, 3, none⟩ (.int .i64 q.2)) w.heap.size [.int .i64 p.1, .int .i64 p.2, .int .i64 q.1, .int .i64 q.2] := (((hW.put 0 (.int .i64 p.1)).put 1 (.int .i64 p.2)).put 2 (.int .i64 q.1)).put 3 (.int .i64 q.2)
    obtain ⟨z0, z1, z2, z3⟩ := FW.c4
    obtain ⟨y0, y1, y2, y3⟩ := hW.c4
    have x0 : W1.frozen? ⟨w.heap.size, 0, none⟩ = false := (hW.1 0 (by simp)).2
    have x1 : W1.frozen? ⟨w.heap.size, 1, none⟩ = false := (hW.1 1 (by simp)).2
    have x2 : W1.frozen? ⟨w.heap.size, 2, none⟩ = false := (hW.1 2 (by simp)).2
    have x3 : W1.frozen? ⟨w.heap.size, 3, none⟩ = false := (hW.1 3 (by simp)).2
    clear FW
    go_upto_region 4 with fail
    refine wp_region_held_drew (S := (fun w' => (w'.cell? ⟨b', o' + m1 * 2, none⟩ = some (.int .i64 p.1) ∧ w'.cell? ⟨b', o' + m1 * 2 + 1, none⟩ = some (.int .i64 p.2)) ∧ w'.cell? ⟨b', o' + m * 2, none⟩ = some (.int .i64 q.1) ∧ w'.cell? ⟨b', o' + m * 2 + 1, none⟩ = some (.int .i64 q.2))) (by kernel_rfl) ?_ (fun hHeld => ?_)
    · (try dsimp only); (refine HQ.out _ ?_; ((with_reducible repeat' (first | assumption | refine Gr.drew ?_ | refine Gr.alloc ?_ _ | refine Gr.set ?_ (by first | omega | (simp; omega)) _ _ | exact Gr.refl _)); done))
    refine wpAnyH_take (i := 0) (v := ?vt2q0x2) rfl (by kernel_rfl) (by kernel_rfl) (by kernel_rfl) (fun _ _ _ h => h) (Or.inl ⟨by kernel_rfl, ?ht2q0x2⟩) (by assumption) ?rt2q0x2
    case ht2q0x2 => (intro w hSw; (try dsimp only at hSw); go_simp; try with_reducible rfl)
    (try simp only [Act.put, List.getElem_toArray, List.getElem_cons_zero, List.setIfInBounds_toArray, List.set_cons_zero, List.set_cons_succ])
    refine wpAnyH_take (i := 1) (v := ?vt2q1x5) rfl (by kernel_rfl) (by kernel_rfl) (by kernel_rfl) (fun _ _ _ h => h) (Or.inl ⟨by kernel_rfl, ?ht2q1x5⟩) (by assumption) ?rt2q1x5
    case ht2q1x5 => (intro w hSw; (try dsimp only at hSw); go_simp; try with_reducible rfl)
    (try simp only [Act.put, List.getElem_toArray, List.getElem_cons_zero, List.getElem_cons_succ, List.setIfInBounds_toArray, List.set_cons_zero, List.set_cons_succ])
    refine wpAnyH_take (i := 2) (v := ?vt2q2x8) rfl (by kernel_rfl) (by kernel_rfl) (by kernel_rfl) (fun _ _ _ h => h) (Or.inl ⟨by kernel_rfl, ?ht2q2x8⟩) (by assumption) ?rt2q2x8
    case ht2q2x8 => (intro w hSw; (try dsimp only at hSw); go_simp; try with_reducible rfl)
    (try simp only [Act.put, List.getElem_toArray, List.getElem_cons_zero, List.getElem_cons_succ, List.setIfInBounds_toArray, List.set_cons_zero, List.set_cons_succ])
    refine wpAnyH_take (i := 3) (v := ?vt2q3x11) rfl (by kernel_rfl) (by kernel_rfl) (by kernel_rfl) (fun _ _ _ h => h) (Or.inl ⟨by kernel_rfl, ?ht2q3x11⟩) (by assumption) ?rt2q3x11
    case ht2q3x11 => (intro w hSw; (try dsimp only at hSw); go_simp; try with_reducible rfl)
    (try simp only [Act.put, List.getElem_toArray, List.getElem_cons_zero, List.getElem_cons_succ, List.setIfInBounds_toArray, List.set_cons_zero, List.set_cons_succ])
    refine wpAnyH_take (i := 4) (v := ?vt2q4x14) rfl (by kernel_rfl) (by kernel_rfl) (by kernel_rfl) (fun _ _ _ h => h) (Or.inl ⟨by kernel_rfl, ?ht2q4x14⟩) (by assumption) ?rt2q4x14
    case ht2q4x14 => (intro w hSw; (try dsimp only at hSw); go_simp; try with_reducible rfl)
    (try simp only [Act.put, List.getElem_toArray, List.getElem_cons_zero, List.getElem_cons_succ, List.setIfInBounds_toArray, List.set_cons_zero, List.set_cons_succ])
    refine wpAnyH_take (i := 5) (v := ?vt2q5x17) rfl (by kernel_rfl) (by kernel_rfl) (by kernel_rfl) (fun _ _ _ h => h) (Or.inl ⟨by kernel_rfl, ?ht2q5x17⟩) (by assumption) ?rt2q5x17
    case ht2q5x17 => (intro w hSw; (try dsimp only at hSw); go_simp; try with_reducible rfl)
    (try simp only [Act.put, List.getElem_toArray, List.getElem_cons_zero, List.getElem_cons_succ, List.setIfInBounds_toArray, List.set_cons_zero, List.set_cons_succ])
    refine wpAnyH_take (i := 6) (v := ?vt2q6x20) rfl (by kernel_rfl) (by kernel_rfl) (by kernel_rfl) (fun _ _ _ h => h) (Or.inl ⟨by kernel_rfl, ?ht2q6x20⟩) (by assumption) ?rt2q6x20
    case ht2q6x20 => (intro w hSw; (try dsimp only at hSw); go_simp; try with_reducible rfl)
    (try simp only [Act.put, List.getElem_toArray, List.getElem_cons_zero, List.getElem_cons_succ, List.setIfInBounds_toArray, List.set_cons_zero, List.set_cons_succ])
    refine wpAnyH_take (i := 7) (v := ?vt2q7x23) rfl (by kernel_rfl) (by kernel_rfl) (by kernel_rfl) (fun _ _ _ h => h) (Or.inl ⟨by kernel_rfl, ?ht2q7x23⟩) (by assumption) ?rt2q7x23
    case ht2q7x23 => (intro w hSw; (try dsimp only at hSw); go_simp; try with_reducible rfl)
    (try simp only [Act.put, List.getElem_toArray, List.getElem_cons_zero, List.getElem_cons_succ, List.setIfInBounds_toArray, List.set_cons_zero, List.set_cons_succ])
    refine wpAnyH_take (i := 8) (v := ?vt2q8x26) rfl (by kernel_rfl) (by kernel_rfl) (by kernel_rfl) (fun _ _ _ h => h) (Or.inl ⟨by kernel_rfl, ?ht2q8x26⟩) (by assumption) ?rt2q8x26
    case ht2q8x26 => (intro w hSw; (try dsimp only at hSw); go_simp; try with_reducible rfl)
    (try simp only [Act.put, List.getElem_toArray, List.getElem_cons_zero, List.getElem_cons_succ, List.setIfInBounds_toArray, List.set_cons_zero, List.set_cons_succ])
    refine wpAnyH_take (i := 9) (v := ?vt2q9x29) rfl (by kernel_rfl) (by kernel_rfl) (by kernel_rfl) (fun _ _ _ h => h) (Or.inl ⟨by kernel_rfl, ?ht2q9x29⟩) (by assumption) ?rt2q9x29
    case ht2q9x29 => (intro w hSw; (try dsimp only at hSw); go_simp; try with_reducible rfl)
    (try simp only [Act.put, List.getElem_toArray, List.getElem_cons_zero, List.getElem_cons_succ, List.setIfInBounds_toArray, List.set_cons_zero, List.set_cons_succ])
    refine wpAnyH_take (i := 10) (v := ?vt2q10x32) rfl (by kernel_rfl) (by kernel_rfl) (by kernel_rfl) (fun _ _ _ h => h) (Or.inl ⟨by kernel_rfl, ?ht2q10x32⟩) (by assumption) ?rt2q10x32
    case ht2q10x32 => (intro w hSw; (try dsimp only at hSw); go_simp; try with_reducible rfl)
    (try simp only [Act.put, List.getElem_toArray, List.getElem_cons_zero, List.getElem_cons_succ, List.setIfInBounds_toArray, List.set_cons_zero, List.set_cons_succ])
    refine wpAnyH_take (i := 11) (v := ?vt2q11x35) rfl (by kernel_rfl) (by kernel_rfl) (by kernel_rfl) (fun _ _ _ h => h) (Or.inl ⟨by kernel_rfl, ?ht2q11x35⟩) (by assumption) ?rt2q11x35
    case ht2q11x35 => (intro w hSw; (try dsimp only at hSw); go_simp; try with_reducible rfl)
    (try simp only [Act.put, List.getElem_toArray, List.getElem_cons_zero, List.getElem_cons_succ, List.setIfInBounds_toArray, List.set_cons_zero, List.set_cons_succ])
    refine wpAnyH_take (i := 12) (v := ?vt2q12x38) rfl (by kernel_rfl) (by kernel_rfl) (by kernel_rfl) (fun _ _ _ h => h) (Or.inl ⟨by kernel_rfl, ?ht2q12x38⟩) (by assumption) ?rt2q12x38
    case ht2q12x38 => (intro w hSw; (try dsimp only at hSw); go_simp; try with_reducible rfl)
    (try simp only [Act.put, List.getElem_toArray, List.getElem_cons_zero, List.getElem_cons_succ, List.setIfInBounds_toArray, List.set_cons_zero, List.set_cons_succ])
    refine wpAnyH_ready (rs := [13]) (by kernel_rfl) (by simp) ?_
    refine AllReadyH.cons rfl (fun K hK => ?_) AllReadyH.nil
    go_simp
    refine hK.out _ _ ?_ (fun hHeld => ?_)
    · (try dsimp only); (refine HQ.out _ ?_; ((with_reducible repeat' (first | assumption | refine Gr.drew ?_ | refine Gr.alloc ?_ _ | refine Gr.set ?_ (by first | omega | (simp; omega)) _ _ | exact Gr.refl _)); done))
    clear hK K
    refine wpAnyH_done (by kernel_rfl) ?_ _
    go_wp2
    refine bodyPost_ret (v := pv (p, q)) (by simp [results, Tryd.results66, go_sem, z0, z1, z2, z3, pv]) rfl ⟨rfl, ?_⟩
    ((with_reducible repeat' (first | assumption | refine Gr.drew ?_ | refine Gr.alloc ?_ _ | refine Gr.set ?_ (by first | omega | (simp; omega)) _ _ | exact Gr.refl _)); done)
end Go.Proofs.YtnadgoomkaldkaaDoor
