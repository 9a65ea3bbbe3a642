/-
  drain.queue's Less and Swap.
-/
import Derived.Test.YtbkggcfogmgmmaaDoorQHqB
namespace Go.Proofs.YtbkggcfogmgmmaaDoor
open Go.RowKit
attribute [local go_sem ↓] Go.wp_at_zero Go.wp_at_succ

/-- Four cells of a block. -/
def L4 (w : World) (g a b c d : Nat) (x y z u : Value) : Prop := (w.cell? ⟨g, a, none⟩ = some x ∧ w.cell? ⟨g, b, none⟩ = some y ∧ w.cell? ⟨g, c, none⟩ = some z ∧ w.cell? ⟨g, d, none⟩ = some u) ∧ g < w.heap.size
theorem L4.out {w : World} {g a b c d : Nat} {x y z u : Value} (h : L4 w g a b c d x y z u) : w.cell? ⟨g, a, none⟩ = some x ∧ w.cell? ⟨g, b, none⟩ = some y ∧ w.cell? ⟨g, c, none⟩ = some z ∧ w.cell? ⟨g, d, none⟩ = some u := h.1
theorem L4.drew {w : World} {g a b c d : Nat} {x y z u : Value} (h : L4 w g a b c d x y z u) : L4 w.drew g a b c d x y z u := h
theorem L4.below {w w' : World} {g a b c d : Nat} {x y z u : Value} (h : L4 w g a b c d x y z u) (hB : Below w.heap.size w w') : L4 w' g a b c d x y z u :=
  ⟨⟨(hB.cell (p := ⟨g, a, none⟩) h.2).trans h.1.1, (hB.cell (p := ⟨g, b, none⟩) h.2).trans h.1.2.1, (hB.cell (p := ⟨g, c, none⟩) h.2).trans h.1.2.2.1, (hB.cell (p := ⟨g, d, none⟩) h.2).trans h.1.2.2.2⟩, Nat.lt_of_lt_of_le h.2 hB.size⟩
theorem L4.alloc {w : World} {g a b c d : Nat} {x y z u : Value} (h : L4 w g a b c d x y z u) (o : Obj) : L4 (w.alloc o) g a b c d x y z u := h.below ((Below.refl _ _).alloc (Nat.le_refl _) o)
set_option maxRecDepth 4000 in
set_option maxHeartbeats 8000000 in
theorem less_any {base g cap : Nat} {q : List Wt} (i j n : Nat) (hn : n = q.length) (hi : i < q.length) (hj : j < q.length) (w : World) (h : OW w base g cap q) : Calls Tryd.prog 110 #[.slice (some ⟨g, 0, none⟩) n cap, .int .i64 (i : Int), .int .i64 (j : Int)] w fun e w' => e = .returned (.bool (decide (wlt (wx q i) (wx q j)))) ∧ Gr w w' := by
  obtain ⟨⟨c1, c2⟩, -, -⟩ := h.cells hi
  obtain ⟨⟨c3, c4⟩, -, -⟩ := h.cells hj
  have ix := windex g n cap i (by omega)
  have jx := windex g n cap j (by omega)
  have HL := hidb (less_wlt (wx q i) (wx q j))
  generalize wx q i = p1 at *
  generalize wx q j = p2 at *
  obtain ⟨l1, x1⟩ := p1
  obtain ⟨l2, x2⟩ := p2
  dsimp only at c1 c2 c3 c4 HL
  obtain ⟨iI, hiI'⟩ : ∃ z : Int, z = (i : Int) := ⟨_, rfl⟩
  obtain ⟨jI, hjI'⟩ : ∃ z : Int, z = (j : Int) := ⟨_, rfl⟩
  obtain ⟨y1, hy1⟩ : ∃ z : Int, z = (x1 : Int) := ⟨_, rfl⟩
  obtain ⟨y2, hy2⟩ : ∃ z : Int, z = (x2 : Int) := ⟨_, rfl⟩
  rw [← hiI'] at ix ⊢
  rw [← hjI'] at jx ⊢
  rw [← hy1] at c2 HL
  rw [← hy2] at c4 HL
  obtain ⟨r, hr⟩ : ∃ z : Bool, z = decide (wlt (l1, x1) (l2, x2)) := ⟨_, rfl⟩
  rw [← hr] at HL ⊢
  have KK : L4 w g (i * 2) (i * 2 + 1) (j * 2) (j * 2 + 1) (.int .i64 l1) (.int .i64 y1) (.int .i64 l2) (.int .i64 y2) := ⟨⟨c1, c2, c3, c4⟩, h.lt.2⟩
  clear h hn hi hj hiI' hjI' hy1 hy2 hr c1 c2 c3 c4
  go_enter Tryd.func110, Tryd.ntmps110
  go_upto_region 1 with fail
  go_region_held (fun w' => w'.cell? ⟨g, i * 2, none⟩ = some (.int .i64 l1) ∧ w'.cell? ⟨g, i * 2 + 1, none⟩ = some (.int .i64 y1) ∧ w'.cell? ⟨g, j * 2, none⟩ = some (.int .i64 l2) ∧ w'.cell? ⟨g, j * 2 + 1, none⟩ = some (.int .i64 y2))
    (with_reducible first | exact KK.out | exact KK.drew.out | exact (KK.alloc _).out | exact (KK.alloc _).drew.out | exact (KK.drew.alloc _).out)
    ((first | (go_at_call 113; with_reducible refine (compare_any _ _ _).mono ?_; rintro e w9 ⟨rfl, rfl⟩) | (go_at_call 112; (with_reducible first | refine (or_any _ _ _ _ (At.new2 _ _ _ _)).mono ?_ | refine (or_any _ _ _ _ (At.new2 _ _ _ _).drew).mono ?_); rintro e w9 ⟨rfl, rfl⟩)))
  all_goals
    go_wp2
    go_ret
    exact ⟨by rw [← HL.out]; rfl, by ((with_reducible repeat' (first | assumption | refine Gr.drewN ?_ _ | refine Gr.drew ?_ | refine Gr.alloc ?_ _ | exact Gr.refl _)); done)⟩
set_option maxRecDepth 4000 in
set_option maxHeartbeats 8000000 in
theorem swap_any {base g cap : Nat} {q : List Wt} (i j n : Nat) (hn : n = q.length) (hi : i < q.length) (hj : j < q.length) (w : World) (h : OW w base g cap q) : Calls Tryd.prog 111 #[.slice (some ⟨g, 0, none⟩) n cap, .int .i64 (i : Int), .int .i64 (j : Int)] w fun e w' => e = .returned (.tuple #[]) ∧ OW w' base g cap (wsw q i j) ∧ Onl g w w' := by
  obtain ⟨⟨c1, c2⟩, f1, f2⟩ := h.cells hi
  obtain ⟨⟨c3, c4⟩, f3, f4⟩ := h.cells hj
  have ix := windex g n cap i (by omega)
  have jx := windex g n cap j (by omega)
  have HS := hidb (h.swap i j)
  have HO := hidb ((((Onl.refl g w).set (i * 2) (.int .i64 (wx q j).1)).set (i * 2 + 1) (.int .i64 ((wx q j).2 : Int))).set (j * 2) (.int .i64 (wx q i).1) |>.set (j * 2 + 1) (.int .i64 ((wx q i).2 : Int)))
  generalize wsw q i j = q2 at *
  generalize wx q i = p1 at *
  generalize wx q j = p2 at *
  obtain ⟨l1, x1⟩ := p1
  obtain ⟨l2, x2⟩ := p2
  dsimp only at c1 c2 c3 c4 HS HO
  obtain ⟨iI, hiI'⟩ : ∃ z : Int, z = (i : Int) := ⟨_, rfl⟩
  obtain ⟨jI, hjI'⟩ : ∃ z : Int, z = (j : Int) := ⟨_, rfl⟩
  obtain ⟨y1, hy1⟩ : ∃ z : Int, z = (x1 : Int) := ⟨_, rfl⟩
  obtain ⟨y2, hy2⟩ : ∃ z : Int, z = (x2 : Int) := ⟨_, rfl⟩
  rw [← hiI'] at ix ⊢
  rw [← hjI'] at jx ⊢
  rw [← hy1] at c2 HS HO
  rw [← hy2] at c4 HS HO
  by_cases hij : i = j
  · subst hij
    have e1 : l1 = l2 := by have := c1.symm.trans c3; simpa using this
    have e2 : y1 = y2 := by have := c2.symm.trans c4; simpa using this
    subst e1
    clear hy2
    subst e2
    clear c3 c4
    clear h hn hi hj hiI' hjI' hy1
    go_enter Tryd.func111, Tryd.ntmps111
    go_region_law (fail)
    all_goals
      go_wp2
      refine bodyPost_end (results_none rfl _ _ _) rfl ⟨rfl, ?_, ?_⟩
      · with_reducible first | exact HS.out | exact HS.out.drew
      · with_reducible first | exact HO.out | exact HO.out.drew
  · have n1 : ¬ i * 2 = j * 2 := by omega
    have n2 : ¬ i * 2 = j * 2 + 1 := by omega
    have n3 : ¬ i * 2 + 1 = j * 2 := by omega
    have n4 : ¬ j * 2 = i * 2 := by omega
    have n5 : ¬ j * 2 = i * 2 + 1 := by omega
    have n6 : ¬ j * 2 + 1 = i * 2 := by omega
    clear h hn hi hj hiI' hjI' hy1 hy2
    go_enter Tryd.func111, Tryd.ntmps111
    go_region_law (fail)
    all_goals
      go_wp2
      refine bodyPost_end (results_none rfl _ _ _) rfl ⟨rfl, ?_, ?_⟩
      · with_reducible first | exact HS.out | exact HS.out.drew
      · with_reducible first | exact HO.out | exact HO.out.drew
end Go.Proofs.YtbkggcfogmgmmaaDoor
