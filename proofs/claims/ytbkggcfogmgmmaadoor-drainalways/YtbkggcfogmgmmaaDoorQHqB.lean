/-
  The queue in memory: drain.queue's Len, Less, Swap.
-/
import Derived.Test.YtbkggcfogmgmmaaDoorQHqA
import Derived.Test.YtbkggcfogmgmmaaDoorQDrH
import Derived.Test.YtbkggcfogmgmmaaDoorQRa
import Derived.Test.YtbkggcfogmgmmaaDoorQOn
import Derived.Deep.RegionHeldLaw
import Derived.Deep.DrawnRows
namespace Go.Proofs.YtbkggcfogmgmmaaDoor
open Go.RowKit

abbrev Wcs (p : Wt) : List Value := [.int .i64 p.1, .int .i64 (p.2 : Int)]
def qr (q : List Wt) : List Value := q.flatMap Wcs
theorem qr_snoc (q : List Wt) (p : Wt) : qr q ++ Wcs p = qr (q ++ [p]) := by simp [qr]
theorem qr_len (q : List Wt) : (qr q).length = q.length * 2 := by
  induction q with
  | nil => rfl
  | cons s l ih => simp [qr] at ih ⊢; omega
theorem qr_get : ∀ (q : List Wt) (k : Nat) (_hk : k < q.length) (j : Nat), j < 2 → (qr q)[k * 2 + j]? = (Wcs (wx q k))[j]?
  | s :: q, 0, _, j, hj => by
    match j, hj with
    | 0, _ => rfl
    | 1, _ => rfl
  | s :: q, k + 1, hk, j, hj => by
    have ih := qr_get q k (by simp at hk; omega) j hj
    rw [show (k + 1) * 2 + j = (k * 2 + j) + 2 by omega]
    exact ih
theorem qr_set : ∀ (q : List Wt) (k : Nat) (p : Wt), ((qr q).set (k * 2) (.int .i64 p.1)).set (k * 2 + 1) (.int .i64 (p.2 : Int)) = qr (q.set k p)
  | [], k, p => by simp [qr]
  | s :: q, 0, p => rfl
  | s :: q, k + 1, p => by
    have ih := qr_set q k p
    rw [show (k + 1) * 2 = k * 2 + 1 + 1 by omega]
    show Value.int .i64 s.1 :: Value.int .i64 (s.2 : Int) :: ((qr q).set (k * 2) _).set (k * 2 + 1) _ = Value.int .i64 s.1 :: Value.int .i64 (s.2 : Int) :: qr (q.set k p)
    rw [ih]
theorem qr_take (q : List Wt) (n : Nat) : (qr q).take (n * 2) = qr (q.take n) := by
  induction q generalizing n with
  | nil => simp [qr]
  | cons s q ih =>
    match n with
    | 0 => simp [qr]
    | n + 1 =>
      have := ih n
      rw [show (n + 1) * 2 = n * 2 + 1 + 1 by omega]
      show Value.int .i64 s.1 :: Value.int .i64 (s.2 : Int) :: (qr q).take (n * 2) = Value.int .i64 s.1 :: Value.int .i64 (s.2 : Int) :: qr (q.take n)
      rw [this]
/-- The queue's row, which lies in the block g. -/
def OW (w : World) (base g cap : Nat) (q : List Wt) : Prop := w.ownsRow base 122 2 (.slice (some ⟨g, 0, none⟩) q.length cap) q.length (qr q)
theorem OW.lt {w : World} {base g cap : Nat} {q : List Wt} (h : OW w base g cap q) : base ≤ g ∧ g < w.heap.size := World.ownsRow.lt h g rfl
theorem OW.cells {w : World} {base g cap : Nat} {q : List Wt} (h : OW w base g cap q) {k : Nat} (hk : k < q.length) : (w.cell? ⟨g, k * 2, none⟩ = some (.int .i64 (wx q k).1) ∧ w.cell? ⟨g, k * 2 + 1, none⟩ = some (.int .i64 ((wx q k).2 : Int))) ∧ w.frozen? ⟨g, k * 2, none⟩ = false ∧ w.frozen? ⟨g, k * 2 + 1, none⟩ = false := by
  obtain ⟨h1, h | ⟨g', c', cur, hv, hb, hg, hc, hm, hs, ht⟩⟩ := h
  · obtain ⟨hv, _⟩ := h; cases hv
  · simp only [Value.slice.injEq, Option.some.injEq, Addr.mk.injEq, and_true] at hv
    obtain ⟨rfl, _, rfl⟩ := hv
    have key : ∀ j, (hj : j < 2) → w.cell? ⟨g, k * 2 + j, none⟩ = (Wcs (wx q k))[j]? := by
      intro j hj
      have e1 : (cur.toList.take (q.length * 2))[k * 2 + j]? = (qr q)[k * 2 + j]? := by rw [ht]
      rw [List.getElem?_take, if_pos (by omega), qr_get q k hk j hj] at e1
      simp [World.cell?, hg]
      simpa using e1
    exact ⟨⟨key 0 (by decide), key 1 (by decide)⟩, by simp [World.frozen?, hg], by simp [World.frozen?, hg]⟩
theorem OW.below {w w' : World} {base g cap : Nat} {q : List Wt} (h : OW w base g cap q) (hB : Below w.heap.size w w') : OW w' base g cap q := own_keep h hB
theorem OW.drew {w : World} {base g cap : Nat} {q : List Wt} (h : OW w base g cap q) : OW w.drew base g cap q := h
theorem OW.drewN {w : World} {base g cap : Nat} {q : List Wt} (h : OW w base g cap q) (n : Nat) : OW (w.drewN n) base g cap q := h
theorem OW.put1 {w : World} {base e size g cap n : Nat} {xs : List Value} (h : w.ownsRow base e size (.slice (some ⟨g, 0, none⟩) n cap) n xs) (k : Nat) (u : Value) : (w.setCell ⟨g, k, none⟩ u).ownsRow base e size (.slice (some ⟨g, 0, none⟩) n cap) n (xs.set k u) := by
  obtain ⟨h1, h | ⟨g', c', cur, hv, hb, hg, hc, hm, hs, ht⟩⟩ := h
  · obtain ⟨hv, _⟩ := h; cases hv
  · simp only [Value.slice.injEq, Option.some.injEq, Addr.mk.injEq, and_true, true_and] at hv
    obtain ⟨rfl, rfl⟩ := hv
    refine ⟨by simpa using h1, .inr ⟨g, cap, cur.setIfInBounds k u, rfl, hb, ?_, hc, hm, by simpa using hs, ?_⟩⟩
    · simp [World.setCell, Array.getElem?_modify, hg]
    · rw [Array.toList_setIfInBounds, List.take_set, ht]
theorem OW.put {w : World} {base g cap : Nat} {q : List Wt} (h : OW w base g cap q) (k : Nat) (p : Wt) : OW ((w.setCell ⟨g, k * 2, none⟩ (.int .i64 p.1)).setCell ⟨g, k * 2 + 1, none⟩ (.int .i64 (p.2 : Int))) base g cap (q.set k p) := by
  have := OW.put1 (OW.put1 h (k * 2) (.int .i64 p.1)) (k * 2 + 1) (.int .i64 (p.2 : Int))
  rw [qr_set] at this
  unfold OW
  rw [List.length_set]
  exact this
theorem OW.swap {w : World} {base g cap : Nat} {q : List Wt} (h : OW w base g cap q) (i j : Nat) : OW ((((w.setCell ⟨g, i * 2, none⟩ (.int .i64 (wx q j).1)).setCell ⟨g, i * 2 + 1, none⟩ (.int .i64 ((wx q j).2 : Int))).setCell ⟨g, j * 2, none⟩ (.int .i64 (wx q i).1)).setCell ⟨g, j * 2 + 1, none⟩ (.int .i64 ((wx q i).2 : Int))) base g cap (wsw q i j) := (h.put i (wx q j)).put j (wx q i)
theorem windex (g n cap k : Nat) (hk : k < n) (w : World) : (Instr.indexAt 66 (.slice (some ⟨g, 0, none⟩) n cap) (.int .i64 k)).run Tryd.prog w = .ok (.pointer (some ⟨g, k * 2, none⟩)) w := by
  have hu : Tryd.prog.underlying 66 = some (.slice (Tryd.prog.elem 66)) := by kernel_rfl
  refine (run_indexAt_slice (P := Tryd.prog) (w := w) 66 ⟨g, 0, none⟩ n cap .i64 (k : Int) hu).trans ?_
  rw [if_pos ⟨by omega, by omega⟩]
  have hs : (sizeOf (Tryd.prog.elem 66)).run Tryd.prog w = .ok 2 w := by kernel_rfl
  rw [hs]
  simp [Addr.add]
  intro h; omega
theorem less_wlt (a b : Wt) : decide (orI (cmI a.1 b.1) (cmI (a.2 : Int) (b.2 : Int)) < 0) = decide (wlt a b) := by
  apply decide_eq_decide.2
  unfold orI cmI wlt
  by_cases c1 : a.1 < b.1
  · simp [c1]
  · by_cases c2 : b.1 < a.1
    · simp [c1, c2]; omega
    · have e : a.1 = b.1 := by omega
      by_cases c3 : a.2 < b.2
      · simp [e, c3]
      · by_cases c4 : b.2 < a.2
        · simp [e, c4]; omega
        · simp [e, c3, c4]
theorem len_any (ad : Option Addr) (n cap : Nat) (w : World) : Calls Tryd.prog 63 #[.slice ad n cap] w fun e w' => e = .returned (.int .i64 (n : Int)) ∧ w' = w := by
  go_enter Tryd.func63, Tryd.ntmps63
  go_wp2
  go_ret
  exact ⟨rfl, rfl⟩
end Go.Proofs.YtbkggcfogmgmmaaDoor
