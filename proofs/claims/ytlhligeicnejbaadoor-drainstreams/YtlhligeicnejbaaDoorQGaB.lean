/-
  slices.Backward over whole numbers: its contract, for loops whose body leaves what lay below, and the iterator's own box.
-/
import Derived.Test.YtlhligeicnejbaaDoorQGaA
import Derived.RangeFuncNested
import Derived.RangeFuncBound
import Derived.RangeFuncCalls
import Derived.RangeFuncLeaves
import Derived.RangeFuncBox
import Derived.Shelf.Abstract
import Derived.Shelf.RegionOpen
import Derived.WalkKit
import Derived.OwnWalkIn
import Derived.TacticsInMore
import Derived.LoopNIn
import Derived.LoopIn
namespace Go.Proofs.YtlhligeicnejbaaDoor
open Go.RowKit Go.Shelf
attribute [local go_sem] Oper.semAt_some

/-- What a round keeps: all below n₀, and the cell in which the iterator holds its slice. -/
def KpB (n₀ Bs : Nat) (W W' : World) : Prop := Below n₀ W W' ∧ ∀ v, W.cell? ⟨Bs, 0, none⟩ = some v → W'.cell? ⟨Bs, 0, none⟩ = some v
theorem KpB.refl (n₀ Bs : Nat) (W : World) : KpB n₀ Bs W W := ⟨Below.refl _ _, fun _ h => h⟩
theorem KpB.trans {n₀ Bs : Nat} {A B C : World} (h : KpB n₀ Bs A B) (k : KpB n₀ Bs B C) : KpB n₀ Bs A C := ⟨h.1.trans k.1, fun v hv => k.2 v (h.2 v hv)⟩
theorem KpB.put {n₀ Bs : Nat} {w : World} (hn : n₀ ≤ w.heap.size) (W : World) (l : Nat) (o o' : Obj) (hl : w.heap.size ≤ l) (h : W.heap[l]? = some o) (h1 : o.isCells = false) (h2 : o.isWalk = false) : KpB n₀ Bs W (W.putObj l o') :=
  ⟨belowK_b hn W l o o' hl h h1 h2, fun _ hv => cell_kept hv (grownBy_putObj' W l o') (fun r e => by cases e; exact ⟨o, h, h1⟩)⟩
set_option maxRecDepth 100000 in
set_option maxHeartbeats 4000000 in
theorem back1_in (F : Fence) (n : Nat) (h68 : F.fn 31) (hro : F.round = none) (hn : 1 ≤ n) (lp Bs n₀ b N cap : Nat) (f1 f2 : Nat → Int) (hN : N ≤ 20000) (hb : b < n₀) (J Jx : List Nat → World → Prop)
    (hf : ∀ k, k < N → f1 k = (N : Int) - 1 - k)
    (hY : ∀ pre x W, J pre W → pre.length < N → YieldAt F (n - 1) Tryd.prog lp #[.int .i64 (f1 x), .int .i64 (f2 x)] W fun e W' =>
      (e = .returned (.bool true) ∧ J (pre ++ [x]) W' ∧ KpB n₀ Bs W W') ∨ (e = .returned (.bool false) ∧ Jx (pre ++ [x]) W'))
    (W : World) (hBs : W.cell? ⟨Bs, 0, none⟩ = some (.slice (some ⟨b, 0, none⟩) N cap)) (hc : ∀ k, k < N → W.cell? ⟨b, N - 1 - k, none⟩ = some (.int .i64 (f2 k))) (h0 : J [] W) :
    CallsIn F n Tryd.prog 31 #[.func (.yield lp) #[] #[], .pointer (some ⟨Bs, 0, none⟩)] W fun e W' => (∃ v, e = .returned v) ∧ ((∃ ys, ys = List.range N ∧ J ys W') ∨ (∃ pre, True ∧ Jx pre W')) := by
  have e0 : IntKind.i64.wrap ((N : Int) - 1) = (N : Int) - 1 := wrap_in (by omega) (by omega)
  obtain ⟨n1, hn1⟩ : ∃ z : Int, z = (N : Int) - 1 := ⟨_, rfl⟩
  rw [← hn1] at e0
  refine callsIn_of_wp Tryd.func31 rfl h68 ?_ hro
  simp only [Tryd.ntmps31, List.size_toArray, List.length_cons, List.length_nil, Nat.reduceAdd, Nat.reduceSub, Array.replicate_succ, Array.replicate_zero, List.push_toArray, List.append_toArray, List.nil_append, List.cons_append]
  rw [← hn1] at *
  gi_wp2
  gi_loopw [3] (fun i wr => ∃ k : Nat, k ≤ N ∧ i = .int .i64 ((N : Int) - 1 - k) ∧ J (List.range k) wr ∧ KpB n₀ Bs W wr) (fun i _ => (intOf i + 1).toNat)
  case atStart => exact ⟨0, Nat.zero_le _, by simp, h0, KpB.refl _ _ _⟩
  case round =>
    obtain ⟨k, hk, rfl, hJs, hnx⟩ := hrel
    have hBx := hnx.2 _ hBs
    by_cases hlt : k < N
    · have hcx := (hnx.1.cell (p := ⟨b, N - 1 - k, none⟩) hb).trans (hc k hlt)
      obtain ⟨fn, tmps, assign, body, hy, hR⟩ := hY _ k wr hJs (by rw [List.length_range]; exact hlt)
      have h1 : f1 k = (N : Int) - 1 - k := hf k hlt
      have ix := iindex b 0 N cap (N - 1 - k) (by omega)
      rw [Nat.zero_add, show ((N - 1 - k : Nat) : Int) = (N : Int) - 1 - k by omega] at ix
      have e1 : IntKind.i64.wrap ((N : Int) - 1 - k - 1) = (N : Int) - 1 - ((k + 1 : Nat) : Int) := by rw [show (N : Int) - 1 - k - 1 = (N : Int) - 1 - ((k + 1 : Nat) : Int) by omega]; exact wrap_in (by omega) (by omega)
      have h2 : (0 : Int) ≤ (N : Int) - 1 - k := by omega
      have HM := hidb (show k < N from hlt)
      have hsn : List.range k ++ [k] = List.range (k + 1) := List.range_succ.symm
      rw [h1] at hy
      obtain ⟨x1, hx1⟩ : ∃ z : Int, z = (N : Int) - 1 - k := ⟨_, rfl⟩
      obtain ⟨x2, hx2⟩ : ∃ z : Int, z = (N : Int) - 1 - ((k + 1 : Nat) : Int) := ⟨_, rfl⟩
      rw [← hx1] at hy ix e1 h2 ⊢
      rw [← hx2] at e1
      have HX := hidb (show x1 = (N : Int) - 1 - k ∧ x2 = (N : Int) - 1 - ((k + 1 : Nat) : Int) from ⟨hx1, hx2⟩)
      generalize f2 k = y at *
      clear hx1 hx2 h1 hlt hn1 e0
      gi_wp2
      refine hR.mono ?_
      rintro e W3 (⟨rfl, hJ3, hk3⟩ | ⟨rfl, hJx3⟩)
      · gi_wp2
        go_roundw
        case rel => exact ⟨k + 1, HM.out, by rw [← HX.out.2], by rw [← hsn]; exact hJ3, hnx.trans hk3⟩
        case measure => have := HX.out; have := HM.out; simp [intOf]; omega
      · gi_wp2
        refine bodyPost_ret (results_none rfl _ _ _) rfl ?_
        exact ⟨⟨_, rfl⟩, .inr ⟨_, trivial, hJx3⟩⟩
    · obtain rfl : k = N := by omega
      have h2 : ¬ (0 : Int) ≤ (k : Int) - 1 - k := by omega
      gi_wp2
      go_end0
      exact ⟨⟨_, rfl⟩, .inl hJs⟩
set_option maxHeartbeats 1000000 in
theorem back_in (F : Fence) (n : Nat) (h47 : F.fn 18) (hro : F.round = none) (a : Option Addr) (len cap : Nat) (w : World) :
    CallsIn F n Tryd.prog 18 #[.slice a len cap] w fun e w' => e = .returned (.func (.func 31) #[] #[.pointer (some ⟨w.heap.size, 0, none⟩)]) ∧ w' = w.alloc (.cells #[.slice a len cap] 30) := by
  refine callsIn_of_wp Tryd.func18 rfl h47 ?_ hro
  simp only [Tryd.ntmps18, List.size_toArray, List.length_cons, List.length_nil, Nat.reduceAdd, Nat.reduceSub, Array.replicate_succ, Array.replicate_zero, List.push_toArray, List.append_toArray, List.nil_append, List.cons_append]
  gi_wp2
  go_ret
  exact ⟨rfl, rfl⟩
theorem back_stops (F : Fence) (n : Nat) (h68 : F.fn 31) (hro : F.round = none) (hn : 1 ≤ n) (Bs n₀ b N cap : Nat) (f1 f2 : Nat → Int) (hN : N ≤ 20000) (w : World) (hb : b < n₀) (hBs : Bs < w.heap.size) (hn₀ : n₀ ≤ w.heap.size)
    (hf : ∀ k, k < N → f1 k = (N : Int) - 1 - k) (hc : w.cell? ⟨Bs, 0, none⟩ = some (.slice (some ⟨b, 0, none⟩) N cap)) (hI : ∀ k, k < N → w.cell? ⟨b, N - 1 - k, none⟩ = some (.int .i64 (f2 k))) :
    SeqStopsK F n Tryd.prog 31 #[.pointer (some ⟨Bs, 0, none⟩)] (fun x : Nat => #[Value.int .i64 (f1 x), Value.int .i64 (f2 x)]) (KpB n₀ Bs) (fun ys => ys = List.range N) (fun _ => True) N w := fun l J Jx W hW _ _ hY h0 =>
  back1_in F n h68 hro hn l Bs n₀ b N cap f1 f2 hN hb J Jx hf hY W ((hW.cell (p := ⟨Bs, 0, none⟩) hBs).trans hc) (fun k hk => (hW.cell (p := ⟨b, N - 1 - k, none⟩) (show b < w.heap.size by omega)).trans (hI k hk)) h0
end Go.Proofs.YtlhligeicnejbaaDoor
