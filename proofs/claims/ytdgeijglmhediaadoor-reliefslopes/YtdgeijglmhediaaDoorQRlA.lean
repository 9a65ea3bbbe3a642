/-
  relief.within, on, squareOf, square.at.
-/
import Derived.Test.YtdgeijglmhediaaDoorQFdB
import Derived.Test.YtdgeijglmhediaaDoorQFrI
import Derived.Deep.RegionHeldLaw
namespace Go.Proofs.YtdgeijglmhediaaDoor
open Go.RowKit

theorem rwithin_any (n lo hi : Int) (w : World) : Calls Tryd.prog 55 #[.int .i64 n, .int .i64 lo, .int .i64 hi] w fun e w' => e = .returned (.bool (inI lo hi n)) ∧ w' = w := by
  unfold inI
  by_cases h : lo ≤ n
  · by_cases h2 : n ≤ hi
    all_goals
      go_enter Tryd.func55, Tryd.ntmps55
      go_wp2
      go_ret
      exact ⟨by simp [h, h2], rfl⟩
  · have e1 : decide (lo ≤ n) = false := decide_eq_false h
    rw [e1]
    clear e1
    go_enter Tryd.func55, Tryd.ntmps55
    go_wp2
    go_ret
    exact ⟨by simp, rfl⟩
/-- A cell's height; a raster that is right. -/
def gl (l : List Int) (i : Nat) : Int := l.getD i 0
theorem gl_get {l : List Int} {i : Nat} (h : i < l.length) : l[i] = gl l i := by unfold gl; simp [h]
structure Ok (l : List Int) (m n : Nat) : Prop where
  m1 : 1 ≤ m
  m2 : m ≤ 128
  n1 : 1 ≤ n
  n2 : n ≤ 128
  len : l.length = m * n
  hi : ∀ i, hiI (gl l i)
theorem hi_gl {l : List Int} (h : ∀ x ∈ l, hiI x) (i : Nat) : hiI (gl l i) := by
  by_cases c : i < l.length
  · rw [← gl_get c]; exact h _ (List.getElem_mem c)
  · unfold gl; rw [List.getD_eq_getElem?_getD, List.getElem?_eq_none (by omega)]; decide
theorem ok_of {W H : Int} {l : List Int} (h : vcode W H l = 0) : ∃ m n : Nat, W = m ∧ H = n ∧ Ok l m n := by
  unfold vcode at h
  split at h
  · cases h
  · rename_i h1
    split at h
    · cases h
    · rename_i h2
      split at h
      · rename_i h3
        have h4 : (l.length : Int) = W * H := Classical.not_not.1 (fun k => h2 (.inr k))
        refine ⟨W.toNat, H.toNat, by omega, by omega, by omega, by omega, by omega, by omega, ?_, hi_gl h3⟩
        have e1 : ((W.toNat : Nat) : Int) = W := by omega
        have e2 : ((H.toNat : Nat) : Int) = H := by omega
        have : (l.length : Int) = ((W.toNat * H.toNat : Nat) : Int) := by rw [Int.natCast_mul, e1, e2]; exact h4
        omega
      · cases h
theorem Ok.len_le {l : List Int} {m n : Nat} (h : Ok l m n) : l.length ≤ 16384 := by
  rw [h.len]; exact Nat.mul_le_mul h.m2 h.n2
theorem Ok.cell {l : List Int} {m n c r : Nat} (h : Ok l m n) (hc : c < m) (hr : r < n) : r * m + c < l.length := by
  rw [h.len]
  have : (r + 1) * m ≤ n * m := Nat.mul_le_mul_right m hr
  rw [Nat.add_mul, Nat.mul_comm n m] at this
  omega
/-- A slice of whole numbers that lies in its block, and may be cut. -/
structure Rs (w : World) (b o cap : Nat) (l : List Int) : Prop where
  row : ∀ i, (h : i < l.length) → w.cell? ⟨b, o + i, none⟩ = some (.int .i64 l[i])
  lt : b < w.heap.size
  cap : l.length ≤ cap
theorem Rs.below {W w' : World} {b o cap : Nat} {l : List Int} (h : Rs W b o cap l) (hB : Below W.heap.size W w') : Rs w' b o cap l :=
  ⟨fun i hi => (hB.cell (p := ⟨b, o + i, none⟩) h.lt).trans (h.row i hi), Nat.lt_of_lt_of_le h.lt hB.size, h.cap⟩
theorem Rs.isl {w : World} {b o cap : Nat} {l : List Int} (h : Rs w b o cap l) : ISl w (some ⟨b, o, none⟩) b o cap l := ISl.mk' h.row h.lt
theorem Rs.get {w : World} {b o cap : Nat} {l : List Int} (h : Rs w b o cap l) {i : Nat} (hi : i < l.length) : w.cell? ⟨b, o + i, none⟩ = some (.int .i64 (gl l i)) := by rw [← gl_get hi]; exact h.row i hi
theorem islice (b o n cap k : Nat) (h1 : k < n) (h2 : n ≤ cap) (w : World) : (Instr.slice 25 (.slice (some ⟨b, o, none⟩) n cap) (some (.int .i64 (k : Int))) none none).run Tryd.prog w = .ok (.slice (some ⟨b, o + k, none⟩) (n - k) (cap - k)) w := by
  have hu : Tryd.prog.underlying 25 = some (.slice (Tryd.prog.elem 25)) := by kernel_rfl
  have hs : (sizeOf (Tryd.prog.elem 25)).run Tryd.prog w = .ok 1 w := by kernel_rfl
  rw [run_slice_l w 25 _ _ _ hu .i64 _ (by omega) (by omega), hs]
  have hne : ¬ cap = k := by omega
  by_cases h0 : k = 0
  · subst h0
    simp [Result.andThen, sliced, Addr.add, hne]
  · simp [Result.andThen, sliced, Addr.add, hne, h0]
abbrev spV (x y : Int) : Value := .agg #[.int .i64 x, .int .i64 y]
abbrev sqV (a b c d : Int) : Value := .agg #[.int .i64 a, .int .i64 b, .int .i64 c, .int .i64 d]
def onI (m n : Nat) (x y : Int) : Bool := inI 0 (256 * ((m : Int) - 1)) x && inI (-256 * ((n : Int) - 1)) 0 y
set_option maxRecDepth 4000 in
set_option maxHeartbeats 4000000 in
theorem on_any (m n : Nat) (hm : m ≤ 128) (hn : n ≤ 128) (v : Value) (x y : Int) (w : World) : Calls Tryd.prog 53 #[raV m n v, spV x y] w fun e w' => e = .returned (.bool (onI m n x y)) ∧ Gr w w' := by
  obtain ⟨m1, hm1, e1⟩ : ∃ z : Int, z = (m : Int) - 1 ∧ IntKind.i64.wrap ((m : Int) - 1) = z := ⟨_, rfl, wrap_in (by omega) (by omega)⟩
  obtain ⟨n1, hn1, e3⟩ : ∃ z : Int, z = (n : Int) - 1 ∧ IntKind.i64.wrap ((n : Int) - 1) = z := ⟨_, rfl, wrap_in (by omega) (by omega)⟩
  obtain ⟨m2, hm2, e2⟩ : ∃ z : Int, z = 256 * m1 ∧ IntKind.i64.wrap (256 * m1) = z := ⟨_, rfl, wrap_in (by omega) (by omega)⟩
  obtain ⟨n2, hn2, e4⟩ : ∃ z : Int, z = -256 * n1 ∧ IntKind.i64.wrap (-256 * n1) = z := ⟨_, rfl, wrap_in (by omega) (by omega)⟩
  unfold onI
  rw [← hm1, ← hn1, ← hm2, ← hn2]
  have C1 := hidb (fun w => rwithin_any x 0 m2 w)
  have C2 := hidb (fun w => rwithin_any y n2 0 w)
  have G0 := hidb (((Gr.refl w).alloc (.cells #[.int .i64 m, .int .i64 n, v] 27)).alloc (.cells #[.int .i64 x, .int .i64 y] 40))
  clear hm hn hm1 hn1 hm2 hn2
  generalize inI 0 m2 x = b1 at *
  generalize inI n2 0 y = b2 at *
  cases b1
  · go_enter Tryd.func53, Tryd.ntmps53
    go_wp2_with fail
    refine (C1.out _).mono ?_
    rintro e w1 ⟨rfl, rfl⟩
    go_wp2
    go_ret
    exact ⟨rfl, G0.out⟩
  · go_enter Tryd.func53, Tryd.ntmps53
    go_wp2_with fail
    refine (C1.out _).mono ?_
    rintro e w1 ⟨rfl, rfl⟩
    go_wp2_with fail
    refine (C2.out _).mono ?_
    rintro e w1 ⟨rfl, rfl⟩
    go_wp2
    go_ret
    exact ⟨rfl, G0.out⟩
/-- 256 times the height at a point of a square; the square's four heights. -/
def rise (a b c d u v : Int) : Int := if u < v then a * 256 + (v * (c - a) + u * (d - c)) else a * 256 + (u * (b - a) + v * (d - b))
end Go.Proofs.YtdgeijglmhediaaDoor
