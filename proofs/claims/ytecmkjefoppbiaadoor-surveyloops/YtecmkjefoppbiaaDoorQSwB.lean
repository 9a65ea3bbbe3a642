/-
  Surveys: the sums of the equations, in memory.
-/
import Derived.Test.YtecmkjefoppbiaaDoorQSwA
import Derived.Test.YtecmkjefoppbiaaDoorQWhP
namespace Go.Proofs.YtecmkjefoppbiaaDoor
open Go.RowKit
attribute [local go_sem ↓] Go.wp_at_zero Go.wp_at_succ

/-- A number more in one place. -/
def pt2 (i j : Nat) (d : Int) (a b : Nat) : Int := if a = i ∧ b = j then d else 0
/-- What one that was seen adds to the sums. -/
def dlt (M : Nat) (x : Sn) (a b : Nat) : Int :=
  pt2 x.f.toNat x.f.toNat x.w a b + pt2 x.f.toNat x.t.toNat (-x.w) a b + pt2 x.f.toNat M (-(x.w * x.u)) a b + pt2 x.t.toNat x.t.toNat x.w a b + pt2 x.t.toNat x.f.toNat (-x.w) a b + pt2 x.t.toNat M (x.w * x.u) a b
def eqM (l : List Sn) (M : Nat) : Nat → Nat → Nat → Int
  | 0, _, _ => 0
  | k + 1, a, b => eqM l M k a b + dlt M (snX l k) a b
theorem pt2_bd (i j : Nat) {d D : Int} (h : -D ≤ d ∧ d ≤ D) (h0 : 0 ≤ D) (a b : Nat) : -D ≤ pt2 i j d a b ∧ pt2 i j d a b ≤ D := by
  unfold pt2
  split <;> omega
theorem wu_bd {w u : Int} (h1 : 1 ≤ w) (h2 : w ≤ 1000) (h3 : -1048576 ≤ u) (h4 : u ≤ 1048576) : -1048576000 ≤ w * u ∧ w * u ≤ 1048576000 := by
  constructor
  · rcases Int.le_total 0 u with c | c
    · have := Int.mul_nonneg (show 0 ≤ w by omega) c; omega
    · have h : w * (-u) ≤ 1000 * 1048576 := Int.mul_le_mul h2 (by omega) (by omega) (by omega)
      rw [Int.mul_neg] at h; omega
  · rcases Int.le_total 0 u with c | c
    · have h : w * u ≤ 1000 * 1048576 := Int.mul_le_mul h2 h4 c (by omega)
      omega
    · have h : 0 ≤ w * (-u) := Int.mul_nonneg (by omega) (by omega)
      rw [Int.mul_neg] at h; omega
theorem dlt_bd {M : Nat} {x : Sn} (h : fitP M x) (a b : Nat) : -6291456000 ≤ dlt M x a b ∧ dlt M x a b ≤ 6291456000 := by
  obtain ⟨-, -, -, h1, h2, h3, h4⟩ := h
  have hp := wu_bd h1 h2 h3 h4
  have b1 := pt2_bd x.f.toNat x.f.toNat (d := x.w) (D := 1048576000) (by omega) (by omega) a b
  have b2 := pt2_bd x.f.toNat x.t.toNat (d := -x.w) (D := 1048576000) (by omega) (by omega) a b
  have b3 := pt2_bd x.f.toNat M (d := -(x.w * x.u)) (D := 1048576000) (by omega) (by omega) a b
  have b4 := pt2_bd x.t.toNat x.t.toNat (d := x.w) (D := 1048576000) (by omega) (by omega) a b
  have b5 := pt2_bd x.t.toNat x.f.toNat (d := -x.w) (D := 1048576000) (by omega) (by omega) a b
  have b6 := pt2_bd x.t.toNat M (d := x.w * x.u) (D := 1048576000) hp (by omega) a b
  unfold dlt
  omega
theorem eqM_bd {l : List Sn} {M : Nat} (hF : FT M l) (a b : Nat) : ∀ k : Nat, k ≤ l.length → -(6291456000 * (k : Int)) ≤ eqM l M k a b ∧ eqM l M k a b ≤ 6291456000 * (k : Int)
  | 0, _ => by simp [eqM]
  | k + 1, hk => by
    have h1 := eqM_bd hF a b k (by omega)
    have h2 := dlt_bd (hF k (by omega)) a b
    unfold eqM
    push_cast
    omega
/-- A row of the sums. -/
def rowS (M : Nat) (f : Nat → Int) : List Int := (List.range (M + 1)).map f
theorem rowS_len (M : Nat) (f : Nat → Int) : (rowS M f).length = M + 1 := by simp [rowS]
theorem rowS_set {M : Nat} {f g : Nat → Int} {j : Nat} {x : Int} (hj : j ≤ M) (hg : g j = x) (ho : ∀ b, ¬ b = j → g b = f b) : (rowS M f).set j x = rowS M g := by
  apply List.ext_getElem
  · simp [rowS]
  · intro n h1 h2
    rw [List.getElem_set]
    split
    · subst_vars; simp [rowS]
    · simp [rowS, ho n (by omega)]
theorem rowS_congr {M : Nat} {f g : Nat → Int} (h : ∀ b, b ≤ M → f b = g b) : rowS M f = rowS M g := by
  apply List.ext_getElem
  · simp [rowS]
  · intro n h1 h2
    have : n < M + 1 := by simpa [rowS] using h1
    simp [rowS, h n (by omega)]
theorem rowS_zero (M : Nat) : rowS M (fun _ => 0) = List.replicate (M + 1) 0 := by
  apply List.ext_getElem
  · simp [rowS]
  · intro n h1 h2
    simp [rowS]
def slL (SB M k : Nat) : List Value := (List.range M).map fun i => if i < k then .slice (some ⟨SB + 1 + i, 0, none⟩) (M + 1) (M + 1) else .slice none 0 0
/-- The sums in memory: so many rows are made. -/
structure EQ (w W : World) (XB SB M k : Nat) (bx : List Value) (f : Nat → Nat → Int) : Prop where
  x : At W XB bx
  a : At W SB (slL SB M k)
  r : ∀ i, i < k → At W (SB + 1 + i) (ir (rowS M (f i)))
  gr : Gr w W
  b : w.heap.size ≤ XB ∧ XB < SB
section
variable {w W w' : World} {XB SB M k : Nat} {bx : List Value} {f g : Nat → Nat → Int}
theorem EQ.below (h : EQ w W XB SB M k bx f) (hB : Below W.heap.size W w') : EQ w w' XB SB M k bx f :=
  ⟨At.below hB h.x, At.below hB h.a, fun i hi => At.below hB (h.r i hi), Gr.step h.gr hB, h.b⟩
theorem EQ.drew (h : EQ w W XB SB M k bx f) : EQ w W.drew XB SB M k bx f := ⟨h.x, h.a, h.r, h.gr.drew, h.b⟩
theorem EQ.drewN (h : EQ w W XB SB M k bx f) (n : Nat) : EQ w (W.drewN n) XB SB M k bx f := ⟨h.x.drewN n, h.a.drewN n, fun i hi => (h.r i hi).drewN n, h.gr.drewN n, h.b⟩
theorem EQ.put (h : EQ w W XB SB M k bx f) {i j : Nat} (_hi : i < k) (hj : j ≤ M) (x : Int) (hg : g i j = x) (ho : ∀ a b, ¬ (a = i ∧ b = j) → g a b = f a b) : EQ w (W.setCell ⟨SB + 1 + i, j, none⟩ (.int .i64 x)) XB SB M k bx g := by
  obtain ⟨b1, b2⟩ := h.b
  refine ⟨h.x.skip (by omega) _ _, h.a.skip (by omega) _ _, fun a ha => ?_, h.gr.set (by omega) _ _, h.b⟩
  by_cases e : a = i
  · subst e
    have := (h.r a ha).put j (.int .i64 x)
    rw [ir_put, rowS_set hj hg (fun b hb => ho a b (fun q => hb q.2))] at this
    exact this
  · rw [rowS_congr (f := g a) (g := f a) (fun b _ => ho a b (fun q => e q.1))]
    exact (h.r a ha).skip (by omega) _ _
theorem EQ.cell (h : EQ w W XB SB M k bx f) {i j : Nat} (hi : i < k) (hj : j ≤ M) : W.cell? ⟨SB + 1 + i, j, none⟩ = some (.int .i64 (f i j)) ∧ W.frozen? ⟨SB + 1 + i, j, none⟩ = false := by
  have := (h.r i hi).1 j (by simp [ir, rowS]; omega)
  simpa [ir, rowS] using this
theorem EQ.row (h : EQ w W XB SB M k bx f) {i : Nat} (hi : i < k) (hk : k ≤ M) : W.cell? ⟨SB, i, none⟩ = some (.slice (some ⟨SB + 1 + i, 0, none⟩) (M + 1) (M + 1)) := by
  have := (h.a.1 i (by simp [slL]; omega)).1
  simpa [slL, hi] using this
theorem EQ.congr (h : EQ w W XB SB M k bx f) (e : ∀ a b, f a b = g a b) : EQ w W XB SB M k bx g := by
  have : f = g := funext fun a => funext fun b => e a b
  rw [← this]; exact h
end
theorem undSS : Tryd.prog.underlying 27 = some (.slice 28) := by kernel_rfl
theorem made_runR (K : Nat) (hK : K ≤ 20000) : ∃ CS : Array Value, CS.toList = List.replicate K (.slice none 0 0) ∧ ∀ w, (Instr.makeSlice 27 (.int .i64 (K : Int)) (.int .i64 (K : Int))).run Tryd.prog w = .ok (.slice (some ⟨w.heap.size, 0, none⟩) K K) (w.alloc (.cells CS 28)) := by
  obtain ⟨i0, hi, hz0, hz1, hz2⟩ := info_parts infoR
  refine ⟨madeCells #[Value.slice none 0 0] K, by rw [toList_madeCells_one], fun w => ?_⟩
  have := run_makeSlice (P := Tryd.prog) w 27 28 i0 (.slice none 0 0) undSS hi hz0 .i64 .i64 (K : Int) (K : Int) (by omega) (Int.le_refl _) (by rw [hz1]; omega) (by rw [hz2]; omega) (by omega)
  rw [hz1, Int.toNat_natCast, Nat.mul_one] at this
  exact this
theorem rrindex (b n cap k : Nat) (hk : k < n) (w : World) : (Instr.indexAt 27 (.slice (some ⟨b, 0, none⟩) n cap) (.int .i64 k)).run Tryd.prog w = .ok (.pointer (some ⟨b, k, none⟩)) w := by
  have hu : Tryd.prog.underlying 27 = some (.slice (Tryd.prog.elem 27)) := by kernel_rfl
  refine (run_indexAt_slice (P := Tryd.prog) (w := w) 27 ⟨b, 0, none⟩ n cap .i64 (k : Int) hu).trans ?_
  rw [if_pos ⟨by omega, by omega⟩]
  have hs : (sizeOf (Tryd.prog.elem 27)).run Tryd.prog w = .ok 1 w := by kernel_rfl
  rw [hs]
  simp [Addr.add]
  intro h; omega
theorem slL_next {SB M k : Nat} (hk : k < M) : (slL SB M k).set k (.slice (some ⟨SB + 1 + k, 0, none⟩) (M + 1) (M + 1)) = slL SB M (k + 1) := by
  apply List.ext_getElem
  · simp [slL]
  · intro n h1 h2
    rw [List.getElem_set]
    split
    · subst_vars; simp [slL]
    · have e : (n < k + 1) ↔ (n < k) := by omega
      simp [slL, e]
theorem slL_zero (SB M : Nat) : slL SB M 0 = List.replicate M (.slice none 0 0) := by
  apply List.ext_getElem
  · simp [slL]
  · intro n h1 h2
    simp [slL]
end Go.Proofs.YtecmkjefoppbiaaDoor
