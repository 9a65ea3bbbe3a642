/-
  slices.Min and Max of three; relief.square.triangles; mercatorref3.triangle.
-/
import Derived.Test.YthbobceghbknoaaDoorQRlB
namespace Go.Proofs.YthbobceghbknoaaDoor
open Go.RowKit

def mn2 (x y : Int) : Int := if y < x then y else x
def mx2 (x y : Int) : Int := if x < y then y else x
set_option maxRecDepth 4000 in
set_option maxHeartbeats 4000000 in
theorem smin3 (B : Nat) (a b c : Int) (w : World) (h : At w B [.int .i64 a, .int .i64 b, .int .i64 c]) : Calls Tryd.prog 33 #[.slice (some ⟨B, 0, none⟩) 3 3] w fun e w' => e = .returned (.int .i64 (mn2 (mn2 a b) c)) ∧ w' = w := by
  obtain ⟨c0, c1, c2⟩ := h.c3
  have i0 := iindex B 0 3 3 0 (by decide)
  have i1 := iindex B 0 3 3 1 (by decide)
  have i2 := iindex B 0 3 3 2 (by decide)
  obtain ⟨p, hp⟩ : ∃ p, mn2 a b = p := ⟨_, rfl⟩
  rw [hp]
  obtain ⟨q, hq⟩ : ∃ q, mn2 p c = q := ⟨_, rfl⟩
  rw [hq]
  unfold mn2 at hp hq
  clear h
  go_enter Tryd.func33, Tryd.ntmps33
  go_wp2
  go_loopw [3, 4] (fun v t wr => (v = .int .i64 a ∧ t = .int .i64 1 ∨ v = .int .i64 p ∧ t = .int .i64 2 ∨ v = .int .i64 q ∧ t = .int .i64 3) ∧ wr = w) (fun _ t _ => 3 - (intOf t).toNat)
  case atStart => exact ⟨.inl ⟨rfl, rfl⟩, rfl⟩
  case round =>
    obtain ⟨⟨rfl, rfl⟩ | ⟨rfl, rfl⟩ | ⟨rfl, rfl⟩, rfl⟩ := hrel
    · go_wp2
      go_roundw
      case rel => exact ⟨.inr (.inl ⟨rfl, rfl⟩), by first | trivial | rfl⟩
      case measure => simp [intOf]
    · go_wp2
      go_roundw
      case rel => exact ⟨.inr (.inr ⟨rfl, rfl⟩), by first | trivial | rfl⟩
      case measure => simp [intOf]
    · go_wp2
      go_ret
      exact ⟨rfl, by first | trivial | rfl⟩
set_option maxRecDepth 4000 in
set_option maxHeartbeats 4000000 in
theorem smax3 (B : Nat) (a b c : Int) (w : World) (h : At w B [.int .i64 a, .int .i64 b, .int .i64 c]) : Calls Tryd.prog 34 #[.slice (some ⟨B, 0, none⟩) 3 3] w fun e w' => e = .returned (.int .i64 (mx2 (mx2 a b) c)) ∧ w' = w := by
  obtain ⟨c0, c1, c2⟩ := h.c3
  have i0 := iindex B 0 3 3 0 (by decide)
  have i1 := iindex B 0 3 3 1 (by decide)
  have i2 := iindex B 0 3 3 2 (by decide)
  obtain ⟨p, hp⟩ : ∃ p, mx2 a b = p := ⟨_, rfl⟩
  rw [hp]
  obtain ⟨q, hq⟩ : ∃ q, mx2 p c = q := ⟨_, rfl⟩
  rw [hq]
  unfold mx2 at hp hq
  clear h
  go_enter Tryd.func34, Tryd.ntmps34
  go_wp2
  go_loopw [3, 4] (fun v t wr => (v = .int .i64 a ∧ t = .int .i64 1 ∨ v = .int .i64 p ∧ t = .int .i64 2 ∨ v = .int .i64 q ∧ t = .int .i64 3) ∧ wr = w) (fun _ t _ => 3 - (intOf t).toNat)
  case atStart => exact ⟨.inl ⟨rfl, rfl⟩, rfl⟩
  case round =>
    obtain ⟨⟨rfl, rfl⟩ | ⟨rfl, rfl⟩ | ⟨rfl, rfl⟩, rfl⟩ := hrel
    · go_wp2
      go_roundw
      case rel => exact ⟨.inr (.inl ⟨rfl, rfl⟩), by first | trivial | rfl⟩
      case measure => simp [intOf]
    · go_wp2
      go_roundw
      case rel => exact ⟨.inr (.inr ⟨rfl, rfl⟩), by first | trivial | rfl⟩
      case measure => simp [intOf]
    · go_wp2
      go_ret
      exact ⟨rfl, by first | trivial | rfl⟩
abbrev trV (a b c d : Int) : Value := .agg #[.int .i64 a, .int .i64 b, .int .i64 d, .int .i64 a, .int .i64 c, .int .i64 d]
set_option maxRecDepth 4000 in
set_option maxHeartbeats 4000000 in
theorem triangles_any (a b c d : Int) (w : World) : Calls Tryd.prog 32 #[sqV a b c d] w fun e w' => e = .returned (trV a b c d) ∧ Gr w w' := by
  have G0 := hidb ((Gr.refl w).alloc (.cells #[.int .i64 a, .int .i64 b, .int .i64 c, .int .i64 d] 69))
  go_enter Tryd.func32, Tryd.ntmps32
  go_wp2
  refine bodyPost_ret (v := trV a b c d) (by simp [results, Tryd.results32, go_sem]) rfl ⟨rfl, G0.out.alloc _⟩
/-- A triangle of which each corner is so far above a height: wholly above it, partly. -/
def whI (x y z : Int) : Nat := if 0 < x ∧ 0 < y ∧ 0 < z then 1 else 0
def ptI (x y z : Int) : Nat := if ¬ (0 < x ∧ 0 < y ∧ 0 < z) ∧ (0 < x ∨ 0 < y ∨ 0 < z) ∧ (x < 0 ∨ y < 0 ∨ z < 0) then 1 else 0
set_option maxRecDepth 4000 in
set_option maxHeartbeats 4000000 in
theorem triangle_any (x y z : Int) (w : World) : Calls Tryd.prog 35 #[.int .i64 x, .int .i64 y, .int .i64 z] w fun e w' => e = .returned (.tuple #[.int .i64 (whI x y z : Int), .int .i64 (ptI x y z : Int)]) ∧ w' = w := by
  unfold whI ptI
  rcases Int.lt_trichotomy x 0 with hx | hx | hx <;> rcases Int.lt_trichotomy y 0 with hy | hy | hy <;> rcases Int.lt_trichotomy z 0 with hz | hz | hz
  all_goals
    first
      | rw [if_pos (by omega), if_pos (by omega)]
      | rw [if_pos (by omega), if_neg (by omega)]
      | rw [if_neg (by omega), if_pos (by omega)]
      | rw [if_neg (by omega), if_neg (by omega)]
    go_enter Tryd.func35, Tryd.ntmps35
    go_wp2
    go_ret2
    exact ⟨rfl, rfl⟩
end Go.Proofs.YthbobceghbknoaaDoor
