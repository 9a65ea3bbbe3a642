/-
  Which numbers are within bounds: globe.within, mercatorref2.between.
-/
import Derived.Test.YtinopkmcddjgdaaGreatDoorQJ2
import Derived.Test.YtinopkmcddjgdaaGreatDoorQCode
namespace Go.Proofs.YtinopkmcddjgdaaGreatDoor
open Go.RowKit FB
attribute [local go_sem] run_store_float

theorem bcell {W w1 : World} (hb : Below W.heap.size W w1) : (∀ b o, b < W.heap.size → w1.cell? ⟨b, o, none⟩ = W.cell? ⟨b, o, none⟩) ∧ (∀ b o, b < W.heap.size → w1.frozen? ⟨b, o, none⟩ = W.frozen? ⟨b, o, none⟩) :=
  ⟨fun b o h => hb.cell (p := ⟨b, o, none⟩) h, fun b o h => hb.frozen (p := ⟨b, o, none⟩) h⟩
theorem bt {a b c : World} (h : Below a.heap.size a b) (k : Below b.heap.size b c) : Below a.heap.size a c := h.trans (k.mono h.size)
theorem bdn {B n : Nat} {a w : World} (h : Below B a w) : Below B a (w.drewN n) := ⟨h.1, h.2, h.3, h.4, h.5⟩
/-- At least, at most. -/
def geB (x y : Nat) : Bool := FloatKind.f64.format.order x y == some Ordering.gt || FloatKind.f64.format.order x y == some Ordering.eq
def leB (x y : Nat) : Bool := FloatKind.f64.format.order x y == some Ordering.lt || FloatKind.f64.format.order x y == some Ordering.eq
/-- Within bounds. -/
def inB (lo hi x : Nat) : Bool := geB x lo && leB x hi
/-- The words of the list lie in the block, one a cell. -/
def Lies (w : World) (b : Nat) (l : List Nat) : Prop := ∀ i : Nat, (h : i < l.length) → w.cell? ⟨b, i, none⟩ = some (.float .f64 l[i])

theorem between_any (x lo hi : Nat) (w : World) : Calls Tryz.prog 23 #[.float .f64 x, .float .f64 lo, .float .f64 hi] w fun e w' => e = .returned (.bool (inB lo hi x)) ∧ w' = w := by
  cases h1 : geB x lo with
  | false =>
    have HS : Hid (inB lo hi x = false) := by unfold inB Hid; rw [h1]; rfl
    have t1 : (FloatKind.f64.format.order x lo == some Ordering.gt || FloatKind.f64.format.order x lo == some Ordering.eq) = false := h1
    clear h1
    go_enter Tryz.func23, Tryz.ntmps23
    go_wp2
    go_ret
    exact ⟨by rw [HS.out]; rfl, rfl⟩
  | true =>
    have HS : Hid (inB lo hi x = leB x hi) := by unfold inB Hid; rw [h1]; rfl
    have t1 : (FloatKind.f64.format.order x lo == some Ordering.gt || FloatKind.f64.format.order x lo == some Ordering.eq) = true := h1
    have t2 : (FloatKind.f64.format.order x hi == some Ordering.lt || FloatKind.f64.format.order x hi == some Ordering.eq) = leB x hi := rfl
    clear h1
    generalize leB x hi = q at *
    go_enter Tryz.func23, Tryz.ntmps23
    go_wp2
    go_ret
    exact ⟨by rw [HS.out]; rfl, rfl⟩

theorem all_take {p : Nat → Bool} {l : List Nat} {k : Nat} (h : k < l.length) (ha : (l.take k).all p = true) (hx : p l[k] = true) : (l.take (k + 1)).all p = true := by
  rw [List.take_succ_eq_append_getElem h, List.all_append, ha]
  simp [hx]
theorem all_not {p : Nat → Bool} {l : List Nat} {k : Nat} (h : k < l.length) (hx : p l[k] = false) : l.all p = false := by
  rw [Bool.eq_false_iff]
  intro hc
  have := List.all_eq_true.1 hc l[k] (by simp)
  rw [hx] at this; cases this
set_option maxHeartbeats 1000000 in
theorem within_any (lo hi b : Nat) (l : List Nat) (hl : l.length ≤ 4) (w : World) (hw : Lies w b l) : Calls Tryz.prog 59 #[.float .f64 lo, .float .f64 hi, .slice (some ⟨b, 0, none⟩) l.length l.length] w fun e w' => e = .returned (.bool (l.all (inB lo hi))) ∧ w' = w := by
  go_enter Tryz.func59, Tryz.ntmps59
  go_wp2
  go_loop [11] (fun t => ∃ k : Nat, k ≤ l.length ∧ Hid ((l.take k).all (inB lo hi) = true) ∧ t = .int .i64 k) (fun t => l.length - (intOf t).toNat)
  case atStart => exact ⟨0, by omega, rfl, rfl⟩
  case round =>
    obtain ⟨k, hk, HA, rfl⟩ := hrel
    by_cases hlt : k < l.length
    · have hc := hw k hlt
      cases h1 : geB l[k] lo with
      | false =>
        have HS : Hid (l.all (inB lo hi) = false) := all_not hlt (by unfold inB; rw [h1]; rfl)
        have t1 : (FloatKind.f64.format.order l[k] lo == some Ordering.gt || FloatKind.f64.format.order l[k] lo == some Ordering.eq) = false := h1
        clear h1
        generalize l[k] = x at *
        go_wp2
        go_ret
        exact ⟨by rw [HS.out]; rfl, rfl⟩
      | true =>
        have t1 : (FloatKind.f64.format.order l[k] lo == some Ordering.gt || FloatKind.f64.format.order l[k] lo == some Ordering.eq) = true := h1
        cases h2 : leB l[k] hi with
        | false =>
          have HS : Hid (l.all (inB lo hi) = false) := all_not hlt (by unfold inB; rw [h1, h2]; rfl)
          have t2 : (FloatKind.f64.format.order l[k] hi == some Ordering.lt || FloatKind.f64.format.order l[k] hi == some Ordering.eq) = false := h2
          clear h1 h2
          generalize l[k] = x at *
          go_wp2
          go_ret
          exact ⟨by rw [HS.out]; rfl, rfl⟩
        | true =>
          have HS : Hid ((l.take (k + 1)).all (inB lo hi) = true) := all_take hlt HA.out (by unfold inB; rw [h1, h2]; rfl)
          have t2 : (FloatKind.f64.format.order l[k] hi == some Ordering.lt || FloatKind.f64.format.order l[k] hi == some Ordering.eq) = true := h2
          clear h1 h2
          generalize l[k] = x at *
          go_wp2
          go_round
          case rel => exact ⟨k + 1, by omega, HS, by go_num⟩
          case measure => simp [intOf]; omega
    · have HS : Hid (l.all (inB lo hi) = true) := by
        have := HA.out
        rw [List.take_of_length_le (by omega)] at this
        exact this
      go_wp2
      go_ret
      exact ⟨by rw [HS.out]; rfl, rfl⟩
end Go.Proofs.YtinopkmcddjgdaaGreatDoor
