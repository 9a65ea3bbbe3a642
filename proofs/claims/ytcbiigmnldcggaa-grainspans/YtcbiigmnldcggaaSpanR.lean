/-
  Right spans: grain.rightSpan, Has; mercatorref1.IsSpan.
-/
import Derived.Test.YtcbiigmnldcggaaSpanX
namespace Go.Proofs.Ytcbiigmnldcggaa
open Go.RowKit FB

abbrev fl (x : Nat) : Value := .float .f64 x
abbrev sp (a b : Nat) : Value := .agg #[.float .f64 a, .float .f64 b]
/-- Finite ends, in order. -/
def spB (a b : Nat) : Bool := finV a && finV b && decide (key a ≤ key b)
def W64 (x : Nat) : Prop := x < 18446744073709551616
theorem fin_nn {x : Nat} (hx : W64 x) (h : finV x = true) : NN x ∧ -posInf < key x ∧ key x < posInf := num_key hx (finV_num.1 h)
theorem bt {a b c : World} (h : Below a.heap.size a b) (k : Below b.heap.size b c) : Below a.heap.size a c := h.trans (k.mono h.size)

theorem right_any (a b : Nat) (ha : W64 a) (hb : W64 b) (w : World) : Calls Try.prog 17 #[.agg #[.float .f64 a, .float .f64 b]] w fun e w' => e = .returned (.bool (spB a b)) ∧ Below w.heap.size w w' := by
  unfold W64 at ha hb
  cases h1 : finV a with
  | false =>
    have HS : Hid (spB a b = false) := by unfold spB Hid; rw [h1]; rfl
    go_enter Try.func17, Try.ntmps17
    go_wp2_with (first | (go_at_call 34; refine (finite_any a ha _).mono ?_; rintro e w' ⟨rfl, rfl⟩))
    go_ret
    exact ⟨by rw [HS.out]; rfl, (Below.refl _ _).alloc (Nat.le_refl _) _⟩
  | true =>
    cases h2 : finV b with
    | false =>
      have HS : Hid (spB a b = false) := by unfold spB Hid; rw [h1, h2]; rfl
      go_enter Try.func17, Try.ntmps17
      go_wp2_with (go_at_call 34; refine (finite_any _ (by assumption) _).mono ?_; rintro e w' ⟨rfl, rfl⟩)
      go_ret
      exact ⟨by rw [HS.out]; rfl, (Below.refl _ _).alloc (Nat.le_refl _) _⟩
    | true =>
      have hl := k_leq (fin_nn ha h1).1 (fin_nn hb h2).1
      have HS : Hid (spB a b = decide (key a ≤ key b)) := by unfold spB Hid; rw [h1, h2]; rfl
      generalize decide (key a ≤ key b) = q at hl HS
      go_enter Try.func17, Try.ntmps17
      go_wp2_with (go_at_call 34; refine (finite_any _ (by assumption) _).mono ?_; rintro e w' ⟨rfl, rfl⟩)
      go_ret
      exact ⟨by rw [HS.out]; rfl, (Below.refl _ _).alloc (Nat.le_refl _) _⟩
theorem bdn {B n : Nat} {a w : World} (h : Below B a w) : Below B a (w.drewN n) := ⟨h.1, h.2, h.3, h.4, h.5⟩
theorem isSpan_any (a b : Nat) (ha : W64 a) (hb : W64 b) (w : World) : Calls Try.prog 11 #[.agg #[.float .f64 a, .float .f64 b]] w fun e w' => e = .returned (.bool (spB a b)) ∧ Below w.heap.size w w' := by
  cases h1 : finV a with
  | false =>
    have HS : Hid (spB a b = false) := by unfold spB Hid; rw [h1]; rfl
    go_enter Try.func11, Try.ntmps11
    go_wp2_with (go_at_call 27; refine (finiteR_any _ _).mono ?_; rintro e w' ⟨rfl, n, rfl⟩)
    go_ret
    exact ⟨by rw [HS.out]; rfl, bdn ((Below.refl _ _).alloc (Nat.le_refl _) _)⟩
  | true =>
    cases h2 : finV b with
    | false =>
      have HS : Hid (spB a b = false) := by unfold spB Hid; rw [h1, h2]; rfl
      go_enter Try.func11, Try.ntmps11
      go_wp2_with (go_at_call 27; refine (finiteR_any _ _).mono ?_; rintro e w' ⟨rfl, n, rfl⟩)
      go_ret
      exact ⟨by rw [HS.out]; rfl, bdn ((Below.refl _ _).alloc (Nat.le_refl _) _)⟩
    | true =>
      have hl := k_leq (fin_nn ha h1).1 (fin_nn hb h2).1
      have HS : Hid (spB a b = decide (key a ≤ key b)) := by unfold spB Hid; rw [h1, h2]; rfl
      generalize decide (key a ≤ key b) = q at hl HS
      go_enter Try.func11, Try.ntmps11
      go_wp2_with (go_at_call 27; refine (finiteR_any _ _).mono ?_; rintro e w' ⟨rfl, n, rfl⟩)
      go_ret
      exact ⟨by rw [HS.out]; rfl, bdn ((Below.refl _ _).alloc (Nat.le_refl _) _)⟩

theorem bcell {W w1 : World} (hb : Below W.heap.size W w1) : (∀ b o, b < W.heap.size → w1.cell? ⟨b, o, none⟩ = W.cell? ⟨b, o, none⟩) ∧ (∀ b o, b < W.heap.size → w1.frozen? ⟨b, o, none⟩ = W.frozen? ⟨b, o, none⟩) :=
  ⟨fun b o h => hb.cell (p := ⟨b, o, none⟩) h, fun b o h => hb.frozen (p := ⟨b, o, none⟩) h⟩
/-- The first word is at most the second. -/
def leB (x y : Nat) : Bool := FloatKind.f64.format.order x y == some Ordering.lt || FloatKind.f64.format.order x y == some Ordering.eq
theorem has_any (a b x : Nat) (ha : W64 a) (hb : W64 b) (w : World) : Calls Try.prog 12 #[.agg #[.float .f64 a, .float .f64 b], .float .f64 x] w fun e w' => e = .returned (.bool (spB a b && leB a x && leB x b)) ∧ Below w.heap.size w w' := by
  cases h1 : spB a b with
  | false =>
    go_enter Try.func12, Try.ntmps12
    go_wp2_with fail
    refine (right_any _ _ (by assumption) (by assumption) _).mono ?_
    rintro e w1 ⟨rfl, hB⟩
    obtain ⟨hc, hf⟩ := bcell hB
    go_wp2
    go_ret
    exact ⟨rfl, bt ((Below.refl _ _).alloc (Nat.le_refl _) _) hB⟩
  | true =>
    cases h2 : leB a x with
    | false =>
      have h2' := h2
      unfold leB at h2'
      go_enter Try.func12, Try.ntmps12
      go_wp2_with fail
      refine (right_any _ _ (by assumption) (by assumption) _).mono ?_
      rintro e w1 ⟨rfl, hB⟩
      obtain ⟨hc, hf⟩ := bcell hB
      go_wp2
      go_ret
      exact ⟨rfl, bt ((Below.refl _ _).alloc (Nat.le_refl _) _) hB⟩
    | true =>
      have h2' := h2
      unfold leB at h2'
      have HL : Hid (leB x b = (FloatKind.f64.format.order x b == some Ordering.lt || FloatKind.f64.format.order x b == some Ordering.eq)) := rfl
      go_enter Try.func12, Try.ntmps12
      go_wp2_with fail
      refine (right_any _ _ (by assumption) (by assumption) _).mono ?_
      rintro e w1 ⟨rfl, hB⟩
      obtain ⟨hc, hf⟩ := bcell hB
      go_wp2
      go_ret
      exact ⟨by rw [HL.out]; rfl, bt ((Below.refl _ _).alloc (Nat.le_refl _) _) hB⟩
end Go.Proofs.Ytcbiigmnldcggaa
