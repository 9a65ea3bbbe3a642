/-
  Datums: there and back, in fractions: how far the rounding of each operation goes. No Go text is named here.
-/
import Derived.Test.YtmiamfnnccjmeacDoorFltY
namespace Go.Proofs.YtmiamfnnccjmeacDoor.FB
open Ieee

/-- Apart by at most E. -/
def Nr (E r p : Rat) : Prop := r - p ≤ E ∧ p - r ≤ E
/-- At most M in size. -/
def Sz (M a : Rat) : Prop := -M ≤ a ∧ a ≤ M
theorem prod_le {M N a b : Rat} (ha : Sz M a) (hb : Sz N b) : Sz (M * N) (a * b) := by
  obtain ⟨a1, a2⟩ := ha
  obtain ⟨b1, b2⟩ := hb
  have h1 : 0 ≤ (M - a) * (N - b) := Rat.mul_nonneg (by grind) (by grind)
  have h2 : 0 ≤ (M + a) * (N + b) := Rat.mul_nonneg (by grind) (by grind)
  have h3 : 0 ≤ (M - a) * (N + b) := Rat.mul_nonneg (by grind) (by grind)
  have h4 : 0 ≤ (M + a) * (N - b) := Rat.mul_nonneg (by grind) (by grind)
  constructor <;> grind
/-- Products of numbers that are nearly others. -/
theorem prod_near {E F M N a a' b b' : Rat} (ha : Nr E a' a) (hb : Nr F b' b) (hM : Sz M a') (hN : Sz N b) : Nr (M * F + E * N) (a' * b') (a * b) := by
  have h1 := prod_le hM (show Sz F (b' - b) from ⟨by have := hb.2; grind, hb.1⟩)
  have h2 := prod_le (show Sz E (a' - a) from ⟨by have := ha.2; grind, ha.1⟩) hN
  obtain ⟨p1, p2⟩ := h1
  obtain ⟨q1, q2⟩ := h2
  constructor <;> grind
theorem ulp_small : ulp ≤ 1 / 1000000000000000000000000000000 := by
  have h : 1000000000000000000000000000000 ≤ vl 4607182418800017408 := by decide +kernel
  have h' : (1000000000000000000000000000000 : Rat) ≤ ((vl 4607182418800017408 : Nat) : Rat) := by exact_mod_cast h
  have hu := ulp_pos
  have h1 := Rat.mul_le_mul_of_nonneg_right h' (Rat.le_of_lt hu)
  rw [ulp_one] at h1
  grind
/-- A product, rounded: its error by the bounds of what is multiplied. -/
theorem off_nr {B r p : Rat} (h : Off B r p) : Nr (B / 9007199254740992 + ulp) r p := by
  have hu := ulp_pos
  obtain ⟨h1, h2⟩ := h
  constructor <;> grind
theorem off2_nr {B r p : Rat} (h : Off2 B r p) : Nr (B / 4503599627370496 + ulp) r p := by
  obtain ⟨h1, h2⟩ := h
  constructor <;> grind
theorem Nr.trans {E F r p q : Rat} (h : Nr E r p) (k : Nr F p q) : Nr (E + F) r q := by
  obtain ⟨h1, h2⟩ := h
  obtain ⟨k1, k2⟩ := k
  constructor <;> grind
theorem Nr.add {E F r p r' p' : Rat} (h : Nr E r p) (k : Nr F r' p') : Nr (E + F) (r + r') (p + p') := by
  obtain ⟨h1, h2⟩ := h
  obtain ⟨k1, k2⟩ := k
  constructor <;> grind
theorem Nr.sub {E F r p r' p' : Rat} (h : Nr E r p) (k : Nr F r' p') : Nr (E + F) (r - r') (p - p') := by
  obtain ⟨h1, h2⟩ := h
  obtain ⟨k1, k2⟩ := k
  constructor <;> grind
theorem Nr.mono {E F r p : Rat} (h : Nr E r p) (hE : E ≤ F) : Nr F r p := by
  obtain ⟨h1, h2⟩ := h
  constructor <;> grind
theorem Nr.refl (r : Rat) : Nr 0 r r := by constructor <;> grind
theorem Sz.near {E M r p : Rat} (h : Nr E r p) (k : Sz M p) : Sz (M + E) r := by
  obtain ⟨h1, h2⟩ := h
  obtain ⟨k1, k2⟩ := k
  constructor <;> grind
theorem Sz.add {M N a b : Rat} (h : Sz M a) (k : Sz N b) : Sz (M + N) (a + b) := by
  obtain ⟨h1, h2⟩ := h
  obtain ⟨k1, k2⟩ := k
  constructor <;> grind
theorem Sz.sub {M N a b : Rat} (h : Sz M a) (k : Sz N b) : Sz (M + N) (a - b) := by
  obtain ⟨h1, h2⟩ := h
  obtain ⟨k1, k2⟩ := k
  constructor <;> grind
theorem Sz.mono {M N a : Rat} (h : Sz M a) (k : M ≤ N) : Sz N a := by
  obtain ⟨h1, h2⟩ := h
  constructor <;> grind
end Go.Proofs.YtmiamfnnccjmeacDoor.FB
