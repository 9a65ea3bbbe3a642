/-
  Whole numbers of any size and sign: mercatorref1.SignedOf, SignedBack, SignedMul.; mercatorref1.SignedAdd, mercatorref1.SignedCmp, mercatorref1.CmpOf.; mercatorref1.SignedCmp, mercatorref1.CmpOf.; mercatorref1.CmpOf, FloorOf, NearOf.; mercatorref1.FloorOf, NearOf; grain.split.
-/
import Derived.Test.YtecmkjefoppbiaaDoorQJ1
import Derived.Test.YtecmkjefoppbiaaDoorQJ13
import Derived.Deep.DrawnRows
import Derived.Deep.RegionHeld3
import Derived.Deep.CutRange
namespace Go.Proofs.YtecmkjefoppbiaaDoor
open Go.RowKit BG
attribute [local go_sem ↓] Go.wp_at_zero Go.wp_at_succ

/-- The value stands for the number. -/
def Sg (w : World) (m : Bool) (v : Value) (z : Int) : Prop := Bg w v (dn z.natAbs) ∧ m = decide (z < 0)
theorem Sg.below {W w' : World} {m : Bool} {v : Value} {z : Int} (h : Sg W m v z) (hB : Below W.heap.size W w') : Sg w' m v z := ⟨h.1.below hB, h.2⟩
theorem Bg.setS {w : World} {v : Value} {l : List Nat} {B : Nat} {m : Bool} {x : Value} (h : Bg w v l) (hA : At w B [.bool m, x]) (o : Nat) (y : Value) : Bg (w.setCell ⟨B, o, none⟩ y) v l := by
  rcases h with h | ⟨b, cap, h1, h2, h3, h4, h5⟩
  · exact .inl h
  · refine .inr ⟨b, cap, h1, h2, h3, fun i hi => ?_, by simpa using h5⟩
    have hne : ¬ B = b := by
      intro e
      subst e
      have a := hA.c2.1
      have c := h4 0 (by omega)
      rw [a] at c; cases c
    have hne' : ¬ b = B := fun e => hne e.symm
    simp [go_sem, h4 i hi]
theorem Bg.setS2 {w : World} {v : Value} {l : List Nat} {B : Nat} {m m' : Bool} {x : Value} (h : Bg w v l) (hA : At w B [.bool m, x]) (y : Value) : Bg ((w.setCell ⟨B, 0, none⟩ (.bool m')).setCell ⟨B, 1, none⟩ y) v l := (h.setS hA 0 _).setS (hA.put 0 (.bool m')) 1 y
theorem Bg.alloc {w : World} {v : Value} {l : List Nat} (h : Bg w v l) (o : Obj) : Bg (w.alloc o) v l := h.below ((Below.refl _ _).alloc (Nat.le_refl _) o)
theorem len_pos (n : Nat) : decide (0 < ((dn n).length : Int)) = decide (n ≠ 0) := by
  have h := dn_empty (n := n)
  by_cases c : n = 0
  · subst c; rw [dn_zero]; simp
  · have : (dn n).length ≠ 0 := fun e => c (h.1 e)
    rw [decide_eq_true (by omega), decide_eq_true (by simpa using c)]
/-- The number's sign as the program reckons it. -/
theorem back_sign (z : Int) : decide (-z < 0) = (!decide (z < 0) && decide (z.natAbs ≠ 0)) := by
  rcases Int.lt_trichotomy z 0 with h | h | h
  · rw [decide_eq_false (by omega), decide_eq_true h]; rfl
  · subst h; rfl
  · rw [decide_eq_true (by omega), decide_eq_false (by omega), decide_eq_true (by omega)]; rfl
theorem mul_sign (x y : Int) : decide (x * y < 0) = ((decide (x < 0) != decide (y < 0)) && decide (x.natAbs * y.natAbs ≠ 0)) := by
  have hz : x.natAbs * y.natAbs = (x * y).natAbs := (Int.natAbs_mul x y).symm
  rw [hz]
  rcases Int.lt_trichotomy x 0 with h | h | h <;> rcases Int.lt_trichotomy y 0 with k | k | k
  · have := Int.mul_pos_of_neg_of_neg h k; rw [decide_eq_false (by omega), decide_eq_true h, decide_eq_true k]; rfl
  · subst k; simp
  · have := Int.mul_neg_of_neg_of_pos h k; rw [decide_eq_true this, decide_eq_true h, decide_eq_false (by omega), decide_eq_true (by omega)]; rfl
  · subst h; simp
  · subst h; simp
  · subst h; simp
  · have := Int.mul_neg_of_pos_of_neg h k; rw [decide_eq_true this, decide_eq_false (by omega), decide_eq_true k, decide_eq_true (by omega)]; rfl
  · subst k; simp
  · have := Int.mul_pos h k; rw [decide_eq_false (by omega), decide_eq_false (by omega), decide_eq_false (by omega)]; rfl
end Go.Proofs.YtecmkjefoppbiaaDoor
namespace Go.Proofs.YtecmkjefoppbiaaDoor
open Go.RowKit BG
attribute [local go_sem ↓] Go.wp_at_zero Go.wp_at_succ

/-- What lies in memory while two signed numbers are joined: both, and the answer's own block. -/
structure SF (W : World) (b : Nat) (m : Bool) (u : Value) (n : Bool) (v : Value) : Prop where
  fa : At W b [.bool m, u]
  fb : At W (b + 1) [.bool n, v]
  fr : At W (b + 1 + 1) [.bool false, .slice none 0 0]
theorem SF.below {W w' : World} {b : Nat} {m n : Bool} {u v : Value} (h : SF W b m u n v) (hB : Below W.heap.size W w') : SF w' b m u n v := ⟨At.below hB h.fa, At.below hB h.fb, At.below hB h.fr⟩
theorem SF.drew {W : World} {b : Nat} {m n : Bool} {u v : Value} (h : SF W b m u n v) : SF W.drew b m u n v := ⟨h.fa.drew, h.fb.drew, h.fr.drew⟩
theorem SF.init (w : World) (m n : Bool) (u v : Value) (t : Nat) : SF (((w.alloc (.cells #[.bool m, u] t)).alloc (.cells #[.bool n, v] t)).alloc (.cells #[.bool false, .slice none 0 0] t)) w.heap.size m u n v :=
  ⟨((At.new2 w (.bool m) u t).alloc _).alloc _, (At.nx2 (W := w) _ (.bool n) v t).alloc _, At.ny2 (W := w) _ _ (.bool false) (.slice none 0 0) t⟩
theorem SF.four {W : World} {b : Nat} {m n : Bool} {u v : Value} (h : SF W b m u n v) : W.cell? ⟨b, 0, none⟩ = some (.bool m) ∧ W.cell? ⟨b, 1, none⟩ = some u ∧ W.cell? ⟨b + 1, 0, none⟩ = some (.bool n) ∧ W.cell? ⟨b + 1, 1, none⟩ = some v := ⟨h.fa.c2.1, h.fa.c2.2, h.fb.c2.1, h.fb.c2.2⟩
theorem SF.keep {W : World} {b : Nat} {m n : Bool} {u v : Value} (h : SF W b m u n v) (x y : Value) : ((W.setCell ⟨b + 1 + 1, 0, none⟩ x).setCell ⟨b + 1 + 1, 1, none⟩ y).cell? ⟨b, 0, none⟩ = some (.bool m) ∧ ((W.setCell ⟨b + 1 + 1, 0, none⟩ x).setCell ⟨b + 1 + 1, 1, none⟩ y).cell? ⟨b, 1, none⟩ = some u ∧ ((W.setCell ⟨b + 1 + 1, 0, none⟩ x).setCell ⟨b + 1 + 1, 1, none⟩ y).cell? ⟨b + 1, 0, none⟩ = some (.bool n) ∧ ((W.setCell ⟨b + 1 + 1, 0, none⟩ x).setCell ⟨b + 1 + 1, 1, none⟩ y).cell? ⟨b + 1, 1, none⟩ = some v := by
  have ha := ((h.fa.skip (c := b + 1 + 1) (by omega) 0 x).skip (c := b + 1 + 1) (by omega) 1 y).c2
  have hb := ((h.fb.skip (c := b + 1 + 1) (by omega) 0 x).skip (c := b + 1 + 1) (by omega) 1 y).c2
  exact ⟨ha.1, ha.2, hb.1, hb.2⟩
theorem undr {W w' : World} (h : Below W.drew.heap.size W.drew w') : Below W.heap.size W w' := ⟨h.1, h.2, h.3, h.4, h.5⟩
theorem add_same {x y : Int} (h : decide (x < 0) = decide (y < 0)) : (x + y).natAbs = x.natAbs + y.natAbs ∧ decide (x + y < 0) = decide (x < 0) := by
  by_cases c : x < 0
  · rw [decide_eq_true c] at h
    have := of_decide_eq_true h.symm
    exact ⟨by omega, by rw [decide_eq_true c, decide_eq_true (by omega)]⟩
  · rw [decide_eq_false c] at h
    have := of_decide_eq_false h.symm
    exact ⟨by omega, by rw [decide_eq_false c, decide_eq_false (by omega)]⟩
theorem add_first {x y : Int} (h : decide (x < 0) ≠ decide (y < 0)) (hl : y.natAbs ≤ x.natAbs) : (x + y).natAbs = x.natAbs - y.natAbs ∧ decide (x + y < 0) = (decide (x < 0) && decide (x.natAbs - y.natAbs ≠ 0)) := by
  by_cases c : x < 0 <;> by_cases d : y < 0
  · rw [decide_eq_true c, decide_eq_true d] at h; exact absurd rfl h
  · refine ⟨by omega, ?_⟩
    rw [decide_eq_true c, Bool.true_and]
    by_cases e : x.natAbs - y.natAbs = 0
    · rw [decide_eq_false (by omega), decide_eq_false (by simpa using e)]
    · rw [decide_eq_true (by omega), decide_eq_true e]
  · refine ⟨by omega, ?_⟩
    rw [decide_eq_false c, Bool.false_and, decide_eq_false (by omega)]
  · rw [decide_eq_false c, decide_eq_false d] at h; exact absurd rfl h
theorem add_second {x y : Int} (h : decide (x < 0) ≠ decide (y < 0)) (hl : x.natAbs < y.natAbs) : (x + y).natAbs = y.natAbs - x.natAbs ∧ decide (x + y < 0) = decide (y < 0) := by
  by_cases c : x < 0 <;> by_cases d : y < 0
  · rw [decide_eq_true c, decide_eq_true d] at h; exact absurd rfl h
  · exact ⟨by omega, by rw [decide_eq_false d, decide_eq_false (by omega)]⟩
  · exact ⟨by omega, by rw [decide_eq_true d, decide_eq_true (by omega)]⟩
  · rw [decide_eq_false c, decide_eq_false d] at h; exact absurd rfl h
end Go.Proofs.YtecmkjefoppbiaaDoor
namespace Go.Proofs.YtecmkjefoppbiaaDoor
open Go.RowKit BG
attribute [local go_sem ↓] Go.wp_at_zero Go.wp_at_succ

/-- -1, 0, 1. -/
def ci (x y : Int) : Int := if x < y then -1 else if y < x then 1 else 0
theorem Bg.far {w : World} {v : Value} {l : List Nat} {B : Nat} (h : Bg w v l) (hB : ∀ b cap, v = .slice (some ⟨b, 0, none⟩) l.length cap → l ≠ [] → ¬ B = b) (o : Nat) (y : Value) : Bg (w.setCell ⟨B, o, none⟩ y) v l := by
  rcases h with h | ⟨b, cap, h1, h2, h3, h4, h5⟩
  · exact .inl h
  · refine .inr ⟨b, cap, h1, h2, h3, fun i hi => ?_, by simpa using h5⟩
    have hne := hB b cap h1 (by intro e; rw [e] at hi; simp at hi)
    have hne' : ¬ b = B := fun e => hne e.symm
    simp [go_sem, h4 i hi]
theorem s22 {W : World} {B C : Nat} {a b c d : Value} (h : At W B [a, b]) (k : At W C [c, d]) : W.cell? ⟨B, 0, none⟩ = some a ∧ W.cell? ⟨B, 1, none⟩ = some b ∧ W.cell? ⟨C, 0, none⟩ = some c ∧ W.cell? ⟨C, 1, none⟩ = some d := ⟨h.c2.1, h.c2.2, k.c2.1, k.c2.2⟩
theorem len_zero (z : Int) : (((dn z.natAbs).length : Int) == 0) = decide (z = 0) := by
  have h := dn_empty (n := z.natAbs)
  by_cases c : z = 0
  · subst c; rw [show (0 : Int).natAbs = 0 from rfl, dn_zero]; simp
  · have : (dn z.natAbs).length ≠ 0 := fun e => c (by have := h.1 e; omega)
    rw [decide_eq_false c]; simp only [beq_eq_false_iff_ne]; omega
end Go.Proofs.YtecmkjefoppbiaaDoor
namespace Go.Proofs.YtecmkjefoppbiaaDoor
open Go.RowKit BG
attribute [local go_sem ↓] Go.wp_at_zero Go.wp_at_succ

theorem prod_lid {x y : Int} (hx : x.natAbs ≤ 4611686018427387904) (hy : y.natAbs ≤ 4611686018427387904) : (x * y).natAbs ≤ 4 * lid := by
  rw [Int.natAbs_mul]
  refine Nat.le_trans (Nat.mul_le_mul hx hy) ?_
  decide +kernel
theorem part_50 {x : Int} (hx : x.natAbs ≤ 4611686018427387904) : x.natAbs < 1000000 ^ 50 := by
  refine Nat.lt_of_le_of_lt hx ?_
  decide +kernel
/-- A right fraction's number. -/
def Sml (n : Int) : Prop := n.natAbs ≤ 4611686018427387904
/-- Sums of these are in reach. -/
def Pr (n : Int) : Prop := n.natAbs ≤ 4 * lid
theorem Sg.drew {W : World} {m : Bool} {v : Value} {z : Int} (h : Sg W m v z) : Sg W.drew m v z := h.below (Below.refl _ _).drew
theorem Sg.step {W w' : World} {m : Bool} {v : Value} {z : Int} (hB : Below W.heap.size W w') (h : Sg W m v z) : Sg w' m v z := h.below hB
end Go.Proofs.YtecmkjefoppbiaaDoor
namespace Go.Proofs.YtecmkjefoppbiaaDoor
open Go.RowKit BG

theorem td_floor {n d : Int} (hd : 1 ≤ d) : (n.tmod d < 0 → n / d = n.tdiv d - 1 ∧ n % d = n.tmod d + d) ∧ (¬ n.tmod d < 0 → n / d = n.tdiv d ∧ n % d = n.tmod d) := by
  have h1 := Int.mul_tdiv_add_tmod n d
  have h2 := Int.mul_ediv_add_emod n d
  have h3 := Int.emod_nonneg n (show d ≠ 0 by omega)
  have h4 := Int.emod_lt_of_pos n (show 0 < d by omega)
  have h5 : n.tmod d < d := Int.tmod_lt_of_pos n (by omega)
  have h6 : -d < n.tmod d := by
    rcases Int.le_total 0 n with h | h
    · have := Int.tmod_nonneg d h; omega
    · have h7 : n.tmod d = -((-n).tmod d) := by rw [Int.neg_tmod]; omega
      have := Int.tmod_lt_of_pos (-n) (show 0 < d by omega); omega
  have key : ∀ q r : Int, d * q + r = n → 0 ≤ r → r < d → n / d = q ∧ n % d = r := by
    intro q r e r0 r1
    exact (Int.ediv_emod_unique (by omega)).2 ⟨by rw [Int.add_comm]; exact e, r0, r1⟩
  refine ⟨fun h => ?_, fun h => ?_⟩
  · exact key _ _ (by rw [Int.mul_sub]; omega) (by omega) (by omega)
  · exact key _ _ h1 (by omega) (by omega)
theorem td_size {n d : Int} (hn : Sml n) (_hd : 1 ≤ d) : -4611686018427387904 ≤ n.tdiv d ∧ n.tdiv d ≤ 4611686018427387904 := by
  have h : (n.tdiv d).natAbs = n.natAbs / d.natAbs := Int.natAbs_tdiv n d
  have k : n.natAbs / d.natAbs ≤ n.natAbs := Nat.div_le_self _ _
  unfold Sml at hn
  generalize n.natAbs / d.natAbs = q at h k
  omega
/-- To the nearest, from the middle to the even one. -/
def nea (n d : Int) : Int := if n % d < d - n % d then n / d else if d - n % d < n % d then n / d + 1 else if (n / d).tmod 2 = 0 then n / d else n / d + 1
theorem fl_facts {n d : Int} (hn : Sml n) (h1 : 1 ≤ d) : n - n / d * d = n % d ∧ 0 ≤ n % d ∧ n % d < d ∧ -4611686018427387905 ≤ n / d ∧ n / d ≤ 4611686018427387904 ∧ n / d * d = n - n % d := by
  have h2 := Int.mul_ediv_add_emod n d
  have h3 := Int.emod_nonneg n (show d ≠ 0 by omega)
  have h4 := Int.emod_lt_of_pos n (show 0 < d by omega)
  obtain ⟨f1, f2⟩ := td_floor (n := n) h1
  obtain ⟨b1, b2⟩ := td_size hn h1
  rw [Int.mul_comm] at h2
  refine ⟨by omega, h3, h4, ?_, ?_, by omega⟩ <;> by_cases c : n.tmod d < 0
  · have := (f1 c).1; omega
  · have := (f2 c).1; omega
  · have := (f1 c).1; omega
  · have := (f2 c).1; omega
end Go.Proofs.YtecmkjefoppbiaaDoor
