/-
  Directions around a node, with the clock: both sides' sooner. No Go text is named here.
-/
import Derived.Test.YtnadgoomkaldkaaDoorQSfB
namespace Go.Proofs.YtnadgoomkaldkaaDoor
open Go.RowKit

/-- The vector from a point to another one. -/
def dfS (a b : Sp) : Sp := (b.1 - a.1, b.2 - a.2)
theorem tn_xp (a b c : Sp) : tn a b c = xp (dfS a b) (dfS a c) := by unfold tn xp dfS; grind
theorem xp_sw (a b : Sp) : xp b a = -xp a b := by unfold xp; grind
theorem xp_self (a : Sp) : xp a a = 0 := by unfold xp; grind
theorem dfS_ok {a b : Sp} (ha : okS a) (hb : okS b) : okD (dfS a b) := by
  unfold okS okC at ha hb
  unfold okD dfS
  dsimp only
  omega
theorem sq_pos {x : Int} (h : ¬ x = 0) : 0 < x * x := by
  rcases Int.lt_or_le x 0 with c | c
  · exact Int.mul_pos_of_neg_of_neg c c
  · exact Int.mul_pos (by omega) (by omega)
theorem sq_nn (x : Int) : 0 ≤ x * x := by
  by_cases c : x = 0
  · subst c; decide
  · exact Int.le_of_lt (sq_pos c)
theorem ip_self {a : Sp} (h : ¬ a = (0, 0)) : 0 < ip a a := by
  unfold ip
  have h1 := sq_nn a.1
  have h2 := sq_nn a.2
  by_cases c : a.1 = 0
  · have : ¬ a.2 = 0 := fun k => h (Prod.ext c k)
    have := sq_pos this
    omega
  · have := sq_pos c
    omega
/-- Two vectors that do not stand at right angles where one goes along the other. -/
theorem ip_ne {a b : Sp} (ha : ¬ a = (0, 0)) (hb : ¬ b = (0, 0)) (h : xp a b = 0) : ¬ ip a b = 0 := fun k => by
  have e : ip a a * ip b b = ip a b * ip a b + xp a b * xp a b := by unfold ip xp; grind
  rw [h, k] at e
  have := Int.mul_pos (ip_self ha) (ip_self hb)
  omega
theorem xp_ip (f a b : Sp) : ip f f * xp a b = ip f a * xp f b - ip f b * xp f a := by unfold ip xp; grind
theorem xp_three (f a b c : Sp) : xp f b * xp a c = xp f a * xp b c + xp f c * xp a b := by unfold xp; grind
/-- The same direction. -/
def sdrP (a b : Sp) : Prop := xp a b = 0 ∧ 0 < ip a b
theorem ps_ng {a b : Int} (ha : 0 < a) (h : a * b < 0) : b < 0 := by
  rcases Int.lt_or_le b 0 with c | c
  · exact c
  · have := Int.mul_nonneg (Int.le_of_lt ha) c
    omega
theorem ps_ps {a b : Int} (ha : 0 < a) (h : 0 < a * b) : 0 < b := by
  rcases Int.lt_or_le 0 b with c | c
  · exact c
  · have := Int.mul_nonneg (Int.le_of_lt ha) (show 0 ≤ -b by omega)
    rw [Int.mul_neg] at this
    omega
theorem opp_1 {f a b : Sp} (hf : ¬ f = (0, 0)) (hb : ¬ b = (0, 0)) (h1 : xp f a < 0) (h2 : xp f b = 0) (h3 : ¬ 0 < ip f b) : xp a b < 0 := by
  have e := xp_ip f a b
  have h4 := ip_ne hf hb h2
  have h5 : ip f b < 0 := by omega
  have h6 := Int.mul_pos_of_neg_of_neg h5 h1
  rw [h2, Int.mul_zero] at e
  exact ps_ng (ip_self hf) (by omega)
/-- Vectors out of a node, with the clock from f on: what the program asks (with the sides of f alone). -/
def cyP (f a b : Sp) : Prop := if (0 < xp f a ↔ 0 < xp f b) then xp a b < 0 else 0 < xp f b
instance (f a b : Sp) : Decidable (cyP f a b) := by unfold cyP; exact inferInstance
theorem sn_cy (p : Pc) (s r : Sp) : snP p s r ↔ cyP (dfS p.1 p.2) (dfS p.1 s) (dfS p.1 r) := by
  unfold snP cyP
  rw [tn_xp, tn_xp, tn_xp]
theorem cw_three {f x : Sp} (hx : ¬ sdrP f x) : (cwN f x = 1 ∧ xp f x < 0) ∨ (cwN f x = 3 ∧ 0 < xp f x) ∨ (cwN f x = 2 ∧ xp f x = 0) := by
  unfold cwN
  unfold sdrP at hx
  split
  · omega
  · split
    · omega
    · split
      · exact absurd ⟨by omega, by assumption⟩ hx
      · omega
theorem sr_cy {f a b : Sp} (hf : ¬ f = (0, 0)) (ha : ¬ a = (0, 0)) (hb : ¬ b = (0, 0)) (ka : ¬ sdrP f a) (kb : ¬ sdrP f b) : srP f a b ↔ cyP f a b := by
  have o1 : xp f a < 0 → xp f b = 0 → xp a b < 0 := fun h k => opp_1 hf hb h k (fun hx => kb ⟨k, hx⟩)
  have o2 : xp f b < 0 → xp f a = 0 → xp b a < 0 := fun h k => opp_1 hf ha h k (fun hx => ka ⟨k, hx⟩)
  have e := xp_sw a b
  rw [e] at o2
  have ta := cw_three ka
  have tb := cw_three kb
  unfold srP cyP
  generalize xp f a = x at *
  generalize xp f b = y at *
  generalize xp a b = z at *
  generalize cwN f a = u at *
  generalize cwN f b = v at *
  clear e
  split <;> split <;> omega
/-- Of two directions, none of which is the other, one comes sooner; not both. -/
theorem cy_asym {f a b : Sp} (h : cyP f a b) (k : cyP f b a) : False := by
  have e := xp_sw a b
  unfold cyP at h k
  rw [e] at k
  generalize xp f a = x at *
  generalize xp f b = y at *
  generalize xp a b = z at *
  by_cases c1 : (0 < x ↔ 0 < y)
  · rw [if_pos c1] at h
    rw [if_pos c1.symm] at k
    omega
  · rw [if_neg c1] at h
    rw [if_neg (fun hx => c1 hx.symm)] at k
    omega
theorem cy_tot {f a b : Sp} (hf : ¬ f = (0, 0)) (ha : ¬ a = (0, 0)) (hb : ¬ b = (0, 0)) (ka : ¬ sdrP f a) (kb : ¬ sdrP f b) (kab : ¬ sdrP a b) : cyP f a b ∨ cyP f b a := by
  have e := xp_sw a b
  have hz : xp a b = 0 → (0 < xp f a ∧ ¬ 0 < xp f b) ∨ (¬ 0 < xp f a ∧ 0 < xp f b) := fun h0 => by
    have n1 := ip_ne ha hb h0
    have n2 : ip a b < 0 := by
      have : ¬ 0 < ip a b := fun hx => kab ⟨h0, hx⟩
      omega
    have q1 : ip a a * xp f b = ip a b * xp f a := by
      have := xp_ip a f b
      rw [h0, xp_sw f a] at this
      grind
    rcases Int.lt_or_le 0 (xp f a) with c | c
    · exact .inl ⟨c, fun hx => by
        have h1 := Int.mul_pos (ip_self ha) hx
        have h2 := Int.mul_neg_of_neg_of_pos n2 c
        omega⟩
    · refine .inr ⟨by omega, ?_⟩
      have n0 : ¬ xp f a = 0 := fun h1 => by
        rw [h1, Int.mul_zero] at q1
        have h2 : xp f b = 0 := by
          rcases Int.mul_eq_zero.1 q1 with h | h
          · exact absurd h (by have := ip_self ha; omega)
          · exact h
        have m1 : ip f a < 0 := by have := ip_ne hf ha h1; have : ¬ 0 < ip f a := fun hx => ka ⟨h1, hx⟩; omega
        have m2 : ip f b < 0 := by have := ip_ne hf hb h2; have : ¬ 0 < ip f b := fun hx => kb ⟨h2, hx⟩; omega
        have q2 : ip f f * ip a b = ip f a * ip f b + xp f a * xp f b := by unfold ip xp; grind
        rw [h1, h2] at q2
        have := Int.mul_pos_of_neg_of_neg m1 m2
        have := Int.mul_neg_of_pos_of_neg (ip_self hf) n2
        omega
      refine ps_ps (ip_self ha) ?_
      rw [q1]
      exact Int.mul_pos_of_neg_of_neg n2 (by omega)
  unfold cyP
  rw [e]
  generalize xp f a = x at *
  generalize xp f b = y at *
  generalize xp a b = z at *
  by_cases c0 : z = 0
  · rcases hz c0 with ⟨c1, c2⟩ | ⟨c1, c2⟩
    · exact .inr (by rw [if_neg (fun hx => c2 (hx.2 c1))]; exact c1)
    · exact .inl (by rw [if_neg (fun hx => c1 (hx.2 c2))]; exact c2)
  · by_cases c1 : (0 < x ↔ 0 < y)
    · rw [if_pos c1, if_pos c1.symm]
      omega
    · rw [if_neg c1, if_neg (fun hx => c1 hx.symm)]
      omega
/-- No way comes first from two directions, none of which it is. -/
theorem cy_one {f g v : Sp} (h : cyP f v g) (k : cyP g v f) : False := by
  unfold cyP at h k
  rw [xp_sw v g, xp_sw f g, xp_sw f v] at k
  generalize xp f v = x at *
  generalize xp f g = y at *
  generalize xp v g = z at *
  split at h <;> split at k <;> omega
/-- Transitive. -/
theorem cy_trans {f a b c : Sp} (hf : ¬ f = (0, 0)) (ha : ¬ a = (0, 0)) (hc : ¬ c = (0, 0)) (ka : ¬ sdrP f a) (kb : ¬ sdrP f b) (kc : ¬ sdrP f c) (hb : ¬ b = (0, 0)) (h : cyP f a b) (k : cyP f b c) : cyP f a c := by
  rw [← sr_cy hf ha hb ka kb] at h
  rw [← sr_cy hf hb hc kb kc] at k
  rw [← sr_cy hf ha hc ka kc]
  have e := xp_three f a b c
  have kb2 : xp f b = 0 → ip f b ≤ 0 := fun h0 => by have : ¬ 0 < ip f b := fun hx => kb ⟨h0, hx⟩; omega
  unfold srP at h k ⊢
  have w1 : cwN f a = cwN f b → cwN f b = cwN f c → xp a b < 0 → xp b c < 0 → xp a c < 0 := fun q1 q2 q3 q4 => by
    have ta := cw_three ka
    have tb := cw_three kb
    have tc := cw_three kc
    rcases tb with ⟨c0, s0⟩ | ⟨c0, s0⟩ | ⟨c0, s0⟩
    · have sa : xp f a < 0 := by omega
      have sc : xp f c < 0 := by omega
      have p1 := Int.mul_pos_of_neg_of_neg sa q4
      have p2 := Int.mul_pos_of_neg_of_neg sc q3
      have p3 : 0 < (-xp f b) * (-xp a c) := by rw [Int.neg_mul_neg]; omega
      have := ps_ps (by omega) p3
      omega
    · have sa : 0 < xp f a := by omega
      have sc : 0 < xp f c := by omega
      have p1 := Int.mul_neg_of_pos_of_neg sa q4
      have p2 := Int.mul_neg_of_pos_of_neg sc q3
      exact ps_ng s0 (by omega)
    · have sa : xp f a = 0 := by omega
      have e2 := xp_ip f a b
      rw [sa, s0, Int.mul_zero, Int.mul_zero] at e2
      have := Int.mul_neg_of_pos_of_neg (ip_self hf) q3
      omega
  split at h <;> split at k <;> split <;> first | (apply w1 <;> omega) | omega
end Go.Proofs.YtnadgoomkaldkaaDoor
