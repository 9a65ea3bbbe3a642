/-
  grid: within, floor, right; mercatorref2.IsBox; mercatorlaw2.coded. Rows of whole numbers.; grid.right; mercatorref2.IsBox.; Rows of whole numbers that a call makes; grid.multiples.
-/
import Derived.Test.YtecmkjefoppbiaaDoorQJ13
import Derived.Test.YtecmkjefoppbiaaDoorQJ8
import Derived.WalkLawsBesides
import Derived.WalkSmall
import Derived.Outline
import Derived.LoopN
import Derived.Deep.LoopGhost
namespace Go.Proofs.YtecmkjefoppbiaaDoor
open Go.RowKit

theorem coded_g (g : Nat → Addr) (i : Nat) (hi : i < 8) (w : World) (hl : Laid w g) : Calls Tryd.prog 8 #[errV g i, .int .i64 ((i : Int) + 1)] w fun e w' => e = .returned (.bool true) ∧ Gr w w' := by
  refine (coded_sent g i hi _ w hl).mono ?_
  rintro e w' ⟨rfl, hB⟩
  exact ⟨by simp, hB⟩
abbrev boV (a b c d : Int) : Value := .agg #[.int .i64 a, .int .i64 b, .int .i64 c, .int .i64 d]
abbrev boL (a b c d : Int) : List Value := [.int .i64 a, .int .i64 b, .int .i64 c, .int .i64 d]
theorem At.newRow (W : World) (l : List Value) (t : Nat) : At (W.alloc (.cells l.toArray t)) W.heap.size l := by
  refine ⟨fun i hi => ?_, by simp⟩
  constructor
  · rw [World.cell?_alloc_at _ _ _ _ rfl]
    simp [hi]
  · exact World.frozen?_alloc_at _ _ _ _ rfl
theorem At.new4 (W : World) (a b c d : Value) (t : Nat) : At (W.alloc (.cells #[a, b, c, d] t)) W.heap.size [a, b, c, d] := At.newRow W [a, b, c, d] t
theorem At.c4 {W : World} {B : Nat} {a b c d : Value} (h : At W B [a, b, c, d]) : W.cell? ⟨B, 0, none⟩ = some a ∧ W.cell? ⟨B, 1, none⟩ = some b ∧ W.cell? ⟨B, 2, none⟩ = some c ∧ W.cell? ⟨B, 3, none⟩ = some d := ⟨(h.1 0 (by simp)).1, (h.1 1 (by simp)).1, (h.1 2 (by simp)).1, (h.1 3 (by simp)).1⟩

/-- Within bounds. -/
def inI (lo hi n : Int) : Bool := decide (lo ≤ n) && decide (n ≤ hi)
/-- Rounded down. -/
theorem tdiv_floor (n s : Int) (hs : 1 ≤ s) : n / s = if n.tmod s < 0 then n.tdiv s - 1 else n.tdiv s := by
  have h2 : s * (n / s) + n % s = n := by have := Int.emod_def n s; omega
  have h3 := Int.emod_nonneg n (show s ≠ 0 by omega)
  have h4 := Int.emod_lt_of_pos n (show 0 < s by omega)
  by_cases hn : 0 ≤ n
  · have h5 := Int.tmod_nonneg s hn
    rw [if_neg (by omega), Int.tdiv_eq_ediv_of_nonneg hn]
  · have h5 : n.tmod s = - ((-n).tmod s) := by rw [Int.neg_tmod]; omega
    have h6 : n.tdiv s = - ((-n).tdiv s) := by rw [Int.neg_tdiv]; omega
    rw [h5, h6, Int.tmod_eq_emod_of_nonneg (by omega), Int.tdiv_eq_ediv_of_nonneg (by omega)]
    have h7 : s * ((-n) / s) + (-n) % s = -n := by have := Int.emod_def (-n) s; omega
    have h8 := Int.emod_nonneg (-n) (show s ≠ 0 by omega)
    have h9 := Int.emod_lt_of_pos (-n) (show 0 < s by omega)
    generalize (-n) % s = r at *
    generalize (-n) / s = q at *
    generalize n % s = r' at *
    generalize n / s = q' at *
    have e : s * (q' + q) = - (r' + r) := by rw [Int.mul_add]; omega
    by_cases hr : 0 < r
    · rw [if_pos (by omega)]
      have : q' + q = -1 := by
        rcases Int.lt_trichotomy (q' + q) (-1) with h | h | h
        · exfalso
          have : s * (q' + q) ≤ s * (-2) := Int.mul_le_mul_of_nonneg_left (by omega) (by omega)
          omega
        · exact h
        · exfalso
          have : s * 0 ≤ s * (q' + q) := Int.mul_le_mul_of_nonneg_left (by omega) (by omega)
          omega
      omega
    · rw [if_neg (by omega)]
      have : q' + q = 0 := by
        rcases Int.lt_trichotomy (q' + q) 0 with h | h | h
        · exfalso
          have : s * (q' + q) ≤ s * (-1) := Int.mul_le_mul_of_nonneg_left (by omega) (by omega)
          omega
        · exact h
        · exfalso
          have : s * 1 ≤ s * (q' + q) := Int.mul_le_mul_of_nonneg_left (by omega) (by omega)
          omega
      omega
theorem tdiv_bd (n s : Int) (_hs : 1 ≤ s) : -(n.natAbs : Int) ≤ n.tdiv s ∧ n.tdiv s ≤ n.natAbs := by
  have h : (n.tdiv s).natAbs = n.natAbs / s.natAbs := Int.natAbs_tdiv n s
  have h2 : n.natAbs / s.natAbs ≤ n.natAbs := Nat.div_le_self _ _
  omega
end Go.Proofs.YtecmkjefoppbiaaDoor
namespace Go.Proofs.YtecmkjefoppbiaaDoor
open Go.RowKit

/-- A box that is one. -/
def okB (a b c d : Int) : Bool := inI (-16777216) 16777216 a && inI (-16777216) 16777216 b && inI (-16777216) 16777216 c && inI (-16777216) 16777216 d && decide (a ≤ c) && decide (b ≤ d)
theorem okB_bd {a b c d : Int} (h : okB a b c d = true) : (-16777216 ≤ a ∧ a ≤ 16777216) ∧ (-16777216 ≤ b ∧ b ≤ 16777216) ∧ (-16777216 ≤ c ∧ c ≤ 16777216) ∧ (-16777216 ≤ d ∧ d ≤ 16777216) ∧ a ≤ c ∧ b ≤ d := by
  unfold okB inI at h
  simp only [Bool.and_eq_true, decide_eq_true_eq] at h
  omega
theorem inI_no {lo hi n : Int} (h : inI lo hi n = false) : (decide (hi < n) || decide (n < lo)) = true := by
  unfold inI at h
  by_cases h1 : lo ≤ n
  · have : ¬ n ≤ hi := by intro h2; simp [h1, h2] at h
    have : hi < n := by omega
    simp [this]
  · have : n < lo := by omega
    simp [this]
theorem inI_yes {lo hi n : Int} (h : inI lo hi n = true) : ¬ hi < n ∧ ¬ n < lo := by
  unfold inI at h
  simp only [Bool.and_eq_true, decide_eq_true_eq] at h
  omega
end Go.Proofs.YtecmkjefoppbiaaDoor
namespace Go.Proofs.YtecmkjefoppbiaaDoor
open Go.RowKit

theorem info_parts {e : TypeId} {z : Value} {s b : Nat} (h : (Tryd.prog.info? e).map (fun i => (i.zero, i.size, i.bytes)) = some (some z, s, b)) : ∃ i, Tryd.prog.info? e = some i ∧ i.zero = some z ∧ i.size = s ∧ i.bytes = b := by
  obtain ⟨i, h1, h2⟩ := Option.map_eq_some_iff.1 h
  simp only [Prod.mk.injEq] at h2
  exact ⟨i, h1, h2.1, h2.2.1, h2.2.2⟩
theorem infoI : (Tryd.prog.info? 3).map (fun i => (i.zero, i.size, i.bytes)) = some (some (.int .i64 0), 1, 8) := by kernel_rfl
theorem undI : Tryd.prog.underlying 28 = some (.slice 3) := by kernel_rfl
theorem news1 {w : World} {ad : Addr} {x : Value} {j : Nat} {u : Value} (hj : ([x] : List Value)[j]? = some u) (h : w.cell? (ad.add 0) = some x) : w.cell? (ad.add j) = some u := by
  match j with
  | 0 => simp at hj; subst hj; exact h
  | j + 1 => simp at hj
/-- The numbers as values; a slice that holds them. -/
abbrev ir (l : List Int) : List Value := l.map (Value.int .i64)
theorem ir_snoc (l : List Int) (d : Int) : ir l ++ [Value.int .i64 d] = ir (l ++ [d]) := by simp [ir]
def RowI (w : World) (v : Value) (l : List Int) : Prop := (v = .slice none 0 0 ∧ l = []) ∨ ∃ b cap, v = .slice (some ⟨b, 0, none⟩) l.length cap ∧ l.length ≤ cap ∧ cap ≤ maxLen ∧ (∀ i, (h : i < l.length) → w.cell? ⟨b, i, none⟩ = some (.int .i64 l[i])) ∧ b < w.heap.size
theorem RowI.below {W w' : World} {v : Value} {l : List Int} (hB : Below W.heap.size W w') (h : RowI W v l) : RowI w' v l := by
  rcases h with h | ⟨b, cap, h1, h2, h3, h4, h5⟩
  · exact .inl h
  · exact .inr ⟨b, cap, h1, h2, h3, fun i hi => (hB.cell (p := ⟨b, i, none⟩) h5).trans (h4 i hi), Nat.lt_of_lt_of_le h5 hB.size⟩
theorem own_ri {w : World} {base : Nat} {v : Value} {n : Nat} {l : List Int} (h : w.ownsRow base 3 1 v n (ir l)) : RowI w v l ∧ n = l.length := by
  have hn : n = l.length := by have := h.1; simp [ir] at this; omega
  subst hn
  refine ⟨?_, rfl⟩
  obtain ⟨h1, h | ⟨g, cap, cur, hv, hb, hg, hc, hm, hs, ht⟩⟩ := h
  · obtain ⟨rfl, h0⟩ := h
    exact .inl ⟨rfl, List.eq_nil_of_length_eq_zero h0⟩
  · refine .inr ⟨g, cap, hv, hc, hm, ?_, ?_⟩
    · intro i hi
      have e : cur.toList[i]? = some (.int .i64 l[i]) := by
        have : (cur.toList.take (l.length * 1))[i]? = (ir l)[i]? := by rw [ht]
        rw [List.getElem?_take] at this
        rw [if_pos (by omega)] at this
        rw [this]
        simp [ir, hi]
      simp [World.cell?, hg]
      simpa using e
    · rcases Nat.lt_or_ge g w.heap.size with c | c
      · exact c
      · rw [Array.getElem?_eq_none c] at hg; cases hg
/-- The first multiple, the last one; so many multiples of a step. -/
def fiI (low s : Int) : Int := -((-low) / s)
def laI (high s : Int) : Int := high / s
def mulL (f s : Int) (n : Nat) : List Int := (List.range n).map fun (i : Nat) => (f + (i : Int)) * s
theorem mulL_len (f s : Int) (n : Nat) : (mulL f s n).length = n := by simp [mulL]
theorem mulL_snoc (f s : Int) (n : Nat) : mulL f s n ++ [(f + (n : Int)) * s] = mulL f s (n + 1) := by simp [mulL, List.range_succ]
theorem la_iff {high s : Int} (hs : 1 ≤ s) (x : Int) : x ≤ laI high s ↔ x * s ≤ high := Int.le_ediv_iff_mul_le (by omega)
theorem fi_iff {low s : Int} (hs : 1 ≤ s) (x : Int) : fiI low s ≤ x ↔ low ≤ x * s := by
  have h := Int.le_ediv_iff_mul_le (c := s) (a := -x) (b := -low) (by omega)
  rw [Int.neg_mul] at h
  unfold fiI
  omega
theorem div_bd {n s : Int} (hs : 1 ≤ s) (h1 : -16777216 ≤ n) (h2 : n ≤ 16777216) : -16777216 ≤ n / s ∧ n / s ≤ 16777216 := by
  constructor
  · rw [Int.le_ediv_iff_mul_le (by omega)]
    have : (-16777216) * s ≤ (-16777216) * 1 := Int.mul_le_mul_of_nonpos_left (by omega) (by omega)
    omega
  · have h := (Int.le_ediv_iff_mul_le (c := s) (a := n / s) (b := n) (by omega)).1 (Int.le_refl _)
    rcases Int.lt_or_le (n / s) 0 with c | c
    · omega
    · have : n / s * 1 ≤ n / s * s := Int.mul_le_mul_of_nonneg_left hs c
      omega
def few (low high s : Int) : Bool := decide (laI high s - fiI low s < 4000)
def linL (low high s : Int) : List Int := mulL (fiI low s) s (laI high s - fiI low s + 1).toNat
end Go.Proofs.YtecmkjefoppbiaaDoor
