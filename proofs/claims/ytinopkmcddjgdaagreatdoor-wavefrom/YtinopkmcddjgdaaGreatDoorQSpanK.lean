/-
  Places of words: opposites, the least and the greatest of two, the next ones; and the leaf functions that do it.
-/
import Derived.Test.YtinopkmcddjgdaaGreatDoorQJ2
import Derived.Test.YtinopkmcddjgdaaGreatDoorQJ1
namespace Go.Proofs.YtinopkmcddjgdaaGreatDoor
open Go.RowKit FB

def posInf : Int := 9218868437227405312
theorem num_nn {x : Nat} (hx : x < 18446744073709551616) (h : Num x) : NN x ∧ x % 9223372036854775808 < 9218868437227405312 := by
  have hf : x % 9223372036854775808 < 9218868437227405312 := by
    obtain ⟨s, m, e, hr⟩ := h
    rw [read_eq] at hr
    generalize x % 9223372036854775808 = r at hr ⊢
    by_cases c1 : r < 4503599627370496
    · omega
    · rw [if_neg c1] at hr
      by_cases c2 : r < 9218868437227405312
      · exact c2
      · rw [if_neg c2] at hr
        by_cases c3 : r = 9218868437227405312
        · rw [if_pos c3] at hr; cases hr
        · rw [if_neg c3] at hr; cases hr
  exact ⟨⟨hx, by omega⟩, hf⟩
theorem nn_num {x : Nat} (h : NN x) (hk : -posInf < key x ∧ key x < posInf) : Num x := by
  unfold posInf at hk
  have hf : x % 9223372036854775808 < 9218868437227405312 := by
    obtain ⟨h1, h2⟩ := h
    unfold key at hk
    split at hk <;> omega
  obtain ⟨s, m, e, hr, _⟩ := read_fin h.1 hf
  exact ⟨s, m, e, hr⟩
theorem nn_key_bd {x : Nat} (h : NN x) : -posInf ≤ key x ∧ key x ≤ posInf := by
  obtain ⟨h1, h2⟩ := h
  unfold key posInf
  split <;> omega
theorem num_key {x : Nat} (hx : x < 18446744073709551616) (h : Num x) : NN x ∧ -posInf < key x ∧ key x < posInf := by
  obtain ⟨h1, h2⟩ := num_nn hx h
  exact ⟨h1, key_bd h2⟩
theorem finV_key {x : Nat} (h : NN x) : finV x = (decide (-posInf < key x) && decide (key x < posInf)) := by
  rw [Bool.eq_iff_iff]
  rw [finV_num]
  constructor
  · intro hn; have := num_key h.1 hn; simp [this]
  · intro hk
    simp only [Bool.and_eq_true, decide_eq_true_eq] at hk
    exact nn_num h hk
theorem nn_zero : NN 0 ∧ key 0 = 0 := ⟨⟨by decide, by decide⟩, rfl⟩

theorem ordk {a b : Nat} (ha : NN a) (hb : NN b) : FloatKind.f64.format.order a b = some (compare (key a) (key b)) := order_key ha hb
theorem k_lss {a b : Nat} (ha : NN a) (hb : NN b) : (FloatKind.f64.format.order a b == some Ordering.lt) = decide (key a < key b) := by
  rw [ordk ha hb]
  rcases Int.lt_trichotomy (key a) (key b) with h | h | h
  · rw [Int.compare_eq_lt.2 h]; simp [h]
  · rw [h, Int.compare_eq_eq.2 rfl]; simp
  · rw [Int.compare_eq_gt.2 h]; simp; omega
theorem k_gtr {a b : Nat} (ha : NN a) (hb : NN b) : (FloatKind.f64.format.order a b == some Ordering.gt) = decide (key b < key a) := by
  rw [ordk ha hb]
  rcases Int.lt_trichotomy (key a) (key b) with h | h | h
  · rw [Int.compare_eq_lt.2 h]; simp; omega
  · rw [h, Int.compare_eq_eq.2 rfl]; simp
  · rw [Int.compare_eq_gt.2 h]; simp [h]
theorem k_eql {a b : Nat} (ha : NN a) (hb : NN b) : (FloatKind.f64.format.order a b == some Ordering.eq) = decide (key a = key b) := by
  rw [ordk ha hb]
  rcases Int.lt_trichotomy (key a) (key b) with h | h | h
  · rw [Int.compare_eq_lt.2 h]; simp; omega
  · rw [h, Int.compare_eq_eq.2 rfl]; simp
  · rw [Int.compare_eq_gt.2 h]; simp; omega
theorem k_leq {a b : Nat} (ha : NN a) (hb : NN b) : (FloatKind.f64.format.order a b == some Ordering.lt || FloatKind.f64.format.order a b == some Ordering.eq) = decide (key a ≤ key b) := by
  rw [k_lss ha hb, k_eql ha hb, Bool.eq_iff_iff]; simp; omega
theorem k_geq {a b : Nat} (ha : NN a) (hb : NN b) : (FloatKind.f64.format.order a b == some Ordering.gt || FloatKind.f64.format.order a b == some Ordering.eq) = decide (key b ≤ key a) := by
  rw [k_gtr ha hb, k_eql ha hb, Bool.eq_iff_iff]; simp; omega
theorem k_neq {a b : Nat} (ha : NN a) (hb : NN b) : (FloatKind.f64.format.order a b != some Ordering.eq) = decide (key a ≠ key b) := by
  show (!(FloatKind.f64.format.order a b == some Ordering.eq)) = _
  rw [k_eql ha hb]; simp

theorem key_neg {x : Nat} (h : NN x) : NN (Op.negFloat .f64 x) ∧ key (Op.negFloat .f64 x) = -key x := by
  obtain ⟨h1, h2⟩ := h
  have ha := neg_abs x h1
  unfold absB at ha
  refine ⟨⟨ha.2, by omega⟩, ?_⟩
  unfold key
  by_cases c : x < 9223372036854775808
  · rw [neg_low c, if_pos c, if_neg (by omega)]
    have : (9223372036854775808 + x) % 9223372036854775808 = x := by omega
    rw [this]
  · obtain ⟨b, rfl⟩ : ∃ b, x = 9223372036854775808 + b := ⟨x - 9223372036854775808, by omega⟩
    rw [neg_high (by omega), if_pos (by omega), if_neg c]
    have : (9223372036854775808 + b) % 9223372036854775808 = b := by omega
    rw [this]; omega
theorem key_uz {x : Nat} (h : NN x) : NN (uz x) ∧ key (uz x) = key x := by
  unfold uz
  split
  · rename_i he
    have := k_eql h nn_zero.1
    rw [show FloatKind.f64.format.order x 0 = some .eq from he] at this
    have hk : key x = key 0 := by simpa using this.symm
    exact ⟨nn_zero.1, hk.symm⟩
  · exact ⟨h, rfl⟩

/-- The lesser, the greater of two. -/
def fmn (x y : Nat) : Nat := match FloatKind.f64.format.order x y with
  | some .lt => x
  | some .gt => y
  | _ => if (FloatKind.f64.decode x).neg then x else y
def fmx (x y : Nat) : Nat := match FloatKind.f64.format.order x y with
  | some .lt => y
  | some .gt => x
  | _ => if (FloatKind.f64.decode x).neg then y else x
theorem fmn_key {x y : Nat} (hx : NN x) (hy : NN y) : NN (fmn x y) ∧ key (fmn x y) = min (key x) (key y) := by
  unfold fmn
  rw [ordk hx hy]
  rcases Int.lt_trichotomy (key x) (key y) with h | h | h
  · rw [Int.compare_eq_lt.2 h]; exact ⟨hx, by simp only []; omega⟩
  · rw [Int.compare_eq_eq.2 h]; simp only []
    split
    · exact ⟨hx, by omega⟩
    · exact ⟨hy, by omega⟩
  · rw [Int.compare_eq_gt.2 h]; exact ⟨hy, by simp only []; omega⟩
theorem fmx_key {x y : Nat} (hx : NN x) (hy : NN y) : NN (fmx x y) ∧ key (fmx x y) = max (key x) (key y) := by
  unfold fmx
  rw [ordk hx hy]
  rcases Int.lt_trichotomy (key x) (key y) with h | h | h
  · rw [Int.compare_eq_lt.2 h]; exact ⟨hy, by simp only []; omega⟩
  · rw [Int.compare_eq_eq.2 h]; simp only []
    split
    · exact ⟨hy, by omega⟩
    · exact ⟨hx, by omega⟩
  · rw [Int.compare_eq_gt.2 h]; exact ⟨hx, by simp only []; omega⟩
theorem run_fmn {x y : Nat} (hx : NN x) (hy : NN y) (ts : Array TypeId) (t : TypeId) (w : World) : (Builtin.min_ ts t #[.float .f64 x, .float .f64 y]).run Tryz.prog w = .ok (.float .f64 (fmn x y)) w := by
  unfold fmn
  have h := ordk hx hy
  rcases Int.lt_trichotomy (key x) (key y) with c | c | c
  · rw [Int.compare_eq_lt.2 c] at h; simp [Builtin.min_, Builtin.min2, h]
  · rw [Int.compare_eq_eq.2 c] at h; simp [Builtin.min_, Builtin.min2, h]
  · rw [Int.compare_eq_gt.2 c] at h; simp [Builtin.min_, Builtin.min2, h]
theorem run_fmx {x y : Nat} (hx : NN x) (hy : NN y) (ts : Array TypeId) (t : TypeId) (w : World) : (Builtin.max_ ts t #[.float .f64 x, .float .f64 y]).run Tryz.prog w = .ok (.float .f64 (fmx x y)) w := by
  unfold fmx
  have h := ordk hx hy
  rcases Int.lt_trichotomy (key x) (key y) with c | c | c
  · rw [Int.compare_eq_lt.2 c] at h; simp [Builtin.max_, Builtin.max2, h]
  · rw [Int.compare_eq_eq.2 c] at h; simp [Builtin.max_, Builtin.max2, h]
  · rw [Int.compare_eq_gt.2 c] at h; simp [Builtin.max_, Builtin.max2, h]

/-- The word one place up, of one below infinity. -/
def upW (x : Nat) : Nat := if key x = 0 then 1 else if x < 9223372036854775808 then x + 1 else x - 1
theorem upW_key {x : Nat} (h : NN x) (hk : key x < posInf) : NN (upW x) ∧ key (upW x) = key x + 1 := by
  unfold upW posInf at *
  obtain ⟨h1, h2⟩ := h
  by_cases c0 : key x = 0
  · rw [if_pos c0, c0]; exact ⟨⟨by decide, by decide⟩, rfl⟩
  · rw [if_neg c0]
    unfold key at *
    by_cases c : x < 9223372036854775808
    · rw [if_pos c] at hk c0 ⊢
      rw [if_pos c]
      refine ⟨⟨by omega, by omega⟩, ?_⟩
      rw [if_pos (by omega)]; omega
    · rw [if_neg c] at hk c0 ⊢
      rw [if_neg c]
      refine ⟨⟨by omega, by omega⟩, ?_⟩
      by_cases c1 : x = 9223372036854775808
      · subst c1; simp at c0
      · rw [if_neg (by omega)]; omega
def downW (x : Nat) : Nat := if key x = 0 then 9223372036854775809 else if x < 9223372036854775808 then x - 1 else x + 1
theorem downW_key {x : Nat} (h : NN x) (hk : -posInf < key x) : NN (downW x) ∧ key (downW x) = key x - 1 := by
  unfold downW posInf at *
  obtain ⟨h1, h2⟩ := h
  by_cases c0 : key x = 0
  · rw [if_pos c0, c0]; exact ⟨⟨by decide, by decide⟩, by decide⟩
  · rw [if_neg c0]
    unfold key at *
    by_cases c : x < 9223372036854775808
    · rw [if_pos c] at hk c0 ⊢
      rw [if_pos c]
      refine ⟨⟨by omega, by omega⟩, ?_⟩
      rw [if_pos (by omega)]; omega
    · rw [if_neg c] at hk c0 ⊢
      rw [if_neg c]
      refine ⟨⟨by omega, by omega⟩, ?_⟩
      rw [if_neg (by omega)]; omega
end Go.Proofs.YtinopkmcddjgdaaGreatDoor
