/-
  The most and the least around a cell: first along rows, then along columns; opening and closing. No Go text.
-/
import Derived.Test.YtphpfongdbidoaaDoorQRa
namespace Go.Proofs.YtphpfongdbidoaaDoor
open Go.RowKit

/-- The greater one (true) or the lesser one (false) of two; the order that goes with it. -/
def pk (s : Bool) (x y : Int) : Int := if s then max x y else min x y
def lq (s : Bool) (x y : Int) : Prop := if s then x ≤ y else y ≤ x
theorem lq_refl (s : Bool) (x : Int) : lq s x x := by unfold lq; split <;> omega
theorem lq_trans {s : Bool} {x y z : Int} (h : lq s x y) (k : lq s y z) : lq s x z := by unfold lq at *; split <;> simp_all <;> omega
theorem lq_eq {s : Bool} {x y : Int} (h : lq s x y) (k : lq s y x) : x = y := by unfold lq at *; split at h <;> simp_all <;> omega
theorem lq_not {s : Bool} {x y : Int} : lq (!s) x y ↔ lq s y x := by cases s <;> simp [lq]
theorem lq_neg {s : Bool} {x y : Int} : lq s (-x) (-y) ↔ lq (!s) x y := by cases s <;> simp [lq]
theorem pk_left (s : Bool) (x y : Int) : lq s x (pk s x y) := by cases s <;> simp [lq, pk] <;> omega
theorem pk_right (s : Bool) (x y : Int) : lq s y (pk s x y) := by cases s <;> simp [lq, pk] <;> omega
theorem pk_or (s : Bool) (x y : Int) : pk s x y = x ∨ pk s x y = y := by cases s <;> simp [pk] <;> omega
/-- The best of f from a on, so many more. -/
def pr (s : Bool) (f : Nat → Int) (a : Nat) : Nat → Int
  | 0 => f a
  | k + 1 => pk s (pr s f a k) (f (a + k + 1))
theorem pr_up (s : Bool) (f : Nat → Int) (a : Nat) : ∀ k i, a ≤ i → i ≤ a + k → lq s (f i) (pr s f a k)
  | 0, i, h1, h2 => by
    obtain rfl : i = a := by omega
    exact lq_refl s _
  | k + 1, i, h1, h2 => by
    unfold pr
    by_cases h : i = a + k + 1
    · subst h; exact pk_right s _ _
    · exact lq_trans (pr_up s f a k i h1 (by omega)) (pk_left s _ _)
theorem pr_in (s : Bool) (f : Nat → Int) (a : Nat) : ∀ k, ∃ i, a ≤ i ∧ i ≤ a + k ∧ pr s f a k = f i
  | 0 => ⟨a, Nat.le_refl _, Nat.le_refl _, rfl⟩
  | k + 1 => by
    obtain ⟨i, h1, h2, h3⟩ := pr_in s f a k
    unfold pr
    rcases pk_or s (pr s f a k) (f (a + k + 1)) with h | h
    · exact ⟨i, h1, by omega, by rw [h, h3]⟩
    · exact ⟨a + k + 1, by omega, by omega, h⟩
/-- Around a place of a line: from lo on, up to hi. -/
def hbN (n r m : Nat) : Nat := min (n + r + 1) m
def lnB (s : Bool) (f : Nat → Int) (m r c : Nat) : Int := pr s f (c - r) (hbN c r m - (c - r) - 1)
def nr (r a b : Nat) : Prop := a ≤ b + r ∧ b ≤ a + r
theorem nr_symm {r a b : Nat} (h : nr r a b) : nr r b a := ⟨h.2, h.1⟩
theorem nr_refl (r a : Nat) : nr r a a := ⟨by omega, by omega⟩
theorem lnB_up {s : Bool} {f : Nat → Int} {m r c i : Nat} (hc : c < m) (hi : i < m) (h : nr r c i) : lq s (f i) (lnB s f m r c) := by
  obtain ⟨h1, h2⟩ := h
  unfold lnB
  have : hbN c r m = min (c + r + 1) m := rfl
  exact pr_up s f _ _ i (by omega) (by omega)
theorem lnB_in {s : Bool} {f : Nat → Int} {m r c : Nat} (hc : c < m) : ∃ i, i < m ∧ nr r c i ∧ lnB s f m r c = f i := by
  unfold lnB
  have : hbN c r m = min (c + r + 1) m := rfl
  obtain ⟨i, h1, h2, h3⟩ := pr_in s f (c - r) (hbN c r m - (c - r) - 1)
  exact ⟨i, by omega, ⟨by omega, by omega⟩, h3⟩
theorem pr_congr {s : Bool} {f g : Nat → Int} {a : Nat} : ∀ {k : Nat}, (∀ i, a ≤ i → i ≤ a + k → f i = g i) → pr s f a k = pr s g a k
  | 0, h => h a (Nat.le_refl _) (Nat.le_refl _)
  | k + 1, h => by
    unfold pr
    rw [pr_congr (k := k) (fun i h1 h2 => h i h1 (by omega)), h (a + k + 1) (by omega) (by omega)]
theorem lnB_congr {s : Bool} {f g : Nat → Int} {m r c : Nat} (hc : c < m) (h : ∀ i, i < m → f i = g i) : lnB s f m r c = lnB s g m r c := by
  unfold lnB
  have : hbN c r m = min (c + r + 1) m := rfl
  exact pr_congr (fun i h1 h2 => h i (by omega))
/-- The best around a cell. -/
def blB (s : Bool) (l : List Int) (m n r y x : Nat) : Int := lnB s (fun y' => lnB s (fun x' => gl l (y' * m + x')) m r x) n r y
structure IsB (s : Bool) (l : List Int) (m n r y x : Nat) (v : Int) : Prop where
  up : ∀ y' x', y' < n → x' < m → nr r y y' → nr r x x' → lq s (gl l (y' * m + x')) v
  in_ : ∃ y' x', y' < n ∧ x' < m ∧ nr r y y' ∧ nr r x x' ∧ v = gl l (y' * m + x')
theorem IsB.uniq {s : Bool} {l : List Int} {m n r y x : Nat} {v u : Int} (h : IsB s l m n r y x v) (k : IsB s l m n r y x u) : v = u := by
  obtain ⟨y1, x1, a1, b1, c1, d1, e1⟩ := h.in_
  obtain ⟨y2, x2, a2, b2, c2, d2, e2⟩ := k.in_
  have h1 := k.up y1 x1 a1 b1 c1 d1
  have h2 := h.up y2 x2 a2 b2 c2 d2
  rw [← e1] at h1
  rw [← e2] at h2
  exact lq_eq h1 h2
theorem blB_is {s : Bool} {l : List Int} {m n r y x : Nat} (hy : y < n) (hx : x < m) : IsB s l m n r y x (blB s l m n r y x) := by
  refine ⟨fun y' x' h1 h2 h3 h4 => ?_, ?_⟩
  · unfold blB
    exact lq_trans (lnB_up (f := fun x' => gl l (y' * m + x')) hx h2 h4) (lnB_up (f := fun y' => lnB s (fun x' => gl l (y' * m + x')) m r x) hy h1 h3)
  · unfold blB
    obtain ⟨y', h1, h2, h3⟩ := lnB_in (s := s) (f := fun y' => lnB s (fun x' => gl l (y' * m + x')) m r x) (r := r) hy
    obtain ⟨x', k1, k2, k3⟩ := lnB_in (s := s) (f := fun x' => gl l (y' * m + x')) (r := r) hx
    exact ⟨y', x', h1, k1, h2, k2, by rw [h3, k3]⟩
/-- All cells'. -/
def mpL (s : Bool) (l : List Int) (m n r : Nat) : List Int := (List.range (n * m)).map fun j => blB s l m n r (j / m) (j % m)
theorem mpL_len (s : Bool) (l : List Int) (m n r : Nat) : (mpL s l m n r).length = n * m := by simp [mpL]
theorem cell_lt {m n y x : Nat} (hy : y < n) (hx : x < m) : y * m + x < n * m := by
  have : (y + 1) * m ≤ n * m := Nat.mul_le_mul_right _ hy
  rw [Nat.add_mul] at this
  omega
theorem gl_map {f : Nat → Int} {K j : Nat} (h : j < K) : gl ((List.range K).map f) j = f j := by
  unfold gl
  rw [List.getD_eq_getElem?_getD]
  simp [h]
theorem mpL_at {s : Bool} {l : List Int} {m n r y x : Nat} (hy : y < n) (hx : x < m) : gl (mpL s l m n r) (y * m + x) = blB s l m n r y x := by
  unfold mpL
  rw [gl_map (cell_lt hy hx), (mod_at hx).1, (mod_at hx).2]
theorem mpL_is {s : Bool} {l : List Int} {m n r y x : Nat} (hy : y < n) (hx : x < m) : IsB s l m n r y x (gl (mpL s l m n r) (y * m + x)) := by
  rw [mpL_at hy hx]
  exact blB_is hy hx
theorem mpL_ok {s : Bool} {l : List Int} {m n r : Nat} (ok : Ok l m n) : Ok (mpL s l m n r) m n := by
  refine ⟨ok.m1, ok.m2, ok.n1, ok.n2, by rw [mpL_len, Nat.mul_comm], fun i => ?_⟩
  by_cases h : i < n * m
  · have hm := ok.m1
    have h1 : i / m < n := (Nat.div_lt_iff_lt_mul (by omega)).2 h
    have h2 : i % m < m := Nat.mod_lt _ (by omega)
    have e : i / m * m + i % m = i := by rw [Nat.mul_comm]; exact Nat.div_add_mod _ _
    obtain ⟨y', x', _, _, _, _, hv⟩ := (mpL_is (s := s) (l := l) (r := r) h1 h2).in_
    rw [e] at hv
    rw [hv]
    exact ok.hi _
  · unfold gl
    rw [List.getD_eq_getElem?_getD, List.getElem?_eq_none (by rw [mpL_len]; omega)]
    decide
theorem list_eq {l k : List Int} (h : l.length = k.length) (e : ∀ i, i < l.length → gl l i = gl k i) : l = k := by
  apply List.ext_getElem h
  intro i h1 h2
  rw [gl_get h1, gl_get h2]
  exact e i h1
theorem cells_all {l k : List Int} {m n : Nat} (hm : 1 ≤ m) (hl : l.length = n * m) (hk : k.length = n * m) (h : ∀ y x, y < n → x < m → gl l (y * m + x) = gl k (y * m + x)) : l = k := by
  refine list_eq (by rw [hl, hk]) (fun i hi => ?_)
  have h1 : i / m < n := (Nat.div_lt_iff_lt_mul (by omega)).2 (by omega)
  have h2 : i % m < m := Nat.mod_lt _ (by omega)
  have e : i / m * m + i % m = i := by rw [Nat.mul_comm]; exact Nat.div_add_mod _ _
  have := h _ _ h1 h2
  rwa [e] at this
/-- Opened (true) or closed (false). -/
def opL (s : Bool) (l : List Int) (m n r : Nat) : List Int := mpL s (mpL (!s) l m n r) m n r
theorem opL_le {s : Bool} {l : List Int} {m n r y x : Nat} (hy : y < n) (hx : x < m) : lq s (gl (opL s l m n r) (y * m + x)) (gl l (y * m + x)) := by
  obtain ⟨y', x', h1, h2, h3, h4, hv⟩ := (mpL_is (s := s) (l := mpL (!s) l m n r) (r := r) hy hx).in_
  show lq s (gl (mpL s (mpL (!s) l m n r) m n r) (y * m + x)) _
  rw [hv]
  exact lq_not.1 ((mpL_is (s := !s) (l := l) (r := r) h1 h2).up y x hy hx (nr_symm h3) (nr_symm h4))
theorem mpL_mono {s : Bool} {l k : List Int} {m n r : Nat} (h : ∀ y x, y < n → x < m → lq s (gl l (y * m + x)) (gl k (y * m + x))) {y x : Nat} (hy : y < n) (hx : x < m) : lq s (gl (mpL s l m n r) (y * m + x)) (gl (mpL s k m n r) (y * m + x)) := by
  obtain ⟨y', x', h1, h2, h3, h4, hv⟩ := (mpL_is (s := s) (l := l) (r := r) hy hx).in_
  rw [hv]
  exact lq_trans (h y' x' h1 h2) ((mpL_is (s := s) (l := k) (r := r) hy hx).up y' x' h1 h2 h3 h4)
theorem opL_twice {s : Bool} {l : List Int} {m n r : Nat} (hm : 1 ≤ m) : opL s (opL s l m n r) m n r = opL s l m n r := by
  refine cells_all hm (mpL_len ..) (mpL_len ..) (fun y x hy hx => lq_eq (opL_le hy hx) ?_)
  refine mpL_mono (s := s) (fun y x hy hx => ?_) hy hx
  have := opL_le (s := !s) (l := mpL (!s) l m n r) (r := r) hy hx
  unfold opL at this
  rw [Bool.not_not] at this
  exact lq_not.1 this
theorem gl_neg (l : List Int) (i : Nat) : gl (l.map fun x => -x) i = -gl l i := by
  unfold gl
  rw [List.getD_eq_getElem?_getD, List.getD_eq_getElem?_getD, List.getElem?_map]
  cases l[i]? <;> simp
theorem mpL_neg {s : Bool} {l : List Int} {m n r : Nat} (hm : 1 ≤ m) : mpL s (l.map fun x => -x) m n r = (mpL (!s) l m n r).map fun x => -x := by
  refine cells_all hm (mpL_len ..) (by simp [mpL_len]) (fun y x hy hx => ?_)
  rw [gl_neg]
  refine (mpL_is (s := s) (l := l.map fun x => -x) (r := r) hy hx).uniq ⟨fun y' x' h1 h2 h3 h4 => ?_, ?_⟩
  · rw [gl_neg]
    exact lq_neg.2 ((mpL_is (s := !s) (l := l) (r := r) hy hx).up y' x' h1 h2 h3 h4)
  · obtain ⟨y', x', h1, h2, h3, h4, hv⟩ := (mpL_is (s := !s) (l := l) (r := r) hy hx).in_
    exact ⟨y', x', h1, h2, h3, h4, by rw [gl_neg, hv]⟩
theorem opL_neg {s : Bool} {l : List Int} {m n r : Nat} (hm : 1 ≤ m) : opL s (l.map fun x => -x) m n r = (opL (!s) l m n r).map fun x => -x := by
  unfold opL
  rw [mpL_neg (s := !s) hm, mpL_neg (s := s) hm]
end Go.Proofs.YtphpfongdbidoaaDoor
