/-
  Sight, in whole numbers alone: the ground at a stop of a line, what is needed there.
-/
import Derived.Test.YtpdiefmmenfpaaaDoorQRa
namespace Go.Proofs.YtpdiefmmenfpaaaDoor

/-- p times the height at a point of a square whose sides are cut into p parts. -/
def riseP (p a b c d u v : Int) : Int := if u < v then a * p + (v * (c - a) + u * (d - c)) else a * p + (u * (b - a) + v * (d - b))
theorem riseP_mono {p a b c d u v a' b' c' d' : Int} (u0 : 0 ≤ u) (u1 : u ≤ p) (v0 : 0 ≤ v) (v1 : v ≤ p) (ha : a ≤ a') (hb : b ≤ b') (hc : c ≤ c') (hd : d ≤ d') : riseP p a b c d u v ≤ riseP p a' b' c' d' u v := by
  unfold riseP
  by_cases h : u < v
  · rw [if_pos h, if_pos h]
    have e : ∀ a c d : Int, a * p + (v * (c - a) + u * (d - c)) = a * (p - v) + c * (v - u) + d * u := fun a c d => by grind
    rw [e, e]
    have h1 := Int.mul_le_mul_of_nonneg_right ha (show 0 ≤ p - v by omega)
    have h2 := Int.mul_le_mul_of_nonneg_right hc (show 0 ≤ v - u by omega)
    have h3 := Int.mul_le_mul_of_nonneg_right hd u0
    omega
  · rw [if_neg h, if_neg h]
    have e : ∀ a b d : Int, a * p + (u * (b - a) + v * (d - b)) = a * (p - u) + b * (u - v) + d * v := fun a b d => by grind
    rw [e, e]
    have h1 := Int.mul_le_mul_of_nonneg_right ha (show 0 ≤ p - u by omega)
    have h2 := Int.mul_le_mul_of_nonneg_right hb (show 0 ≤ u - v by omega)
    have h3 := Int.mul_le_mul_of_nonneg_right hd v0
    omega
theorem riseP_same (p a u v : Int) : riseP p a a a a u v = a * p := by unfold riseP; split <;> simp
theorem riseP_bd {p a b c d u v : Int} (ha : hiI a) (hb : hiI b) (hc : hiI c) (hd : hiI d) (u0 : 0 ≤ u) (u1 : u ≤ p) (v0 : 0 ≤ v) (v1 : v ≤ p) : -1048576 * p ≤ riseP p a b c d u v ∧ riseP p a b c d u v ≤ 1048576 * p := by
  rw [← riseP_same p (-1048576) u v, ← riseP_same p 1048576 u v]
  exact ⟨riseP_mono u0 u1 v0 v1 ha.1 hb.1 hc.1 hd.1, riseP_mono u0 u1 v0 v1 ha.2 hb.2 hc.2 hd.2⟩
theorem riseP_scale (p a b c d u v : Int) {q : Int} (hq : 0 < q) : riseP (p * q) a b c d (u * q) (v * q) = riseP p a b c d u v * q := by
  unfold riseP
  by_cases h : u < v
  · rw [if_pos h, if_pos (Int.mul_lt_mul_of_pos_right h hq)]; grind
  · rw [if_neg h, if_neg (fun k => h (Int.lt_of_mul_lt_mul_right k (Int.le_of_lt hq)))]; grind
/-- p times the height at a point: so far to the east, to the south, in p parts of a step. -/
def gP (l : List Int) (m n X S p : Nat) : Int := riseP p (gl l (S / p * m + X / p)) (gl l (S / p * m + min (X / p + 1) (m - 1))) (gl l (min (S / p + 1) (n - 1) * m + X / p)) (gl l (min (S / p + 1) (n - 1) * m + min (X / p + 1) (m - 1))) ((X % p : Nat) : Int) ((S % p : Nat) : Int)
theorem gP_mono {l l' : List Int} {m n X S p : Nat} (hp : 0 < p) (h : ∀ i, gl l i ≤ gl l' i) : gP l m n X S p ≤ gP l' m n X S p := by
  have := Nat.mod_lt X hp
  have := Nat.mod_lt S hp
  exact riseP_mono (by omega) (by omega) (by omega) (by omega) (h _) (h _) (h _) (h _)
theorem gP_bd {l : List Int} {m n X S p : Nat} (hp : 0 < p) (h : ∀ i, hiI (gl l i)) : -1048576 * (p : Int) ≤ gP l m n X S p ∧ gP l m n X S p ≤ 1048576 * (p : Int) := by
  have := Nat.mod_lt X hp
  have := Nat.mod_lt S hp
  exact riseP_bd (h _) (h _) (h _) (h _) (by omega) (by omega) (by omega) (by omega)
theorem gP_scale (l : List Int) (m n X S p : Nat) {q : Nat} (hq : 0 < q) : gP l m n (X * q) (S * q) (p * q) = gP l m n X S p * q := by
  unfold gP
  rw [Nat.mul_div_mul_right _ _ hq, Nat.mul_div_mul_right _ _ hq, Nat.mul_mod_mul_right, Nat.mul_mod_mul_right, Int.natCast_mul, Int.natCast_mul, Int.natCast_mul]
  exact riseP_scale _ _ _ _ _ _ _ (by omega)
/-- Where k of n parts of the way are. -/
def sX (c0 c1 k n : Nat) : Nat := (n - k) * c0 + k * c1
theorem sX_turn {c0 c1 k n : Nat} (h : k ≤ n) : sX c1 c0 (n - k) n = sX c0 c1 k n := by
  unfold sX
  rw [show n - (n - k) = k by omega, Nat.add_comm]
theorem sX_le {c0 c1 k n M : Nat} (h : k ≤ n) (h0 : c0 ≤ M) (h1 : c1 ≤ M) : sX c0 c1 k n ≤ n * M := by
  unfold sX
  have a1 : (n - k) * c0 ≤ (n - k) * M := Nat.mul_le_mul_left _ h0
  have a2 : k * c1 ≤ k * M := Nat.mul_le_mul_left _ h1
  have a3 : (n - k) * M + k * M = n * M := by rw [← Nat.add_mul, Nat.sub_add_cancel h]
  omega
theorem sX_scale (c0 c1 k n q : Nat) : sX c0 c1 (k * q) (n * q) = sX c0 c1 k n * q := by
  unfold sX
  rw [← Nat.sub_mul, Nat.add_mul, Nat.mul_right_comm, Nat.mul_right_comm k q c1]
theorem sX_int {c0 c1 k n : Nat} (h : k ≤ n) : (sX c0 c1 k n : Int) = n * c0 + k * ((c1 : Int) - c0) := by
  unfold sX
  rw [Int.natCast_add, Int.natCast_mul, Int.natCast_mul, Int.natCast_sub h]
  grind
/-- n times the ground at k of n parts of the way; how much the line lies below it there. -/
def gK (l : List Int) (m n c0 r0 c1 r1 : Nat) (p : Nat × Nat) : Int := gP l m n (sX c0 c1 p.1 p.2) (sX r0 r1 p.1 p.2) p.2
def lkK (l : List Int) (m n c0 r0 c1 r1 : Nat) (x y : Int) (p : Nat × Nat) : Int := gK l m n c0 r0 c1 r1 p - ((p.2 : Int) - p.1) * x - p.1 * y
theorem gK_turn {l : List Int} {m n c0 r0 c1 r1 : Nat} {k p : Nat} (h : k ≤ p) : gK l m n c1 r1 c0 r0 (p - k, p) = gK l m n c0 r0 c1 r1 (k, p) := by
  unfold gK
  rw [show sX c1 c0 (p - k, p).1 (p - k, p).2 = sX c0 c1 k p from sX_turn h, show sX r1 r0 (p - k, p).1 (p - k, p).2 = sX r0 r1 k p from sX_turn h]
theorem lkK_turn {l : List Int} {m n c0 r0 c1 r1 : Nat} {x y : Int} {k p : Nat} (h : k ≤ p) : lkK l m n c1 r1 c0 r0 y x (p - k, p) = lkK l m n c0 r0 c1 r1 x y (k, p) := by
  unfold lkK
  rw [gK_turn h]
  simp only
  rw [Int.natCast_sub h]
  grind
theorem gK_scale (l : List Int) (m n c0 r0 c1 r1 k p : Nat) {q : Nat} (hq : 0 < q) : gK l m n c0 r0 c1 r1 (k * q, p * q) = gK l m n c0 r0 c1 r1 (k, p) * q := by
  unfold gK
  simp only
  rw [sX_scale, sX_scale, gP_scale _ _ _ _ _ _ hq]
theorem gK_same (l : List Int) (m n c0 r0 c1 r1 : Nat) {k p k' p' : Nat} (hp : 0 < p) (hp' : 0 < p') (h : k * p' = k' * p) : gK l m n c0 r0 c1 r1 (k, p) * p' = gK l m n c0 r0 c1 r1 (k', p') * p := by
  rw [← gK_scale _ _ _ _ _ _ _ _ _ hp', ← gK_scale _ _ _ _ _ _ _ _ _ hp, h, Nat.mul_comm p p']
/-- The stops of a line over so many columns, rows and diagonals. -/
def prs (p : Nat) : List (Nat × Nat) := (List.range (p - 1)).map fun k => (k + 1, p)
theorem prs_mem {p : Nat} {x : Nat × Nat} : x ∈ prs p ↔ x.2 = p ∧ 1 ≤ x.1 ∧ x.1 < p := by
  unfold prs
  rw [List.mem_map]
  constructor
  · rintro ⟨k, hk, rfl⟩; rw [List.mem_range] at hk; exact ⟨rfl, by simp only; omega, by simp only; omega⟩
  · rintro ⟨h1, h2, h3⟩; exact ⟨x.1 - 1, by rw [List.mem_range]; omega, by rw [Prod.ext_iff]; simp only; omega⟩
def d3 (c0 r0 c1 r1 : Nat) : Nat := (((c1 : Int) - c0) - ((r1 : Int) - r0)).natAbs
def d1 (c0 c1 : Nat) : Nat := ((c1 : Int) - c0).natAbs
def sts (c0 r0 c1 r1 : Nat) : List (Nat × Nat) := prs (d1 c0 c1) ++ (prs (d1 r0 r1) ++ prs (d3 c0 r0 c1 r1))
theorem sts_in {c0 r0 c1 r1 : Nat} {x : Nat × Nat} (h : x ∈ sts c0 r0 c1 r1) : 1 ≤ x.1 ∧ x.1 < x.2 := by
  unfold sts at h
  rw [List.mem_append, List.mem_append, prs_mem, prs_mem, prs_mem] at h
  omega
theorem sts_le {c0 r0 c1 r1 : Nat} {x : Nat × Nat} (h : x ∈ sts c0 r0 c1 r1) (h1 : c0 < 128) (h2 : c1 < 128) (h3 : r0 < 128) (h4 : r1 < 128) : x.2 ≤ 254 := by
  unfold sts d1 d3 at h
  rw [List.mem_append, List.mem_append, prs_mem, prs_mem, prs_mem] at h
  omega
theorem sts_turn {c0 r0 c1 r1 : Nat} {x : Nat × Nat} (h : x ∈ sts c0 r0 c1 r1) : (x.2 - x.1, x.2) ∈ sts c1 r1 c0 r0 := by
  have h0 := sts_in h
  unfold sts d1 d3 at h ⊢
  rw [List.mem_append, List.mem_append, prs_mem, prs_mem, prs_mem] at h ⊢
  simp only
  omega
/-- Is the line nowhere below the ground? -/
def frK (l : List Int) (m n c0 r0 c1 r1 : Nat) (x y : Int) : Prop := ∀ p ∈ sts c0 r0 c1 r1, lkK l m n c0 r0 c1 r1 x y p ≤ 0
instance (l : List Int) (m n c0 r0 c1 r1 : Nat) (x y : Int) : Decidable (frK l m n c0 r0 c1 r1 x y) := by unfold frK; infer_instance
theorem frK_turn {l : List Int} {m n c0 r0 c1 r1 : Nat} {x y : Int} (h : frK l m n c0 r0 c1 r1 x y) : frK l m n c1 r1 c0 r0 y x := by
  intro p hp
  have h0 := sts_in hp
  have := h _ (sts_turn hp)
  rw [lkK_turn (Nat.le_of_lt h0.2)] at this
  exact this
theorem frK_turn_iff (l : List Int) (m n c0 r0 c1 r1 : Nat) (x y : Int) : frK l m n c1 r1 c0 r0 y x ↔ frK l m n c0 r0 c1 r1 x y := ⟨frK_turn, frK_turn⟩
theorem frK_high {l : List Int} {m n c0 r0 c1 r1 : Nat} {x y x' : Int} (hx : x ≤ x') (h : frK l m n c0 r0 c1 r1 x y) : frK l m n c0 r0 c1 r1 x' y := by
  intro p hp
  have h0 := sts_in hp
  have h1 := h p hp
  unfold lkK at h1 ⊢
  have h2 := Int.mul_le_mul_of_nonneg_left hx (show 0 ≤ (p.2 : Int) - p.1 by omega)
  omega
theorem frK_less {l l' : List Int} {m n c0 r0 c1 r1 : Nat} {x y : Int} (hl : ∀ i, gl l i ≤ gl l' i) (h : frK l' m n c0 r0 c1 r1 x y) : frK l m n c0 r0 c1 r1 x y := by
  intro p hp
  have h0 := sts_in hp
  have h1 := h p hp
  unfold lkK gK at h1 ⊢
  have h2 := gP_mono (l := l) (l' := l') (m := m) (n := n) (X := sX c0 c1 p.1 p.2) (S := sX r0 r1 p.1 p.2) (p := p.2) (by omega) hl
  omega
/-- What is needed so far. -/
def nst (L : Nat × Nat → Int) (s : Int × Nat) (p : Nat × Nat) : Int × Nat := if s.1 * p.1 < L p * s.2 then (L p, p.1) else s
def ndK (L : Nat × Nat → Int) (ps : List (Nat × Nat)) : Int × Nat := ps.foldl (nst L) (0, 1)
theorem ndK_snoc (L : Nat × Nat → Int) (ps : List (Nat × Nat)) (p : Nat × Nat) : ndK L (ps ++ [p]) = nst L (ndK L ps) p := by simp [ndK]
structure NdI (L : Nat × Nat → Int) (ps : List (Nat × Nat)) (s : Int × Nat) : Prop where
  num : 0 ≤ s.1
  den : 1 ≤ s.2
  all : ∀ p ∈ ps, L p * s.2 ≤ s.1 * p.1
  one : s = (0, 1) ∨ ∃ p ∈ ps, s = (L p, p.1)
theorem NdI.step {L : Nat × Nat → Int} {ps : List (Nat × Nat)} {s : Int × Nat} (h : NdI L ps s) {p : Nat × Nat} (hp : 1 ≤ p.1) : NdI L (ps ++ [p]) (nst L s p) := by
  have h1 := h.num
  have h2 := h.den
  unfold nst
  by_cases c : s.1 * p.1 < L p * s.2
  · rw [if_pos c]
    have h0 : 0 ≤ s.1 * (p.1 : Int) := Int.mul_nonneg h1 (by omega)
    have h3 : 0 < L p := by
      refine Classical.byContradiction fun k => ?_
      have : L p * (s.2 : Int) ≤ 0 := Int.mul_nonpos_of_nonpos_of_nonneg (by omega) (by omega)
      omega
    refine ⟨by simp only; omega, hp, fun q hq => ?_, .inr ⟨p, by simp, rfl⟩⟩
    rw [List.mem_append] at hq
    rcases hq with hq | hq
    · simp only
      have h4 := h.all q hq
      have h5 : L q * (s.2 : Int) * p.1 ≤ s.1 * q.1 * p.1 := Int.mul_le_mul_of_nonneg_right h4 (by omega)
      have h6 : s.1 * p.1 * (q.1 : Int) ≤ L p * s.2 * q.1 := Int.mul_le_mul_of_nonneg_right (Int.le_of_lt c) (by omega)
      have h7 : (L q * p.1) * (s.2 : Int) ≤ (L p * q.1) * s.2 := by
        have e1 : (L q * p.1) * (s.2 : Int) = L q * (s.2 : Int) * p.1 := by grind
        have e2 : (L p * q.1) * (s.2 : Int) = L p * s.2 * q.1 := by grind
        have e3 : s.1 * q.1 * (p.1 : Int) = s.1 * p.1 * (q.1 : Int) := by grind
        omega
      exact Int.le_of_mul_le_mul_right h7 (by omega)
    · obtain rfl : q = p := by simpa using hq
      exact Int.le_refl _
  · rw [if_neg c]
    refine ⟨h1, h2, fun q hq => ?_, ?_⟩
    · rw [List.mem_append] at hq
      rcases hq with hq | hq
      · exact h.all q hq
      · obtain rfl : q = p := by simpa using hq
        omega
    · rcases h.one with e | ⟨q, hq, e⟩
      · exact .inl e
      · exact .inr ⟨q, by simp [hq], e⟩
theorem NdI.go (L : Nat × Nat → Int) : ∀ ps : List (Nat × Nat), (∀ q ∈ ps, 1 ≤ q.1) → ∀ k, k ≤ ps.length → NdI L (ps.take k) (ndK L (ps.take k)) := by
  intro ps hps k
  induction k with
  | zero => intro _; exact ⟨Int.le_refl _, Nat.le_refl _, fun p hp => by simp at hp, .inl rfl⟩
  | succ k ih =>
    intro hk
    have hk' : k < ps.length := by omega
    rw [List.take_succ_eq_append_getElem hk', ndK_snoc]
    exact (ih (by omega)).step (hps _ (List.getElem_mem hk'))
theorem NdI.all' (L : Nat × Nat → Int) (ps : List (Nat × Nat)) (hps : ∀ q ∈ ps, 1 ≤ q.1) : NdI L ps (ndK L ps) := by
  have := NdI.go L ps hps ps.length (Nat.le_refl _)
  rwa [List.take_length] at this
/-- Seen, just if it is up by what is needed. -/
theorem need_iff {l : List Int} {m n c0 r0 c1 r1 : Nat} {x y : Int} (u : Int) {N D : Int} (hu : 0 ≤ u) (hD : 0 < D) (hN : N * (ndK (lkK l m n c0 r0 c1 r1 x y) (sts c0 r0 c1 r1)).2 = (ndK (lkK l m n c0 r0 c1 r1 x y) (sts c0 r0 c1 r1)).1 * D) : frK l m n c0 r0 c1 r1 x (y + u) ↔ N ≤ u * D := by
  have I := NdI.all' (lkK l m n c0 r0 c1 r1 x y) (sts c0 r0 c1 r1) (fun q hq => (sts_in hq).1)
  generalize ndK (lkK l m n c0 r0 c1 r1 x y) (sts c0 r0 c1 r1) = s at *
  have e0 : ∀ p : Nat × Nat, lkK l m n c0 r0 c1 r1 x (y + u) p = lkK l m n c0 r0 c1 r1 x y p - p.1 * u := fun p => by unfold lkK; grind
  have hd := I.den
  have hd' : (0 : Int) < (s.2 : Int) := by omega
  constructor
  · intro h
    have h1 : s.1 ≤ u * s.2 := by
      rcases I.one with e | ⟨p, hp, e⟩
      · rw [e]; simp only; omega
      · rw [e]; simp only
        have := h p hp
        rw [e0, Int.mul_comm (p.1 : Int) u] at this
        omega
    have h2 := Int.mul_le_mul_of_nonneg_right h1 (Int.le_of_lt hD)
    rw [← hN] at h2
    have h3 : N * (s.2 : Int) ≤ (u * D) * s.2 := by
      have : (u * D) * (s.2 : Int) = u * s.2 * D := by grind
      omega
    exact Int.le_of_mul_le_mul_right h3 hd'
  · intro h p hp
    rw [e0]
    have h1 := I.all p hp
    have hp0 := sts_in hp
    have h2 : s.1 ≤ u * s.2 := by
      have h3 := Int.mul_le_mul_of_nonneg_right h (Int.le_of_lt hd')
      rw [hN] at h3
      have h4 : s.1 * D ≤ (u * s.2) * D := by
        have : (u * s.2) * D = u * D * s.2 := by grind
        omega
      exact Int.le_of_mul_le_mul_right h4 hD
    have h5 : s.1 * (p.1 : Int) ≤ u * s.2 * p.1 := Int.mul_le_mul_of_nonneg_right h2 (by omega)
    have h6 : lkK l m n c0 r0 c1 r1 x y p * (s.2 : Int) ≤ (p.1 * u) * s.2 := by
      have : ((p.1 : Int) * u) * s.2 = u * s.2 * p.1 := by grind
      omega
    have := Int.le_of_mul_le_mul_right h6 hd'
    omega
end Go.Proofs.YtpdiefmmenfpaaaDoor
