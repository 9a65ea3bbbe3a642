/-
  A flood, step by step: what is taken, what waits; all is taken in the end. No Go text.; Directions and neighbours; the rim. No Go text.; A flood in memory and the flood as it should be: one step, direction by direction. No Go text.; At the flood's end all were taken; each flows into a neighbour, or stands still on the rim. No Go text.
-/
import Derived.Test.YtlhligeicnejbaaDoorQDrH
import Derived.Test.YtlhligeicnejbaaDoorQJ3
namespace Go.Proofs.YtlhligeicnejbaaDoor
open Go.RowKit

theorem tch_symm {m i k : Nat} (h : tch m i k) : tch m k i := by unfold tch at *; omega
/-- Is a cell of the rim? -/
def rim (m n i : Nat) : Prop := i % m = 0 ∨ i % m + 1 = m ∨ i / m = 0 ∨ i / m + 1 = n
instance (m n i : Nat) : Decidable (rim m n i) := by unfold rim; exact inferInstance
/-- A flood, as far as it has come: of each cell 0, 1 (it waits) or 2 (it was taken), the height at which it waits, where it flows; the order. -/
structure FS where
  st : Nat → Nat
  fi : Nat → Int
  tw : Nat → Nat
  ord : List Nat
section
variable (m n : Nat) (l : List Int)
def fs0 : FS := ⟨fun i => if i < l.length ∧ rim m n i then 1 else 0, fun i => if i < l.length ∧ rim m n i then gl l i else 0, fun i => i, []⟩
/-- Those that come to wait when a cell is taken. -/
def New (S : FS) (b i : Nat) : Prop := i < l.length ∧ S.st i = 0 ∧ tch m b i
instance (S : FS) (b i : Nat) : Decidable (New m l S b i) := by unfold New; exact inferInstance
def up1 (x y : Int) : Int := if x < y then y else x
def stepF (S : FS) (b : Nat) : FS :=
  ⟨fun i => if i = b then 2 else if New m l S b i then 1 else S.st i, fun i => if New m l S b i then up1 (gl l i) (S.fi b) else S.fi i, fun i => if New m l S b i then b else S.tw i, S.ord ++ [b]⟩
/-- The best of the first k. -/
def bst (S : FS) : Nat → Option Nat
  | 0 => none
  | k + 1 => if S.st k = 1 ∧ (∀ b, bst S k = some b → S.fi k < S.fi b) then some k else bst S k
def isB (S : FS) (k b : Nat) : Prop := b < k ∧ S.st b = 1 ∧ ∀ i, i < k → S.st i = 1 → ¬ wlt (S.fi i, i) (S.fi b, b)
theorem bst_is (S : FS) : ∀ k, (∀ b, bst S k = some b → isB S k b) ∧ (bst S k = none → ∀ i, i < k → S.st i ≠ 1)
  | 0 => ⟨fun b h => by simp [bst] at h, fun _ i hi => by omega⟩
  | k + 1 => by
    obtain ⟨h1, h2⟩ := bst_is S k
    unfold bst
    constructor
    · intro b hb
      split at hb
      · rename_i c
        obtain rfl := Option.some.inj hb
        refine ⟨by omega, c.1, fun i hi hs => ?_⟩
        cases hq : bst S k with
        | none =>
          have := h2 hq
          by_cases e : i = k
          · subst e; exact wlt_irrefl _
          · exact absurd hs (this i (by omega))
        | some b0 =>
          have k1 := c.2 b0 hq
          have k2 := h1 b0 hq
          by_cases e : i = k
          · subst e; exact wlt_irrefl _
          · have := k2.2.2 i (by omega) hs
            unfold wlt at *
            simp only at *
            omega
      · rename_i c
        have k2 := h1 b hb
        refine ⟨by have := k2.1; omega, k2.2.1, fun i hi hs => ?_⟩
        by_cases e : i = k
        · subst e
          have : ¬ S.fi i < S.fi b := fun hlt => c ⟨hs, fun b' hb' => by rw [hb] at hb'; obtain rfl := Option.some.inj hb'; exact hlt⟩
          have := k2.1
          unfold wlt
          simp only
          omega
        · exact k2.2.2 i (by omega) hs
    · intro hb i hi
      split at hb
      · cases hb
      · rename_i c
        by_cases e : i = k
        · subst e
          intro hs
          exact c ⟨hs, fun b' hb' => by rw [hb] at hb'; cases hb'⟩
        · exact h2 hb i (by omega)
theorem isB_uniq {S : FS} {k b c : Nat} (h : isB S k b) (h' : isB S k c) : b = c := by
  have := wlt_of (h'.2.2 b h.1 h.2.1) (h.2.2 c h'.1 h'.2.1)
  exact congrArg Prod.snd this
theorem bst_of {S : FS} {k b : Nat} (h : isB S k b) : bst S k = some b := by
  obtain ⟨h1, h2⟩ := bst_is S k
  cases hq : bst S k with
  | none => exact absurd h.2.1 (h2 hq b h.1)
  | some c => rw [isB_uniq h (h1 c hq)]
/-- What holds of every flood. -/
structure FI (S : FS) : Prop where
  le : ∀ i, S.st i ≤ 2
  out : ∀ i, l.length ≤ i → S.st i = 0
  rim : ∀ i, i < l.length → rim m n i → S.st i ≠ 0
  nbr : ∀ i k, i < l.length → S.st k = 2 → tch m k i → S.st i ≠ 0
  nd : S.ord.Nodup
  mem : ∀ i, i ∈ S.ord ↔ S.st i = 2
theorem FI0 : FI m n l (fs0 m n l) := by
  refine ⟨fun i => ?_, fun i hi => ?_, fun i hi hr => ?_, fun i k _ h => ?_, List.nodup_nil, fun i => ?_⟩
  · show (if _ then 1 else 0) ≤ 2; split <;> omega
  · show (if _ then 1 else 0) = 0; rw [if_neg (by omega)]
  · show (if _ then 1 else 0) ≠ 0; rw [if_pos ⟨hi, hr⟩]; omega
  · have : (if k < l.length ∧ Go.Proofs.YtlhligeicnejbaaDoor.rim m n k then 1 else 0) = 2 := h
    split at this <;> omega
  · show i ∈ [] ↔ (if _ then 1 else 0) = 2
    constructor
    · intro h; cases h
    · intro h; split at h <;> omega
theorem FI.step {S : FS} (h : FI m n l S) {b : Nat} (hb : S.st b = 1) : FI m n l (stepF m l S b) := by
  have hbl : b < l.length := by
    rcases Nat.lt_or_ge b l.length with c | c
    · exact c
    · have := h.out b c; omega
  have hst : ∀ i, (stepF m l S b).st i = if i = b then 2 else if New m l S b i then 1 else S.st i := fun _ => rfl
  have hmono : ∀ i, S.st i ≠ 0 → (stepF m l S b).st i ≠ 0 := fun i hi => by
    rw [hst]; split
    · omega
    · split <;> omega
  refine ⟨fun i => ?_, fun i hi => ?_, fun i hi hr => hmono i (h.rim i hi hr), fun i k hi hk ht => ?_, ?_, fun i => ?_⟩
  · rw [hst]; have := h.le i; split
    · omega
    · split <;> omega
  · rw [hst, if_neg (by omega), if_neg (fun c => by have := c.1; omega)]; exact h.out i hi
  · rw [hst] at hk
    split at hk
    · rename_i e
      subst e
      rw [hst]
      split
      · omega
      · split
        · omega
        · rename_i c
          exact fun h0 => c ⟨hi, h0, ht⟩
    · split at hk
      · omega
      · exact hmono i (h.nbr i k hi hk ht)
  · show (S.ord ++ [b]).Nodup
    rw [List.nodup_append]
    refine ⟨h.nd, List.pairwise_singleton _ _, fun x hx y hy e => ?_⟩
    rw [List.mem_singleton.1 hy] at e
    subst e
    have := (h.mem _).1 hx
    omega
  · show i ∈ S.ord ++ [b] ↔ _
    rw [hst, List.mem_append, List.mem_singleton, h.mem]
    by_cases e : i = b
    · simp [e]
    · rw [if_neg e]
      by_cases c : New m l S b i
      · rw [if_pos c]
        have := c.2.1
        omega
      · rw [if_neg c]
        simp [e]
theorem nodup_len {N : Nat} {L : List Nat} (hd : L.Nodup) (h : ∀ i ∈ L, i < N) : L.length ≤ N := by
  induction N generalizing L with
  | zero =>
    match L with
    | [] => exact Nat.le_refl _
    | a :: _ => exact absurd (h a (by simp)) (by omega)
  | succ N ih =>
    have h1 := ih (L := L.erase N) (hd.erase N) (fun i hi => by
      have hm := List.mem_of_mem_erase hi
      have := h i hm
      have hne : i ≠ N := fun e => by subst e; exact absurd hi (List.Nodup.not_mem_erase hd)
      omega)
    by_cases c : N ∈ L
    · rw [List.length_erase_of_mem c] at h1; omega
    · rw [List.erase_of_not_mem c] at h1; omega
theorem nodup_full {N : Nat} {L : List Nat} (hd : L.Nodup) (h : ∀ i, i < N → i ∈ L) : N ≤ L.length := by
  induction N generalizing L with
  | zero => exact Nat.zero_le _
  | succ N ih =>
    have c := h N (by omega)
    have h1 := ih (L := L.erase N) (hd.erase N) (fun i hi => (List.mem_erase_of_ne (by omega)).2 (h i (by omega)))
    rw [List.length_erase_of_mem c] at h1
    have : 0 < L.length := List.length_pos_of_mem c
    omega
theorem FI.lt {S : FS} (h : FI m n l S) {i : Nat} (hi : S.st i ≠ 0) : i < l.length := by
  rcases Nat.lt_or_ge i l.length with c | c
  · exact c
  · exact absurd (h.out i c) hi
theorem FI.len {S : FS} (h : FI m n l S) : S.ord.length ≤ l.length :=
  nodup_len h.nd (fun i hi => h.lt m n l (by have := (h.mem i).1 hi; omega))
/-- Where none waits, all were taken. -/
theorem FI.all {S : FS} (h : FI m n l S) (hm : 1 ≤ m) (hl : l.length = m * n) (hw : ∀ i, i < l.length → S.st i ≠ 1) : ∀ i, i < l.length → S.st i = 2 := by
  intro i
  induction i using Nat.strongRecOn with
  | _ i ih =>
    intro hi
    have h1 := hw i hi
    have h2 := h.le i
    by_cases c : S.st i = 0
    · exfalso
      by_cases hr : Go.Proofs.YtlhligeicnejbaaDoor.rim m n i
      · exact h.rim i hi hr c
      · have hq : i / m ≠ 0 := fun e => hr (.inr (.inr (.inl e)))
        have him : m ≤ i := by
          rcases Nat.lt_or_ge i m with d | d
          · exact absurd (Nat.div_eq_of_lt d) hq
          · exact d
        have hk : S.st (i - m) = 2 := ih (i - m) (by omega) (by omega)
        have e1 : (i - m) % m = i % m := (Nat.mod_eq_sub_mod him).symm
        have e2 : i / m = (i - m) / m + 1 := Nat.div_eq_sub_div (by omega) him
        refine h.nbr i (i - m) hi hk ?_ c
        unfold tch
        rw [e1, e2]
        generalize (i - m) / m = q
        generalize i % m = r
        omega
    · omega
theorem FI.full {S : FS} (h : FI m n l S) (hm : 1 ≤ m) (hl : l.length = m * n) (hw : ∀ i, i < l.length → S.st i ≠ 1) : S.ord.length = l.length :=
  Nat.le_antisymm (h.len m n l) (nodup_full h.nd (fun i hi => (h.mem i).2 (h.all m n l hm hl hw i hi)))
/-- The flood, after so many were taken. -/
def flo : Nat → FS
  | 0 => fs0 m n l
  | k + 1 => match bst (flo k) l.length with
    | none => flo k
    | some b => stepF m l (flo k) b
theorem flo_inv (hm : 1 ≤ m) (hl : l.length = m * n) : ∀ k, k ≤ l.length → FI m n l (flo m n l k) ∧ (flo m n l k).ord.length = k
  | 0, _ => ⟨FI0 m n l, rfl⟩
  | k + 1, hk => by
    obtain ⟨h1, h2⟩ := flo_inv hm hl k (by omega)
    unfold flo
    obtain ⟨b1, b2⟩ := bst_is (flo m n l k) l.length
    cases hq : bst (flo m n l k) l.length with
    | none =>
      have := h1.full m n l hm hl (b2 hq)
      omega
    | some b =>
      have hb := b1 b hq
      refine ⟨h1.step m n l hb.2.1, ?_⟩
      show ((flo m n l k).ord ++ [b]).length = k + 1
      simp [h2]
theorem flo_next {k b : Nat} (h : isB (flo m n l k) l.length b) : flo m n l (k + 1) = stepF m l (flo m n l k) b := by
  show (match bst (flo m n l k) l.length with | none => flo m n l k | some b => stepF m l (flo m n l k) b) = _
  rw [bst_of h]
theorem flo_some (hm : 1 ≤ m) (hl : l.length = m * n) {k : Nat} (hk : k < l.length) : ∃ b, isB (flo m n l k) l.length b := by
  obtain ⟨h1, h2⟩ := flo_inv m n l hm hl k (by omega)
  obtain ⟨b1, b2⟩ := bst_is (flo m n l k) l.length
  cases hq : bst (flo m n l k) l.length with
  | none =>
    have := h1.full m n l hm hl (b2 hq)
    omega
  | some b => exact ⟨b, b1 b hq⟩
end
end Go.Proofs.YtlhligeicnejbaaDoor
namespace Go.Proofs.YtlhligeicnejbaaDoor
open Go.RowKit

/-- Directions: so many columns to the east, so many rows to the north. -/
def dE (d : Nat) : Int := if d = 1 ∨ d = 0 ∨ d = 7 then 1 else if d = 3 ∨ d = 4 ∨ d = 5 then -1 else 0
def dN (d : Nat) : Int := if d = 1 ∨ d = 2 ∨ d = 3 then 1 else if d = 7 ∨ d = 6 ∨ d = 5 then -1 else 0
/-- A neighbour. -/
def nbO (m n c d : Nat) : Option Nat :=
  if d = 8 ∨ ¬ (0 ≤ ((c % m : Nat) : Int) + dE d ∧ ((c % m : Nat) : Int) + dE d ≤ (m : Int) - 1) ∨ ¬ (0 ≤ ((c / m : Nat) : Int) - dN d ∧ ((c / m : Nat) : Int) - dN d ≤ (n : Int) - 1) then none
  else some ((((c / m : Nat) : Int) - dN d).toNat * m + (((c % m : Nat) : Int) + dE d).toNat)
/-- The direction from a cell to another one. -/
def wyI (x y : Int) : Nat := if x = 1 then (if y = 0 then 0 else if y = 1 then 1 else 7) else if x = -1 then (4 - y).toNat else if y = 1 then 2 else if y = -1 then 6 else 8
def wyD (m i k : Nat) : Nat := wyI (((k % m : Nat) : Int) - ((i % m : Nat) : Int)) (((i / m : Nat) : Int) - ((k / m : Nat) : Int))
theorem nb_some {m n c d k : Nat} (h : nbO m n c d = some k) : d ≠ 8 ∧ ((k % m : Nat) : Int) = ((c % m : Nat) : Int) + dE d ∧ ((k / m : Nat) : Int) = ((c / m : Nat) : Int) - dN d ∧ k / m < n ∧ k % m < m := by
  unfold nbO at h
  split at h
  · cases h
  · rename_i hh
    have h1 : d ≠ 8 := fun e => hh (.inl e)
    have h2 : 0 ≤ ((c % m : Nat) : Int) + dE d ∧ ((c % m : Nat) : Int) + dE d ≤ (m : Int) - 1 := Classical.not_not.1 (fun e => hh (.inr (.inl e)))
    have h3 : 0 ≤ ((c / m : Nat) : Int) - dN d ∧ ((c / m : Nat) : Int) - dN d ≤ (n : Int) - 1 := Classical.not_not.1 (fun e => hh (.inr (.inr e)))
    obtain rfl := Option.some.inj h
    obtain ⟨e1, e2⟩ := mod_at (m := m) (r := (((c / m : Nat) : Int) - dN d).toNat) (c := (((c % m : Nat) : Int) + dE d).toNat) (by omega)
    rw [e1, e2]
    generalize ((c % m : Nat) : Int) + dE d = x at *
    generalize ((c / m : Nat) : Int) - dN d = y at *
    omega
theorem cell_lt {m n k : Nat} (h1 : k / m < n) (h2 : k % m < m) : k < m * n := by
  have := Nat.div_add_mod k m
  have h3 : m * (k / m + 1) ≤ m * n := Nat.mul_le_mul_left m h1
  rw [Nat.mul_add] at h3
  omega
theorem nb_lt {m n c d k : Nat} (h : nbO m n c d = some k) : k < m * n := cell_lt (nb_some h).2.2.2.1 (nb_some h).2.2.2.2
theorem dir8 {d : Nat} (h : d < 8) : (-1 ≤ dE d ∧ dE d ≤ 1) ∧ (-1 ≤ dN d ∧ dN d ≤ 1) ∧ (dE d ≠ 0 ∨ dN d ≠ 0) ∧ wyI (- dE d) (- dN d) = (d + 4) % 8 ∧ wyI (dE d) (dN d) = d := by
  have : ∀ d : Fin 8, (-1 ≤ dE d ∧ dE d ≤ 1) ∧ (-1 ≤ dN d ∧ dN d ≤ 1) ∧ (dE d ≠ 0 ∨ dN d ≠ 0) ∧ wyI (- dE d) (- dN d) = (d + 4) % 8 ∧ wyI (dE d) (dN d) = d := by decide
  exact this ⟨d, h⟩
theorem nb_tch {m n c d k : Nat} (hd : d < 8) (h : nbO m n c d = some k) : tch m c k ∧ k < m * n ∧ wyD m k c = (d + 4) % 8 ∧ wyD m c k = d := by
  obtain ⟨_, h1, h2, _, _⟩ := nb_some h
  obtain ⟨⟨d1, d2⟩, ⟨d3, d4⟩, d5, d6, d7⟩ := dir8 hd
  refine ⟨?_, nb_lt h, ?_, ?_⟩
  · unfold tch
    refine ⟨fun e => ?_, by omega, by omega⟩
    subst e
    omega
  · unfold wyD
    rw [show ((c % m : Nat) : Int) - ((k % m : Nat) : Int) = - dE d by omega, show ((k / m : Nat) : Int) - ((c / m : Nat) : Int) = - dN d by omega]
    exact d6
  · unfold wyD
    rw [show ((k % m : Nat) : Int) - ((c % m : Nat) : Int) = dE d by omega, show ((c / m : Nat) : Int) - ((k / m : Nat) : Int) = dN d by omega]
    exact d7
theorem way8 {x y : Int} (hx : -1 ≤ x ∧ x ≤ 1) (hy : -1 ≤ y ∧ y ≤ 1) (h : x ≠ 0 ∨ y ≠ 0) : wyI x y < 8 ∧ dE (wyI x y) = x ∧ dN (wyI x y) = y := by
  have hx' : x = -1 ∨ x = 0 ∨ x = 1 := by omega
  have hy' : y = -1 ∨ y = 0 ∨ y = 1 := by omega
  rcases hx' with rfl | rfl | rfl <;> rcases hy' with rfl | rfl | rfl <;> first | decide | (exfalso; omega)
theorem tch_nb {m n c k : Nat} (hm : 1 ≤ m) (h : tch m c k) (hk : k < m * n) : wyD m c k < 8 ∧ nbO m n c (wyD m c k) = some k := by
  unfold tch at h
  obtain ⟨h0, h1, h2⟩ := h
  have hne : ((k % m : Nat) : Int) - ((c % m : Nat) : Int) ≠ 0 ∨ ((c / m : Nat) : Int) - ((k / m : Nat) : Int) ≠ 0 := by
    rcases Nat.eq_or_lt_of_le (Nat.le_refl (k % m)) with _ | e
    · by_cases e1 : k % m = c % m
      · by_cases e2 : c / m = k / m
        · have a1 := Nat.div_add_mod c m
          have a2 := Nat.div_add_mod k m
          rw [e2, ← e1] at a1
          omega
        · omega
      · omega
    · omega
  obtain ⟨w1, w2, w3⟩ := way8 (x := ((k % m : Nat) : Int) - ((c % m : Nat) : Int)) (y := ((c / m : Nat) : Int) - ((k / m : Nat) : Int)) (by omega) (by omega) hne
  have hkm : k % m < m := Nat.mod_lt _ hm
  have hkn : k / m < n := Nat.div_lt_of_lt_mul hk
  refine ⟨w1, ?_⟩
  have w8 : wyI (((k % m : Nat) : Int) - ((c % m : Nat) : Int)) (((c / m : Nat) : Int) - ((k / m : Nat) : Int)) ≠ 8 := by omega
  unfold nbO
  unfold wyD
  rw [w2, w3, if_neg (by
    clear w1 w2 w3 hne h1 h2 h0 hk
    generalize c % m = cr at *
    generalize c / m = cq at *
    generalize k % m = kr at *
    generalize k / m = kq at *
    rintro (h | h | h)
    · exact w8 h
    · omega
    · omega)]
  rw [show ((c / m : Nat) : Int) - (((c / m : Nat) : Int) - ((k / m : Nat) : Int)) = ((k / m : Nat) : Int) by omega, show ((c % m : Nat) : Int) + (((k % m : Nat) : Int) - ((c % m : Nat) : Int)) = ((k % m : Nat) : Int) by omega]
  simp only [Int.toNat_natCast, Option.some.injEq]
  rw [Nat.mul_comm]
  exact Nat.div_add_mod k m
/-- The rim: a direction with no neighbour. -/
theorem rim_iff {m n c : Nat} (hc : c < m * n) : rim m n c ↔ ∃ d, d < 8 ∧ nbO m n c d = none := by
  have hm : 1 ≤ m := by
    rcases Nat.eq_zero_or_pos m with e | e
    · subst e; simp at hc
    · exact e
  have hcm : c % m < m := Nat.mod_lt _ hm
  have hcn : c / m < n := Nat.div_lt_of_lt_mul hc
  unfold rim
  constructor
  · intro h
    rcases h with h | h | h | h
    · exact ⟨4, by omega, by unfold nbO; rw [if_pos]; right; left; simp only [dE]; simp; omega⟩
    · exact ⟨0, by omega, by unfold nbO; rw [if_pos]; right; left; simp only [dE]; simp; omega⟩
    · exact ⟨2, by omega, by unfold nbO; rw [if_pos]; right; right; simp only [dN]; simp; omega⟩
    · exact ⟨6, by omega, by unfold nbO; rw [if_pos]; right; right; simp only [dN]; simp; omega⟩
  · intro ⟨d, hd, h⟩
    obtain ⟨⟨d1, d2⟩, ⟨d3, d4⟩, _⟩ := dir8 hd
    unfold nbO at h
    split at h
    · rename_i hh
      clear h
      generalize c % m = cr at *
      generalize c / m = cq at *
      rcases hh with hh | hh | hh
      · omega
      · omega
      · omega
    · cases h
theorem nodup_filter {L : List Nat} (p : Nat → Bool) (h : L.Nodup) : (L.filter p).Nodup := List.Pairwise.filter p h
/-- How many touch it. -/
def tcs (m c k : Nat) : Nat := ((List.range k).filter (fun i => decide (tch m c i))).length
theorem tcs_succ (m c k : Nat) : tcs m c (k + 1) = tcs m c k + (if tch m c k then 1 else 0) := by
  unfold tcs
  rw [List.range_succ, List.filter_append, List.length_append]
  congr 1
  by_cases h : tch m c k
  · simp [h]
  · simp [h]
theorem tcs_le (m c k : Nat) : tcs m c k ≤ k := by
  unfold tcs
  have := List.length_filter_le (fun i => decide (tch m c i)) (List.range k)
  simpa using this
theorem tcs_rim {m n c : Nat} (hc : c < m * n) : tcs m c (m * n) < 8 ↔ rim m n c := by
  have hm : 1 ≤ m := by
    rcases Nat.eq_zero_or_pos m with e | e
    · subst e; simp at hc
    · exact e
  have hsub : ∀ d k, d < 8 → nbO m n c d = some k → wyD m c k = d := fun d k hd h => (nb_tch hd h).2.2.2
  -- the filtered list and the directions that have a neighbour
  have hl : tcs m c (m * n) = ((List.range 8).filter (fun d => (nbO m n c d).isSome)).length := by
    unfold tcs
    have e : ((List.range (m * n)).filter (fun i => decide (tch m c i))).map (wyD m c) |>.Perm ((List.range 8).filter (fun d => (nbO m n c d).isSome)) := by
      refine (List.perm_ext_iff_of_nodup ?_ (nodup_filter _ List.nodup_range)).2 ?_
      · refine List.Pairwise.map _ (R := fun a b => (a ∈ (List.range (m * n)).filter (fun i => decide (tch m c i)) ∧ b ∈ (List.range (m * n)).filter (fun i => decide (tch m c i)) ∧ a ≠ b)) ?_ ?_
        · rintro a b ⟨ha, hb, hne⟩ e
          simp only [List.mem_filter, List.mem_range, decide_eq_true_eq] at ha hb
          have h1 := (tch_nb hm ha.2 ha.1).2
          have h2 := (tch_nb hm hb.2 hb.1).2
          rw [e, h2] at h1
          exact hne (Option.some.inj h1).symm
        · have : ((List.range (m * n)).filter (fun i => decide (tch m c i))).Nodup := nodup_filter _ List.nodup_range
          exact List.Pairwise.imp_of_mem (fun ha hb h => ⟨ha, hb, h⟩) this
      · intro d
        simp only [List.mem_map, List.mem_filter, List.mem_range, decide_eq_true_eq]
        constructor
        · rintro ⟨k, ⟨hk, ht⟩, rfl⟩
          obtain ⟨h1, h2⟩ := tch_nb hm ht hk
          exact ⟨h1, by rw [h2]; rfl⟩
        · rintro ⟨hd, hs⟩
          obtain ⟨k, hk⟩ := Option.isSome_iff_exists.1 hs
          obtain ⟨h1, h2, _, h4⟩ := nb_tch hd hk
          exact ⟨k, ⟨h2, h1⟩, h4⟩
    have := e.length_eq
    rw [List.length_map] at this
    exact this
  rw [hl, rim_iff hc]
  constructor
  · intro h
    apply Classical.byContradiction
    intro hn
    have : (List.range 8).filter (fun d => (nbO m n c d).isSome) = List.range 8 := by
      rw [List.filter_eq_self]
      intro d hd
      rw [List.mem_range] at hd
      cases hq : nbO m n c d with
      | none => exact absurd ⟨d, hd, hq⟩ hn
      | some _ => rfl
    rw [this] at h
    simp at h
  · rintro ⟨d, hd, hq⟩
    have hle := List.length_filter_le (fun d => (nbO m n c d).isSome) (List.range 8)
    rcases Nat.lt_or_ge ((List.range 8).filter (fun d => (nbO m n c d).isSome)).length 8 with c1 | c1
    · exact c1
    · have : ((List.range 8).filter (fun d => (nbO m n c d).isSome)).length = (List.range 8).length := by simp at hle ⊢; omega
      rw [List.length_filter_eq_length_iff] at this
      have := this d (List.mem_range.2 hd)
      rw [hq] at this
      cases this
end Go.Proofs.YtlhligeicnejbaaDoor
namespace Go.Proofs.YtlhligeicnejbaaDoor
open Go.RowKit

section
variable (m n : Nat) (l : List Int)
/-- A cell's direction as it is kept: -1 where it does not wait yet. -/
def flV (S : FS) (i : Nat) : Int := if S.st i = 0 then -1 else (wyD m i (S.tw i) : Int)
/-- What lies in memory is the flood. -/
structure Syn (S : FS) (Lv Fl : List Int) (q : List Wt) : Prop where
  lv : ∀ i, i < l.length → gl Lv i = S.fi i
  fl : ∀ i, i < l.length → gl Fl i = flV m S i
  mem : ∀ p, p ∈ q ↔ S.st p.2 = 1 ∧ p.1 = S.fi p.2
  nd : q.Nodup
  lt : ∀ i, S.st i ≠ 0 → i < l.length
theorem Syn.perm {S : FS} {Lv Fl : List Int} {q q' : List Wt} (h : Syn m l S Lv Fl q) (hp : q'.Perm q) : Syn m l S Lv Fl q' :=
  ⟨h.lv, h.fl, fun p => (hp.mem_iff).trans (h.mem p), hp.nodup_iff.2 h.nd, h.lt⟩
theorem Syn.len {S : FS} {Lv Fl : List Int} {q : List Wt} (h : Syn m l S Lv Fl q) : q.length ≤ l.length := by
  have : (q.map Prod.snd).Nodup := by
    refine List.Pairwise.map _ (R := fun a b => a ∈ q ∧ b ∈ q ∧ a ≠ b) ?_ (List.Pairwise.imp_of_mem (fun ha hb h => ⟨ha, hb, h⟩) h.nd)
    rintro ⟨a1, a2⟩ ⟨b1, b2⟩ ⟨ha, hb, hne⟩ e
    simp only at e
    subst e
    have h1 := ((h.mem _).1 ha).2
    have h2 := ((h.mem _).1 hb).2
    simp only at h1 h2
    exact hne (by rw [h1, h2])
  have := nodup_len this (N := l.length) (fun i hi => by
    obtain ⟨p, hp, rfl⟩ := List.mem_map.1 hi
    exact h.lt _ (by have := ((h.mem p).1 hp).1; omega))
  simpa using this
theorem Syn.best {S : FS} {Lv Fl : List Int} {q : List Wt} (h : Syn m l S Lv Fl q) {n0 : Nat} (hq : q.length = n0 + 1) (hp : Hp q (n0 + 1)) : isB S l.length (wx q 0).2 ∧ (wx q 0).1 = S.fi (wx q 0).2 := by
  have hm : wx q 0 ∈ q := by rw [← wx_get (show 0 < q.length by omega)]; exact List.getElem_mem _
  have h0 := (h.mem _).1 hm
  refine ⟨⟨h.lt _ (by omega), h0.1, fun i hi hs => ?_⟩, h0.2⟩
  have hi' : (S.fi i, i) ∈ q := (h.mem _).2 ⟨hs, rfl⟩
  obtain ⟨j, hj, e⟩ := List.getElem_of_mem hi'
  rw [wx_get hj] at e
  have := hp.root j (by omega)
  rw [e] at this
  rw [← h0.2]
  exact this
/-- The step, as far as the first k directions. -/
def NwK (S : FS) (b k i : Nat) : Prop := New m l S b i ∧ wyD m b i < k
instance (S : FS) (b k i : Nat) : Decidable (NwK m l S b k i) := by unfold NwK; exact inferInstance
def stK (S : FS) (b k : Nat) : FS :=
  ⟨fun i => if i = b then 2 else if NwK m l S b k i then 1 else S.st i, fun i => if NwK m l S b k i then up1 (gl l i) (S.fi b) else S.fi i, fun i => if NwK m l S b k i then b else S.tw i, S.ord ++ [b]⟩
theorem stK_8 (S : FS) (b : Nat) (hm : 1 ≤ m) (hl : l.length = m * n) : stK m l S b 8 = stepF m l S b := by
  have e : ∀ i, NwK m l S b 8 i ↔ New m l S b i := fun i => ⟨fun h => h.1, fun h => ⟨h, (tch_nb (n := n) hm h.2.2 (by rw [← hl]; exact h.1)).1⟩⟩
  unfold stK stepF
  simp only [e]
theorem stK_0 (S : FS) (b i : Nat) : ¬ NwK m l S b 0 i := fun h => by have := h.2; omega
theorem NwK_succ (S : FS) (b k i : Nat) : NwK m l S b (k + 1) i ↔ NwK m l S b k i ∨ (New m l S b i ∧ wyD m b i = k) := by
  unfold NwK
  constructor
  · intro ⟨h1, h2⟩
    by_cases c : wyD m b i = k
    · exact .inr ⟨h1, c⟩
    · exact .inl ⟨h1, by omega⟩
  · rintro (⟨h1, h2⟩ | ⟨h1, h2⟩)
    · exact ⟨h1, by omega⟩
    · exact ⟨h1, by omega⟩
theorem fs_ext {S T : FS} (h1 : ∀ i, S.st i = T.st i) (h2 : ∀ i, S.fi i = T.fi i) (h3 : ∀ i, S.tw i = T.tw i) (h4 : S.ord = T.ord) : S = T := by
  obtain ⟨a, b, c, d⟩ := S
  obtain ⟨a', b', c', d'⟩ := T
  obtain rfl : a = a' := funext h1
  obtain rfl : b = b' := funext h2
  obtain rfl : c = c' := funext h3
  obtain rfl : d = d' := h4
  rfl
/-- Where there is no neighbour in that direction, or it is no new one, nothing changes. -/
theorem stK_same (S : FS) (b k : Nat) (hm : 1 ≤ m) (hl : l.length = m * n) (hk : ∀ o, nbO m n b k = some o → S.st o ≠ 0) : stK m l S b (k + 1) = stK m l S b k := by
  have e : ∀ i, NwK m l S b (k + 1) i ↔ NwK m l S b k i := fun i => by
    rw [NwK_succ]
    refine ⟨fun h => h.elim id (fun h => ?_), .inl⟩
    have := (tch_nb (n := n) hm h.1.2.2 (by rw [← hl]; exact h.1.1)).2
    rw [h.2] at this
    exact absurd h.1.2.1 (hk i this)
  unfold stK
  simp only [e]
/-- Else the neighbour comes to wait. -/
theorem stK_new (S : FS) (b k o : Nat) (hm : 1 ≤ m) (hl : l.length = m * n) (hk : k < 8) (ho : nbO m n b k = some o) (hs : S.st o = 0) :
    (∀ i, NwK m l S b (k + 1) i ↔ NwK m l S b k i ∨ i = o) ∧ ¬ NwK m l S b k o ∧ o < l.length ∧ o ≠ b ∧ wyD m o b = (k + 4) % 8 := by
  obtain ⟨t1, t2, t3, t4⟩ := nb_tch hk ho
  have hN : New m l S b o := ⟨by rw [hl]; exact t2, hs, t1⟩
  refine ⟨fun i => ?_, fun h => by have := h.2; omega, by rw [hl]; exact t2, fun e => t1.1 e.symm, t3⟩
  rw [NwK_succ]
  constructor
  · rintro (h | h)
    · exact .inl h
    · have := (tch_nb (n := n) hm h.1.2.2 (by rw [← hl]; exact h.1.1)).2
      rw [h.2, ho] at this
      exact .inr (Option.some.inj this).symm
  · rintro (h | rfl)
    · exact .inl h
    · exact .inr ⟨hN, t4⟩
theorem gl_set {L : List Int} {i : Nat} (h : i < L.length) (x : Int) (k : Nat) : gl (L.set i x) k = if k = i then x else gl L k := by
  unfold gl
  rw [List.getD_eq_getElem?_getD, List.getElem?_set, List.getD_eq_getElem?_getD]
  by_cases c : i = k
  · subst c; simp [h]
  · rw [if_neg c, if_neg (fun e => c e.symm)]
theorem Syn.new {S : FS} {Lv Fl : List Int} {q q' : List Wt} {b k o : Nat} {x : Int} (h : Syn m l (stK m l S b k) Lv Fl q) (hL : Lv.length = l.length ∧ Fl.length = l.length) (hm : 1 ≤ m) (hl : l.length = m * n) (hk : k < 8) (ho : nbO m n b k = some o) (hs : S.st o = 0) (hx : x = up1 (gl l o) (S.fi b)) (hp : q'.Perm (q ++ [(x, o)])) : Syn m l (stK m l S b (k + 1)) (Lv.set o x) (Fl.set o (((k + 4) % 8 : Nat) : Int)) q' := by
  obtain ⟨e, hno, hol, hob, hwy⟩ := stK_new m n l S b k o hm hl hk ho hs
  have s1 : ∀ i, (stK m l S b (k + 1)).st i = if i = o then 1 else (stK m l S b k).st i := fun i => by
    show (if i = b then 2 else if NwK m l S b (k + 1) i then 1 else S.st i) = if i = o then 1 else (if i = b then 2 else if NwK m l S b k i then 1 else S.st i)
    by_cases c : i = o
    · subst c; rw [if_neg hob, if_pos ((e i).2 (.inr rfl)), if_pos rfl]
    · rw [if_neg c]
      by_cases d : NwK m l S b k i
      · rw [if_pos ((e i).2 (.inl d)), if_pos d]
      · rw [if_neg (fun h => ((e i).1 h).elim d c), if_neg d]
  have s2 : ∀ i, (stK m l S b (k + 1)).fi i = if i = o then x else (stK m l S b k).fi i := fun i => by
    show (if NwK m l S b (k + 1) i then up1 (gl l i) (S.fi b) else S.fi i) = if i = o then x else (if NwK m l S b k i then up1 (gl l i) (S.fi b) else S.fi i)
    by_cases c : i = o
    · subst c; rw [if_pos ((e i).2 (.inr rfl)), if_pos rfl, hx]
    · rw [if_neg c]
      by_cases d : NwK m l S b k i
      · rw [if_pos ((e i).2 (.inl d)), if_pos d]
      · rw [if_neg (fun h => ((e i).1 h).elim d c), if_neg d]
  have s3 : ∀ i, (stK m l S b (k + 1)).tw i = if i = o then b else (stK m l S b k).tw i := fun i => by
    show (if NwK m l S b (k + 1) i then b else S.tw i) = if i = o then b else (if NwK m l S b k i then b else S.tw i)
    by_cases c : i = o
    · subst c; rw [if_pos ((e i).2 (.inr rfl)), if_pos rfl]
    · rw [if_neg c]
      by_cases d : NwK m l S b k i
      · rw [if_pos ((e i).2 (.inl d)), if_pos d]
      · rw [if_neg (fun h => ((e i).1 h).elim d c), if_neg d]
  have hst : (stK m l S b k).st o = 0 := by
    show (if o = b then 2 else if NwK m l S b k o then 1 else S.st o) = 0
    rw [if_neg hob, if_neg hno]; exact hs
  have hno' : ∀ y, (y, o) ∉ q := fun y hy => by have := ((h.mem _).1 hy).1; simp only at this; omega
  refine ⟨fun i hi => ?_, fun i hi => ?_, fun p => ?_, ?_, fun i hi => ?_⟩
  · rw [gl_set (by rw [hL.1]; exact hol), s2]
    split
    · rfl
    · exact h.lv i hi
  · rw [gl_set (by rw [hL.2]; exact hol)]
    unfold flV
    rw [s1, s3]
    by_cases c : i = o
    · subst c
      simp only [if_true, if_neg (show ¬ (1 : Nat) = 0 by omega)]
      rw [hwy]
    · rw [if_neg c, if_neg c, if_neg c]
      exact h.fl i hi
  · rw [hp.mem_iff, List.mem_append, List.mem_singleton, h.mem, s1, s2]
    obtain ⟨p1, p2⟩ := p
    simp only
    by_cases c : p2 = o
    · subst c
      rw [if_pos rfl, if_pos rfl]
      constructor
      · rintro (⟨h1, h2⟩ | h1)
        · omega
        · exact ⟨rfl, (Prod.mk.inj h1).1⟩
      · intro ⟨_, h2⟩
        exact .inr (by rw [h2])
    · rw [if_neg c, if_neg c]
      constructor
      · rintro (h1 | h1)
        · exact h1
        · exact absurd (Prod.mk.inj h1).2 c
      · exact .inl
  · refine hp.nodup_iff.2 (List.nodup_append.2 ⟨h.nd, List.pairwise_singleton _ _, fun y hy z hz hyz => ?_⟩)
    rw [List.mem_singleton.1 hz] at hyz
    rw [hyz] at hy
    exact hno' _ hy
  · rw [s1] at hi
    by_cases c : i = o
    · rw [c]; exact hol
    · rw [if_neg c] at hi; exact h.lt i hi
/-- One is taken off the queue. -/
theorem Syn.take {S : FS} {Lv Fl : List Int} {q q' : List Wt} {n0 : Nat} (h : Syn m l S Lv Fl q) (hq : q.length = n0 + 1) (hp : q'.Perm q) (hw : wx q' n0 = wx q 0) (hst : S.st (wx q 0).2 = 1) : Syn m l (stK m l S (wx q 0).2 0) Lv Fl (q'.take n0) := by
  obtain ⟨d1, d2⟩ := perm_drop hp hq h.nd
  rw [hw] at d2
  have hm : wx q 0 ∈ q := by rw [← wx_get (show 0 < q.length by omega)]; exact List.getElem_mem _
  have h0 := (h.mem _).1 hm
  have s1 : ∀ i, (stK m l S (wx q 0).2 0).st i = if i = (wx q 0).2 then 2 else S.st i := fun i => by
    show (if i = (wx q 0).2 then 2 else if NwK m l S (wx q 0).2 0 i then 1 else S.st i) = _
    rw [if_neg (stK_0 m l S _ i)]
  have s2 : ∀ i, (stK m l S (wx q 0).2 0).fi i = S.fi i := fun i => if_neg (stK_0 m l S _ i)
  have s3 : ∀ i, (stK m l S (wx q 0).2 0).tw i = S.tw i := fun i => if_neg (stK_0 m l S _ i)
  refine ⟨fun i hi => by rw [s2]; exact h.lv i hi, fun i hi => ?_, fun p => ?_, d1, fun i hi => ?_⟩
  · rw [h.fl i hi]
    unfold flV
    rw [s1, s3]
    by_cases c : i = (wx q 0).2
    · rw [if_pos c, c, hst]; rfl
    · rw [if_neg c]
  · rw [d2, h.mem, s1, s2]
    constructor
    · intro ⟨⟨h1, h2⟩, h3⟩
      have c : p.2 ≠ (wx q 0).2 := fun e => h3 (Prod.ext (by rw [h2, h0.2, e]) e)
      rw [if_neg c]
      exact ⟨h1, h2⟩
    · intro ⟨h1, h2⟩
      by_cases c : p.2 = (wx q 0).2
      · rw [if_pos c] at h1; omega
      · rw [if_neg c] at h1
        exact ⟨⟨h1, h2⟩, fun e => c (by rw [e])⟩
  · rw [s1] at hi
    by_cases c : i = (wx q 0).2
    · rw [c]; exact h.lt _ (by omega)
    · rw [if_neg c] at hi; exact h.lt i hi
end
end Go.Proofs.YtlhligeicnejbaaDoor
namespace Go.Proofs.YtlhligeicnejbaaDoor
open Go.RowKit

theorem nodup_mem {N : Nat} {L : List Nat} (hd : L.Nodup) (h : ∀ i ∈ L, i < N) (hl : L.length = N) : ∀ i, i < N → i ∈ L := by
  intro i hi
  apply Classical.byContradiction
  intro hn
  have := nodup_len (N := N) (L := i :: L) (List.nodup_cons.2 ⟨hn, hd⟩) (fun k hk => by
    rcases List.mem_cons.1 hk with rfl | hk
    · exact hi
    · exact h k hk)
  simp at this
  omega
section
variable (m n : Nat) (l : List Int)
theorem flo_all (hm : 1 ≤ m) (hl : l.length = m * n) : ∀ i, i < l.length → (flo m n l l.length).st i = 2 := by
  obtain ⟨h1, h2⟩ := flo_inv m n l hm hl l.length (Nat.le_refl _)
  intro i hi
  exact (h1.mem i).1 (nodup_mem h1.nd (fun k hk => h1.lt m n l (by have := (h1.mem k).1 hk; omega)) h2 i hi)
theorem flo_tw (hm : 1 ≤ m) (hl : l.length = m * n) : ∀ k i, (flo m n l k).st i ≠ 0 → (flo m n l k).tw i = i ∨ (tch m i ((flo m n l k).tw i) ∧ (flo m n l k).tw i < l.length)
  | 0, i, _ => .inl rfl
  | k + 1, i, h => by
    have ih := flo_tw hm hl k
    unfold flo at h ⊢
    obtain ⟨b1, b2⟩ := bst_is (flo m n l k) l.length
    cases hq : bst (flo m n l k) l.length with
    | none =>
      rw [hq] at h
      exact ih i h
    | some b =>
      rw [hq] at h
      have hb := b1 b hq
      by_cases c : New m l (flo m n l k) b i
      · have e : (stepF m l (flo m n l k) b).tw i = b := if_pos c
        right
        show tch m i ((stepF m l (flo m n l k) b).tw i) ∧ (stepF m l (flo m n l k) b).tw i < l.length
        rw [e]
        exact ⟨tch_symm c.2.2, hb.1⟩
      · have e : (stepF m l (flo m n l k) b).tw i = (flo m n l k).tw i := if_neg c
        have hs : (flo m n l k).st i ≠ 0 := by
          by_cases d : i = b
          · rw [d, hb.2.1]; omega
          · have e2 : (stepF m l (flo m n l k) b).st i = (flo m n l k).st i := by
              show (if i = b then 2 else if New m l (flo m n l k) b i then 1 else (flo m n l k).st i) = _
              rw [if_neg d, if_neg c]
            have h' : (stepF m l (flo m n l k) b).st i ≠ 0 := h
            rw [e2] at h'
            exact h'
        show (stepF m l (flo m n l k) b).tw i = i ∨ tch m i ((stepF m l (flo m n l k) b).tw i) ∧ (stepF m l (flo m n l k) b).tw i < l.length
        rw [e]
        exact ih i hs
end
end Go.Proofs.YtlhligeicnejbaaDoor
