/-
  Whole numbers from 0 on by digits to the base of a million, the low ones first. No Go text is named here.
-/
namespace Go.Proofs.YtgjjgicojedefaaDoor.BG

/-- What a row of digits stands for. -/
def dv : List Nat → Nat
  | [] => 0
  | d :: l => d + 1000000 * dv l
/-- The digits of a number, without noughts at their end. -/
def dn (n : Nat) : List Nat := if _h : n = 0 then [] else (n % 1000000) :: dn (n / 1000000)
termination_by n
decreasing_by omega
theorem dn_zero : dn 0 = [] := by unfold dn; simp
theorem dn_pos {n : Nat} (h : n ≠ 0) : dn n = (n % 1000000) :: dn (n / 1000000) := by rw [dn]; simp [h]
theorem dv_dn (n : Nat) : dv (dn n) = n := by
  induction n using Nat.strongRecOn with
  | _ n ih =>
    by_cases h : n = 0
    · subst h; rw [dn_zero]; rfl
    · rw [dn_pos h]
      show n % 1000000 + 1000000 * dv (dn (n / 1000000)) = n
      rw [ih (n / 1000000) (by omega)]
      omega
/-- Digits below a million. -/
def Dg (l : List Nat) : Prop := ∀ d ∈ l, d < 1000000
theorem dn_dg (n : Nat) : Dg (dn n) := by
  induction n using Nat.strongRecOn with
  | _ n ih =>
    by_cases h : n = 0
    · subst h; rw [dn_zero]; intro d hd; cases hd
    · rw [dn_pos h]
      intro d hd
      rcases List.mem_cons.1 hd with rfl | hd
      · exact Nat.mod_lt _ (by decide)
      · exact ih (n / 1000000) (by omega) d hd
theorem dv_append (l m : List Nat) : dv (l ++ m) = dv l + 1000000 ^ l.length * dv m := by
  induction l with
  | nil => simp [dv]
  | cons d l ih =>
    simp only [List.cons_append, dv, ih, List.length_cons, Nat.pow_succ]
    rw [Nat.mul_add, Nat.add_assoc, ← Nat.mul_assoc, Nat.mul_comm 1000000 (1000000 ^ l.length)]
theorem dv_snoc (l : List Nat) (d : Nat) : dv (l ++ [d]) = dv l + 1000000 ^ l.length * d := by
  rw [dv_append]; simp [dv]
theorem dv_lt {l : List Nat} (h : Dg l) : dv l < 1000000 ^ l.length := by
  induction l with
  | nil => simp [dv]
  | cons d l ih =>
    have h1 : d < 1000000 := h d (List.mem_cons_self ..)
    have h2 := ih (fun x hx => h x (List.mem_cons_of_mem _ hx))
    simp only [dv, List.length_cons, Nat.pow_succ]
    omega
theorem Dg.snoc {l : List Nat} {d : Nat} (h : Dg l) (hd : d < 1000000) : Dg (l ++ [d]) := by
  intro x hx
  rcases List.mem_append.1 hx with hx | hx
  · exact h x hx
  · rw [List.mem_singleton.1 hx]; exact hd
theorem Dg.take {l : List Nat} (h : Dg l) (k : Nat) : Dg (l.take k) := fun x hx => h x (List.mem_of_mem_take hx)
theorem Dg.get {l : List Nat} (h : Dg l) {i : Nat} (hi : i < l.length) : l[i] < 1000000 := h _ (List.getElem_mem hi)
/-- A row whose last digit is not a nought is its number's row. -/
theorem dn_dv {l : List Nat} (h : Dg l) (hl : l = [] ∨ ∃ m d, l = m ++ [d] ∧ d ≠ 0) : dn (dv l) = l := by
  induction l with
  | nil => exact dn_zero
  | cons d l ih =>
    have h1 : d < 1000000 := h d (List.mem_cons_self ..)
    have h2 : Dg l := fun x hx => h x (List.mem_cons_of_mem _ hx)
    have hl' : l = [] ∨ ∃ m e, l = m ++ [e] ∧ e ≠ 0 := by
      rcases hl with hl | ⟨m, e, hl, he⟩
      · cases hl
      · cases m with
        | nil => simp at hl; exact .inl hl.2
        | cons x m => simp at hl; exact .inr ⟨m, e, hl.2, he⟩
    have h0 : dv (d :: l) ≠ 0 := by
      rcases hl with hl | ⟨m, e, hl, he⟩
      · cases hl
      · rw [hl, dv_snoc]
        have : 0 < 1000000 ^ m.length * e := Nat.mul_pos (Nat.pow_pos (by decide)) (Nat.pos_of_ne_zero he)
        omega
    rw [dn_pos h0]
    have e1 : dv (d :: l) % 1000000 = d := by simp only [dv]; omega
    have e2 : dv (d :: l) / 1000000 = dv l := by simp only [dv]; omega
    rw [e1, e2, ih h2 hl']
/-- Noughts at the end stand for nothing. -/
theorem dv_zeros (l : List Nat) (k : Nat) (h : ∀ i, (hi : i < l.length) → k ≤ i → l[i] = 0) : dv (l.take k) = dv l := by
  induction l generalizing k with
  | nil => simp
  | cons d l ih =>
    cases k with
    | zero =>
      have hz : ∀ (m : List Nat), (∀ i, (hi : i < m.length) → m[i] = 0) → dv m = 0 := by
        intro m
        induction m with
        | nil => intro _; rfl
        | cons e m ihm =>
          intro hm
          have he := hm 0 (by simp)
          simp at he
          have := ihm (fun i hi => by have := hm (i + 1) (by simpa using hi); simpa using this)
          simp [dv, he, this]
      rw [List.take_zero, hz (d :: l) (fun i hi => h i hi (Nat.zero_le _))]
      rfl
    | succ k =>
      rw [List.take_succ_cons]
      simp only [dv]
      rw [ih k (fun i hi hk => by have := h (i + 1) (by simpa using hi) (by omega); simpa using this)]
/-- Cut off where only noughts follow and the last digit is none: the number's row. -/
theorem take_dn {l : List Nat} (h : Dg l) {k : Nat} (hk : k ≤ l.length) (hz : ∀ i, (hi : i < l.length) → k ≤ i → l[i] = 0) (hl : k = 0 ∨ ∃ hk' : k - 1 < l.length, l[k - 1] ≠ 0) : l.take k = dn (dv l) := by
  rw [← dv_zeros l k hz]
  refine (dn_dv (h.take k) ?_).symm
  rcases hl with rfl | ⟨hk', hd⟩
  · exact .inl (by simp)
  · rcases Nat.eq_zero_or_pos k with rfl | hp
    · exact .inl (by simp)
    · right
      refine ⟨l.take (k - 1), l[k - 1], ?_, hd⟩
      have e : k = (k - 1) + 1 := by omega
      conv => lhs; rw [e, List.take_succ_eq_append_getElem hk']
/-- The number's row is the beginning of any of its rows. -/
theorem dn_take {l : List Nat} (h : Dg l) : ∃ k, k ≤ l.length ∧ dn (dv l) = l.take k := by
  suffices H : ∀ k, k ≤ l.length → (∀ i, (hi : i < l.length) → k ≤ i → l[i] = 0) → ∃ k, k ≤ l.length ∧ dn (dv l) = l.take k from H l.length (Nat.le_refl _) (fun i hi hk => by omega)
  intro k
  induction k with
  | zero => intro hk hz; exact ⟨0, hk, (take_dn h hk hz (.inl rfl)).symm⟩
  | succ k ih =>
    intro hk hz
    by_cases c : l[k] = 0
    · refine ih (by omega) (fun i hi hki => ?_)
      rcases Nat.lt_or_eq_of_le hki with d | d
      · exact hz i hi d
      · subst d; exact c
    · exact ⟨k + 1, hk, (take_dn h hk hz (.inr ⟨by simp; omega, by simpa using c⟩)).symm⟩
theorem dn_len_le {n k : Nat} (h : n < 1000000 ^ k) : (dn n).length ≤ k := by
  induction k generalizing n with
  | zero => have : n = 0 := by simpa using h
            subst this; rw [dn_zero]; simp
  | succ k ih =>
    by_cases h0 : n = 0
    · subst h0; rw [dn_zero]; simp
    · rw [dn_pos h0, List.length_cons]
      have : n / 1000000 < 1000000 ^ k := by rw [Nat.pow_succ] at h; exact Nat.div_lt_of_lt_mul (by rw [Nat.mul_comm]; exact h)
      have := ih this
      omega
theorem dn_len_lt {n : Nat} (h : n ≠ 0) : 1000000 ^ ((dn n).length - 1) ≤ n := by
  induction n using Nat.strongRecOn with
  | _ n ih =>
    rw [dn_pos h, List.length_cons, Nat.add_sub_cancel]
    by_cases c : n / 1000000 = 0
    · rw [c, dn_zero]; simp; omega
    · have := ih (n / 1000000) (by omega) c
      have hl : (dn (n / 1000000)).length = ((dn (n / 1000000)).length - 1) + 1 := by
        rw [dn_pos c, List.length_cons]; omega
      rw [hl, Nat.pow_succ]
      have : 1000000 ^ ((dn (n / 1000000)).length - 1) * 1000000 ≤ n / 1000000 * 1000000 := Nat.mul_le_mul_right _ this
      omega
theorem dn_len_mono {m n : Nat} (h : m ≤ n) : (dn m).length ≤ (dn n).length := by
  refine dn_len_le ?_
  have h1 := dv_lt (dn_dg n)
  rw [dv_dn] at h1
  omega
theorem dn_empty {n : Nat} : (dn n).length = 0 ↔ n = 0 := by
  constructor
  · intro h
    by_cases c : n = 0
    · exact c
    · rw [dn_pos c] at h; simp at h
  · intro h; subst h; rw [dn_zero]; rfl
/-- A digit of two rows that are alike above it decides. -/
theorem dv_cmp {l m : List Nat} (hl : Dg l) (_hm : Dg m) {i : Nat} (h1 : i < l.length) (h2 : i < m.length) (he : l.drop (i + 1) = m.drop (i + 1)) (h : l[i] < m[i]) : dv l < dv m := by
  have split : ∀ (r : List Nat) (hi : i < r.length), dv r = dv (r.take i) + 1000000 ^ i * (r[i] + 1000000 * dv (r.drop (i + 1))) := by
    intro r hi
    have e : r = r.take i ++ (r[i] :: r.drop (i + 1)) := by rw [← List.drop_eq_getElem_cons hi, List.take_append_drop]
    have := congrArg dv e
    rw [dv_append] at this
    rw [this, List.length_take, Nat.min_eq_left (Nat.le_of_lt hi)]
    rfl
  rw [split l h1, split m h2, he]
  have b1 : dv (l.take i) < 1000000 ^ i := by have := dv_lt (hl.take i); rwa [List.length_take, Nat.min_eq_left (Nat.le_of_lt h1)] at this
  generalize dv (m.drop (i + 1)) = D
  generalize dv (m.take i) = T
  have : 1000000 ^ i * (l[i] + 1000000 * D) + 1000000 ^ i ≤ 1000000 ^ i * (m[i] + 1000000 * D) := by
    rw [← Nat.mul_succ]; exact Nat.mul_le_mul_left _ (by omega)
  omega
end Go.Proofs.YtgjjgicojedefaaDoor.BG
