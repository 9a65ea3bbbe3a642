/-
  Whole numbers from 0 on by digits to the base of 2^64, the low ones first. No Go text is named here.; Whole numbers to the base of 2^64: what adding, taking off, multiplying and dividing within a row do. No Go text is named here.; Dividing by digits to the base of 2^64: shifts, a digit that is guessed, what is put back. No Go text is named here.
-/
namespace Go.Proofs.YtecmkjefoppbiaaDoor.WH

/-- What a row of digits stands for. -/
def dv : List Nat → Nat
  | [] => 0
  | d :: l => d + 18446744073709551616 * dv l
/-- The digits of a number, without noughts at their end. -/
def dn (n : Nat) : List Nat := if _h : n = 0 then [] else (n % 18446744073709551616) :: dn (n / 18446744073709551616)
termination_by n
decreasing_by omega
theorem dn_zero : dn 0 = [] := by unfold dn; simp
theorem dn_pos {n : Nat} (h : n ≠ 0) : dn n = (n % 18446744073709551616) :: dn (n / 18446744073709551616) := by rw [dn]; simp [h]
theorem dv_dn (n : Nat) : dv (dn n) = n := by
  induction n using Nat.strongRecOn with
  | _ n ih =>
    by_cases h : n = 0
    · subst h; rw [dn_zero]; rfl
    · rw [dn_pos h]
      show n % 18446744073709551616 + 18446744073709551616 * dv (dn (n / 18446744073709551616)) = n
      rw [ih (n / 18446744073709551616) (by omega)]
      omega
/-- Digits below 2^64. -/
def Dg (l : List Nat) : Prop := ∀ d ∈ l, d < 18446744073709551616
theorem dn_dg (n : Nat) : Dg (dn n) := by
  induction n using Nat.strongRecOn with
  | _ n ih =>
    by_cases h : n = 0
    · subst h; rw [dn_zero]; intro d hd; cases hd
    · rw [dn_pos h]
      intro d hd
      rcases List.mem_cons.1 hd with rfl | hd
      · exact Nat.mod_lt _ (by decide)
      · exact ih (n / 18446744073709551616) (by omega) d hd
theorem dv_append (l m : List Nat) : dv (l ++ m) = dv l + 18446744073709551616 ^ l.length * dv m := by
  induction l with
  | nil => simp [dv]
  | cons d l ih =>
    simp only [List.cons_append, dv, ih, List.length_cons, Nat.pow_succ]
    rw [Nat.mul_add, Nat.add_assoc, ← Nat.mul_assoc, Nat.mul_comm 18446744073709551616 (18446744073709551616 ^ l.length)]
theorem dv_snoc (l : List Nat) (d : Nat) : dv (l ++ [d]) = dv l + 18446744073709551616 ^ l.length * d := by
  rw [dv_append]; simp [dv]
theorem dv_lt {l : List Nat} (h : Dg l) : dv l < 18446744073709551616 ^ l.length := by
  induction l with
  | nil => simp [dv]
  | cons d l ih =>
    have h1 : d < 18446744073709551616 := h d (List.mem_cons_self ..)
    have h2 := ih (fun x hx => h x (List.mem_cons_of_mem _ hx))
    simp only [dv, List.length_cons, Nat.pow_succ]
    omega
theorem Dg.snoc {l : List Nat} {d : Nat} (h : Dg l) (hd : d < 18446744073709551616) : Dg (l ++ [d]) := by
  intro x hx
  rcases List.mem_append.1 hx with hx | hx
  · exact h x hx
  · rw [List.mem_singleton.1 hx]; exact hd
theorem Dg.take {l : List Nat} (h : Dg l) (k : Nat) : Dg (l.take k) := fun x hx => h x (List.mem_of_mem_take hx)
theorem Dg.get {l : List Nat} (h : Dg l) {i : Nat} (hi : i < l.length) : l[i] < 18446744073709551616 := h _ (List.getElem_mem hi)
/-- A row whose last digit is not a nought is its number's row. -/
theorem dn_dv {l : List Nat} (h : Dg l) (hl : l = [] ∨ ∃ m d, l = m ++ [d] ∧ d ≠ 0) : dn (dv l) = l := by
  induction l with
  | nil => exact dn_zero
  | cons d l ih =>
    have h1 : d < 18446744073709551616 := h d (List.mem_cons_self ..)
    have h2 : Dg l := fun x hx => h x (List.mem_cons_of_mem _ hx)
    have hl' : l = [] ∨ ∃ m e, l = m ++ [e] ∧ e ≠ 0 := by
      rcases hl with hl | ⟨m, e, hl, he⟩
      · cases hl
      · cases m with
        | nil => simp at hl; exact .inl hl.2
        | cons x m => simp at hl; exact .inr ⟨m, e, hl.2, he⟩
    have h0 : dv (d :: l) ≠ 0 := by
      rcases hl with hl | ⟨m, e, hl, he⟩
      · cases hl
      · rw [hl, dv_snoc]
        have : 0 < 18446744073709551616 ^ m.length * e := Nat.mul_pos (Nat.pow_pos (by decide)) (Nat.pos_of_ne_zero he)
        omega
    rw [dn_pos h0]
    have e1 : dv (d :: l) % 18446744073709551616 = d := by simp only [dv]; omega
    have e2 : dv (d :: l) / 18446744073709551616 = dv l := by simp only [dv]; omega
    rw [e1, e2, ih h2 hl']
/-- Noughts at the end stand for nothing. -/
theorem dv_zeros (l : List Nat) (k : Nat) (h : ∀ i, (hi : i < l.length) → k ≤ i → l[i] = 0) : dv (l.take k) = dv l := by
  induction l generalizing k with
  | nil => simp
  | cons d l ih =>
    cases k with
    | zero =>
      have hz : ∀ (m : List Nat), (∀ i, (hi : i < m.length) → m[i] = 0) → dv m = 0 := by
        intro m
        induction m with
        | nil => intro _; rfl
        | cons e m ihm =>
          intro hm
          have he := hm 0 (by simp)
          simp at he
          have := ihm (fun i hi => by have := hm (i + 1) (by simpa using hi); simpa using this)
          simp [dv, he, this]
      rw [List.take_zero, hz (d :: l) (fun i hi => h i hi (Nat.zero_le _))]
      rfl
    | succ k =>
      rw [List.take_succ_cons]
      simp only [dv]
      rw [ih k (fun i hi hk => by have := h (i + 1) (by simpa using hi) (by omega); simpa using this)]
/-- Cut off where only noughts follow and the last digit is none: the number's row. -/
theorem take_dn {l : List Nat} (h : Dg l) {k : Nat} (hk : k ≤ l.length) (hz : ∀ i, (hi : i < l.length) → k ≤ i → l[i] = 0) (hl : k = 0 ∨ ∃ hk' : k - 1 < l.length, l[k - 1] ≠ 0) : l.take k = dn (dv l) := by
  rw [← dv_zeros l k hz]
  refine (dn_dv (h.take k) ?_).symm
  rcases hl with rfl | ⟨hk', hd⟩
  · exact .inl (by simp)
  · rcases Nat.eq_zero_or_pos k with rfl | hp
    · exact .inl (by simp)
    · right
      refine ⟨l.take (k - 1), l[k - 1], ?_, hd⟩
      have e : k = (k - 1) + 1 := by omega
      conv => lhs; rw [e, List.take_succ_eq_append_getElem hk']
/-- The number's row is the beginning of any of its rows. -/
theorem dn_take {l : List Nat} (h : Dg l) : ∃ k, k ≤ l.length ∧ dn (dv l) = l.take k := by
  suffices H : ∀ k, k ≤ l.length → (∀ i, (hi : i < l.length) → k ≤ i → l[i] = 0) → ∃ k, k ≤ l.length ∧ dn (dv l) = l.take k from H l.length (Nat.le_refl _) (fun i hi hk => by omega)
  intro k
  induction k with
  | zero => intro hk hz; exact ⟨0, hk, (take_dn h hk hz (.inl rfl)).symm⟩
  | succ k ih =>
    intro hk hz
    by_cases c : l[k] = 0
    · refine ih (by omega) (fun i hi hki => ?_)
      rcases Nat.lt_or_eq_of_le hki with d | d
      · exact hz i hi d
      · subst d; exact c
    · exact ⟨k + 1, hk, (take_dn h hk hz (.inr ⟨by simp; omega, by simpa using c⟩)).symm⟩
theorem dn_len_le {n k : Nat} (h : n < 18446744073709551616 ^ k) : (dn n).length ≤ k := by
  induction k generalizing n with
  | zero => have : n = 0 := by simpa using h
            subst this; rw [dn_zero]; simp
  | succ k ih =>
    by_cases h0 : n = 0
    · subst h0; rw [dn_zero]; simp
    · rw [dn_pos h0, List.length_cons]
      have : n / 18446744073709551616 < 18446744073709551616 ^ k := by rw [Nat.pow_succ] at h; exact Nat.div_lt_of_lt_mul (by rw [Nat.mul_comm]; exact h)
      have := ih this
      omega
theorem dn_len_lt {n : Nat} (h : n ≠ 0) : 18446744073709551616 ^ ((dn n).length - 1) ≤ n := by
  induction n using Nat.strongRecOn with
  | _ n ih =>
    rw [dn_pos h, List.length_cons, Nat.add_sub_cancel]
    by_cases c : n / 18446744073709551616 = 0
    · rw [c, dn_zero]; simp; omega
    · have := ih (n / 18446744073709551616) (by omega) c
      have hl : (dn (n / 18446744073709551616)).length = ((dn (n / 18446744073709551616)).length - 1) + 1 := by
        rw [dn_pos c, List.length_cons]; omega
      rw [hl, Nat.pow_succ]
      have : 18446744073709551616 ^ ((dn (n / 18446744073709551616)).length - 1) * 18446744073709551616 ≤ n / 18446744073709551616 * 18446744073709551616 := Nat.mul_le_mul_right _ this
      omega
theorem dn_len_mono {m n : Nat} (h : m ≤ n) : (dn m).length ≤ (dn n).length := by
  refine dn_len_le ?_
  have h1 := dv_lt (dn_dg n)
  rw [dv_dn] at h1
  omega
theorem dn_empty {n : Nat} : (dn n).length = 0 ↔ n = 0 := by
  constructor
  · intro h
    by_cases c : n = 0
    · exact c
    · rw [dn_pos c] at h; simp at h
  · intro h; subst h; rw [dn_zero]; rfl
/-- A digit of two rows that are alike above it decides. -/
theorem dv_cmp {l m : List Nat} (hl : Dg l) (_hm : Dg m) {i : Nat} (h1 : i < l.length) (h2 : i < m.length) (he : l.drop (i + 1) = m.drop (i + 1)) (h : l[i] < m[i]) : dv l < dv m := by
  have split : ∀ (r : List Nat) (hi : i < r.length), dv r = dv (r.take i) + 18446744073709551616 ^ i * (r[i] + 18446744073709551616 * dv (r.drop (i + 1))) := by
    intro r hi
    have e : r = r.take i ++ (r[i] :: r.drop (i + 1)) := by rw [← List.drop_eq_getElem_cons hi, List.take_append_drop]
    have := congrArg dv e
    rw [dv_append] at this
    rw [this, List.length_take, Nat.min_eq_left (Nat.le_of_lt hi)]
    rfl
  rw [split l h1, split m h2, he]
  have b1 : dv (l.take i) < 18446744073709551616 ^ i := by have := dv_lt (hl.take i); rwa [List.length_take, Nat.min_eq_left (Nat.le_of_lt h1)] at this
  generalize dv (m.drop (i + 1)) = D
  generalize dv (m.take i) = T
  have : 18446744073709551616 ^ i * (l[i] + 18446744073709551616 * D) + 18446744073709551616 ^ i ≤ 18446744073709551616 ^ i * (m[i] + 18446744073709551616 * D) := by
    rw [← Nat.mul_succ]; exact Nat.mul_le_mul_left _ (by omega)
  omega
end Go.Proofs.YtecmkjefoppbiaaDoor.WH
namespace Go.Proofs.YtecmkjefoppbiaaDoor.WH

theorem take_dv {l : List Nat} (i : Nat) : dv (l.take (i + 1)) = dv (l.take i) + 18446744073709551616 ^ i * l.getD i 0 := by
  by_cases h : i < l.length
  · rw [List.take_succ_eq_append_getElem h, dv_snoc, List.length_take, Nat.min_eq_left (Nat.le_of_lt h)]
    simp [List.getD, h]
  · rw [List.take_of_length_le (by omega), List.take_of_length_le (by omega)]
    simp [List.getD, Nat.not_lt.1 h]
theorem dv_set {l : List Nat} {j d : Nat} (h : j < l.length) : dv (l.set j d) + 18446744073709551616 ^ j * l[j] = dv l + 18446744073709551616 ^ j * d := by
  induction l generalizing j with
  | nil => simp at h
  | cons x l ih =>
    cases j with
    | zero => simp [dv]; omega
    | succ j =>
      have hj : j < l.length := by simpa using h
      have := ih hj
      simp only [List.set_cons_succ, dv, List.getElem_cons_succ, Nat.pow_succ]
      have e1 : 18446744073709551616 ^ j * 18446744073709551616 * l[j] = 18446744073709551616 * (18446744073709551616 ^ j * l[j]) := by rw [Nat.mul_comm (18446744073709551616 ^ j) 18446744073709551616, Nat.mul_assoc]
      have e2 : 18446744073709551616 ^ j * 18446744073709551616 * d = 18446744073709551616 * (18446744073709551616 ^ j * d) := by rw [Nat.mul_comm (18446744073709551616 ^ j) 18446744073709551616, Nat.mul_assoc]
      rw [e1, e2]
      omega
theorem dg_set {l : List Nat} {j d : Nat} (h : Dg l) (hd : d < 18446744073709551616) : Dg (l.set j d) := by
  intro x hx
  rcases List.mem_or_eq_of_mem_set hx with hx | rfl
  · exact h x hx
  · exact hd
theorem dv_replicate (n : Nat) : dv (List.replicate n 0) = 0 := by
  induction n with
  | zero => rfl
  | succ n ih => rw [List.replicate_succ]; simp [dv, ih]
theorem dg_replicate (n : Nat) : Dg (List.replicate n 0) := by
  intro d hd; rw [List.mem_replicate] at hd; omega
/-- Two rows that are alike but from one place on to another. -/
structure Alike (L M : List Nat) (o i : Nat) : Prop where
  len : M.length = L.length
  out : ∀ j, (h : j < L.length) → (h' : j < M.length) → (j < o ∨ i ≤ j) → M[j] = L[j]
theorem Alike.refl (L : List Nat) (o : Nat) : Alike L L o o := ⟨rfl, fun _ _ _ _ => rfl⟩
theorem Alike.set {L M : List Nat} {o i d : Nat} (h : Alike L M o i) (ho : o ≤ i) : Alike L (M.set i d) o (i + 1) := by
  refine ⟨by simpa using h.len, fun j h1 h2 h3 => ?_⟩
  rw [List.getElem_set_ne (by omega)]
  exact h.out j h1 (by simpa using h2) (by omega)
/-- A round of adding, within the row L from o on: M is what has become of it. -/
structure AddI (L b M : List Nat) (o i c : Nat) : Prop where
  like : Alike L M o (o + i)
  dg : Dg M
  sum : dv M + 18446744073709551616 ^ (o + i) * c = dv L + 18446744073709551616 ^ o * dv (b.take i)
theorem AddI.start {L b : List Nat} {o : Nat} (h : Dg L) : AddI L b L o 0 0 := ⟨Alike.refl L o, h, by simp [dv]⟩
theorem AddI.step {L b M : List Nat} {o i c : Nat} (h : AddI L b M o i c) (hj : o + i < M.length) : AddI L b (M.set (o + i) ((M[o + i] + b.getD i 0 + c) % 18446744073709551616)) o (i + 1) ((M[o + i] + b.getD i 0 + c) / 18446744073709551616) := by
  refine ⟨h.like.set (by omega), dg_set h.dg (Nat.mod_lt _ (by decide)), ?_⟩
  have e1 := dv_set (l := M) (j := o + i) (d := (M[o + i] + b.getD i 0 + c) % 18446744073709551616) hj
  have e2 := h.sum
  rw [take_dv, Nat.mul_add]
  have e4 : 18446744073709551616 ^ o * (18446744073709551616 ^ i * b.getD i 0) = 18446744073709551616 ^ (o + i) * b.getD i 0 := by rw [Nat.pow_add, Nat.mul_assoc]
  rw [e4]
  generalize M[o + i] = z at *
  generalize b.getD i 0 = y at *
  have e5 : 18446744073709551616 ^ (o + i) * ((z + y + c) % 18446744073709551616) + 18446744073709551616 ^ (o + (i + 1)) * ((z + y + c) / 18446744073709551616) = 18446744073709551616 ^ (o + i) * (z + y + c) := by
    rw [← Nat.add_assoc, Nat.pow_succ, Nat.mul_assoc, ← Nat.mul_add]; congr 1; omega
  rw [Nat.mul_add, Nat.mul_add] at e5
  omega
/-- A round of taking off so many times: c is carried, e is borrowed. -/
structure SubI (L b M : List Nat) (t o i c e : Nat) : Prop where
  like : Alike L M o (o + i)
  dg : Dg M
  sum : dv M + 18446744073709551616 ^ o * (t * dv (b.take i)) = dv L + 18446744073709551616 ^ (o + i) * (c + e)
  one : t ≤ 1 → c = 0
  past : b.length < i → c = 0
  lid : c < 18446744073709551616
theorem SubI.start {L b : List Nat} {t o : Nat} (h : Dg L) : SubI L b L t o 0 0 0 := ⟨Alike.refl L o, h, by simp [dv], fun _ => rfl, fun _ => rfl, by decide⟩
/-- What a round reckons: the product's words, the digit that is left. -/
structure SubR (z y t c e d c' e' : Nat) : Prop where
  sum : d + y * t + c + e = z + 18446744073709551616 * (c' + e')
  dl : d < 18446744073709551616
  cl : c' < 18446744073709551616
  none : y * t = 0 → c' = 0
  one : t ≤ 1 → c = 0 → y < 18446744073709551616 → c' = 0
theorem SubI.step {L b M : List Nat} {t o i c e d c' e' : Nat} (hb : Dg b) (h : SubI L b M t o i c e) (hj : o + i < M.length) (hr : SubR M[o + i] (b.getD i 0) t c e d c' e') : SubI L b (M.set (o + i) d) t o (i + 1) c' e' := by
  have hy : b.getD i 0 < 18446744073709551616 := by
    by_cases k : i < b.length
    · have := hb.get k; simp [List.getD, k, this]
    · simp [List.getD, Nat.not_lt.1 k]
  refine ⟨h.like.set (by omega), dg_set h.dg hr.dl, ?_, fun ht => hr.one ht (h.one ht) hy, fun hl => hr.none ?_, hr.cl⟩
  · have e1 := dv_set (l := M) (j := o + i) (d := d) hj
    have e2 := h.sum
    have e3 := hr.sum
    rw [take_dv, Nat.mul_add, Nat.mul_add]
    have e4 : 18446744073709551616 ^ o * (t * (18446744073709551616 ^ i * b.getD i 0)) = 18446744073709551616 ^ (o + i) * (b.getD i 0 * t) := by
      rw [Nat.pow_add, Nat.mul_left_comm t, ← Nat.mul_assoc (18446744073709551616 ^ o), Nat.mul_comm t]
    rw [e4]
    have e6 := congrArg (18446744073709551616 ^ (o + i) * ·) e3
    have e7 : 18446744073709551616 ^ (o + (i + 1)) * (c' + e') = 18446744073709551616 ^ (o + i) * (18446744073709551616 * (c' + e')) := by
      rw [← Nat.add_assoc, Nat.pow_succ, Nat.mul_assoc]
    rw [e7]
    generalize M[o + i] = z at *
    generalize b.getD i 0 * t = y at *
    generalize 18446744073709551616 * (c' + e') = u at *
    simp only [Nat.mul_add] at e6 e2 ⊢
    omega
  · have : b.getD i 0 = 0 := by simp [List.getD, show b.length ≤ i by omega]
    rw [this, Nat.zero_mul]
/-- The words of a product and a sum: hi and lo of y * t, lo + c. -/
theorem sub_words {z y t c e : Nat} (hz : z < 18446744073709551616) (hy : y < 18446744073709551616) (ht : t < 18446744073709551616) (hc : c < 18446744073709551616) (he : e ≤ 1) :
    SubR z y t c e ((z + 18446744073709551616 - ((y * t) % 18446744073709551616 + c) % 18446744073709551616 - e) % 18446744073709551616) ((y * t) / 18446744073709551616 + ((y * t) % 18446744073709551616 + c) / 18446744073709551616) (if z < ((y * t) % 18446744073709551616 + c) % 18446744073709551616 + e then 1 else 0) := by
  have hm : y * t ≤ 18446744073709551615 * 18446744073709551615 := Nat.mul_le_mul (by omega) (by omega)
  refine ⟨?_, Nat.mod_lt _ (by decide), ?_, ?_, ?_⟩
  · generalize y * t = p at *
    split <;> omega
  · generalize y * t = p at *
    omega
  · intro h; rw [h]; omega
  · intro h1 h2 h3
    subst h2
    have : y * t ≤ y * 1 := Nat.mul_le_mul_left _ h1
    generalize y * t = p at *
    omega
/-- A round of multiplying: as MI of the elder text. -/
structure MO (a b o : List Nat) (i : Nat) : Prop where
  len : o.length = a.length + b.length
  dg : Dg o
  sum : dv o = dv (a.take i) * dv b
  zero : ∀ j, (h : j < o.length) → i + b.length ≤ j → o[j] = 0
structure MI (a b o : List Nat) (i k c : Nat) (x : Nat) : Prop where
  len : o.length = a.length + b.length
  dg : Dg o
  sum : dv o + 18446744073709551616 ^ (i + k) * c = dv (a.take i) * dv b + 18446744073709551616 ^ i * (x * dv (b.take k))
  zero : ∀ j, (h : j < o.length) → i + b.length ≤ j → o[j] = 0
theorem mi_start {a b o : List Nat} {i x : Nat} (h : MO a b o i) : MI a b o i 0 0 x := ⟨h.len, h.dg, by rw [h.sum]; simp [dv], h.zero⟩
theorem mi_step {a b o : List Nat} {i k c x y : Nat} (h : MI a b o i k c x) (hk : k < b.length) (hy : b[k] = y) (hj : i + k < o.length) : MI a b (o.set (i + k) ((c + o[i + k] + x * y) % 18446744073709551616)) i (k + 1) ((c + o[i + k] + x * y) / 18446744073709551616) x := by
  refine ⟨by simpa using h.len, dg_set h.dg (Nat.mod_lt _ (by decide)), ?_, ?_⟩
  · have e1 := dv_set (l := o) (j := i + k) (d := (c + o[i + k] + x * y) % 18446744073709551616) hj
    have e2 := h.sum
    have e3 : dv (b.take (k + 1)) = dv (b.take k) + 18446744073709551616 ^ k * y := by
      rw [take_dv]; congr 2; simp [List.getD, hk, hy]
    rw [e3, Nat.mul_add, Nat.mul_add]
    have e4 : 18446744073709551616 ^ i * (x * (18446744073709551616 ^ k * y)) = 18446744073709551616 ^ (i + k) * (x * y) := by
      rw [Nat.pow_add, Nat.mul_left_comm x, ← Nat.mul_assoc (18446744073709551616 ^ i)]
    rw [e4]
    generalize o[i + k] = z at *
    have e5 : 18446744073709551616 ^ (i + k) * ((c + z + x * y) % 18446744073709551616) + 18446744073709551616 ^ (i + (k + 1)) * ((c + z + x * y) / 18446744073709551616) = 18446744073709551616 ^ (i + k) * (c + z + x * y) := by
      rw [← Nat.add_assoc, Nat.pow_succ, Nat.mul_assoc, ← Nat.mul_add]; congr 1; omega
    rw [Nat.mul_add, Nat.mul_add] at e5
    omega
  · intro j hj' hjb
    have hjo : j < o.length := by simpa using hj'
    rw [List.getElem_set_ne (by omega)]
    exact h.zero j hjo hjb
theorem mi_end {a b o : List Nat} {i c x : Nat} (h : MI a b o i b.length c x) (hi : i < a.length) (hx : a[i] = x) (hc : c < 18446744073709551616) (hj : i + b.length < o.length) : MO a b (o.set (i + b.length) c) (i + 1) := by
  refine ⟨by simpa using h.len, dg_set h.dg hc, ?_, ?_⟩
  · have e1 := dv_set (l := o) (j := i + b.length) (d := c) hj
    have e2 := h.sum
    rw [h.zero _ hj (Nat.le_refl _)] at e1
    rw [List.take_of_length_le (Nat.le_refl _)] at e2
    have e3 : dv (a.take (i + 1)) = dv (a.take i) + 18446744073709551616 ^ i * x := by
      rw [take_dv]; congr 2; simp [List.getD, hi, hx]
    rw [e3, Nat.add_mul, Nat.mul_assoc]
    omega
  · intro j hj' hjb
    have hjo : j < o.length := by simpa using hj'
    rw [List.getElem_set_ne (by omega)]
    exact h.zero j hjo (by omega)
/-- The words of a round of multiplying. -/
theorem mul_words {x y z c : Nat} (hx : x < 18446744073709551616) (hy : y < 18446744073709551616) (hz : z < 18446744073709551616) (hc : c < 18446744073709551616) :
    (z + ((x * y) % 18446744073709551616 + c) % 18446744073709551616) % 18446744073709551616 = (c + z + x * y) % 18446744073709551616 ∧
    (z + ((x * y) % 18446744073709551616 + c) % 18446744073709551616) / 18446744073709551616 + ((x * y) / 18446744073709551616 + ((x * y) % 18446744073709551616 + c) / 18446744073709551616) = (c + z + x * y) / 18446744073709551616 ∧
    (c + z + x * y) / 18446744073709551616 < 18446744073709551616 := by
  have hm : x * y ≤ 18446744073709551615 * 18446744073709551615 := Nat.mul_le_mul (by omega) (by omega)
  generalize x * y = p at *
  omega
end Go.Proofs.YtecmkjefoppbiaaDoor.WH
namespace Go.Proofs.YtecmkjefoppbiaaDoor.WH

theorem dv_drop {l : List Nat} {j : Nat} (h : j < l.length) : dv (l.drop j) = l[j] + 18446744073709551616 * dv (l.drop (j + 1)) := by
  rw [List.drop_eq_getElem_cons h]; rfl
theorem dv_split (l : List Nat) (j : Nat) (h : j ≤ l.length) : dv l = dv (l.take j) + 18446744073709551616 ^ j * dv (l.drop j) := by
  have := dv_append (l.take j) (l.drop j)
  rw [List.take_append_drop, List.length_take, Nat.min_eq_left h] at this
  exact this
theorem Dg.drop {l : List Nat} (h : Dg l) (k : Nat) : Dg (l.drop k) := fun x hx => h x (List.mem_of_mem_drop hx)
theorem pw_pos (k : Nat) : 0 < 18446744073709551616 ^ k := Nat.pow_pos (by decide)
theorem take_lt {l : List Nat} (h : Dg l) (k : Nat) (hk : k ≤ l.length) : dv (l.take k) < 18446744073709551616 ^ k := by
  have := dv_lt (h.take k); rwa [List.length_take, Nat.min_eq_left hk] at this
/-- A guessed digit is not too small: by the two highest digits of what is left and the highest one of what it is divided by. -/
theorem guess_ok {p v hi lo vt g n r1 r2 : Nat} (hp : p = r1 + 18446744073709551616 ^ n * (lo + 18446744073709551616 * hi)) (hr1 : r1 < 18446744073709551616 ^ n) (hv : v = r2 + 18446744073709551616 ^ n * vt) (hpv : p < v * 18446744073709551616) (hg : g = if vt ≤ hi then 18446744073709551615 else (hi * 18446744073709551616 + lo) / vt) : p < (g + 1) * v := by
  split at hg
  · subst hg
    rw [Nat.mul_comm]; exact hpv
  · rename_i c
    have hvt : 0 < vt := by omega
    have h1 : hi * 18446744073709551616 + lo < (g + 1) * vt := by
      rw [hg]
      have := Nat.lt_div_mul_add (a := hi * 18446744073709551616 + lo) hvt
      rw [Nat.add_mul, Nat.one_mul]; exact this
    have h2 : 18446744073709551616 ^ n * (hi * 18446744073709551616 + lo + 1) ≤ 18446744073709551616 ^ n * ((g + 1) * vt) := Nat.mul_le_mul_left _ h1
    have h3 : (g + 1) * v = (g + 1) * r2 + 18446744073709551616 ^ n * ((g + 1) * vt) := by
      rw [hv, Nat.mul_add, Nat.mul_left_comm]
    have h4 : lo + 18446744073709551616 * hi + 1 = hi * 18446744073709551616 + lo + 1 := by omega
    have h5 : p + 1 ≤ 18446744073709551616 ^ n * (hi * 18446744073709551616 + lo + 1) := by
      rw [← h4, Nat.mul_add _ _ 1, Nat.mul_one, hp]; omega
    omega
/-- Between two digits: L0 was divided, v is what it is divided by, q the quotient's row so far, k digits are to come. -/
structure DivI (L0 v : Nat) (L q : List Nat) (k : Nat) : Prop where
  dl : Dg L
  dq : Dg q
  sum : dv L + v * dv q = L0
  less : dv L < v * 18446744073709551616 ^ k
  zero : ∀ j, (h : j < q.length) → j < k → q[j] = 0
/-- Within a digit k: g is the digit so far, b whether it is too great (1) or not (0). M is what has become of the row L. -/
structure DigI (L M : List Nat) (v n k g b : Nat) : Prop where
  like : Alike L M k (k + (n + 1))
  dg : Dg M
  sum : dv M + 18446744073709551616 ^ k * (g * v) = dv L + 18446744073709551616 ^ (k + (n + 1)) * b
  top : dv L < 18446744073709551616 ^ k * ((g + 1) * v)
  bit : b ≤ 1
/-- What is too great is at least 1, and is less by one when v is put back once. -/
theorem DigI.great {L M : List Nat} {v n k g : Nat} (h : DigI L M v n k g 1) (hM : dv M < 18446744073709551616 ^ (k + (n + 1)) ∨ dv M ≤ dv L) : 0 < g := by
  rcases Nat.eq_zero_or_pos g with rfl | c
  · have := h.sum
    have p := pw_pos (k + (n + 1))
    simp only [Nat.zero_mul, Nat.mul_zero, Nat.mul_one] at this
    rcases hM with h' | h' <;> omega
  · exact c
/-- Rows that are alike above: what is below is less than a power. -/
theorem alike_high {L M : List Nat} {o i : Nat} (hM : Dg M) (h : Alike L M o i) (hi : i ≤ L.length) (hl : dv L < 18446744073709551616 ^ i) : dv M < 18446744073709551616 ^ i := by
  have e : M.drop i = L.drop i := by
    refine List.ext_getElem (by simp [h.len]) fun j h1 h2 => ?_
    simp only [List.getElem_drop]
    exact h.out _ (by simp at h2; omega) (by simp at h1; omega) (.inr (by omega))
  rw [dv_split L i hi] at hl
  have hz : dv (L.drop i) = 0 := by
    rcases Nat.eq_zero_or_pos (dv (L.drop i)) with c | c
    · exact c
    · have h1 : 18446744073709551616 ^ i * 1 ≤ 18446744073709551616 ^ i * dv (L.drop i) := Nat.mul_le_mul_left _ c
      omega
  rw [dv_split M i (by rw [h.len]; exact hi), e, hz, Nat.mul_zero, Nat.add_zero]
  exact take_lt hM i (by rw [h.len]; exact hi)
theorem Alike.sub {L M M' : List Nat} {o i : Nat} (h : Alike L M o i) (h' : Alike M M' o i) : Alike L M' o i :=
  ⟨h'.len.trans h.len, fun j h1 h2 h3 => (h'.out j (by rw [h.len]; exact h1) h2 h3).trans (h.out j h1 (by rw [h.len]; exact h1) h3)⟩
/-- One of v is put back: c is what is carried out. -/
theorem DigI.back {L M M' : List Nat} {by' : List Nat} {v n k g c : Nat} (h : DigI L M v n k (g + 1) 1) (hb : dv (by'.take (n + 1)) = v) (ha : AddI M by' M' k (n + 1) c) (hc : c ≤ 1) (hL : dv L < 18446744073709551616 ^ (k + (n + 1))) (hn : k + (n + 1) ≤ L.length) : DigI L M' v n k g (1 - c) := by
  have s1 := h.sum
  have s2 := ha.sum
  rw [hb] at s2
  have e0 : 18446744073709551616 ^ k * ((g + 1) * v) = 18446744073709551616 ^ k * (g * v) + 18446744073709551616 ^ k * v := by rw [Nat.add_mul, Nat.one_mul, Nat.mul_add]
  rw [e0] at s1
  have hM := alike_high h.dg h.like hn hL
  refine ⟨h.like.sub ha.like, ha.dg, ?_, ?_, by omega⟩
  · rcases Nat.eq_zero_or_pos c with rfl | hp
    · simp only [Nat.mul_zero, Nat.sub_zero, Nat.mul_one] at *; omega
    · obtain rfl : c = 1 := by omega
      simp only [Nat.mul_zero, Nat.mul_one, Nat.sub_self] at *; omega
  · rw [e0]
    simp only [Nat.mul_one] at s1
    omega
theorem next_sum {M v q P g L L0 : Nat} (h : M + P * (g * v) = L) (hs : L + v * q = L0) : M + v * (q + P * g) = L0 := by
  have : v * (P * g) = P * (g * v) := by rw [Nat.mul_left_comm, Nat.mul_comm v g]
  rw [Nat.mul_add, this]; omega
theorem next_less {M v P g L : Nat} (h : M + P * (g * v) = L) (t : L < P * ((g + 1) * v)) : M < v * P := by
  rw [Nat.add_mul, Nat.one_mul, Nat.mul_add] at t
  rw [Nat.mul_comm v]
  omega
/-- The digit stands: the next one. -/
theorem DivI.next {L0 v n k g : Nat} {L M q : List Nat} (h : DivI L0 v L q (k + 1)) (hd : DigI L M v n k g 0) (hg : g < 18446744073709551616) (hk : k < q.length) : DivI L0 v M (q.set k g) k := by
  have s := hd.sum
  rw [Nat.mul_zero, Nat.add_zero] at s
  have hz := h.zero k hk (Nat.lt_succ_self k)
  have e1 := dv_set (l := q) (j := k) (d := g) hk
  rw [hz, Nat.mul_zero, Nat.add_zero] at e1
  refine ⟨hd.dg, dg_set h.dq hg, ?_, next_less s hd.top, ?_⟩
  · rw [e1]; exact next_sum s h.sum
  · intro j hj hjk
    rw [List.getElem_set_ne (by omega)]
    exact h.zero j (by simpa using hj) (by omega)
/-- The quotient's row, and what is left. -/
theorem DivI.done {L0 v : Nat} {L q : List Nat} (h : DivI L0 v L q 0) : dv q = L0 / v ∧ dv L = L0 % v := by
  have hl : dv L < v := by simpa using h.less
  have := (Nat.div_mod_unique (a := L0) (b := v) (c := dv L) (d := dv q) (by omega)).2 ⟨h.sum, hl⟩
  exact ⟨this.1.symm, this.2.symm⟩
/-- Ahead of a digit: the piece of the row that is looked at. -/
theorem DivI.piece {L0 v n k : Nat} {L q : List Nat} (h : DivI L0 v L q (k + 1)) (hn : k + (n + 1) ≤ L.length) (hv : v < 18446744073709551616 ^ n) : ∃ p, dv L = dv (L.take k) + 18446744073709551616 ^ k * p ∧ p = dv ((L.drop k).take (n + 1)) ∧ p < v * 18446744073709551616 := by
  have hk := dv_split L k (by omega)
  have hp := dv_split (L.drop k) (n + 1) (by simp; omega)
  have hl := h.less
  have pk := pw_pos k
  have e : v * 18446744073709551616 ^ (k + 1) = 18446744073709551616 ^ k * (v * 18446744073709551616) := by
    rw [Nat.pow_succ, Nat.mul_left_comm]
  rw [e] at hl
  have hd : dv (L.drop k) < v * 18446744073709551616 := by
    refine Nat.lt_of_mul_lt_mul_left (a := 18446744073709551616 ^ k) ?_
    omega
  have hz : dv ((L.drop k).drop (n + 1)) = 0 := by
    rcases Nat.eq_zero_or_pos (dv ((L.drop k).drop (n + 1))) with c | c
    · exact c
    · have h1 : 18446744073709551616 ^ (n + 1) * 1 ≤ 18446744073709551616 ^ (n + 1) * dv ((L.drop k).drop (n + 1)) := Nat.mul_le_mul_left _ c
      have h2 : v * 18446744073709551616 ≤ 18446744073709551616 ^ n * 18446744073709551616 := Nat.mul_le_mul_right _ (Nat.le_of_lt hv)
      rw [← Nat.pow_succ] at h2
      omega
  rw [hz, Nat.mul_zero, Nat.add_zero] at hp
  exact ⟨_, by rw [← hp]; exact hk, rfl, by rw [← hp]; exact hd⟩
/-- The first guess: what was taken off is right but for what was borrowed. -/
theorem DigI.first {L0 v n k g e : Nat} {L M q : List Nat} {by' : List Nat} (h : DivI L0 v L q (k + 1)) (hn : k + (n + 1) ≤ L.length) (hv : v < 18446744073709551616 ^ n) (hb : dv (by'.take (n + 1)) = v) (hs : SubI L by' M g k (n + 1) 0 e) (he : e ≤ 1) (hg : ∀ p, p = dv ((L.drop k).take (n + 1)) → p < v * 18446744073709551616 → p < (g + 1) * v) : DigI L M v n k g e := by
  obtain ⟨p, h1, h2, h3⟩ := h.piece hn hv
  have h4 := hg p h2 h3
  have s := hs.sum
  rw [hb, Nat.zero_add] at s
  refine ⟨hs.like, hs.dg, s, ?_, he⟩
  have h5 : 18446744073709551616 ^ k * (p + 1) ≤ 18446744073709551616 ^ k * ((g + 1) * v) := Nat.mul_le_mul_left _ h4
  rw [Nat.mul_add, Nat.mul_one] at h5
  have h6 := take_lt h.dl k (by omega)
  omega
/-- The two highest digits of the piece. -/
theorem piece_high {l : List Nat} {m : Nat} (h : Dg l) (hl : m + 2 ≤ l.length) : ∃ r, dv (l.take (m + 2)) = r + 18446744073709551616 ^ m * (l[m] + 18446744073709551616 * l[m + 1]) ∧ r < 18446744073709551616 ^ m := by
  refine ⟨dv (l.take m), ?_, take_lt h m (by omega)⟩
  rw [take_dv, take_dv]
  have e1 : l.getD m 0 = l[m] := by rw [List.getD_eq_getElem?_getD, List.getElem?_eq_getElem (by omega)]; rfl
  have e2 : l.getD (m + 1) 0 = l[m + 1] := by rw [List.getD_eq_getElem?_getD, List.getElem?_eq_getElem (by omega)]; rfl
  rw [e1, e2, Nat.mul_add, Nat.pow_succ, Nat.mul_assoc, Nat.add_assoc]
theorem one_high {l : List Nat} {m : Nat} (hl : l.length = m + 1) : ∃ r, dv l = r + 18446744073709551616 ^ m * l[m] := by
  refine ⟨dv (l.take m), ?_⟩
  have := take_dv (l := l) m
  rw [List.take_of_length_le (by omega)] at this
  rw [this]
  simp [List.getD, hl]
/-- Shifted rows. -/
theorem start_less {a b s na nb : Nat} (ha : a < 18446744073709551616 ^ na) (hs : s ≤ 63) (hb : 9223372036854775808 * 18446744073709551616 ^ nb ≤ b * 2 ^ s) (hn : nb + 1 ≤ na) : a * 2 ^ s < b * 2 ^ s * 18446744073709551616 ^ (na - nb) := by
  have h1 : a * 2 ^ s < 18446744073709551616 ^ na * 2 ^ s := Nat.mul_lt_mul_of_pos_right ha (Nat.pow_pos (by decide))
  have h2 : 2 ^ s ≤ 2 ^ 63 := Nat.pow_le_pow_right (by decide) hs
  have h3 : 18446744073709551616 ^ na * 2 ^ s ≤ 18446744073709551616 ^ na * 9223372036854775808 := Nat.mul_le_mul_left _ h2
  have h4 : 9223372036854775808 * 18446744073709551616 ^ nb * 18446744073709551616 ^ (na - nb) ≤ b * 2 ^ s * 18446744073709551616 ^ (na - nb) := Nat.mul_le_mul_right _ hb
  rw [Nat.mul_assoc, ← Nat.pow_add, show nb + (na - nb) = na by omega] at h4
  have h5 := Nat.mul_comm (18446744073709551616 ^ na) 9223372036854775808
  omega
theorem div_shift {a b s : Nat} : a * 2 ^ s / (b * 2 ^ s) = a / b := Nat.mul_div_mul_right _ _ (Nat.pow_pos (by decide))
theorem mod_shift {a b s : Nat} : a * 2 ^ s % (b * 2 ^ s) / 2 ^ s = a % b := by
  rw [Nat.mul_mod_mul_right]; exact Nat.mul_div_cancel _ (Nat.pow_pos (by decide))
end Go.Proofs.YtecmkjefoppbiaaDoor.WH
