/-
  Numbers with a point, as bits: bounds on sums and products, Horner's rule, order. No Go text is named here.
-/
import Derived.Laws.FloatArith
namespace Go.Proofs.YtmiamfnnccjmeacDoor.FB
open Ieee

/-- The magnitude of the word is at most `2 ^ (k - 1023)`; k counts from the format's own bias (the exponent field of that power). -/
def Le (k : Nat) (x : Nat) : Prop := x < 18446744073709551616 ∧ x % 9223372036854775808 ≤ k * 4503599627370496

theorem cut_le (neg : Bool) (n drop m : Nat) (h : n < m * 2 ^ drop) (hm : 1 ≤ m) : Toward.even.cut neg n drop ≤ m := by
  unfold Toward.cut
  have hb : ∀ b : Bool, b.toNat ≤ 1 := by intro b; cases b <;> decide
  simp only
  by_cases hd : drop ≤ n.log2 + 2
  · rw [Nat.min_eq_left hd, Nat.one_shiftLeft]
    have : n / 2 ^ drop < m := Nat.div_lt_of_lt_mul (by rw [Nat.mul_comm]; exact h)
    have := hb (decide (2 ^ drop < 2 * (n % 2 ^ drop)) || (2 ^ drop == 2 * (n % 2 ^ drop) && n / 2 ^ drop % 2 == 1))
    omega
  · rw [Nat.min_eq_right (by omega), Nat.one_shiftLeft]
    have hn : n < 2 ^ (n.log2 + 2) := Nat.lt_of_lt_of_le Nat.lt_log2_self (Nat.pow_le_pow_right (by decide) (by omega))
    rw [Nat.div_eq_of_lt hn]
    have := hb (decide (2 ^ (n.log2 + 2) < 2 * (n % 2 ^ (n.log2 + 2))) || (2 ^ (n.log2 + 2) == 2 * (n % 2 ^ (n.log2 + 2)) && 0 % 2 == 1))
    omega

theorem nearest_le (neg : Bool) (mag : Nat) (place : Int) (j k : Nat) (hm : mag < 2 ^ j) (hk : 2 ≤ k) (hj : place + j + 1023 ≤ k) :
    Le k (double.nearest neg mag place) ∨ 2046 < k := by
  by_cases hk2 : 2046 < k
  · exact .inr hk2
  refine .inl ?_
  unfold Format.nearest
  have hword : ∀ r, r ≤ k * 4503599627370496 → Le k (double.word neg r) := by
    intro r hr
    have hs : double.signWeight = 9223372036854775808 := by decide +kernel
    unfold Format.word
    rw [hs]
    unfold Le
    split <;> constructor <;> omega
  by_cases h0 : mag = 0
  · rw [if_pos h0]; exact hword 0 (Nat.zero_le _)
  rw [if_neg h0]
  simp only
  refine hword _ ?_
  refine Nat.le_trans (Nat.min_le_left _ _) ?_
  have hb : double.binade = 4503599627370496 := by decide +kernel
  have hl : double.leastPlace = -1074 := by decide +kernel
  have hf : (double.fractionBits : Int) = 52 := by rfl
  rw [hb, hl, hf]
  have hlog : mag.log2 < j := (Nat.log2_lt h0).2 hm
  by_cases hc : place + (mag.log2 : Int) - 52 ≤ -1074
  · rw [Int.max_eq_right hc]
    have hcut : Toward.even.cut neg (mag <<< (place - -1074).toNat) (-1074 - place).toNat ≤ 2 ^ 53 := by
      refine cut_le _ _ _ _ ?_ (Nat.one_le_two_pow)
      rw [Nat.shiftLeft_eq]
      have h1 : mag < 2 ^ (mag.log2 + 1) := Nat.lt_log2_self
      by_cases hp : -1074 ≤ place
      · have e1 : (-1074 - place).toNat = 0 := by omega
        rw [e1]
        have : mag * 2 ^ (place - -1074).toNat < 2 ^ (mag.log2 + 1) * 2 ^ (place - -1074).toNat := Nat.mul_lt_mul_of_pos_right h1 (Nat.two_pow_pos _)
        rw [← Nat.pow_add] at this
        have h2 : 2 ^ (mag.log2 + 1 + (place - -1074).toNat) ≤ 2 ^ 53 := Nat.pow_le_pow_right (by decide) (by omega)
        omega
      · have e1 : (place - -1074).toNat = 0 := by omega
        rw [e1, Nat.pow_zero, Nat.mul_one, ← Nat.pow_add]
        exact Nat.lt_of_lt_of_le h1 (Nat.pow_le_pow_right (by decide) (by omega))
    have e0 : ((-1074 : Int) - -1074).toNat = 0 := by decide
    rw [e0]
    have h53 : (2 : Nat) ^ 53 = 2 * 4503599627370496 := by decide
    rw [h53] at hcut
    generalize Toward.even.cut neg _ _ = c at hcut ⊢
    clear h53 e0 hc hlog hf hl hb hword hj hm
    omega
  · rw [Int.max_eq_left (by omega)]
    have hcut : Toward.even.cut neg (mag <<< (place - (place + (mag.log2 : Int) - 52)).toNat) (place + (mag.log2 : Int) - 52 - place).toNat ≤ 2 ^ 53 := by
      refine cut_le _ _ _ _ ?_ (Nat.one_le_two_pow)
      rw [Nat.shiftLeft_eq]
      have h1 : mag < 2 ^ (mag.log2 + 1) := Nat.lt_log2_self
      by_cases hp : mag.log2 ≤ 52
      · have e1 : (place + (mag.log2 : Int) - 52 - place).toNat = 0 := by omega
        have e2 : (place - (place + (mag.log2 : Int) - 52)).toNat = 52 - mag.log2 := by omega
        rw [e1, e2]
        have : mag * 2 ^ (52 - mag.log2) < 2 ^ (mag.log2 + 1) * 2 ^ (52 - mag.log2) := Nat.mul_lt_mul_of_pos_right h1 (Nat.two_pow_pos _)
        rw [← Nat.pow_add, show mag.log2 + 1 + (52 - mag.log2) = 53 by omega] at this
        omega
      · have e2 : (place - (place + (mag.log2 : Int) - 52)).toNat = 0 := by omega
        have e1 : (place + (mag.log2 : Int) - 52 - place).toNat = mag.log2 - 52 := by omega
        rw [e2, e1, Nat.pow_zero, Nat.mul_one, ← Nat.pow_add, show 53 + (mag.log2 - 52) = mag.log2 + 1 by omega]
        exact h1
    have h53 : (2 : Nat) ^ 53 = 2 * 4503599627370496 := by decide
    rw [h53] at hcut
    generalize Toward.even.cut neg _ _ = c at hcut ⊢
    have hq : ((place + (mag.log2 : Int) - 52) - -1074).toNat + 2 ≤ k := by omega
    generalize ((place + (mag.log2 : Int) - 52) - -1074).toNat = q at hq ⊢
    clear h53 hc hlog hf hl hb hword hj hm
    omega
theorem Le.mono {k l x : Nat} (h : Le k x) (hl : k ≤ l) : Le l x := ⟨h.1, Nat.le_trans h.2 (Nat.mul_le_mul_right _ hl)⟩

theorem read_le {k x : Nat} (h : Le k x) (hk1 : 1 ≤ k) (hk : k ≤ 2046) : ∃ s m e, double.read x = .number s m e ∧ m < 2 ^ 53 ∧ e + 1075 ≤ k ∧ -1074 ≤ e := by
  have hs : double.signWeight = 9223372036854775808 := by decide +kernel
  have hb : double.binade = 4503599627370496 := by decide +kernel
  have hi : double.infRung = 2047 * 4503599627370496 := by decide +kernel
  have hl : double.leastPlace = -1074 := by decide +kernel
  have h53 : (2 : Nat) ^ 53 = 9007199254740992 := by decide
  obtain ⟨h1, h2⟩ := h
  unfold Format.read
  simp only [hs, hb, hi, hl]
  rw [h53]
  generalize x % 9223372036854775808 = r at h2 ⊢
  clear h1 hs hb hi hl h53
  by_cases c1 : r < 4503599627370496
  · rw [if_pos c1]; exact ⟨_, _, _, rfl, by omega, by omega, by omega⟩
  · rw [if_neg c1, if_pos (by omega)]
    exact ⟨_, _, _, rfl, by omega, by omega, by omega⟩

theorem mul_le {k l x y : Nat} (hx : Le k x) (hy : Le l y) (hk1 : 1 ≤ k) (hk : k ≤ 2046) (hl1 : 1 ≤ l) (hl : l ≤ 2046) (n : Nat) (hn : k + l ≤ n + 1021) (hn2 : n ≤ 2046) (hn1 : 2 ≤ n) :
    ∃ r, double.mul x y = some r ∧ Le n r := by
  obtain ⟨s, m, e, h1, h2, h3, _⟩ := read_le hx hk1 hk
  obtain ⟨t, p, f, g1, g2, g3, _⟩ := read_le hy hl1 hl
  unfold Format.mul
  rw [h1, g1]
  refine ⟨_, rfl, ?_⟩
  show Le n (double.nearest _ _ _)
  have hmn : m * p < 2 ^ 106 := by
    have h := Nat.mul_lt_mul'' h2 g2
    rw [← Nat.pow_add] at h
    exact h
  rcases nearest_le (s ^^ t) (m * p) (e + f) 106 n hmn hn1 (by clear hmn h2 g2; omega) with h | h
  · exact h
  · omega

theorem signed_abs (s : Bool) (m u : Nat) : (signed s m u).natAbs = m * 2 ^ u := by
  unfold signed
  rw [Nat.shiftLeft_eq]
  generalize m * 2 ^ u = q
  split <;> omega

theorem sum_le {k : Nat} (s : Bool) (m : Nat) (i : Int) (t : Bool) (n : Nat) (j : Int) (hm : m < 2 ^ 53) (hn : n < 2 ^ 53) (hi : i + 1075 ≤ k) (hj : j + 1075 ≤ k) (hk : k + 2 ≤ 2046) :
    ∃ d, Datum.sum (.number s m i) (.number t n j) = some d ∧ Le (k + 2) (double.write d) := by
  refine ⟨_, rfl, ?_⟩
  show Le (k + 2) (double.nearest _ _ _)
  generalize hb : min i j = base
  have hmag : (signed s m (i - base).toNat + signed t n (j - base).toNat).natAbs < 2 ^ ((k : Int) - 1021 - base).toNat := by
    have a1 := signed_abs s m (i - base).toNat
    have a2 := signed_abs t n (j - base).toNat
    have b1 : m * 2 ^ (i - base).toNat < 2 ^ (53 + (i - base).toNat) := by
      rw [Nat.pow_add]; exact Nat.mul_lt_mul_of_pos_right hm (Nat.two_pow_pos _)
    have b2 : n * 2 ^ (j - base).toNat < 2 ^ (53 + (j - base).toNat) := by
      rw [Nat.pow_add]; exact Nat.mul_lt_mul_of_pos_right hn (Nat.two_pow_pos _)
    clear hm hn
    have c1 : 2 ^ (53 + (i - base).toNat) ≤ 2 ^ ((k : Int) - 1022 - base).toNat := Nat.pow_le_pow_right (by decide) (by omega)
    have c2 : 2 ^ (53 + (j - base).toNat) ≤ 2 ^ ((k : Int) - 1022 - base).toNat := Nat.pow_le_pow_right (by decide) (by omega)
    have c3 : 2 ^ ((k : Int) - 1021 - base).toNat = 2 * 2 ^ ((k : Int) - 1022 - base).toNat := by
      rw [show ((k : Int) - 1021 - base).toNat = ((k : Int) - 1022 - base).toNat + 1 by omega, Nat.pow_succ]; omega
    rw [c3]
    generalize 2 ^ ((k : Int) - 1022 - base).toNat = P at c1 c2 ⊢
    generalize 2 ^ (53 + (i - base).toNat) = Q at c1 b1
    generalize 2 ^ (53 + (j - base).toNat) = R at c2 b2
    generalize m * 2 ^ (i - base).toNat = M at a1 b1
    generalize n * 2 ^ (j - base).toNat = N at a2 b2
    omega
  rcases nearest_le _ _ base ((k : Int) - 1021 - base).toNat (k + 2) hmag (by omega) (by clear hmag hm hn; omega) with h | h
  · exact h
  · omega

theorem add_le {k x y : Nat} (hx : Le k x) (hy : Le k y) (hk1 : 1 ≤ k) (hk : k + 2 ≤ 2046) : ∃ r, double.add x y = some r ∧ Le (k + 2) r := by
  obtain ⟨s, m, e, h1, h2, h3, _⟩ := read_le hx hk1 (by omega)
  obtain ⟨t, p, f, g1, g2, g3, _⟩ := read_le hy hk1 (by omega)
  obtain ⟨d, hd, hle⟩ := sum_le s m e t p f h2 g2 h3 g3 hk
  exact ⟨double.write d, by unfold Format.add; rw [h1, g1, hd]; rfl, hle⟩

theorem sub_le {k x y : Nat} (hx : Le k x) (hy : Le k y) (hk1 : 1 ≤ k) (hk : k + 2 ≤ 2046) : ∃ r, double.sub x y = some r ∧ Le (k + 2) r := by
  obtain ⟨s, m, e, h1, h2, h3, _⟩ := read_le hx hk1 (by omega)
  obtain ⟨t, p, f, g1, g2, g3, _⟩ := read_le hy hk1 (by omega)
  obtain ⟨d, hd, hle⟩ := sum_le s m e (!t) p f h2 g2 h3 g3 hk
  exact ⟨double.write d, by unfold Format.sub; rw [h1, g1]; show Option.map double.write (Datum.sum (.number s m e) (.number (!t) p f)) = _; rw [hd]; rfl, hle⟩

/-- The word stands for a finite number. -/
def Num (x : Nat) : Prop := ∃ s m e, double.read x = .number s m e
theorem Le.num {k x : Nat} (h : Le k x) (hk1 : 1 ≤ k) (hk : k ≤ 2046) : Num x := by
  obtain ⟨s, m, e, h, _⟩ := read_le h hk1 hk; exact ⟨s, m, e, h⟩

/-- Sum, difference, product, quotient, where there is one. -/
def FA (x y : Nat) : Nat := (double.add x y).getD 0
def FS (x y : Nat) : Nat := (double.sub x y).getD 0
def FM (x y : Nat) : Nat := (double.mul x y).getD 0
def FD (x y : Nat) : Nat := (double.div x y).getD 0

theorem mul_num {x y : Nat} (hx : Num x) (hy : Num y) : double.mul x y = some (FM x y) := by
  obtain ⟨s, m, e, h⟩ := hx; obtain ⟨t, n, f, g⟩ := hy
  unfold FM Format.mul; rw [h, g]; rfl
theorem add_num {x y : Nat} (hx : Num x) (hy : Num y) : double.add x y = some (FA x y) := by
  obtain ⟨s, m, e, h⟩ := hx; obtain ⟨t, n, f, g⟩ := hy
  unfold FA Format.add; rw [h, g]; rfl
theorem sub_num {x y : Nat} (hx : Num x) (hy : Num y) : double.sub x y = some (FS x y) := by
  obtain ⟨s, m, e, h⟩ := hx; obtain ⟨t, n, f, g⟩ := hy
  unfold FS Format.sub; rw [h, g]; rfl

theorem FM_le {k l x y : Nat} (hx : Le k x) (hy : Le l y) (hk1 : 1 ≤ k) (hk : k ≤ 2046) (hl1 : 1 ≤ l) (hl : l ≤ 2046) (n : Nat) (hn : k + l ≤ n + 1021) (hn2 : n ≤ 2046) (hn1 : 2 ≤ n) : Le n (FM x y) := by
  obtain ⟨r, h, hle⟩ := mul_le hx hy hk1 hk hl1 hl n hn hn2 hn1
  unfold FM; rw [h]; exact hle
theorem FA_le {k x y : Nat} (hx : Le k x) (hy : Le k y) (hk1 : 1 ≤ k) (hk : k + 2 ≤ 2046) : Le (k + 2) (FA x y) := by
  obtain ⟨r, h, hle⟩ := add_le hx hy hk1 hk
  unfold FA; rw [h]; exact hle
theorem FS_le {k x y : Nat} (hx : Le k x) (hy : Le k y) (hk1 : 1 ≤ k) (hk : k + 2 ≤ 2046) : Le (k + 2) (FS x y) := by
  obtain ⟨r, h, hle⟩ := sub_le hx hy hk1 hk
  unfold FS; rw [h]; exact hle

/-- A whole number as one with a point. -/
theorem ofInt_le (n : Int) (j : Nat) (h : n.natAbs < 2 ^ j) (hj : j ≤ 1023) : Le (j + 1023) (floatOfInt .f64 n) := by
  rcases nearest_le (n < 0) n.natAbs 0 j (j + 1023) h (by omega) (by omega) with h | h
  · exact h
  · omega

/-- Horner's rule: the coefficient of the greatest power last. -/
def hor : List Nat → Nat → Nat
  | [], _ => 0
  | c :: cs, z => FA c (FM z (hor cs z))

theorem hor_le (kz z b st : Nat) (hz : Le kz z) (hk0 : 1 ≤ kz) (hk2 : kz ≤ 2046) (hb : 2 ≤ b) (hst : kz + 2 ≤ st + 1021) (hst2 : 2 ≤ st) : ∀ cs : List Nat, (∀ c, c ∈ cs → Le b c) → b + st * cs.length ≤ 2046 → Le (b + st * cs.length) (hor cs z) := by
  intro cs
  induction cs with
  | nil => intro _ _; exact ⟨by show 0 < _; decide, by show 0 % _ ≤ _; simp⟩
  | cons c cs ih =>
    intro hc hb'
    simp only [List.length_cons] at hb' ⊢
    rw [Nat.mul_succ] at hb' ⊢
    have h1 := ih (fun d hd => hc d (List.mem_cons_of_mem _ hd)) (by omega)
    generalize st * cs.length = L at *
    obtain ⟨s2, rfl⟩ : ∃ s2, st = s2 + 2 := ⟨st - 2, by omega⟩
    have h2 : Le (b + L + s2) (FM z (hor cs z)) := FM_le hz h1 hk0 hk2 (by omega) (by omega) _ (by omega) (by omega) (by omega)
    have h3 : Le (b + L + s2) c := (hc c (List.mem_cons_self ..)).mono (by omega)
    have h4 := FA_le h3 h2 (by omega) (by omega)
    rw [show b + (L + (s2 + 2)) = b + L + s2 + 2 by omega]
    exact h4

/-- All that a walk through Horner's rule wants. -/
structure Ok (cs : List Nat) (z : Nat) : Prop where
  h : ∀ i, Num (hor (cs.drop i) z)
  m : ∀ i, double.mul z (hor (cs.drop i) z) = some (FM z (hor (cs.drop i) z))
  a : ∀ i c, cs[i]? = some c → double.add c (FM z (hor (cs.drop (i + 1)) z)) = some (hor (cs.drop i) z)

theorem ok_of (kz z b st : Nat) (hz : Le kz z) (hk0 : 1 ≤ kz) (hk2 : kz ≤ 2046) (hb : 2 ≤ b) (hst : kz + 2 ≤ st + 1021) (hst2 : 2 ≤ st) (cs : List Nat) (hc : ∀ c, c ∈ cs → Le b c) (hbb : b + st * (cs.length + 1) ≤ 2046) : Ok cs z := by
  have hd : ∀ i, Le (b + st * (cs.drop i).length) (hor (cs.drop i) z) ∧ b + st * (cs.drop i).length + st ≤ 2046 := by
    intro i
    have hl : st * (cs.drop i).length + st ≤ st * (cs.length + 1) := by
      rw [Nat.mul_succ]
      exact Nat.add_le_add_right (Nat.mul_le_mul_left _ (by simp)) _
    refine ⟨hor_le kz z b st hz hk0 hk2 hb hst hst2 _ (fun c hc' => hc c (List.mem_of_mem_drop hc')) (by omega), by omega⟩
  have hn : ∀ i, Num (hor (cs.drop i) z) := fun i => (hd i).1.num (by omega) (by have := (hd i).2; omega)
  have hm : ∀ i, double.mul z (hor (cs.drop i) z) = some (FM z (hor (cs.drop i) z)) := fun i => mul_num (hz.num hk0 hk2) (hn i)
  have hM : ∀ i, Num (FM z (hor (cs.drop i) z)) := fun i => by
    obtain ⟨h1, h2⟩ := hd i
    generalize st * (cs.drop i).length = L at *
    have h5 : Le (b + L + st) (FM z (hor (cs.drop i) z)) := FM_le hz h1 hk0 hk2 (by omega) (by omega) _ (by omega) (by omega) (by omega)
    exact h5.num (by omega) (by omega)
  refine ⟨hn, hm, fun i c hi => ?_⟩
  obtain ⟨hlt, rfl⟩ := List.getElem?_eq_some_iff.1 hi
  have e : cs.drop i = cs[i] :: cs.drop (i + 1) := List.drop_eq_getElem_cons hlt
  have hcn : Num cs[i] := (hc _ (List.getElem_mem hlt)).num (by omega) (by have := (hd i).2; omega)
  rw [add_num hcn (hM (i + 1)), e]
  rfl

/-- Order. -/
theorem order_self {x : Nat} (h : Num x) : double.order x x = some .eq := by
  obtain ⟨s, m, e, h⟩ := h
  unfold Format.order; rw [h]
  simp [Datum.order]
theorem order_eq_symm {x y : Nat} (h : double.order x y = some .eq) : double.order y x = some .eq := by
  unfold Format.order at h ⊢
  revert h
  cases double.read x <;> cases double.read y <;> simp only [Datum.order, Option.some.injEq, reduceCtorEq, imp_self]
  · rename_i s m i t n j
    rw [Int.min_comm i j]
    intro h
    rw [Int.compare_eq_eq] at h ⊢
    exact h.symm
  · rename_i s m i t; cases t <;> simp
  · rename_i s t n j; cases s <;> simp
  · rename_i s t; cases s <;> cases t <;> simp <;> decide
theorem zero_num : Num 0 := ⟨false, 0, -1074, by decide +kernel⟩
theorem FM_zero {x : Nat} (h : Num x) : FM x 0 = 0 ∨ FM x 0 = 9223372036854775808 := by
  obtain ⟨s, m, e, h⟩ := h
  have hz : double.read 0 = .number false 0 (-1074) := by decide +kernel
  have : FM x 0 = double.word (s ^^ false) 0 := by
    unfold FM Format.mul; rw [h, hz]
    show double.nearest _ (m * 0) (e + -1074) = _
    unfold Format.nearest; simp
  rw [this]
  cases s
  · exact .inl rfl
  · right; decide +kernel
theorem FM_negzero {x : Nat} (h : Num x) : FM x 9223372036854775808 = 0 ∨ FM x 9223372036854775808 = 9223372036854775808 := by
  obtain ⟨s, m, e, h⟩ := h
  have hz : double.read 9223372036854775808 = .number true 0 (-1074) := by decide +kernel
  have : FM x 9223372036854775808 = double.word (s ^^ true) 0 := by
    unfold FM Format.mul; rw [h, hz]
    show double.nearest _ (m * 0) (e + -1074) = _
    unfold Format.nearest; simp
  rw [this]
  cases s
  · right; decide +kernel
  · exact .inl rfl
end Go.Proofs.YtmiamfnnccjmeacDoor.FB
