/-
  Numbers with a point, as bits: bounds on sums and products, Horner's rule, order. No Go text is named here.; Numbers with a point, as bits: sizes, opposites, zeros of both signs, which words are finite numbers. No Go text is named here.; Numbers with a point, as bits: positive ones stand as their words do; what is exact: doubling, halving. No Go text is named here.; Every word that is no NaN has its place among the others: a whole number, from minus infinity's to infinity's. No Go text is named here.; Rounding keeps the order: what is at most a word is rounded to at most that word. No Go text is named here.; Bounds of products and sums by words; a sum that is not nothing. No Go text is named here.; What the operations give is no NaN where the operands are numbers; square roots are finite. No Go text is named here.; A positive number as a part from a half on, below 1, and a power of 2; and what a logarithm does with it. No Go text is named here.; The logarithm's numbers, step by step, and that each step has an answer. No Go text is named here.; The power's numbers, step by step, and that each step has an answer. No Go text is named here.; Sums and products commute; nothings of either sign go through sums, products and roots alike; squares know no sign. No Go text is named here.; Whole numbers nearest to a number with a point: to the even one, and by the floor and what is left. No Go text is named here.; The floor, and one more where more than a half is left (or a half, the floor being odd), is the nearest whole number. No Go text is named here.
-/
import Derived.Laws.FloatArith
namespace Go.Proofs.YtinopkmcddjgdaaGreatDoor.FB
open Ieee

/-- The magnitude of the word is at most `2 ^ (k - 1023)`; k counts from the format's own bias (the exponent field of that power). -/
def Le (k : Nat) (x : Nat) : Prop := x < 18446744073709551616 ∧ x % 9223372036854775808 ≤ k * 4503599627370496

theorem cut_le (neg : Bool) (n drop m : Nat) (h : n < m * 2 ^ drop) (hm : 1 ≤ m) : Toward.even.cut neg n drop ≤ m := by
  unfold Toward.cut
  have hb : ∀ b : Bool, b.toNat ≤ 1 := by intro b; cases b <;> decide
  simp only
  by_cases hd : drop ≤ n.log2 + 2
  · rw [Nat.min_eq_left hd, Nat.one_shiftLeft]
    have : n / 2 ^ drop < m := Nat.div_lt_of_lt_mul (by rw [Nat.mul_comm]; exact h)
    have := hb (decide (2 ^ drop < 2 * (n % 2 ^ drop)) || (2 ^ drop == 2 * (n % 2 ^ drop) && n / 2 ^ drop % 2 == 1))
    omega
  · rw [Nat.min_eq_right (by omega), Nat.one_shiftLeft]
    have hn : n < 2 ^ (n.log2 + 2) := Nat.lt_of_lt_of_le Nat.lt_log2_self (Nat.pow_le_pow_right (by decide) (by omega))
    rw [Nat.div_eq_of_lt hn]
    have := hb (decide (2 ^ (n.log2 + 2) < 2 * (n % 2 ^ (n.log2 + 2))) || (2 ^ (n.log2 + 2) == 2 * (n % 2 ^ (n.log2 + 2)) && 0 % 2 == 1))
    omega

theorem nearest_le (neg : Bool) (mag : Nat) (place : Int) (j k : Nat) (hm : mag < 2 ^ j) (hk : 2 ≤ k) (hj : place + j + 1023 ≤ k) :
    Le k (double.nearest neg mag place) ∨ 2046 < k := by
  by_cases hk2 : 2046 < k
  · exact .inr hk2
  refine .inl ?_
  unfold Format.nearest
  have hword : ∀ r, r ≤ k * 4503599627370496 → Le k (double.word neg r) := by
    intro r hr
    have hs : double.signWeight = 9223372036854775808 := by decide +kernel
    unfold Format.word
    rw [hs]
    unfold Le
    split <;> constructor <;> omega
  by_cases h0 : mag = 0
  · rw [if_pos h0]; exact hword 0 (Nat.zero_le _)
  rw [if_neg h0]
  simp only
  refine hword _ ?_
  refine Nat.le_trans (Nat.min_le_left _ _) ?_
  have hb : double.binade = 4503599627370496 := by decide +kernel
  have hl : double.leastPlace = -1074 := by decide +kernel
  have hf : (double.fractionBits : Int) = 52 := by rfl
  rw [hb, hl, hf]
  have hlog : mag.log2 < j := (Nat.log2_lt h0).2 hm
  by_cases hc : place + (mag.log2 : Int) - 52 ≤ -1074
  · rw [Int.max_eq_right hc]
    have hcut : Toward.even.cut neg (mag <<< (place - -1074).toNat) (-1074 - place).toNat ≤ 2 ^ 53 := by
      refine cut_le _ _ _ _ ?_ (Nat.one_le_two_pow)
      rw [Nat.shiftLeft_eq]
      have h1 : mag < 2 ^ (mag.log2 + 1) := Nat.lt_log2_self
      by_cases hp : -1074 ≤ place
      · have e1 : (-1074 - place).toNat = 0 := by omega
        rw [e1]
        have : mag * 2 ^ (place - -1074).toNat < 2 ^ (mag.log2 + 1) * 2 ^ (place - -1074).toNat := Nat.mul_lt_mul_of_pos_right h1 (Nat.two_pow_pos _)
        rw [← Nat.pow_add] at this
        have h2 : 2 ^ (mag.log2 + 1 + (place - -1074).toNat) ≤ 2 ^ 53 := Nat.pow_le_pow_right (by decide) (by omega)
        omega
      · have e1 : (place - -1074).toNat = 0 := by omega
        rw [e1, Nat.pow_zero, Nat.mul_one, ← Nat.pow_add]
        exact Nat.lt_of_lt_of_le h1 (Nat.pow_le_pow_right (by decide) (by omega))
    have e0 : ((-1074 : Int) - -1074).toNat = 0 := by decide
    rw [e0]
    have h53 : (2 : Nat) ^ 53 = 2 * 4503599627370496 := by decide
    rw [h53] at hcut
    generalize Toward.even.cut neg _ _ = c at hcut ⊢
    clear h53 e0 hc hlog hf hl hb hword hj hm
    omega
  · rw [Int.max_eq_left (by omega)]
    have hcut : Toward.even.cut neg (mag <<< (place - (place + (mag.log2 : Int) - 52)).toNat) (place + (mag.log2 : Int) - 52 - place).toNat ≤ 2 ^ 53 := by
      refine cut_le _ _ _ _ ?_ (Nat.one_le_two_pow)
      rw [Nat.shiftLeft_eq]
      have h1 : mag < 2 ^ (mag.log2 + 1) := Nat.lt_log2_self
      by_cases hp : mag.log2 ≤ 52
      · have e1 : (place + (mag.log2 : Int) - 52 - place).toNat = 0 := by omega
        have e2 : (place - (place + (mag.log2 : Int) - 52)).toNat = 52 - mag.log2 := by omega
        rw [e1, e2]
        have : mag * 2 ^ (52 - mag.log2) < 2 ^ (mag.log2 + 1) * 2 ^ (52 - mag.log2) := Nat.mul_lt_mul_of_pos_right h1 (Nat.two_pow_pos _)
        rw [← Nat.pow_add, show mag.log2 + 1 + (52 - mag.log2) = 53 by omega] at this
        omega
      · have e2 : (place - (place + (mag.log2 : Int) - 52)).toNat = 0 := by omega
        have e1 : (place + (mag.log2 : Int) - 52 - place).toNat = mag.log2 - 52 := by omega
        rw [e2, e1, Nat.pow_zero, Nat.mul_one, ← Nat.pow_add, show 53 + (mag.log2 - 52) = mag.log2 + 1 by omega]
        exact h1
    have h53 : (2 : Nat) ^ 53 = 2 * 4503599627370496 := by decide
    rw [h53] at hcut
    generalize Toward.even.cut neg _ _ = c at hcut ⊢
    have hq : ((place + (mag.log2 : Int) - 52) - -1074).toNat + 2 ≤ k := by omega
    generalize ((place + (mag.log2 : Int) - 52) - -1074).toNat = q at hq ⊢
    clear h53 hc hlog hf hl hb hword hj hm
    omega
theorem Le.mono {k l x : Nat} (h : Le k x) (hl : k ≤ l) : Le l x := ⟨h.1, Nat.le_trans h.2 (Nat.mul_le_mul_right _ hl)⟩

theorem read_le {k x : Nat} (h : Le k x) (hk1 : 1 ≤ k) (hk : k ≤ 2046) : ∃ s m e, double.read x = .number s m e ∧ m < 2 ^ 53 ∧ e + 1075 ≤ k ∧ -1074 ≤ e := by
  have hs : double.signWeight = 9223372036854775808 := by decide +kernel
  have hb : double.binade = 4503599627370496 := by decide +kernel
  have hi : double.infRung = 2047 * 4503599627370496 := by decide +kernel
  have hl : double.leastPlace = -1074 := by decide +kernel
  have h53 : (2 : Nat) ^ 53 = 9007199254740992 := by decide
  obtain ⟨h1, h2⟩ := h
  unfold Format.read
  simp only [hs, hb, hi, hl]
  rw [h53]
  generalize x % 9223372036854775808 = r at h2 ⊢
  clear h1 hs hb hi hl h53
  by_cases c1 : r < 4503599627370496
  · rw [if_pos c1]; exact ⟨_, _, _, rfl, by omega, by omega, by omega⟩
  · rw [if_neg c1, if_pos (by omega)]
    exact ⟨_, _, _, rfl, by omega, by omega, by omega⟩

theorem mul_le {k l x y : Nat} (hx : Le k x) (hy : Le l y) (hk1 : 1 ≤ k) (hk : k ≤ 2046) (hl1 : 1 ≤ l) (hl : l ≤ 2046) (n : Nat) (hn : k + l ≤ n + 1021) (hn2 : n ≤ 2046) (hn1 : 2 ≤ n) :
    ∃ r, double.mul x y = some r ∧ Le n r := by
  obtain ⟨s, m, e, h1, h2, h3, _⟩ := read_le hx hk1 hk
  obtain ⟨t, p, f, g1, g2, g3, _⟩ := read_le hy hl1 hl
  unfold Format.mul
  rw [h1, g1]
  refine ⟨_, rfl, ?_⟩
  show Le n (double.nearest _ _ _)
  have hmn : m * p < 2 ^ 106 := by
    have h := Nat.mul_lt_mul'' h2 g2
    rw [← Nat.pow_add] at h
    exact h
  rcases nearest_le (s ^^ t) (m * p) (e + f) 106 n hmn hn1 (by clear hmn h2 g2; omega) with h | h
  · exact h
  · omega

theorem signed_abs (s : Bool) (m u : Nat) : (signed s m u).natAbs = m * 2 ^ u := by
  unfold signed
  rw [Nat.shiftLeft_eq]
  generalize m * 2 ^ u = q
  split <;> omega

theorem sum_le {k : Nat} (s : Bool) (m : Nat) (i : Int) (t : Bool) (n : Nat) (j : Int) (hm : m < 2 ^ 53) (hn : n < 2 ^ 53) (hi : i + 1075 ≤ k) (hj : j + 1075 ≤ k) (hk : k + 2 ≤ 2046) :
    ∃ d, Datum.sum (.number s m i) (.number t n j) = some d ∧ Le (k + 2) (double.write d) := by
  refine ⟨_, rfl, ?_⟩
  show Le (k + 2) (double.nearest _ _ _)
  generalize hb : min i j = base
  have hmag : (signed s m (i - base).toNat + signed t n (j - base).toNat).natAbs < 2 ^ ((k : Int) - 1021 - base).toNat := by
    have a1 := signed_abs s m (i - base).toNat
    have a2 := signed_abs t n (j - base).toNat
    have b1 : m * 2 ^ (i - base).toNat < 2 ^ (53 + (i - base).toNat) := by
      rw [Nat.pow_add]; exact Nat.mul_lt_mul_of_pos_right hm (Nat.two_pow_pos _)
    have b2 : n * 2 ^ (j - base).toNat < 2 ^ (53 + (j - base).toNat) := by
      rw [Nat.pow_add]; exact Nat.mul_lt_mul_of_pos_right hn (Nat.two_pow_pos _)
    clear hm hn
    have c1 : 2 ^ (53 + (i - base).toNat) ≤ 2 ^ ((k : Int) - 1022 - base).toNat := Nat.pow_le_pow_right (by decide) (by omega)
    have c2 : 2 ^ (53 + (j - base).toNat) ≤ 2 ^ ((k : Int) - 1022 - base).toNat := Nat.pow_le_pow_right (by decide) (by omega)
    have c3 : 2 ^ ((k : Int) - 1021 - base).toNat = 2 * 2 ^ ((k : Int) - 1022 - base).toNat := by
      rw [show ((k : Int) - 1021 - base).toNat = ((k : Int) - 1022 - base).toNat + 1 by omega, Nat.pow_succ]; omega
    rw [c3]
    generalize 2 ^ ((k : Int) - 1022 - base).toNat = P at c1 c2 ⊢
    generalize 2 ^ (53 + (i - base).toNat) = Q at c1 b1
    generalize 2 ^ (53 + (j - base).toNat) = R at c2 b2
    generalize m * 2 ^ (i - base).toNat = M at a1 b1
    generalize n * 2 ^ (j - base).toNat = N at a2 b2
    omega
  rcases nearest_le _ _ base ((k : Int) - 1021 - base).toNat (k + 2) hmag (by omega) (by clear hmag hm hn; omega) with h | h
  · exact h
  · omega

theorem add_le {k x y : Nat} (hx : Le k x) (hy : Le k y) (hk1 : 1 ≤ k) (hk : k + 2 ≤ 2046) : ∃ r, double.add x y = some r ∧ Le (k + 2) r := by
  obtain ⟨s, m, e, h1, h2, h3, _⟩ := read_le hx hk1 (by omega)
  obtain ⟨t, p, f, g1, g2, g3, _⟩ := read_le hy hk1 (by omega)
  obtain ⟨d, hd, hle⟩ := sum_le s m e t p f h2 g2 h3 g3 hk
  exact ⟨double.write d, by unfold Format.add; rw [h1, g1, hd]; rfl, hle⟩

theorem sub_le {k x y : Nat} (hx : Le k x) (hy : Le k y) (hk1 : 1 ≤ k) (hk : k + 2 ≤ 2046) : ∃ r, double.sub x y = some r ∧ Le (k + 2) r := by
  obtain ⟨s, m, e, h1, h2, h3, _⟩ := read_le hx hk1 (by omega)
  obtain ⟨t, p, f, g1, g2, g3, _⟩ := read_le hy hk1 (by omega)
  obtain ⟨d, hd, hle⟩ := sum_le s m e (!t) p f h2 g2 h3 g3 hk
  exact ⟨double.write d, by unfold Format.sub; rw [h1, g1]; show Option.map double.write (Datum.sum (.number s m e) (.number (!t) p f)) = _; rw [hd]; rfl, hle⟩

/-- The word stands for a finite number. -/
def Num (x : Nat) : Prop := ∃ s m e, double.read x = .number s m e
theorem Le.num {k x : Nat} (h : Le k x) (hk1 : 1 ≤ k) (hk : k ≤ 2046) : Num x := by
  obtain ⟨s, m, e, h, _⟩ := read_le h hk1 hk; exact ⟨s, m, e, h⟩

/-- Sum, difference, product, quotient, where there is one. -/
def FA (x y : Nat) : Nat := (double.add x y).getD 0
def FS (x y : Nat) : Nat := (double.sub x y).getD 0
def FM (x y : Nat) : Nat := (double.mul x y).getD 0
def FD (x y : Nat) : Nat := (double.div x y).getD 0

theorem mul_num {x y : Nat} (hx : Num x) (hy : Num y) : double.mul x y = some (FM x y) := by
  obtain ⟨s, m, e, h⟩ := hx; obtain ⟨t, n, f, g⟩ := hy
  unfold FM Format.mul; rw [h, g]; rfl
theorem add_num {x y : Nat} (hx : Num x) (hy : Num y) : double.add x y = some (FA x y) := by
  obtain ⟨s, m, e, h⟩ := hx; obtain ⟨t, n, f, g⟩ := hy
  unfold FA Format.add; rw [h, g]; rfl
theorem sub_num {x y : Nat} (hx : Num x) (hy : Num y) : double.sub x y = some (FS x y) := by
  obtain ⟨s, m, e, h⟩ := hx; obtain ⟨t, n, f, g⟩ := hy
  unfold FS Format.sub; rw [h, g]; rfl

theorem FM_le {k l x y : Nat} (hx : Le k x) (hy : Le l y) (hk1 : 1 ≤ k) (hk : k ≤ 2046) (hl1 : 1 ≤ l) (hl : l ≤ 2046) (n : Nat) (hn : k + l ≤ n + 1021) (hn2 : n ≤ 2046) (hn1 : 2 ≤ n) : Le n (FM x y) := by
  obtain ⟨r, h, hle⟩ := mul_le hx hy hk1 hk hl1 hl n hn hn2 hn1
  unfold FM; rw [h]; exact hle
theorem FA_le {k x y : Nat} (hx : Le k x) (hy : Le k y) (hk1 : 1 ≤ k) (hk : k + 2 ≤ 2046) : Le (k + 2) (FA x y) := by
  obtain ⟨r, h, hle⟩ := add_le hx hy hk1 hk
  unfold FA; rw [h]; exact hle
theorem FS_le {k x y : Nat} (hx : Le k x) (hy : Le k y) (hk1 : 1 ≤ k) (hk : k + 2 ≤ 2046) : Le (k + 2) (FS x y) := by
  obtain ⟨r, h, hle⟩ := sub_le hx hy hk1 hk
  unfold FS; rw [h]; exact hle

/-- A whole number as one with a point. -/
theorem ofInt_le (n : Int) (j : Nat) (h : n.natAbs < 2 ^ j) (hj : j ≤ 1023) : Le (j + 1023) (floatOfInt .f64 n) := by
  rcases nearest_le (n < 0) n.natAbs 0 j (j + 1023) h (by omega) (by omega) with h | h
  · exact h
  · omega

/-- Horner's rule: the coefficient of the greatest power last. -/
def hor : List Nat → Nat → Nat
  | [], _ => 0
  | c :: cs, z => FA c (FM z (hor cs z))

theorem hor_le (kz z b st : Nat) (hz : Le kz z) (hk0 : 1 ≤ kz) (hk2 : kz ≤ 2046) (hb : 2 ≤ b) (hst : kz + 2 ≤ st + 1021) (hst2 : 2 ≤ st) : ∀ cs : List Nat, (∀ c, c ∈ cs → Le b c) → b + st * cs.length ≤ 2046 → Le (b + st * cs.length) (hor cs z) := by
  intro cs
  induction cs with
  | nil => intro _ _; exact ⟨by show 0 < _; decide, by show 0 % _ ≤ _; simp⟩
  | cons c cs ih =>
    intro hc hb'
    simp only [List.length_cons] at hb' ⊢
    rw [Nat.mul_succ] at hb' ⊢
    have h1 := ih (fun d hd => hc d (List.mem_cons_of_mem _ hd)) (by omega)
    generalize st * cs.length = L at *
    obtain ⟨s2, rfl⟩ : ∃ s2, st = s2 + 2 := ⟨st - 2, by omega⟩
    have h2 : Le (b + L + s2) (FM z (hor cs z)) := FM_le hz h1 hk0 hk2 (by omega) (by omega) _ (by omega) (by omega) (by omega)
    have h3 : Le (b + L + s2) c := (hc c (List.mem_cons_self ..)).mono (by omega)
    have h4 := FA_le h3 h2 (by omega) (by omega)
    rw [show b + (L + (s2 + 2)) = b + L + s2 + 2 by omega]
    exact h4

/-- All that a walk through Horner's rule wants. -/
structure Ok (cs : List Nat) (z : Nat) : Prop where
  h : ∀ i, Num (hor (cs.drop i) z)
  m : ∀ i, double.mul z (hor (cs.drop i) z) = some (FM z (hor (cs.drop i) z))
  a : ∀ i c, cs[i]? = some c → double.add c (FM z (hor (cs.drop (i + 1)) z)) = some (hor (cs.drop i) z)

theorem ok_of (kz z b st : Nat) (hz : Le kz z) (hk0 : 1 ≤ kz) (hk2 : kz ≤ 2046) (hb : 2 ≤ b) (hst : kz + 2 ≤ st + 1021) (hst2 : 2 ≤ st) (cs : List Nat) (hc : ∀ c, c ∈ cs → Le b c) (hbb : b + st * (cs.length + 1) ≤ 2046) : Ok cs z := by
  have hd : ∀ i, Le (b + st * (cs.drop i).length) (hor (cs.drop i) z) ∧ b + st * (cs.drop i).length + st ≤ 2046 := by
    intro i
    have hl : st * (cs.drop i).length + st ≤ st * (cs.length + 1) := by
      rw [Nat.mul_succ]
      exact Nat.add_le_add_right (Nat.mul_le_mul_left _ (by simp)) _
    refine ⟨hor_le kz z b st hz hk0 hk2 hb hst hst2 _ (fun c hc' => hc c (List.mem_of_mem_drop hc')) (by omega), by omega⟩
  have hn : ∀ i, Num (hor (cs.drop i) z) := fun i => (hd i).1.num (by omega) (by have := (hd i).2; omega)
  have hm : ∀ i, double.mul z (hor (cs.drop i) z) = some (FM z (hor (cs.drop i) z)) := fun i => mul_num (hz.num hk0 hk2) (hn i)
  have hM : ∀ i, Num (FM z (hor (cs.drop i) z)) := fun i => by
    obtain ⟨h1, h2⟩ := hd i
    generalize st * (cs.drop i).length = L at *
    have h5 : Le (b + L + st) (FM z (hor (cs.drop i) z)) := FM_le hz h1 hk0 hk2 (by omega) (by omega) _ (by omega) (by omega) (by omega)
    exact h5.num (by omega) (by omega)
  refine ⟨hn, hm, fun i c hi => ?_⟩
  obtain ⟨hlt, rfl⟩ := List.getElem?_eq_some_iff.1 hi
  have e : cs.drop i = cs[i] :: cs.drop (i + 1) := List.drop_eq_getElem_cons hlt
  have hcn : Num cs[i] := (hc _ (List.getElem_mem hlt)).num (by omega) (by have := (hd i).2; omega)
  rw [add_num hcn (hM (i + 1)), e]
  rfl

/-- Order. -/
theorem order_self {x : Nat} (h : Num x) : double.order x x = some .eq := by
  obtain ⟨s, m, e, h⟩ := h
  unfold Format.order; rw [h]
  simp [Datum.order]
theorem order_eq_symm {x y : Nat} (h : double.order x y = some .eq) : double.order y x = some .eq := by
  unfold Format.order at h ⊢
  revert h
  cases double.read x <;> cases double.read y <;> simp only [Datum.order, Option.some.injEq, reduceCtorEq, imp_self]
  · rename_i s m i t n j
    rw [Int.min_comm i j]
    intro h
    rw [Int.compare_eq_eq] at h ⊢
    exact h.symm
  · rename_i s m i t; cases t <;> simp
  · rename_i s t n j; cases s <;> simp
  · rename_i s t; cases s <;> cases t <;> simp <;> decide
theorem zero_num : Num 0 := ⟨false, 0, -1074, by decide +kernel⟩
theorem FM_zero {x : Nat} (h : Num x) : FM x 0 = 0 ∨ FM x 0 = 9223372036854775808 := by
  obtain ⟨s, m, e, h⟩ := h
  have hz : double.read 0 = .number false 0 (-1074) := by decide +kernel
  have : FM x 0 = double.word (s ^^ false) 0 := by
    unfold FM Format.mul; rw [h, hz]
    show double.nearest _ (m * 0) (e + -1074) = _
    unfold Format.nearest; simp
  rw [this]
  cases s
  · exact .inl rfl
  · right; decide +kernel
theorem FM_negzero {x : Nat} (h : Num x) : FM x 9223372036854775808 = 0 ∨ FM x 9223372036854775808 = 9223372036854775808 := by
  obtain ⟨s, m, e, h⟩ := h
  have hz : double.read 9223372036854775808 = .number true 0 (-1074) := by decide +kernel
  have : FM x 9223372036854775808 = double.word (s ^^ true) 0 := by
    unfold FM Format.mul; rw [h, hz]
    show double.nearest _ (m * 0) (e + -1074) = _
    unfold Format.nearest; simp
  rw [this]
  cases s
  · right; decide +kernel
  · exact .inl rfl
end Go.Proofs.YtinopkmcddjgdaaGreatDoor.FB
namespace Go.Proofs.YtinopkmcddjgdaaGreatDoor.FB
open Ieee

def sb : Nat := 9223372036854775808
/-- The word without its sign. -/
def absB (x : Nat) : Nat := x % 9223372036854775808
theorem sw : double.signWeight = 9223372036854775808 := by decide +kernel
theorem bn : double.binade = 4503599627370496 := by decide +kernel
theorem ir : double.infRung = 9218868437227405312 := by decide +kernel
theorem lp : double.leastPlace = -1074 := by decide +kernel

theorem read_eq (x : Nat) : double.read x =
    if x % 9223372036854775808 < 4503599627370496 then .number (x / 9223372036854775808 % 2 == 1) (x % 9223372036854775808) (-1074)
    else if x % 9223372036854775808 < 9218868437227405312 then .number (x / 9223372036854775808 % 2 == 1) (4503599627370496 + x % 9223372036854775808 % 4503599627370496) (-1074 + (x % 9223372036854775808 / 4503599627370496 - 1 : Nat))
    else if x % 9223372036854775808 = 9218868437227405312 then .infinity (x / 9223372036854775808 % 2 == 1)
    else .nan (x / 9223372036854775808 % 2 == 1) (x % 9223372036854775808 - 9218868437227405312) := by
  unfold Format.read
  simp only [sw, bn, ir, lp]

theorem read_abs (x : Nat) : double.read (absB x) = match double.read x with
    | .number _ m e => .number false m e
    | .infinity _ => .infinity false
    | .nan _ f => .nan false f := by
  rw [read_eq, read_eq]
  unfold absB
  have h1 : x % 9223372036854775808 % 9223372036854775808 = x % 9223372036854775808 := Nat.mod_mod _ _
  have h2 : (x % 9223372036854775808 / 9223372036854775808 % 2 == 1) = false := by
    rw [Nat.div_eq_of_lt (Nat.mod_lt _ (by decide))]; rfl
  rw [h1, h2]
  by_cases c1 : x % 9223372036854775808 < 4503599627370496
  · rw [if_pos c1, if_pos c1]
  · rw [if_neg c1, if_neg c1]
    by_cases c2 : x % 9223372036854775808 < 9218868437227405312
    · rw [if_pos c2, if_pos c2]
    · rw [if_neg c2, if_neg c2]
      by_cases c3 : x % 9223372036854775808 = 9218868437227405312
      · rw [if_pos c3, if_pos c3]
      · rw [if_neg c3, if_neg c3]

theorem num_abs {x : Nat} (h : Num x) : Num (absB x) := by
  obtain ⟨s, m, e, h⟩ := h
  exact ⟨false, m, e, by rw [read_abs, h]⟩

theorem num_bd {x : Nat} {s : Bool} {m : Nat} {e : Int} (h : double.read x = .number s m e) : m ≤ 9007199254740991 ∧ -1074 ≤ e ∧ e ≤ 971 ∧ (m = 0 → x % 9223372036854775808 = 0) ∧ s = (x / 9223372036854775808 % 2 == 1) := by
  rw [read_eq] at h
  generalize hr : x % 9223372036854775808 = r at h ⊢
  by_cases c1 : r < 4503599627370496
  · rw [if_pos c1] at h
    injection h with h1 h2 h3
    subst h1 h2 h3
    exact ⟨by omega, by omega, by omega, fun h => h, rfl⟩
  · rw [if_neg c1] at h
    by_cases c2 : r < 9218868437227405312
    · rw [if_pos c2] at h
      injection h with h1 h2 h3
      subst h1 h2 h3
      exact ⟨by omega, by omega, by omega, by omega, rfl⟩
    · rw [if_neg c2] at h
      by_cases c3 : r = 9218868437227405312
      · rw [if_pos c3] at h; cases h
      · rw [if_neg c3] at h; cases h

def maxF : Nat := 9218868437227405311
theorem read_max : double.read maxF = .number false 9007199254740991 971 := by decide +kernel

theorem signed_false (m u : Nat) : signed false m u = ((m * 2 ^ u : Nat) : Int) := by unfold signed; rw [Nat.shiftLeft_eq]; rfl
theorem signed_true (m u : Nat) : signed true m u = -((m * 2 ^ u : Nat) : Int) := by unfold signed; rw [Nat.shiftLeft_eq]; rfl

/-- No finite number is above the greatest one. -/
theorem abs_not_gt {x : Nat} (h : Num x) : double.order (absB x) maxF ≠ some .gt := by
  obtain ⟨s, m, e, h⟩ := h
  obtain ⟨h1, h2, h3, _⟩ := num_bd h
  unfold Format.order
  rw [read_abs, h, read_max]
  simp only [Datum.order]
  rw [Int.min_eq_left h3, signed_false, signed_false]
  intro hc
  have hgt : ((9007199254740991 * 2 ^ (971 - e).toNat : Nat) : Int) < ((m * 2 ^ (e - e).toNat : Nat) : Int) := by
    have := Option.some.inj hc
    rw [Int.compare_eq_gt] at this
    exact this
  have e0 : (e - e).toNat = 0 := by omega
  rw [e0] at hgt
  have hp : 1 ≤ 2 ^ (971 - e).toNat := Nat.one_le_two_pow
  have := Nat.mul_le_mul_left 9007199254740991 hp
  omega

theorem order_inf {x : Nat} {s : Bool} (h : double.read x = .infinity s) : double.order (absB x) maxF = some .gt ∧ double.order x x = some .eq := by
  unfold Format.order
  rw [read_abs, h, read_max]
  cases s <;> exact ⟨rfl, rfl⟩
theorem order_nan {x y : Nat} {s : Bool} {f : Nat} (h : double.read x = .nan s f) : double.order x y = none := by
  unfold Format.order; rw [h]; rfl

theorem sub_self {x : Nat} (h : Num x) : double.sub x x = some 0 := by
  obtain ⟨s, m, e, h⟩ := h
  unfold Format.sub
  rw [h]
  have : Datum.sum (.number s m e) (Datum.opposite (.number s m e)) = some (.number false 0 e) := by
    simp only [Datum.opposite, Datum.sum]
    rw [Int.min_self]
    cases s <;> simp only [Bool.not_false, Bool.not_true, signed_false, signed_true] <;> congr 1 <;> simp <;> omega
  rw [this]
  rfl
theorem sub_inf {x : Nat} {s : Bool} (h : double.read x = .infinity s) : double.sub x x = none := by
  unfold Format.sub; rw [h]; cases s <;> rfl
theorem sub_nan {x : Nat} {s : Bool} {f : Nat} (h : double.read x = .nan s f) : double.sub x x = none := by
  unfold Format.sub; rw [h]; rfl

theorem xor_lt {b : Nat} (h : b < 2 ^ 63) : b ^^^ 2 ^ 63 = 2 ^ 63 + b := by
  apply Nat.eq_of_testBit_eq
  intro j
  rw [Nat.testBit_xor, Nat.testBit_two_pow]
  rcases Nat.lt_trichotomy j 63 with hj | hj | hj
  · rw [Nat.testBit_two_pow_add_gt hj]
    have : decide (63 = j) = false := by simp; omega
    rw [this, Bool.xor_false]
  · subst hj
    rw [Nat.testBit_two_pow_add_eq]
    simp
  · have h1 : b.testBit j = false := Nat.testBit_lt_two_pow (Nat.lt_of_lt_of_le h (Nat.pow_le_pow_right (by decide) (by omega)))
    have h2 : (2 ^ 63 + b).testBit j = false := Nat.testBit_lt_two_pow (Nat.lt_of_lt_of_le (show 2 ^ 63 + b < 2 ^ 64 by omega) (Nat.pow_le_pow_right (by decide) (by omega)))
    rw [h1, h2]
    have : decide (63 = j) = false := by simp; omega
    rw [this]; rfl
theorem neg_low {b : Nat} (h : b < 9223372036854775808) : Op.negFloat .f64 b = 9223372036854775808 + b := xor_lt h
theorem neg_high {b : Nat} (h : b < 9223372036854775808) : Op.negFloat .f64 (9223372036854775808 + b) = b := by
  have h1 := neg_low h
  rw [← h1]
  show (b ^^^ 2 ^ 63) ^^^ 2 ^ 63 = b
  rw [Nat.xor_assoc, Nat.xor_self, Nat.xor_zero]
theorem neg_abs (x : Nat) (hx : x < 18446744073709551616) : absB (Op.negFloat .f64 x) = absB x ∧ Op.negFloat .f64 x < 18446744073709551616 := by
  unfold absB
  by_cases h : x < 9223372036854775808
  · rw [neg_low h]; omega
  · obtain ⟨b, rfl⟩ : ∃ b, x = 9223372036854775808 + b := ⟨x - 9223372036854775808, by omega⟩
    rw [neg_high (by omega)]; omega
theorem num_of_abs {x : Nat} (h : Num (absB x)) : Num x := by
  obtain ⟨s, m, e, h⟩ := h
  rw [read_abs] at h
  cases hx : double.read x with
  | number t n f => exact ⟨t, n, f, hx⟩
  | infinity t => rw [hx] at h; cases h
  | nan t f => rw [hx] at h; cases h
theorem num_neg {x : Nat} (hx : x < 18446744073709551616) (h : Num x) : Num (Op.negFloat .f64 x) := by
  apply num_of_abs
  rw [(neg_abs x hx).1]
  exact num_abs h
theorem neg_le {k x : Nat} (h : Le k x) : Le k (Op.negFloat .f64 x) := by
  obtain ⟨h1, h2⟩ := h
  have := neg_abs x h1
  unfold absB at this
  exact ⟨this.2, by rw [this.1]; exact h2⟩

/-- Below 0: the opposite is the size. -/
theorem lt_zero {x : Nat} (hx : x < 18446744073709551616) (hn : Num x) (h : double.order x 0 = some .lt) : Op.negFloat .f64 x = absB x := by
  unfold absB
  by_cases hlt : x < 9223372036854775808
  · exfalso
    obtain ⟨s, m, e, hr⟩ := hn
    obtain ⟨_, h2, _, _, h5⟩ := num_bd hr
    rw [Nat.div_eq_of_lt hlt] at h5
    have hs : s = false := by rw [h5]; rfl
    subst hs
    unfold Format.order at h
    rw [hr, show double.read 0 = .number false 0 (-1074) by decide +kernel] at h
    simp only [Datum.order, signed_false] at h
    have := Option.some.inj h
    rw [Int.compare_eq_lt] at this
    simp only [Nat.zero_mul] at this
    generalize m * 2 ^ (e - min e (-1074)).toNat = q at this
    omega
  · obtain ⟨b, rfl⟩ : ∃ b, x = 9223372036854775808 + b := ⟨x - 9223372036854775808, by omega⟩
    rw [neg_high (by omega)]; omega
/-- Not below 0: it is its size, or the zero that has a sign. -/
theorem ge_zero {x : Nat} (hx : x < 18446744073709551616) (hn : Num x) (h : double.order x 0 ≠ some .lt) : absB x = x ∨ (x = 9223372036854775808 ∧ absB x = 0) := by
  unfold absB
  by_cases hlt : x < 9223372036854775808
  · left; omega
  · right
    obtain ⟨s, m, e, hr⟩ := hn
    obtain ⟨_, h2, _, h4, h5⟩ := num_bd hr
    have hs : s = true := by
      rw [h5]
      have : x / 9223372036854775808 = 1 := by omega
      rw [this]; rfl
    subst hs
    unfold Format.order at h
    rw [hr, show double.read 0 = .number false 0 (-1074) by decide +kernel] at h
    simp only [Datum.order, signed_false, signed_true] at h
    have hm : m = 0 := by
      rcases Nat.eq_zero_or_pos m with h0 | h0
      · exact h0
      · exfalso
        apply h
        congr 1
        rw [Int.compare_eq_lt]
        have hp : 0 < m * 2 ^ (e - min e (-1074)).toNat := Nat.mul_pos h0 (Nat.two_pow_pos _)
        simp only [Nat.zero_mul]
        omega
    have := h4 hm
    omega

/-- The two zeros stand alike. -/
theorem order_zero_l (r : Nat) : double.order 9223372036854775808 r = double.order 0 r := by
  unfold Format.order
  rw [show double.read 0 = .number false 0 (-1074) by decide +kernel, show double.read 9223372036854775808 = .number true 0 (-1074) by decide +kernel]
  cases double.read r <;> simp [Datum.order, signed_false, signed_true]
theorem order_zero_r (r : Nat) : double.order r 9223372036854775808 = double.order r 0 := by
  unfold Format.order
  rw [show double.read 0 = .number false 0 (-1074) by decide +kernel, show double.read 9223372036854775808 = .number true 0 (-1074) by decide +kernel]
  cases double.read r <;> simp [Datum.order, signed_false, signed_true]

/-- Is left at most right? -/
def cle (a b : Nat) : Bool := double.order a b == some .lt || double.order a b == some .eq
def SameZ (a b : Nat) : Prop := a = b ∨ ((a = 0 ∨ a = 9223372036854775808) ∧ (b = 0 ∨ b = 9223372036854775808))
theorem cle_congr {a a' b b' : Nat} (h : SameZ a a') (k : SameZ b b') : cle a b = cle a' b' := by
  have hl : ∀ r, double.order a r = double.order a' r := by
    intro r
    rcases h with rfl | ⟨rfl | rfl, rfl | rfl⟩
    · rfl
    · rfl
    · exact (order_zero_l r).symm
    · exact order_zero_l r
    · rfl
  have hr : ∀ r, double.order r b = double.order r b' := by
    intro r
    rcases k with rfl | ⟨rfl | rfl, rfl | rfl⟩
    · rfl
    · rfl
    · exact (order_zero_r r).symm
    · exact order_zero_r r
    · rfl
  unfold cle
  rw [hl, hr]
theorem FM_sameZ {s u v : Nat} (hs : Num s) (h : u = v ∨ (u = 9223372036854775808 ∧ v = 0)) : SameZ (FM s u) (FM s v) := by
  rcases h with rfl | ⟨rfl, rfl⟩
  · exact .inl rfl
  · exact .inr ⟨FM_negzero hs, FM_zero hs⟩

/-- A zero without its sign. -/
def uz (x : Nat) : Nat := if double.order x 0 = some .eq then 0 else x
theorem uz_same {x : Nat} (h : Num x) : double.order (uz x) x = some .eq ∧ Num (uz x) := by
  unfold uz
  split
  · rename_i he; exact ⟨order_eq_symm he, zero_num⟩
  · exact ⟨order_self h, h⟩
end Go.Proofs.YtinopkmcddjgdaaGreatDoor.FB
namespace Go.Proofs.YtinopkmcddjgdaaGreatDoor.FB
open Ieee

/-- What a positive word stands for, in units of the least one. -/
def vl (r : Nat) : Nat := if r < 4503599627370496 then r else (4503599627370496 + r % 4503599627370496) * 2 ^ (r / 4503599627370496 - 1)

theorem vl_lt {a b : Nat} (h : a < b) : vl a < vl b := by
  unfold vl
  by_cases ha : a < 4503599627370496
  · rw [if_pos ha]
    by_cases hb : b < 4503599627370496
    · rw [if_pos hb]; exact h
    · rw [if_neg hb]
      have h1 : 4503599627370496 + b % 4503599627370496 ≤ (4503599627370496 + b % 4503599627370496) * 2 ^ (b / 4503599627370496 - 1) := Nat.le_mul_of_pos_right _ (Nat.two_pow_pos _)
      omega
  · rw [if_neg ha, if_neg (by omega)]
    have hdm := Nat.div_add_mod a 4503599627370496
    have hdm2 := Nat.div_add_mod b 4503599627370496
    have hma := Nat.mod_lt a (show 0 < 4503599627370496 by decide)
    have hmb := Nat.mod_lt b (show 0 < 4503599627370496 by decide)
    by_cases hq : a / 4503599627370496 = b / 4503599627370496
    · rw [hq]
      exact Nat.mul_lt_mul_of_pos_right (by rw [hq] at hdm; omega) (Nat.two_pow_pos _)
    · have hlt : a / 4503599627370496 < b / 4503599627370496 := by omega
      have h1 : 1 ≤ a / 4503599627370496 := by omega
      have e1 : (4503599627370496 + a % 4503599627370496) * 2 ^ (a / 4503599627370496 - 1) < (2 * 4503599627370496) * 2 ^ (a / 4503599627370496 - 1) := Nat.mul_lt_mul_of_pos_right (by omega) (Nat.two_pow_pos _)
      have e2 : (2 * 4503599627370496) * 2 ^ (a / 4503599627370496 - 1) = 4503599627370496 * 2 ^ (a / 4503599627370496) := by
        obtain ⟨u, hu⟩ : ∃ u, a / 4503599627370496 = u + 1 := ⟨a / 4503599627370496 - 1, by omega⟩
        rw [hu, Nat.add_sub_cancel, Nat.pow_succ]
        omega
      have e3 : 4503599627370496 * 2 ^ (a / 4503599627370496) ≤ 4503599627370496 * 2 ^ (b / 4503599627370496 - 1) := Nat.mul_le_mul_left _ (Nat.pow_le_pow_right (by decide) (by omega))
      have e4 : 4503599627370496 * 2 ^ (b / 4503599627370496 - 1) ≤ (4503599627370496 + b % 4503599627370496) * 2 ^ (b / 4503599627370496 - 1) := Nat.mul_le_mul_right _ (by omega)
      omega

/-- A positive finite word, read. -/
theorem read_pos {r : Nat} (h : r < 9218868437227405312) : ∃ m e, double.read r = .number false m e ∧ -1074 ≤ e ∧ vl r = m * 2 ^ (e + 1074).toNat := by
  rw [read_eq]
  have h1 : r % 9223372036854775808 = r := Nat.mod_eq_of_lt (by omega)
  have h2 : (r / 9223372036854775808 % 2 == 1) = false := by rw [Nat.div_eq_of_lt (by omega)]; rfl
  rw [h1, h2]
  unfold vl
  by_cases c : r < 4503599627370496
  · rw [if_pos c, if_pos c]
    exact ⟨_, _, rfl, by decide, by simp⟩
  · rw [if_neg c, if_pos h, if_neg c]
    refine ⟨_, _, rfl, by omega, ?_⟩
    congr 2
    omega
theorem num_pos {r : Nat} (h : r < 9218868437227405312) : Num r := by obtain ⟨m, e, h, _⟩ := read_pos h; exact ⟨_, _, _, h⟩

theorem order_pos {a b : Nat} (ha : a < 9218868437227405312) (hb : b < 9218868437227405312) : double.order a b = some (compare a b) := by
  obtain ⟨m, i, ra, hi, va⟩ := read_pos ha
  obtain ⟨n, j, rb, hj, vb⟩ := read_pos hb
  unfold Format.order
  rw [ra, rb]
  simp only [Datum.order, signed_false]
  congr 1
  generalize hbase : min i j = base
  have hbi : base ≤ i := by omega
  have hbj : base ≤ j := by omega
  have hb0 : -1074 ≤ base := by omega
  have ea : vl a = m * 2 ^ (i - base).toNat * 2 ^ (base + 1074).toNat := by
    rw [va, Nat.mul_assoc, ← Nat.pow_add]; congr 2; omega
  have eb : vl b = n * 2 ^ (j - base).toNat * 2 ^ (base + 1074).toNat := by
    rw [vb, Nat.mul_assoc, ← Nat.pow_add]; congr 2; omega
  generalize m * 2 ^ (i - base).toNat = p at *
  generalize n * 2 ^ (j - base).toNat = q at *
  rcases Nat.lt_trichotomy a b with h | h | h
  · have := vl_lt h
    rw [ea, eb] at this
    have hpq : p < q := Nat.lt_of_mul_lt_mul_right this
    rw [Nat.compare_eq_lt.2 h, Int.compare_eq_lt.2 (by omega)]
  · subst h
    have hpq : p = q := by
      rw [ea] at eb
      exact Nat.eq_of_mul_eq_mul_right (Nat.two_pow_pos _) eb
    rw [hpq]
    rw [Nat.compare_eq_eq.2 rfl, Int.compare_eq_eq.2 rfl]
  · have := vl_lt h
    rw [ea, eb] at this
    have hpq : q < p := Nat.lt_of_mul_lt_mul_right this
    rw [Nat.compare_eq_gt.2 h, Int.compare_eq_gt.2 (by omega)]

theorem cut_exact (neg : Bool) (M t : Nat) : Toward.even.cut neg (M * 2 ^ t) t = M := by
  unfold Toward.cut
  simp only
  by_cases h0 : M = 0
  · subst h0; simp
  have hlog : t ≤ (M * 2 ^ t).log2 + 2 := by
    have : t ≤ (M * 2 ^ t).log2 := (Nat.le_log2 (Nat.mul_ne_zero h0 (Nat.pos_iff_ne_zero.1 (Nat.two_pow_pos _)))).2 (Nat.le_mul_of_pos_left _ (by omega))
    omega
  rw [Nat.min_eq_left hlog, Nat.one_shiftLeft, Nat.mul_div_cancel _ (Nat.two_pow_pos _), Nat.mul_mod_left]
  have : (decide (2 ^ t < 2 * 0) || (2 ^ t == 2 * 0 && M % 2 == 1)) = false := by
    have := Nat.two_pow_pos t
    simp
  rw [this]; rfl

/-- A number that the format has is written as itself. -/
theorem nearest_exact (neg : Bool) (M t : Nat) (place e : Int) (hM : M < 9007199254740992) (h0 : 0 < M) (he : place + t = e) (he1 : -1074 ≤ e) (he2 : e ≤ 971) (hn : 4503599627370496 ≤ M ∨ e = -1074) :
    double.nearest neg (M * 2 ^ t) place = double.word neg ((e + 1074).toNat * 4503599627370496 + M) := by
  unfold Format.nearest
  have hne : M * 2 ^ t ≠ 0 := Nat.mul_ne_zero (by omega) (Nat.pos_iff_ne_zero.1 (Nat.two_pow_pos _))
  rw [if_neg hne]
  simp only
  have hf : (double.fractionBits : Int) = 52 := rfl
  rw [bn, lp, ir, hf]
  have hlog : (M * 2 ^ t).log2 = M.log2 + t := by
    rw [Nat.log2_eq_iff hne]
    have h1 : 2 ^ M.log2 ≤ M := Nat.log2_self_le (by omega)
    have h2 : M < 2 ^ (M.log2 + 1) := Nat.lt_log2_self
    refine ⟨?_, ?_⟩
    · rw [Nat.pow_add]; exact Nat.mul_le_mul_right _ h1
    · rw [show M.log2 + t + 1 = M.log2 + 1 + t by omega, Nat.pow_add]; exact Nat.mul_lt_mul_of_pos_right h2 (Nat.two_pow_pos _)
  have hlast : max (place + ((M * 2 ^ t).log2 : Int) - 52) (-1074) = e := by
    rw [hlog]
    have hM52 : M.log2 ≤ 52 := by
      have : M.log2 < 53 := (Nat.log2_lt (by omega)).2 (by omega)
      omega
    rcases hn with h | h
    · have : 52 ≤ M.log2 := (Nat.le_log2 (by omega)).2 (by omega)
      omega
    · omega
  rw [hlast]
  have e1 : (place - e).toNat = 0 := by omega
  have e2 : (e - place).toNat = t := by omega
  rw [e1, e2, Nat.shiftLeft_zero, cut_exact]
  congr 1
  have hle : (e + 1074).toNat ≤ 2045 := by omega
  have e3 : e - -1074 = e + 1074 := by omega
  rw [e3]
  refine Nat.min_eq_left ?_
  generalize (e + 1074).toNat = q at hle ⊢
  clear hlast hlog hne hf e1 e2 e3 hn he he1 he2
  omega

def two : Nat := 4611686018427387904
theorem read_two : double.read two = .number false 4503599627370496 (-51) := by decide +kernel
/-- The word of the double. -/
def dbl (t : Nat) : Nat := if t < 4503599627370496 then 2 * t else t + 4503599627370496

theorem read_normal {r : Nat} (h1 : 4503599627370496 ≤ r) (h : r < 9218868437227405312) : double.read r = .number false (4503599627370496 + r % 4503599627370496) (-1074 + (r / 4503599627370496 - 1 : Nat)) := by
  rw [read_eq]
  have e1 : r % 9223372036854775808 = r := Nat.mod_eq_of_lt (by omega)
  have e2 : (r / 9223372036854775808 % 2 == 1) = false := by rw [Nat.div_eq_of_lt (by omega)]; rfl
  rw [e1, e2, if_neg (by omega), if_pos h]
theorem read_small {r : Nat} (h : r < 4503599627370496) : double.read r = .number false r (-1074) := by
  rw [read_eq]
  have e1 : r % 9223372036854775808 = r := Nat.mod_eq_of_lt (by omega)
  have e2 : (r / 9223372036854775808 % 2 == 1) = false := by rw [Nat.div_eq_of_lt (by omega)]; rfl
  rw [e1, e2, if_pos h]

theorem mul_two {t : Nat} (h0 : 0 < t) (h : t < 9214364837600034816) : double.mul t two = some (dbl t) ∧ double.mul two t = some (dbl t) := by
  have hw : ∀ r, double.word (false ^^ false) r = r := fun r => rfl
  by_cases c : t < 4503599627370496
  · have hd : dbl t = 2 * t := by unfold dbl; rw [if_pos c]
    have key : double.nearest (false ^^ false) (t * 4503599627370496) (-1074 + -51) = 2 * t := by
      by_cases c2 : t < 2251799813685248
      · have := nearest_exact (false ^^ false) (2 * t) 51 (-1074 + -51) (-1074) (by omega) (by omega) (by decide) (by decide) (by decide) (.inr rfl)
        rw [show 2 * t * 2 ^ 51 = t * 4503599627370496 by omega] at this
        rw [this, hw]; simp
      · have := nearest_exact (false ^^ false) (2 * t) 51 (-1074 + -51) (-1074) (by omega) (by omega) (by decide) (by decide) (by decide) (.inr rfl)
        rw [show 2 * t * 2 ^ 51 = t * 4503599627370496 by omega] at this
        rw [this, hw]; simp
    rw [hd]
    constructor
    · unfold Format.mul; rw [read_small c, read_two]; exact congrArg some key
    · unfold Format.mul; rw [read_small c, read_two]
      refine congrArg some ?_
      show double.nearest (false ^^ false) (4503599627370496 * t) (-51 + -1074) = 2 * t
      rw [Nat.mul_comm, Int.add_comm]; exact key
  · have hd : dbl t = t + 4503599627370496 := by unfold dbl; rw [if_neg c]
    have hdm := Nat.div_add_mod t 4503599627370496
    have hmm := Nat.mod_lt t (show 0 < 4503599627370496 by decide)
    have key : double.nearest (false ^^ false) ((4503599627370496 + t % 4503599627370496) * 4503599627370496) (-1074 + (t / 4503599627370496 - 1 : Nat) + -51) = t + 4503599627370496 := by
      have := nearest_exact (false ^^ false) (4503599627370496 + t % 4503599627370496) 52 (-1074 + (t / 4503599627370496 - 1 : Nat) + -51) (-1074 + (t / 4503599627370496 : Nat)) (by omega) (by omega) (by omega) (by omega) (by omega) (.inl (by omega))
      rw [show (2 : Nat) ^ 52 = 4503599627370496 by decide] at this
      rw [this, hw]
      have e : (-1074 + ((t / 4503599627370496 : Nat) : Int) + 1074).toNat = t / 4503599627370496 := by omega
      rw [e]; omega
    rw [hd]
    constructor
    · unfold Format.mul; rw [read_normal (by omega) (by omega), read_two]; exact congrArg some key
    · unfold Format.mul; rw [read_two, read_normal (r := t) (by omega) (by omega)]
      refine congrArg some ?_
      show double.nearest (false ^^ false) (4503599627370496 * (4503599627370496 + t % 4503599627370496)) (-51 + (-1074 + (t / 4503599627370496 - 1 : Nat))) = t + 4503599627370496
      rw [Nat.mul_comm, Int.add_comm]; exact key

theorem div_two {t : Nat} (h0 : 9007199254740992 ≤ t) (h : t < 9218868437227405312) : double.div t two = some (t - 4503599627370496) := by
  have hdm := Nat.div_add_mod t 4503599627370496
  have hmm := Nat.mod_lt t (show 0 < 4503599627370496 by decide)
  unfold Format.div
  rw [read_normal (by omega) h, read_two]
  generalize hM : 4503599627370496 + t % 4503599627370496 = M
  have hl : M.log2 = 52 := by rw [Nat.log2_eq_iff (by omega)]; omega
  have hl2 : Nat.log2 4503599627370496 = 52 := by decide +kernel
  have hf : double.fractionBits + 2 = 54 := rfl
  simp only [Datum.quotient]
  rw [hf, hl, hl2, if_neg (by decide)]
  have hs : M <<< (54 + 52 - 52) = M * 4 * 4503599627370496 := by rw [Nat.shiftLeft_eq]; omega
  rw [hs, Nat.mul_div_cancel _ (by decide), Nat.mul_mod_left]
  refine congrArg some ?_
  show double.nearest (false ^^ false) (2 * (M * 4) + (0 != 0).toNat) _ = _
  have e0 : 2 * (M * 4) + ((0 : Nat) != 0).toNat = M * 2 ^ 3 := by simp; omega
  rw [e0]
  have := nearest_exact (false ^^ false) M 3 (-1074 + ((t / 4503599627370496 - 1 : Nat) : Int) - -51 - ((54 + 52 - 52 : Nat) : Int) - 1) (-1074 + ((t / 4503599627370496 - 2 : Nat) : Int)) (by omega) (by omega) (by omega) (by omega) (by omega) (.inl (by omega))
  rw [this]
  show (-1074 + ((t / 4503599627370496 - 2 : Nat) : Int) + 1074).toNat * 4503599627370496 + M = _
  have e : (-1074 + ((t / 4503599627370496 - 2 : Nat) : Int) + 1074).toNat = t / 4503599627370496 - 2 := by omega
  rw [e]; omega
end Go.Proofs.YtinopkmcddjgdaaGreatDoor.FB
namespace Go.Proofs.YtinopkmcddjgdaaGreatDoor.FB
open Ieee

/-- No NaN. -/
def NN (x : Nat) : Prop := x < 18446744073709551616 ∧ x % 9223372036854775808 ≤ 9218868437227405312
def key (x : Nat) : Int := if x < 9223372036854775808 then x else -((x % 9223372036854775808 : Nat) : Int)
def sv (k : Int) : Int := if 0 ≤ k then vl k.toNat else -(vl (-k).toNat : Int)
theorem vl_zero : vl 0 = 0 := by decide +kernel
theorem vl_pos {r : Nat} (h : 0 < r) : 0 < vl r := by have := vl_lt h; rw [vl_zero] at this; exact this
theorem sv_lt {k l : Int} (h : k < l) : sv k < sv l := by
  unfold sv
  by_cases hk : 0 ≤ k
  · rw [if_pos hk, if_pos (by omega)]
    have := vl_lt (show k.toNat < l.toNat by omega)
    omega
  · rw [if_neg hk]
    have h1 := vl_pos (show 0 < (-k).toNat by omega)
    by_cases hl : 0 ≤ l
    · rw [if_pos hl]; omega
    · rw [if_neg hl]
      have := vl_lt (show (-l).toNat < (-k).toNat by omega)
      omega
theorem cmp_sv (k l : Int) : compare (sv k) (sv l) = compare k l := by
  rcases Int.lt_trichotomy k l with h | h | h
  · rw [Int.compare_eq_lt.2 h, Int.compare_eq_lt.2 (sv_lt h)]
  · rw [h, Int.compare_eq_eq.2 rfl, Int.compare_eq_eq.2 rfl]
  · rw [Int.compare_eq_gt.2 h, Int.compare_eq_gt.2 (sv_lt h)]
theorem cmp_scale (p q : Int) (c : Nat) (hc : 0 < c) : compare (p * c) (q * c) = compare p q := by
  have hc' : (0 : Int) < c := by omega
  rcases Int.lt_trichotomy p q with h | h | h
  · rw [Int.compare_eq_lt.2 h, Int.compare_eq_lt.2 (Int.mul_lt_mul_of_pos_right h hc')]
  · rw [h, Int.compare_eq_eq.2 rfl, Int.compare_eq_eq.2 rfl]
  · rw [Int.compare_eq_gt.2 h, Int.compare_eq_gt.2 (Int.mul_lt_mul_of_pos_right h hc')]

/-- A finite word, read. -/
theorem read_fin {x : Nat} (hx : x < 18446744073709551616) (h : x % 9223372036854775808 < 9218868437227405312) : ∃ s m e, double.read x = .number s m e ∧ -1074 ≤ e ∧ ∀ base : Int, -1074 ≤ base → base ≤ e → sv (key x) = signed s m (e - base).toNat * ((2 ^ (base + 1074).toNat : Nat) : Int) := by
  obtain ⟨m, e, hr, he, hv⟩ := read_pos h
  have hr' : double.read x = .number (x / 9223372036854775808 % 2 == 1) m e := by
    rw [read_eq] at hr ⊢
    rw [Nat.mod_mod] at hr
    by_cases c1 : x % 9223372036854775808 < 4503599627370496
    · rw [if_pos c1] at hr ⊢; injection hr with _ h5 h6; rw [h5, h6]
    · rw [if_neg c1] at hr ⊢
      rw [if_pos h] at hr ⊢; injection hr with _ h5 h6; rw [h5, h6]
  refine ⟨_, m, e, hr', he, fun base hb hbe => ?_⟩
  have hpow : vl (x % 9223372036854775808) = m * 2 ^ (e - base).toNat * 2 ^ (base + 1074).toNat := by
    rw [hv, Nat.mul_assoc, ← Nat.pow_add, show (e - base).toNat + (base + 1074).toNat = (e + 1074).toNat by omega]
  unfold sv key
  by_cases c : x < 9223372036854775808
  · have hs : (x / 9223372036854775808 % 2 == 1) = false := by rw [Nat.div_eq_of_lt c]; rfl
    rw [if_pos c, if_pos (by omega), hs, signed_false, Int.toNat_natCast]
    rw [Nat.mod_eq_of_lt c] at hpow
    rw [hpow, Int.natCast_mul]
  · have hs : (x / 9223372036854775808 % 2 == 1) = true := by rw [show x / 9223372036854775808 = 1 by omega]; rfl
    rw [if_neg c, hs, signed_true]
    rw [Int.neg_mul, ← Int.natCast_mul, ← hpow]
    by_cases h0 : x % 9223372036854775808 = 0
    · rw [h0, vl_zero]; simp [vl_zero]
    · rw [if_neg (by omega), Int.neg_neg, Int.toNat_natCast]

theorem order_fin {a b : Nat} (ha : a < 18446744073709551616) (hb : b < 18446744073709551616) (ha' : a % 9223372036854775808 < 9218868437227405312) (hb' : b % 9223372036854775808 < 9218868437227405312) : double.order a b = some (compare (key a) (key b)) := by
  obtain ⟨s, m, i, ra, hi, va⟩ := read_fin ha ha'
  obtain ⟨t, n, j, rb, hj, vb⟩ := read_fin hb hb'
  unfold Format.order
  rw [ra, rb]
  simp only [Datum.order]
  congr 1
  have e1 := va (min i j) (by omega) (by omega)
  have e2 := vb (min i j) (by omega) (by omega)
  rw [← cmp_sv (key a) (key b), e1, e2, cmp_scale _ _ _ (Nat.two_pow_pos _)]

theorem read_inf {x : Nat} (_hx : x < 18446744073709551616) (h : x % 9223372036854775808 = 9218868437227405312) : double.read x = .infinity (x / 9223372036854775808 % 2 == 1) := by
  rw [read_eq, h]; rfl
theorem key_inf {x : Nat} (hx : x < 18446744073709551616) (h : x % 9223372036854775808 = 9218868437227405312) : (key x = 9218868437227405312 ∧ (x / 9223372036854775808 % 2 == 1) = false) ∨ (key x = -9218868437227405312 ∧ (x / 9223372036854775808 % 2 == 1) = true) := by
  unfold key
  by_cases c : x < 9223372036854775808
  · left; rw [if_pos c]
    refine ⟨by omega, ?_⟩
    rw [Nat.div_eq_of_lt c]; rfl
  · right; rw [if_neg c, h]
    refine ⟨rfl, ?_⟩
    rw [show x / 9223372036854775808 = 1 by omega]; rfl
theorem key_bd {x : Nat} (h : x % 9223372036854775808 < 9218868437227405312) : -9218868437227405312 < key x ∧ key x < 9218868437227405312 := by
  unfold key; split <;> omega

theorem order_key {a b : Nat} (ha : NN a) (hb : NN b) : double.order a b = some (compare (key a) (key b)) := by
  obtain ⟨ha1, ha2⟩ := ha
  obtain ⟨hb1, hb2⟩ := hb
  rcases Nat.lt_or_eq_of_le ha2 with ha3 | ha3
  · rcases Nat.lt_or_eq_of_le hb2 with hb3 | hb3
    · exact order_fin ha1 hb1 ha3 hb3
    · obtain ⟨s, m, i, ra, _⟩ := read_fin ha1 ha3
      have hk := key_bd ha3
      unfold Format.order
      rw [ra, read_inf hb1 hb3]
      simp only [Datum.order]
      congr 1
      rcases key_inf hb1 hb3 with ⟨h1, h2⟩ | ⟨h1, h2⟩
      · rw [h1, h2, Int.compare_eq_lt.2 (by omega)]; rfl
      · rw [h1, h2, Int.compare_eq_gt.2 (by omega)]; rfl
  · rcases Nat.lt_or_eq_of_le hb2 with hb3 | hb3
    · obtain ⟨s, m, i, rb, _⟩ := read_fin hb1 hb3
      have hk := key_bd hb3
      unfold Format.order
      rw [rb, read_inf ha1 ha3]
      simp only [Datum.order]
      congr 1
      rcases key_inf ha1 ha3 with ⟨h1, h2⟩ | ⟨h1, h2⟩
      · rw [h1, h2, Int.compare_eq_gt.2 (by omega)]; rfl
      · rw [h1, h2, Int.compare_eq_lt.2 (by omega)]; rfl
    · unfold Format.order
      rw [read_inf ha1 ha3, read_inf hb1 hb3]
      simp only [Datum.order]
      congr 1
      rcases key_inf ha1 ha3 with ⟨h1, h2⟩ | ⟨h1, h2⟩ <;> rcases key_inf hb1 hb3 with ⟨h3, h4⟩ | ⟨h3, h4⟩ <;> rw [h1, h2, h3, h4] <;> decide
end Go.Proofs.YtinopkmcddjgdaaGreatDoor.FB
namespace Go.Proofs.YtinopkmcddjgdaaGreatDoor.FB
open Ieee

theorem cut_le2 (neg : Bool) (n drop m : Nat) (h : n ≤ m * 2 ^ drop) : Toward.even.cut neg n drop ≤ m := by
  unfold Toward.cut
  have hb : ∀ b : Bool, b.toNat ≤ 1 := by intro b; cases b <;> decide
  simp only
  by_cases hd : drop ≤ n.log2 + 2
  · rw [Nat.min_eq_left hd, Nat.one_shiftLeft]
    have hp := Nat.two_pow_pos drop
    have hdm := Nat.div_add_mod n (2 ^ drop)
    rcases Nat.lt_or_ge (n / 2 ^ drop) m with hlt | hge
    · have := hb (decide (2 ^ drop < 2 * (n % 2 ^ drop)) || (2 ^ drop == 2 * (n % 2 ^ drop) && n / 2 ^ drop % 2 == 1))
      omega
    · have hmul : m * 2 ^ drop ≤ 2 ^ drop * (n / 2 ^ drop) := by rw [Nat.mul_comm]; exact Nat.mul_le_mul_left _ hge
      have h0 : n % 2 ^ drop = 0 := by omega
      have hq : n / 2 ^ drop = m := by
        refine Nat.le_antisymm ?_ hge
        exact Nat.div_le_of_le_mul (by rw [Nat.mul_comm]; exact h)
      rw [h0, hq]
      have e1 : decide (2 ^ drop < 2 * 0) = false := by simp
      have e2 : ((2 ^ drop == 2 * 0) : Bool) = false := by simp
      rw [e1, e2]
      simp
  · rw [Nat.min_eq_right (by omega), Nat.one_shiftLeft]
    by_cases h0 : n = 0
    · subst h0; simp
    have hn : n < 2 ^ (n.log2 + 1) := Nat.lt_log2_self
    have e : 2 ^ (n.log2 + 2) = 2 * 2 ^ (n.log2 + 1) := by rw [Nat.pow_succ 2 (n.log2 + 1)]; omega
    have hn2 : n < 2 ^ (n.log2 + 2) := by omega
    rw [Nat.div_eq_of_lt hn2, Nat.mod_eq_of_lt hn2]
    have e1 : decide (2 ^ (n.log2 + 2) < 2 * n) = false := by rw [decide_eq_false_iff_not]; omega
    have e2 : ((2 ^ (n.log2 + 2) == 2 * n) : Bool) = false := by rw [beq_eq_false_iff_ne]; omega
    rw [e1, e2]
    simp

/-- A word by its rung and what stands on it. -/
theorem word_parts (B : Nat) : ∃ q m, B = q * 4503599627370496 + m ∧ vl B = m * 2 ^ q ∧ m < 9007199254740992 ∧ (q = 0 ∨ 4503599627370496 ≤ m) := by
  unfold vl
  by_cases c : B < 4503599627370496
  · rw [if_pos c]; exact ⟨0, B, by omega, by simp, by omega, .inl rfl⟩
  · rw [if_neg c]
    have hm := Nat.mod_lt B (show 0 < 4503599627370496 by decide)
    have hd := Nat.div_add_mod B 4503599627370496
    exact ⟨B / 4503599627370496 - 1, 4503599627370496 + B % 4503599627370496, by omega, rfl, by omega, .inr (by omega)⟩

/-- At most that word in size. -/
def Wd (B x : Nat) : Prop := x < 18446744073709551616 ∧ x % 9223372036854775808 ≤ B
theorem Wd.mono {B C x : Nat} (h : Wd B x) (hc : B ≤ C) : Wd C x := ⟨h.1, Nat.le_trans h.2 hc⟩

theorem nearest_word (neg : Bool) (mag : Nat) (place : Int) (B : Nat) (hB : B < 9218868437227405312) (h : mag * 2 ^ (place + 1074).toNat ≤ vl B * 2 ^ (-1074 - place).toNat) : Wd B (double.nearest neg mag place) := by
  unfold Format.nearest
  have hword : ∀ r, r ≤ B → Wd B (double.word neg r) := by
    intro r hr
    unfold Format.word
    rw [sw]
    unfold Wd
    split <;> constructor <;> omega
  by_cases h0 : mag = 0
  · rw [if_pos h0]; exact hword 0 (Nat.zero_le _)
  rw [if_neg h0]
  simp only
  refine hword _ ?_
  refine Nat.le_trans (Nat.min_le_left _ _) ?_
  have hf : (double.fractionBits : Int) = 52 := by rfl
  rw [bn, lp, hf]
  obtain ⟨qB, mB, eB, vB, mB53, hmB⟩ := word_parts B
  have h1 : mag < 2 ^ (mag.log2 + 1) := Nat.lt_log2_self
  have h2 : 2 ^ mag.log2 ≤ mag := Nat.log2_self_le h0
  by_cases hc : place + (mag.log2 : Int) - 52 ≤ -1074
  · rw [Int.max_eq_right hc]
    have e0 : ((-1074 : Int) - -1074).toNat = 0 := by decide
    rw [e0]
    have ea : (place - -1074).toNat = (place + 1074).toNat := by omega
    rw [ea]
    have hcut : Toward.even.cut neg (mag <<< (place + 1074).toNat) (-1074 - place).toNat ≤ vl B := cut_le2 _ _ _ _ (by rw [Nat.shiftLeft_eq]; exact h)
    rcases hmB with rfl | hmB
    · rw [vB] at hcut
      simp at hcut eB
      omega
    · by_cases hq : qB = 0
      · subst hq
        rw [vB] at hcut
        simp at hcut eB
        omega
      · have hcut2 : Toward.even.cut neg (mag <<< (place + 1074).toNat) (-1074 - place).toNat ≤ 2 ^ 53 := by
          refine cut_le2 _ _ _ _ ?_
          rw [Nat.shiftLeft_eq]
          by_cases hp : -1074 ≤ place
          · have e1 : (-1074 - place).toNat = 0 := by omega
            rw [e1]
            have : mag * 2 ^ (place + 1074).toNat < 2 ^ (mag.log2 + 1) * 2 ^ (place + 1074).toNat := Nat.mul_lt_mul_of_pos_right h1 (Nat.two_pow_pos _)
            rw [← Nat.pow_add] at this
            have h2 : 2 ^ (mag.log2 + 1 + (place + 1074).toNat) ≤ 2 ^ 53 := Nat.pow_le_pow_right (by decide) (by omega)
            omega
          · have e1 : (place + 1074).toNat = 0 := by omega
            rw [e1, Nat.pow_zero, Nat.mul_one, ← Nat.pow_add]
            exact Nat.le_trans (Nat.le_of_lt h1) (Nat.pow_le_pow_right (by decide) (by omega))
        have h53 : (2 : Nat) ^ 53 = 9007199254740992 := by decide
        rw [h53] at hcut2
        have : 4503599627370496 ≤ qB * 4503599627370496 := Nat.le_mul_of_pos_left _ (by omega)
        omega
  · rw [Int.max_eq_left (by omega)]
    generalize hL : mag.log2 = L at *
    generalize ha : (place + 1074).toNat = a at *
    generalize hb : (-1074 - place).toNat = b at *
    obtain ⟨q, hq⟩ : ∃ q : Nat, place + (L : Int) - 52 - -1074 = q := ⟨(place + (L : Int) - 52 - -1074).toNat, by omega⟩
    rw [hq]
    have hqB : q ≤ qB := by
      have s1 : 2 ^ (L + a) ≤ mag * 2 ^ a := by rw [Nat.pow_add]; exact Nat.mul_le_mul_right _ h2
      have s2 : vl B * 2 ^ b < 2 ^ (53 + qB + b) := by
        rw [vB, Nat.pow_add, Nat.pow_add]
        exact Nat.mul_lt_mul_of_pos_right (Nat.mul_lt_mul_of_pos_right mB53 (Nat.two_pow_pos _)) (Nat.two_pow_pos _)
      have s3 : 2 ^ (L + a) < 2 ^ (53 + qB + b) := by omega
      have s4 : L + a < 53 + qB + b := (Nat.pow_lt_pow_iff_right (by decide)).1 s3
      omega
    have e1 : (place - (place + (L : Int) - 52)).toNat = 52 - L := by omega
    have e2 : (place + (L : Int) - 52 - place).toNat = L - 52 := by omega
    rw [e1, e2, Int.toNat_natCast]
    by_cases hqq : q = qB
    · subst hqq
      have hcut : Toward.even.cut neg (mag <<< (52 - L)) (L - 52) ≤ mB := by
        refine cut_le2 _ _ _ _ ?_
        rw [Nat.shiftLeft_eq]
        rw [vB] at h
        by_cases hp : L ≤ 52
        · rw [show L - 52 = 0 by omega, Nat.pow_zero, Nat.mul_one]
          have ea : a = (52 - L) + (q + b) := by omega
          rw [ea, Nat.pow_add, ← Nat.mul_assoc, Nat.mul_assoc mB, ← Nat.pow_add] at h
          exact Nat.le_of_mul_le_mul_right h (Nat.two_pow_pos _)
        · rw [show 52 - L = 0 by omega, Nat.pow_zero, Nat.mul_one]
          rw [Nat.mul_assoc, ← Nat.pow_add, show q + b = (L - 52) + a by omega, Nat.pow_add, ← Nat.mul_assoc] at h
          exact Nat.le_of_mul_le_mul_right h (Nat.two_pow_pos _)
      omega
    · have hcut : Toward.even.cut neg (mag <<< (52 - L)) (L - 52) ≤ 2 ^ 53 := by
        refine cut_le2 _ _ _ _ ?_
        rw [Nat.shiftLeft_eq]
        by_cases hp : L ≤ 52
        · rw [show L - 52 = 0 by omega, Nat.pow_zero, Nat.mul_one]
          have : mag * 2 ^ (52 - L) < 2 ^ (L + 1) * 2 ^ (52 - L) := Nat.mul_lt_mul_of_pos_right h1 (Nat.two_pow_pos _)
          rw [← Nat.pow_add, show L + 1 + (52 - L) = 53 by omega] at this
          omega
        · rw [show 52 - L = 0 by omega, Nat.pow_zero, Nat.mul_one, ← Nat.pow_add, show 53 + (L - 52) = L + 1 by omega]
          exact Nat.le_of_lt h1
      have h53 : (2 : Nat) ^ 53 = 9007199254740992 := by decide
      rw [h53] at hcut
      have hm : 4503599627370496 ≤ mB := by rcases hmB with h | h <;> omega
      have : (q + 1) * 4503599627370496 ≤ qB * 4503599627370496 := Nat.mul_le_mul_right _ (by omega)
      rw [Nat.add_mul] at this
      generalize Toward.even.cut neg _ _ = c at hcut ⊢
      omega
end Go.Proofs.YtinopkmcddjgdaaGreatDoor.FB
namespace Go.Proofs.YtinopkmcddjgdaaGreatDoor.FB
open Ieee

theorem vl_le {a b : Nat} (h : a ≤ b) : vl a ≤ vl b := by
  rcases Nat.lt_or_eq_of_le h with h | h
  · exact Nat.le_of_lt (vl_lt h)
  · rw [h]; exact Nat.le_refl _
/-- A finite word, read: what it stands for, in size. -/
theorem read_mag {x : Nat} (h : x % 9223372036854775808 < 9218868437227405312) : ∃ s m e, double.read x = .number s m e ∧ -1074 ≤ e ∧ vl (x % 9223372036854775808) = m * 2 ^ (e + 1074).toNat := by
  obtain ⟨m, e, hr, he, hv⟩ := read_pos h
  have hr' : double.read x = .number (x / 9223372036854775808 % 2 == 1) m e := by
    rw [read_eq] at hr ⊢
    rw [Nat.mod_mod] at hr
    by_cases c1 : x % 9223372036854775808 < 4503599627370496
    · rw [if_pos c1] at hr ⊢; injection hr with _ h5 h6; rw [h5, h6]
    · rw [if_neg c1] at hr ⊢
      rw [if_pos h] at hr ⊢; injection hr with _ h5 h6; rw [h5, h6]
  exact ⟨_, m, e, hr', he, hv⟩
theorem Wd.num {B x : Nat} (h : Wd B x) (hB : B < 9218868437227405312) : Num x := by
  obtain ⟨s, m, e, hr, _⟩ := read_mag (x := x) (by have := h.2; omega)
  exact ⟨s, m, e, hr⟩
theorem cancel (a b k : Nat) (h : a * 2 ^ k ≤ b * 2 ^ k) : a ≤ b := Nat.le_of_mul_le_mul_right h (Nat.two_pow_pos k)
theorem vl_one : ∃ k : Nat, (k : Int) = 1074 ∧ vl 4607182418800017408 = 2 ^ k := by
  unfold vl
  rw [if_neg (by decide)]
  obtain ⟨u, hu, hu2⟩ : ∃ u : Nat, 4607182418800017408 / 4503599627370496 - 1 = u ∧ u = 1022 := ⟨_, rfl, by decide⟩
  refine ⟨52 + u, by omega, ?_⟩
  rw [hu, show 4503599627370496 + 4607182418800017408 % 4503599627370496 = 2 ^ 52 by decide, ← Nat.pow_add]
theorem FM_wd {X Y x y : Nat} (hx : Wd X x) (hy : Wd Y y) (hX : X < 9218868437227405312) (hY : Y < 9218868437227405312) (B : Nat) (hB : B < 9218868437227405312) (h : vl X * vl Y ≤ vl B * vl 4607182418800017408) : Wd B (FM x y) := by
  obtain ⟨K, hK, eK⟩ := vl_one
  rw [eK] at h
  obtain ⟨s, m, e, hr, he, hv⟩ := read_mag (x := x) (by have := hx.2; omega)
  obtain ⟨t, n, f, hs, hf, hw⟩ := read_mag (x := y) (by have := hy.2; omega)
  have h1 := vl_le hx.2
  have h2 := vl_le hy.2
  rw [hv] at h1
  rw [hw] at h2
  unfold FM Format.mul
  rw [hr, hs]
  show Wd B (double.nearest _ _ _)
  refine nearest_word _ _ _ _ hB ?_
  have h3 : (m * 2 ^ (e + 1074).toNat) * (n * 2 ^ (f + 1074).toNat) ≤ vl B * 2 ^ K := Nat.le_trans (Nat.mul_le_mul h1 h2) h
  have e3 : (m * 2 ^ (e + 1074).toNat) * (n * 2 ^ (f + 1074).toNat) = m * n * 2 ^ ((e + 1074).toNat + (f + 1074).toNat) := by
    rw [Nat.pow_add, Nat.mul_mul_mul_comm]
  rw [e3] at h3
  generalize ha : (e + f + 1074).toNat = a
  generalize hb : (-1074 - (e + f)).toNat = b
  generalize hc : (e + 1074).toNat + (f + 1074).toNat = c at h3
  by_cases k : K ≤ c
  · rw [show b = 0 by omega, Nat.pow_zero, Nat.mul_one]
    rw [show c = a + K by omega, Nat.pow_add, ← Nat.mul_assoc] at h3
    exact cancel _ _ _ h3
  · rw [show a = 0 by omega, Nat.pow_zero, Nat.mul_one]
    rw [show K = b + c by omega, Nat.pow_add, ← Nat.mul_assoc] at h3
    exact cancel _ _ _ h3
theorem FA_wd {X Y x y : Nat} (hx : Wd X x) (hy : Wd Y y) (hX : X < 9218868437227405312) (hY : Y < 9218868437227405312) (B : Nat) (hB : B < 9218868437227405312) (h : vl X + vl Y ≤ vl B) : Wd B (FA x y) := by
  obtain ⟨s, m, e, hr, he, hv⟩ := read_mag (x := x) (by have := hx.2; omega)
  obtain ⟨t, n, f, hs, hf, hw⟩ := read_mag (x := y) (by have := hy.2; omega)
  have h1 := vl_le hx.2
  have h2 := vl_le hy.2
  rw [hv] at h1
  rw [hw] at h2
  unfold FA Format.add
  rw [hr, hs]
  show Wd B (double.nearest _ _ _)
  refine nearest_word _ _ _ _ hB ?_
  generalize hb : min e f = base
  have a1 := signed_abs s m (e - base).toNat
  have a2 := signed_abs t n (f - base).toNat
  have hle : (signed s m (e - base).toNat + signed t n (f - base).toNat).natAbs ≤ m * 2 ^ (e - base).toNat + n * 2 ^ (f - base).toNat := by omega
  rw [show (-1074 - base).toNat = 0 by omega, Nat.pow_zero, Nat.mul_one]
  refine Nat.le_trans (Nat.mul_le_mul_right _ hle) ?_
  rw [Nat.add_mul, Nat.mul_assoc, Nat.mul_assoc, ← Nat.pow_add, ← Nat.pow_add, show (e - base).toNat + (base + 1074).toNat = (e + 1074).toNat by omega, show (f - base).toNat + (base + 1074).toNat = (f + 1074).toNat by omega]
  omega
/-- A magnitude that is not nothing is not rounded to nothing. -/
theorem nearest_ne (neg : Bool) (mag : Nat) (place : Int) (h0 : mag ≠ 0) (hp : -1074 ≤ place) : double.nearest neg mag place % 9223372036854775808 ≠ 0 := by
  unfold Format.nearest
  rw [if_neg h0]
  simp only
  have hf : (double.fractionBits : Int) = 52 := by rfl
  rw [bn, lp, hf, ir]
  have hword : ∀ r, r ≠ 0 → r ≤ 9218868437227405312 → double.word neg r % 9223372036854775808 ≠ 0 := by
    intro r hr hr2
    unfold Format.word
    rw [sw]
    split <;> omega
  refine hword _ ?_ (Nat.min_le_right _ _)
  by_cases hc : place + (mag.log2 : Int) - 52 ≤ -1074
  · rw [Int.max_eq_right hc]
    have e1 : (-1074 - place).toNat = 0 := by omega
    rw [e1]
    have e2 := cut_exact neg (mag <<< (place - -1074).toNat) 0
    rw [Nat.pow_zero, Nat.mul_one] at e2
    rw [e2, Nat.shiftLeft_eq]
    have : 0 < mag * 2 ^ (place - -1074).toNat := Nat.mul_pos (Nat.pos_of_ne_zero h0) (Nat.two_pow_pos _)
    omega
  · rw [Int.max_eq_left (by omega)]
    obtain ⟨q, hq⟩ : ∃ q : Nat, place + (mag.log2 : Int) - 52 - -1074 = q := ⟨(place + (mag.log2 : Int) - 52 - -1074).toNat, by omega⟩
    rw [hq, Int.toNat_natCast]
    have : 4503599627370496 ≤ q * 4503599627370496 := Nat.le_mul_of_pos_left _ (by omega)
    omega
theorem FA_ne {x y : Nat} (hx : x % 9223372036854775808 < 9218868437227405312) (hy : y % 9223372036854775808 < x % 9223372036854775808) : FA x y % 9223372036854775808 ≠ 0 := by
  obtain ⟨s, m, e, hr, he, hv⟩ := read_mag (x := x) hx
  obtain ⟨t, n, f, hs, hf, hw⟩ := read_mag (x := y) (by omega)
  have h1 := vl_lt hy
  rw [hv, hw] at h1
  unfold FA Format.add
  rw [hr, hs]
  show double.nearest _ _ _ % 9223372036854775808 ≠ 0
  generalize hb : min e f = base
  refine nearest_ne _ _ _ ?_ (by omega)
  have a1 := signed_abs s m (e - base).toNat
  have a2 := signed_abs t n (f - base).toNat
  have h2 : n * 2 ^ (f - base).toNat * 2 ^ (base + 1074).toNat < m * 2 ^ (e - base).toNat * 2 ^ (base + 1074).toNat := by
    rw [Nat.mul_assoc, Nat.mul_assoc, ← Nat.pow_add, ← Nat.pow_add, show (e - base).toNat + (base + 1074).toNat = (e + 1074).toNat by omega, show (f - base).toNat + (base + 1074).toNat = (f + 1074).toNat by omega]
    exact h1
  have h3 : n * 2 ^ (f - base).toNat < m * 2 ^ (e - base).toNat := Nat.lt_of_mul_lt_mul_right h2
  omega
end Go.Proofs.YtinopkmcddjgdaaGreatDoor.FB
namespace Go.Proofs.YtinopkmcddjgdaaGreatDoor.FB
open Ieee

theorem word_nn (neg : Bool) {r : Nat} (h : r ≤ 9218868437227405312) : NN (double.word neg r) := by
  unfold Format.word NN
  rw [sw]
  split <;> constructor <;> omega
theorem nearest_nn (neg : Bool) (mag : Nat) (place : Int) : NN (double.nearest neg mag place) := by
  unfold Format.nearest
  split
  · exact word_nn neg (by omega)
  · refine word_nn neg ?_
    rw [ir]
    exact Nat.min_le_right _ _
theorem nearest_pos (mag : Nat) (place : Int) : 0 ≤ key (double.nearest false mag place) := by
  have h : double.nearest false mag place ≤ 9218868437227405312 := by
    unfold Format.nearest Format.word
    split
    · simp
    · simp only [Bool.false_eq_true, if_false]
      rw [ir]
      exact Nat.min_le_right _ _
  unfold key
  rw [if_pos (by omega)]; omega
theorem add_nn {x y : Nat} (hx : Num x) (hy : Num y) : ∃ r, double.add x y = some r ∧ NN r := by
  obtain ⟨s, m, i, rx⟩ := hx
  obtain ⟨t, n, j, ry⟩ := hy
  unfold Format.add
  rw [rx, ry]
  exact ⟨_, rfl, nearest_nn _ _ _⟩
theorem sub_nn {x y : Nat} (hx : Num x) (hy : Num y) : ∃ r, double.sub x y = some r ∧ NN r := by
  obtain ⟨s, m, i, rx⟩ := hx
  obtain ⟨t, n, j, ry⟩ := hy
  unfold Format.sub
  rw [rx, ry]
  exact ⟨_, rfl, nearest_nn _ _ _⟩
theorem mul_nn {x y : Nat} (hx : Num x) (hy : Num y) : ∃ r, double.mul x y = some r ∧ NN r := by
  obtain ⟨s, m, i, rx⟩ := hx
  obtain ⟨t, n, j, ry⟩ := hy
  unfold Format.mul
  rw [rx, ry]
  exact ⟨_, rfl, nearest_nn _ _ _⟩
theorem key_ne_zero {x : Nat} (h : key x ≠ 0) : x % 9223372036854775808 ≠ 0 := by
  intro c; apply h; unfold key; split <;> omega
theorem div_nn {x y : Nat} (hx : Num x) (hy : Num y) (h0 : key y ≠ 0) : ∃ r, double.div x y = some r ∧ NN r := by
  obtain ⟨s, m, i, rx⟩ := hx
  obtain ⟨t, n, j, ry⟩ := hy
  have hn : n ≠ 0 := fun c => key_ne_zero h0 ((num_bd ry).2.2.2.1 c)
  unfold Format.div
  rw [rx, ry]
  simp only [Datum.quotient]
  rw [if_neg hn]
  exact ⟨_, rfl, nearest_nn _ _ _⟩

theorem root_spec (n : Nat) : ∀ (todo root : Nat), root * root ≤ n → n < (root + 2 ^ todo) * (root + 2 ^ todo) → Datum.rootFrom n todo root * Datum.rootFrom n todo root ≤ n ∧ n < (Datum.rootFrom n todo root + 1) * (Datum.rootFrom n todo root + 1) := by
  intro todo
  induction todo with
  | zero => intro root h1 h2; exact ⟨h1, h2⟩
  | succ k ih =>
    intro root h1 h2
    unfold Datum.rootFrom
    rw [Nat.one_shiftLeft]
    simp only
    by_cases c : (root + 2 ^ k) * (root + 2 ^ k) ≤ n
    · rw [if_pos c]
      refine ih _ c ?_
      rw [show root + 2 ^ k + 2 ^ k = root + 2 ^ (k + 1) by rw [Nat.pow_succ]; omega]
      exact h2
    · rw [if_neg c]
      exact ih _ h1 (by omega)
theorem root_of (n : Nat) : Datum.rootFrom n (n.log2 / 2 + 1) 0 * Datum.rootFrom n (n.log2 / 2 + 1) 0 ≤ n ∧ n < (Datum.rootFrom n (n.log2 / 2 + 1) 0 + 1) * (Datum.rootFrom n (n.log2 / 2 + 1) 0 + 1) := by
  refine root_spec n _ 0 (Nat.zero_le _) ?_
  rw [Nat.zero_add, ← Nat.pow_add]
  exact Nat.lt_of_lt_of_le Nat.lt_log2_self (Nat.pow_le_pow_right (by decide) (by omega))
theorem sq_lt {a b : Nat} (h : a * a < b * b) : a < b := by
  rcases Nat.lt_or_ge a b with c | c
  · exact c
  · have := Nat.mul_le_mul c c; omega

/-- The root of a number from 0 on: finite, from 0 on. -/
theorem sqrt_nn {x : Nat} (hx : Num x) (h0 : 0 ≤ key x) (hw : x < 18446744073709551616) : ∃ r, double.sqrt x = some r ∧ NN r ∧ 0 ≤ key r ∧ key r < 9218868437227405312 := by
  obtain ⟨s, m, i, rx⟩ := hx
  obtain ⟨b1, b2, b3, b4, b5⟩ := num_bd rx
  unfold Format.sqrt
  rw [rx]
  simp only [Datum.root]
  by_cases hm : m = 0
  · rw [if_pos hm]
    refine ⟨_, rfl, nearest_nn _ _ _, ?_⟩
    show 0 ≤ key (double.nearest s m i) ∧ key (double.nearest s m i) < 9218868437227405312
    unfold Format.nearest Format.word
    rw [if_pos hm, sw]
    cases s <;> decide
  · rw [if_neg hm]
    have hs : s = false := by
      rw [b5]
      have hlow : x < 9223372036854775808 := by
        rcases Nat.lt_or_ge x 9223372036854775808 with c | c
        · exact c
        · have hz : x % 9223372036854775808 = 0 := by unfold key at h0; rw [if_neg (by omega)] at h0; omega
          exfalso
          rw [read_eq, hz] at rx
          simp at rx
          exact hm rx.2.1.symm
      rw [Nat.div_eq_of_lt hlow]; rfl
    rw [if_neg (by rw [hs]; decide)]
    refine ⟨_, rfl, nearest_nn _ _ _, nearest_pos _ _, ?_⟩
    have hf : double.fractionBits = 52 := rfl
    rw [hf]
    generalize hmore : 2 * (52 + 2) - m.log2 + ((i - ((2 * (52 + 2) - m.log2 : Nat) : Int)) % 2).toNat = more
    have hlog : m.log2 ≤ 52 := by
      have : m.log2 < 53 := (Nat.log2_lt hm).2 (by omega)
      omega
    have hmo : more ≤ 109 - m.log2 ∧ 56 ≤ more := by omega
    have hn : m <<< more < 2 ^ 110 := by
      rw [Nat.shiftLeft_eq]
      have h1 : m < 2 ^ (m.log2 + 1) := Nat.lt_log2_self
      have h2 : m * 2 ^ more < 2 ^ (m.log2 + 1) * 2 ^ more := Nat.mul_lt_mul_of_pos_right h1 (Nat.two_pow_pos _)
      rw [← Nat.pow_add] at h2
      exact Nat.lt_of_lt_of_le h2 (Nat.pow_le_pow_right (by decide) (by omega))
    have hr := (root_of (m <<< more)).1
    generalize Datum.rootFrom (m <<< more) ((m <<< more).log2 / 2 + 1) 0 = q at hr ⊢
    have hq : q < 2 ^ 55 := sq_lt (by rw [← Nat.pow_add]; omega)
    have hb : (q * q != m <<< more).toNat ≤ 1 := by cases (q * q != m <<< more) <;> decide
    have hl := nearest_le false (2 * q + (q * q != m <<< more).toNat) ((i - (more : Int)) / 2 - 1) 56 1536 (by omega) (by decide) (by omega)
    rcases hl with hl | hl
    · have h2 := hl.2
      have h1 := hl.1
      have hp := nearest_pos (2 * q + (q * q != m <<< more).toNat) ((i - (more : Int)) / 2 - 1)
      show key (double.nearest false (2 * q + (q * q != m <<< more).toNat) ((i - (more : Int)) / 2 - 1)) < _
      generalize double.nearest false (2 * q + (q * q != m <<< more).toNat) ((i - (more : Int)) / 2 - 1) = r at h1 h2 hp ⊢
      unfold key at hp ⊢
      clear hmo hn hr hq hb hmore
      split at hp <;> omega
    · omega
end Go.Proofs.YtinopkmcddjgdaaGreatDoor.FB
namespace Go.Proofs.YtinopkmcddjgdaaGreatDoor.FB
open Ieee

/-- The digits, 53 of them, and the power, counted as the words' own field. -/
def nM (r : Nat) : Nat := if r < 4503599627370496 then r * 2 ^ (52 - r.log2) else 4503599627370496 + r % 4503599627370496
def nE (r : Nat) : Int := if r < 4503599627370496 then (r.log2 : Int) - 51 else (r / 4503599627370496 : Nat)

theorem log_bd {r : Nat} (h0 : 0 < r) (h : r < 4503599627370496) : r.log2 ≤ 51 ∧ 2 ^ r.log2 ≤ r ∧ r < 2 ^ (r.log2 + 1) := by
  refine ⟨?_, Nat.log2_self_le (by omega), Nat.lt_log2_self⟩
  have : r.log2 < 52 := (Nat.log2_lt (by omega)).2 (by omega)
  omega
theorem nM_bd {r : Nat} (h0 : 0 < r) : 4503599627370496 ≤ nM r ∧ nM r < 9007199254740992 := by
  unfold nM
  by_cases c : r < 4503599627370496
  · rw [if_pos c]
    obtain ⟨h1, h2, h3⟩ := log_bd h0 c
    have e1 : 2 ^ r.log2 * 2 ^ (52 - r.log2) = 4503599627370496 := by
      rw [← Nat.pow_add, show r.log2 + (52 - r.log2) = 52 by omega]
    have e2 : 2 ^ (r.log2 + 1) * 2 ^ (52 - r.log2) = 9007199254740992 := by
      rw [← Nat.pow_add, show r.log2 + 1 + (52 - r.log2) = 53 by omega]
    have a1 := Nat.mul_le_mul_right (2 ^ (52 - r.log2)) h2
    have a2 := Nat.mul_lt_mul_of_pos_right h3 (Nat.two_pow_pos (52 - r.log2))
    rw [e1] at a1
    rw [e2] at a2
    exact ⟨a1, a2⟩
  · rw [if_neg c]; omega

theorem nM_dbl {t : Nat} (h0 : 0 < t) : nM (dbl t) = nM t ∧ nE (dbl t) = nE t + 1 := by
  unfold dbl
  by_cases c : t < 4503599627370496
  · rw [if_pos c]
    obtain ⟨h1, h2, h3⟩ := log_bd h0 c
    have hl : (2 * t).log2 = t.log2 + 1 := by
      rw [Nat.log2_eq_iff (by omega), Nat.pow_succ, Nat.pow_succ]
      rw [Nat.pow_succ] at h3
      omega
    by_cases c2 : 2 * t < 4503599627370496
    · unfold nM nE
      rw [if_pos c, if_pos c, if_pos c2, if_pos c2, hl]
      have hl50 : t.log2 ≤ 50 := by
        have := (Nat.log2_lt (n := 2 * t) (k := 52) (by omega)).2 (by omega)
        omega
      refine ⟨?_, by omega⟩
      obtain ⟨u, hu⟩ : ∃ u, 52 - t.log2 = u + 1 := ⟨51 - t.log2, by omega⟩
      have hu2 : 52 - (t.log2 + 1) = u := by omega
      rw [hu, hu2, Nat.pow_succ, Nat.mul_comm 2 t, Nat.mul_assoc, Nat.mul_comm 2]
    · have hl51 : t.log2 = 51 := by
        have : 52 ≤ (2 * t).log2 := (Nat.le_log2 (by omega)).2 (by omega)
        omega
      unfold nM nE
      rw [if_pos c, if_pos c, if_neg c2, if_neg c2, hl51]
      have e1 : 2 * t / 4503599627370496 = 1 := by omega
      rw [e1]
      refine ⟨by omega, by omega⟩
  · rw [if_neg c]
    unfold nM nE
    rw [if_neg c, if_neg c, if_neg (by omega), if_neg (by omega)]
    refine ⟨by omega, by omega⟩
theorem nM_half {t : Nat} (h0 : 9007199254740992 ≤ t) : nM (t - 4503599627370496) = nM t ∧ nE (t - 4503599627370496) = nE t - 1 := by
  unfold nM nE
  rw [if_neg (by omega), if_neg (by omega), if_neg (by omega), if_neg (by omega)]
  refine ⟨by omega, by omega⟩

def cH : Nat := 4604544271217802189
/-- The part from a half on, below 1. -/
def lnF (r : Nat) : Nat := 4602678819172646912 + (nM r - 4503599627370496)
def lnM (r : Nat) : Nat := if lnF r < cH then lnF r + 4503599627370496 else lnF r
def lnK (r : Nat) : Int := if lnF r < cH then nE r - 1023 else nE r - 1022

theorem ln_end {t r : Nat} (k : Int) (h1 : 4604544271217802189 ≤ t) (h2 : t < 4609047870845172685) (hM : nM t = nM r) (hE : nE t + k = nE r) : t = lnM r ∧ k = lnK r := by
  have hMt : nM t = 4503599627370496 + t % 4503599627370496 := by unfold nM; rw [if_neg (by omega)]
  have hEt : nE t = (t / 4503599627370496 : Nat) := by unfold nE; rw [if_neg (by omega)]
  unfold lnM lnK lnF cH
  rw [← hM, hMt]
  rw [hEt] at hE
  have hq : t / 4503599627370496 = 1022 ∨ t / 4503599627370496 = 1023 := by omega
  rcases hq with hq | hq
  · rw [if_neg (by omega), if_neg (by omega)]
    omega
  · rw [if_pos (by omega), if_pos (by omega)]
    omega

theorem lnM_bd {r : Nat} (h0 : 0 < r) : 4604544271217802189 ≤ lnM r ∧ lnM r < 4609047870845172685 := by
  have := nM_bd h0
  unfold lnM lnF cH
  split <;> omega
theorem nE_bd {r : Nat} (h0 : 0 < r) (h : r < 9218868437227405312) : -51 ≤ nE r ∧ nE r ≤ 2046 := by
  unfold nE
  split
  · rename_i c; have := log_bd h0 c; omega
  · omega
theorem lnK_bd {r : Nat} (h0 : 0 < r) (h : r < 9218868437227405312) : -1074 ≤ lnK r ∧ lnK r ≤ 1024 := by
  have := nE_bd h0 h
  unfold lnK
  split <;> omega

def p52 : Nat := 4841369599423283200
theorem read_p52 : double.read p52 = .number false 4503599627370496 0 := by decide +kernel
/-- A small number times 2 to the power of 52. -/
theorem mul_p52 {r : Nat} (h0 : 0 < r) (h : r < 4503599627370496) : double.mul r p52 = some (r.log2 * 4503599627370496 + nM r) := by
  obtain ⟨h1, h2, h3⟩ := log_bd h0 h
  have hb := nM_bd h0
  have hM : nM r = r * 2 ^ (52 - r.log2) := by unfold nM; rw [if_pos h]
  unfold Format.mul
  rw [read_small h, read_p52]
  refine congrArg some ?_
  show double.nearest (false ^^ false) (r * 4503599627370496) (-1074 + 0) = _
  have hmag : r * 4503599627370496 = nM r * 2 ^ r.log2 := by
    rw [hM, Nat.mul_assoc, ← Nat.pow_add, show 52 - r.log2 + r.log2 = 52 by omega]
  rw [hmag, nearest_exact (false ^^ false) (nM r) r.log2 (-1074 + 0) (r.log2 - 1074) hb.2 (by omega) (by omega) (by omega) (by omega) (.inl hb.1)]
  show ((r.log2 : Int) - 1074 + 1074).toNat * 4503599627370496 + nM r = _
  rw [show ((r.log2 : Int) - 1074 + 1074).toNat = r.log2 by omega]

/-! Quotients. -/
theorem cut_ge (neg : Bool) (n drop m : Nat) (h : m * 2 ^ drop ≤ n) : m ≤ Toward.even.cut neg n drop := by
  unfold Toward.cut
  simp only
  by_cases h0 : m = 0
  · subst h0; exact Nat.zero_le _
  have hn : n ≠ 0 := by
    have := Nat.mul_le_mul (show 1 ≤ m by omega) (Nat.one_le_two_pow (n := drop))
    omega
  have hd : drop ≤ n.log2 + 2 := by
    have : drop ≤ n.log2 := (Nat.le_log2 hn).2 (Nat.le_trans (Nat.le_mul_of_pos_left _ (by omega)) h)
    omega
  rw [Nat.min_eq_left hd, Nat.one_shiftLeft]
  have : m ≤ n / 2 ^ drop := (Nat.le_div_iff_mul_le (Nat.two_pow_pos _)).2 h
  omega

theorem nearest_ge (mag : Nat) (place : Int) (k : Nat) (h0 : mag ≠ 0) (hk : 1 ≤ k) (hk2 : k ≤ 2046) (h : (k : Int) ≤ place + mag.log2 + 1023) : k * 4503599627370496 ≤ double.nearest false mag place := by
  unfold Format.nearest
  rw [if_neg h0]
  have hf : (double.fractionBits : Int) = 52 := rfl
  have hw : ∀ r, double.word false r = r := fun r => rfl
  simp only [bn, lp, ir, hf, hw]
  rw [Int.max_eq_left (by omega)]
  have hcut : 4503599627370496 ≤ Toward.even.cut false (mag <<< (place - (place + (mag.log2 : Int) - 52)).toNat) (place + (mag.log2 : Int) - 52 - place).toNat := by
    refine cut_ge _ _ _ _ ?_
    rw [Nat.shiftLeft_eq]
    have h1 : 2 ^ mag.log2 ≤ mag := Nat.log2_self_le h0
    by_cases hp : mag.log2 ≤ 52
    · have e1 : (place + (mag.log2 : Int) - 52 - place).toNat = 0 := by omega
      have e2 : (place - (place + (mag.log2 : Int) - 52)).toNat = 52 - mag.log2 := by omega
      rw [e1, e2]
      have a1 := Nat.mul_le_mul_right (2 ^ (52 - mag.log2)) h1
      rw [← Nat.pow_add, show mag.log2 + (52 - mag.log2) = 52 by omega, show (2 : Nat) ^ 52 = 4503599627370496 by decide] at a1
      rw [Nat.pow_zero, Nat.mul_one]
      exact a1
    · have e2 : (place - (place + (mag.log2 : Int) - 52)).toNat = 0 := by omega
      have e1 : (place + (mag.log2 : Int) - 52 - place).toNat = mag.log2 - 52 := by omega
      rw [e2, e1, Nat.pow_zero, Nat.mul_one]
      have : 4503599627370496 * 2 ^ (mag.log2 - 52) = 2 ^ mag.log2 := by
        rw [show (4503599627370496 : Nat) = 2 ^ 52 by decide, ← Nat.pow_add, show 52 + (mag.log2 - 52) = mag.log2 by omega]
      rw [this]; exact h1
  generalize Toward.even.cut false _ _ = c at hcut ⊢
  have hq : k ≤ ((place + (mag.log2 : Int) - 52) - -1074).toNat + 1 := by omega
  generalize ((place + (mag.log2 : Int) - 52) - -1074).toNat = q at hq ⊢
  clear h
  omega

/-- A quotient by a number from 1 on. -/
theorem div_le {k x y : Nat} (hx : Le k x) (hk1 : 1 ≤ k) (hk : k ≤ 2040) (hy1 : 4607182418800017408 ≤ y) (hy2 : y < 9218868437227405312) : ∃ r, double.div x y = some r ∧ Le (k + 4) r := by
  obtain ⟨s, m, i, hr, hm, hi, _⟩ := read_le hx hk1 (by omega)
  have hry := read_normal (r := y) (by omega) hy2
  have hdm := Nat.div_add_mod y 4503599627370496
  have hmm := Nat.mod_lt y (show 0 < 4503599627370496 by decide)
  generalize hn : 4503599627370496 + y % 4503599627370496 = n at hry
  generalize hj : (-1074 + ((y / 4503599627370496 - 1 : Nat) : Int)) = j at hry
  have hj0 : -52 ≤ j := by omega
  have hln : n.log2 = 52 := by rw [Nat.log2_eq_iff (by omega)]; omega
  unfold Format.div
  rw [hr, hry]
  have hf : double.fractionBits + 2 = 54 := rfl
  rw [hf]
  simp only [Datum.quotient]
  rw [if_neg (by omega)]
  refine ⟨_, rfl, ?_⟩
  rw [hln]
  show Le (k + 4) (double.nearest _ _ _)
  have hlm : m.log2 ≤ 52 := by
    rcases Nat.eq_zero_or_pos m with h | h
    · subst h; decide
    · have : m.log2 < 53 := (Nat.log2_lt (by omega)).2 hm
      omega
  generalize hmore : 54 + 52 - m.log2 = more
  have hmore2 : m.log2 + more = 106 := by omega
  have hq : m <<< more / n < 2 ^ 55 := by
    rw [Nat.shiftLeft_eq]
    refine Nat.div_lt_of_lt_mul ?_
    have h1 : m < 2 ^ (m.log2 + 1) := Nat.lt_log2_self
    have h2 : m * 2 ^ more < 2 ^ (m.log2 + 1) * 2 ^ more := Nat.mul_lt_mul_of_pos_right h1 (Nat.two_pow_pos _)
    rw [← Nat.pow_add, show m.log2 + 1 + more = 107 by omega] at h2
    have h3 : 2 ^ 107 = 4503599627370496 * 2 ^ 55 := by decide
    have h4 : 4503599627370496 * 2 ^ 55 ≤ n * 2 ^ 55 := Nat.mul_le_mul_right _ (by omega)
    omega
  have hmag : 2 * (m <<< more / n) + (m <<< more % n != 0).toNat < 2 ^ 56 := by
    have hb : (m <<< more % n != 0).toNat ≤ 1 := by cases (m <<< more % n != 0) <;> decide
    generalize m <<< more / n = q at hq ⊢
    omega
  rcases nearest_le (s ^^ false) (2 * (m <<< more / n) + (m <<< more % n != 0).toNat) (i - j - more - 1) 56 (k + 4) hmag (by omega) (by clear hmag hq; omega) with h | h
  · exact h
  · omega
end Go.Proofs.YtinopkmcddjgdaaGreatDoor.FB
namespace Go.Proofs.YtinopkmcddjgdaaGreatDoor.FB
open Ieee

def oneF : Nat := 4607182418800017408
def lnG : Nat := 4604418534311723008
def lnS : Nat := 4461442080421002358
def odd12 : List Nat := [4607182418800017408, 4599676419421066581, 4596373779694328218, 4594314991293244562, 4592670820000712476, 4591215111030249286, 4590207312512236308, 4589468260265693457, 4588638185040256542, 4587745830934523688, 4587023449039406616, 4586426698778222948]

theorem le_of_lt {k r : Nat} (h : r ≤ k * 4503599627370496) (h2 : r < 9223372036854775808) : Le k r := ⟨by omega, by rw [Nat.mod_eq_of_lt h2]; exact h⟩
theorem oneF_le : Le 1023 oneF := ⟨by decide +kernel, by decide +kernel⟩
theorem two_le : Le 1024 two := ⟨by decide +kernel, by decide +kernel⟩
theorem lnG_le : Le 1023 lnG := ⟨by decide +kernel, by decide +kernel⟩
theorem lnS_le : Le 1023 lnS := ⟨by decide +kernel, by decide +kernel⟩
theorem odd12_le : ∀ c, c ∈ odd12 → Le 1023 c := by
  have h1 : (odd12.all fun c => (decide (c < 18446744073709551616) && decide (c % 9223372036854775808 ≤ 1023 * 4503599627370496))) = true := by decide +kernel
  intro c hc; have := List.all_eq_true.1 h1 c hc; simp only [Bool.and_eq_true, decide_eq_true_eq] at this; exact this

theorem read_oneF : double.read oneF = .number false 4503599627370496 (-52) := by decide +kernel
theorem FA_one {m : Nat} (hm : m < 9218868437227405312) : oneF ≤ FA m oneF ∧ FA m oneF < 9223372036854775808 := by
  obtain ⟨mm, e, hr, he, _⟩ := read_pos hm
  have hbd := num_bd hr
  have hsum : ∃ mag : Nat, FA m oneF = double.nearest false mag (min e (-52)) ∧ 4503599627370496 * 2 ^ (-52 - min e (-52)).toNat ≤ mag := by
    unfold FA Format.add
    rw [hr, read_oneF]
    simp only [Datum.sum, signed_false, Option.map_some, Option.getD_some]
    refine ⟨mm * 2 ^ (e - min e (-52)).toNat + 4503599627370496 * 2 ^ (-52 - min e (-52)).toNat, ?_, Nat.le_add_left _ _⟩
    have hpos : 0 < 4503599627370496 * 2 ^ (-52 - min e (-52)).toNat := Nat.mul_pos (by decide) (Nat.two_pow_pos _)
    generalize mm * 2 ^ (e - min e (-52)).toNat = p
    generalize 4503599627370496 * 2 ^ (-52 - min e (-52)).toNat = q at hpos ⊢
    have e1 : ((p : Int) + (q : Int)).natAbs = p + q := by omega
    rw [e1, if_neg (by omega)]
    have e2 : decide ((p : Int) + (q : Int) < 0) = false := by simp; omega
    rw [e2]
    rfl
  obtain ⟨mag, h1, h2⟩ := hsum
  rw [h1]
  generalize hb : min e (-52) = base at h2 ⊢
  have hb1 : base ≤ -52 := by omega
  have hb2 : -1074 ≤ base := by omega
  have hpow : 4503599627370496 * 2 ^ (-52 - base).toNat = 2 ^ (-base).toNat := by
    rw [show (4503599627370496 : Nat) = 2 ^ 52 by decide, ← Nat.pow_add, show 52 + (-52 - base).toNat = (-base).toNat by omega]
  rw [hpow] at h2
  have hm0 : mag ≠ 0 := by have := Nat.two_pow_pos (-base).toNat; omega
  have hlog : (-base).toNat ≤ mag.log2 := (Nat.le_log2 hm0).2 h2
  constructor
  · have := nearest_ge mag base 1023 hm0 (by decide) (by decide) (by omega)
    exact this
  · unfold Format.nearest
    rw [if_neg hm0]
    have hw : ∀ r, double.word false r = r := fun r => rfl
    simp only [hw]
    rw [ir]
    exact Nat.lt_of_le_of_lt (Nat.min_le_right _ _) (by decide)

def lA (m : Nat) : Nat := FS m oneF
def lB (m : Nat) : Nat := FA m oneF
def lS (m : Nat) : Nat := FD (lA m) (lB m)
def lZ (m : Nat) : Nat := FM (lS m) (lS m)
def lP (m : Nat) : Nat := hor odd12 (lZ m)
def lSP (m : Nat) : Nat := FM (lS m) (lP m)
def lD (m : Nat) : Nat := FM two (lSP m)
def lK (k : Int) : Nat := floatOfInt .f64 k
def lHi (k : Int) : Nat := FM (lK k) lnG
def lLo (k : Int) : Nat := FM (lK k) lnS
def lT (m : Nat) (k : Int) : Nat := FA (lD m) (lLo k)
def lnV (m : Nat) (k : Int) : Nat := FA (lHi k) (lT m k)

/-- Each step has an answer. -/
structure LnOk (m : Nat) (k : Int) : Prop where
  a : double.sub m oneF = some (lA m)
  b : double.add m oneF = some (lB m)
  s : double.div (lA m) (lB m) = some (lS m)
  z : double.mul (lS m) (lS m) = some (lZ m)
  zn : Num (lZ m)
  p : Ok odd12 (lZ m)
  sp : double.mul (lS m) (lP m) = some (lSP m)
  d : double.mul two (lSP m) = some (lD m)
  hi : double.mul (lK k) lnG = some (lHi k)
  lo : double.mul (lK k) lnS = some (lLo k)
  t : double.add (lD m) (lLo k) = some (lT m k)
  r : double.add (lHi k) (lT m k) = some (lnV m k)
  rn : Num (lnV m k)

theorem ln_ok (m : Nat) (k : Int) (h2 : m < 4609047870845172685) (hk1 : -1074 ≤ k) (hk2 : k ≤ 1024) : LnOk m k := by
  have hm : Le 1024 m := le_of_lt (by omega) (by omega)
  have hone : Le 1024 oneF := oneF_le.mono (by decide)
  have hA : Le 1026 (lA m) := FS_le hm hone (by decide) (by decide)
  have hB : Le 1026 (lB m) := FA_le hm hone (by decide) (by decide)
  have hB1 := FA_one (m := m) (by omega)
  have hB2 : lB m < 9218868437227405312 := by
    obtain ⟨_, hb⟩ := hB
    have hlt : lB m < 9223372036854775808 := hB1.2
    rw [Nat.mod_eq_of_lt hlt] at hb
    omega
  obtain ⟨q, hq, hqle⟩ := div_le hA (by decide) (by decide) hB1.1 hB2
  have hS : lS m = q := by unfold lS FD; rw [show FA m oneF = lB m from rfl] at hq; rw [hq]; rfl
  have hSle : Le 1030 (lS m) := by rw [hS]; exact hqle
  have hZ : Le 1039 (lZ m) := FM_le hSle hSle (by decide) (by decide) (by decide) (by decide) _ (by decide) (by decide) (by decide)
  have hP : Le 1263 (lP m) := by
    have := hor_le 1039 (lZ m) 1023 20 hZ (by decide) (by decide) (by decide) (by decide) (by decide) odd12 odd12_le (by decide)
    exact this
  have hSP : Le 1272 (lSP m) := FM_le hSle hP (by decide) (by decide) (by decide) (by decide) _ (by decide) (by decide) (by decide)
  have hD : Le 1275 (lD m) := FM_le two_le hSP (by decide) (by decide) (by decide) (by decide) _ (by decide) (by decide) (by decide)
  have h11 : (2 : Nat) ^ 11 = 2048 := by decide
  have hK : Le 1034 (lK k) := ofInt_le k 11 (by omega) (by decide)
  have hHi : Le 1275 (lHi k) := FM_le hK lnG_le (by decide) (by decide) (by decide) (by decide) _ (by decide) (by decide) (by decide)
  have hLo : Le 1275 (lLo k) := FM_le hK lnS_le (by decide) (by decide) (by decide) (by decide) _ (by decide) (by decide) (by decide)
  have hT : Le 1277 (lT m k) := FA_le hD hLo (by decide) (by decide)
  have hR : Le 1279 (lnV m k) := FA_le (hHi.mono (by decide)) hT (by decide) (by decide)
  have n1 : Num oneF := oneF_le.num (by decide) (by decide)
  have nm := hm.num (by decide) (by decide)
  have nK := hK.num (by decide) (by decide)
  refine ⟨sub_num nm n1, add_num nm n1, ?_, mul_num (hSle.num (by decide) (by decide)) (hSle.num (by decide) (by decide)), hZ.num (by decide) (by decide),
    ok_of 1039 (lZ m) 1023 20 hZ (by decide) (by decide) (by decide) (by decide) (by decide) odd12 odd12_le (by decide),
    mul_num (hSle.num (by decide) (by decide)) (hP.num (by decide) (by decide)), mul_num (two_le.num (by decide) (by decide)) (hSP.num (by decide) (by decide)),
    mul_num nK (lnG_le.num (by decide) (by decide)), mul_num nK (lnS_le.num (by decide) (by decide)), add_num (hD.num (by decide) (by decide)) (hLo.num (by decide) (by decide)),
    add_num (hHi.num (by decide) (by decide)) (hT.num (by decide) (by decide)), hR.num (by decide) (by decide)⟩
  rw [hS]; exact hq
end Go.Proofs.YtinopkmcddjgdaaGreatDoor.FB
namespace Go.Proofs.YtinopkmcddjgdaaGreatDoor.FB
open Ieee

theorem read_negw {a : Nat} (ha : a < 9218868437227405312) : ∃ m e, double.read (9223372036854775808 + a) = .number true m e ∧ double.read a = .number false m e := by
  obtain ⟨m, e, hr, _⟩ := read_pos ha
  refine ⟨m, e, ?_, hr⟩
  rw [read_eq] at hr ⊢
  have h1 : (9223372036854775808 + a) % 9223372036854775808 = a := by omega
  have h2 : ((9223372036854775808 + a) / 9223372036854775808 % 2 == 1) = true := by
    rw [show (9223372036854775808 + a) / 9223372036854775808 = 1 by omega]; rfl
  have h3 : a % 9223372036854775808 = a := by omega
  rw [h1, h2]
  rw [h3] at hr
  by_cases c1 : a < 4503599627370496
  · rw [if_pos c1] at hr ⊢; injection hr with _ h5 h6; rw [h5, h6]
  · rw [if_neg c1] at hr ⊢
    rw [if_pos ha] at hr ⊢; injection hr with _ h5 h6; rw [h5, h6]
theorem order_neg {a b : Nat} (ha : a < 9218868437227405312) (hb : b < 9218868437227405312) : double.order (9223372036854775808 + a) (9223372036854775808 + b) = some (compare b a) := by
  obtain ⟨m, i, r1, r2⟩ := read_negw ha
  obtain ⟨n, j, s1, s2⟩ := read_negw hb
  have h := order_pos hb ha
  unfold Format.order at h ⊢
  rw [s2, r2] at h
  rw [r1, s1]
  simp only [Datum.order, signed_false, signed_true, Option.some.injEq] at h ⊢
  rw [Int.min_comm] at h
  rw [← h]
  generalize n * 2 ^ (j - min i j).toNat = q
  generalize m * 2 ^ (i - min i j).toNat = p
  rcases Nat.lt_trichotomy p q with hh | hh | hh
  · rw [Int.compare_eq_gt.2 (show -(q : Int) < -(p : Int) by omega), Int.compare_eq_gt.2 (show (p : Int) < (q : Int) by omega)]
  · rw [hh, Int.compare_eq_eq.2 rfl, Int.compare_eq_eq.2 rfl]
  · rw [Int.compare_eq_lt.2 (show -(p : Int) < -(q : Int) by omega), Int.compare_eq_lt.2 (show (q : Int) < (p : Int) by omega)]

theorem fin_word {x : Nat} (hn : Num x) : x % 9223372036854775808 < 9218868437227405312 := by
  obtain ⟨s, m, e, hr⟩ := hn
  rw [read_eq] at hr
  generalize x % 9223372036854775808 = r at hr ⊢
  by_cases c1 : r < 4503599627370496
  · omega
  · rw [if_neg c1] at hr
    by_cases c2 : r < 9218868437227405312
    · exact c2
    · rw [if_neg c2] at hr
      by_cases c3 : r = 9218868437227405312
      · rw [if_pos c3] at hr; cases hr
      · rw [if_neg c3] at hr; cases hr

/-- Neither above 710 nor below -746: of modest size. -/
theorem exp_dom {x : Nat} (hx : x < 18446744073709551616) (hn : Num x) (h1 : double.order x 4649456441864749056 ≠ some .gt) (h2 : double.order x 13873145138068324352 ≠ some .lt) : Le 1033 x := by
  have hf := fin_word hn
  refine ⟨hx, ?_⟩
  by_cases c : x < 9223372036854775808
  · rw [Nat.mod_eq_of_lt c] at hf ⊢
    rw [order_pos hf (by decide)] at h1
    have : ¬ 4649456441864749056 < x := fun h => h1 (by rw [Nat.compare_eq_gt.2 h])
    omega
  · obtain ⟨a, rfl⟩ : ∃ a, x = 9223372036854775808 + a := ⟨x - 9223372036854775808, by omega⟩
    have e : (9223372036854775808 + a) % 9223372036854775808 = a := by omega
    rw [e] at hf ⊢
    rw [show (13873145138068324352 : Nat) = 9223372036854775808 + 4649773101213548544 by decide, order_neg hf (by decide)] at h2
    have : ¬ 4649773101213548544 < a := fun h => h2 (by rw [Nat.compare_eq_lt.2 h])
    omega

def l2e : Nat := 4609176140021203710
def halfF : Nat := 4602678819172646912
theorem l2e_le : Le 1024 l2e := ⟨by decide +kernel, by decide +kernel⟩
theorem halfF_le : Le 1022 halfF := ⟨by decide +kernel, by decide +kernel⟩
def exp15 : List Nat := [4607182418800017408, 4607182418800017408, 4602678819172646912, 4595172819793696085, 4586165620538955093, 4575957461383581969, 4564047942368979991, 4551452160554016794, 4537941361671905306, 4523617214285662004, 4508805057796939612, 4493156764026750180, 4477122120089393304, 4460272573143870729, 4443145680587881629]
theorem exp15_le : ∀ c, c ∈ exp15 → Le 1023 c := by
  have h1 : (exp15.all fun c => (decide (c < 18446744073709551616) && decide (c % 9223372036854775808 ≤ 1023 * 4503599627370496))) = true := by decide +kernel
  intro c hc; have := List.all_eq_true.1 h1 c hc; simp only [Bool.and_eq_true, decide_eq_true_eq] at this; exact this

/-- Made whole: down; towards zero. -/
theorem cut_bd (way : Toward) (neg : Bool) (n drop : Nat) : way.cut neg n drop ≤ n / 2 ^ drop + 1 := by
  unfold Toward.cut
  simp only
  have hb : ∀ b : Bool, b.toNat ≤ 1 := by intro b; cases b <;> decide
  by_cases hd : drop ≤ n.log2 + 2
  · rw [Nat.min_eq_left hd, Nat.one_shiftLeft]
    exact Nat.add_le_add_left (hb _) _
  · rw [Nat.min_eq_right (by omega), Nat.one_shiftLeft]
    have hn : n < 2 ^ (n.log2 + 2) := Nat.lt_of_lt_of_le Nat.lt_log2_self (Nat.pow_le_pow_right (by decide) (by omega))
    rw [Nat.div_eq_of_lt hn]
    refine Nat.le_trans (Nat.add_le_add_left (hb _) _) ?_
    exact Nat.add_le_add_right (Nat.zero_le _) 1
/-- The size of what is made whole. -/
theorem whole_bd {k x : Nat} (way : Toward) (h : Le k x) (hk1 : 1023 ≤ k) (hk : k ≤ 1075) : ∃ s m, (double.read x).integral way = .number s m 0 ∧ m < 2 ^ (k - 1021) := by
  obtain ⟨s, m, e, hr, hm, he, _⟩ := read_le h (by omega) (by omega)
  refine ⟨s, way.cut s (m <<< e.toNat) (-e).toNat, by rw [hr]; rfl, ?_⟩
  have hc := cut_bd way s (m <<< e.toNat) (-e).toNat
  rw [Nat.shiftLeft_eq] at hc ⊢
  have hq : m * 2 ^ e.toNat / 2 ^ (-e).toNat < 2 ^ (k - 1022) := by
    refine Nat.div_lt_of_lt_mul ?_
    rw [← Nat.pow_add]
    by_cases c : 0 ≤ e
    · have e1 : (-e).toNat = 0 := by omega
      rw [e1, Nat.zero_add]
      have : m * 2 ^ e.toNat < 2 ^ 53 * 2 ^ e.toNat := Nat.mul_lt_mul_of_pos_right hm (Nat.two_pow_pos _)
      rw [← Nat.pow_add] at this
      exact Nat.lt_of_lt_of_le this (Nat.pow_le_pow_right (by decide) (by omega))
    · have e1 : e.toNat = 0 := by omega
      rw [e1, Nat.pow_zero, Nat.mul_one]
      exact Nat.lt_of_lt_of_le hm (Nat.pow_le_pow_right (by decide) (by omega))
  have hp : 2 ^ (k - 1022) < 2 ^ (k - 1021) := Nat.pow_lt_pow_right (by decide) (by omega)
  exact Nat.lt_of_le_of_lt (Nat.le_trans hc hq) hp

def eY1 (x : Nat) : Nat := FM x l2e
def eY2 (x : Nat) : Nat := FA (eY1 x) halfF
/-- The floor's word. -/
def eK (x : Nat) : Nat := double.write ((double.read (eY2 x)).integral .down)
def eA (x : Nat) : Nat := FM (eK x) lnG
def eB (x : Nat) : Nat := FM (eK x) lnS
def eR1 (x : Nat) : Nat := FS x (eA x)
def eR (x : Nat) : Nat := FS (eR1 x) (eB x)
def eP (x : Nat) : Nat := hor exp15 (eR x)
def eN (x : Nat) : Int := (floatToIntVal .f64 (eK x) .i64).getD 0

structure ExpOk (x : Nat) : Prop where
  y1 : double.mul x l2e = some (eY1 x)
  y2 : double.add (eY1 x) halfF = some (eY2 x)
  y2n : Num (eY2 x)
  a : double.mul (eK x) lnG = some (eA x)
  b : double.mul (eK x) lnS = some (eB x)
  r1 : double.sub x (eA x) = some (eR1 x)
  r : double.sub (eR1 x) (eB x) = some (eR x)
  rn : Num (eR x)
  p : Ok exp15 (eR x)
  pn : Num (eP x)
  plt : eP x < 18446744073709551616
  n : floatToIntVal .f64 (eK x) .i64 = some (eN x)
  nb : -2000000 ≤ eN x ∧ eN x ≤ 2000000

theorem exp_ok (x : Nat) (hx : Le 1033 x) : ExpOk x := by
  have h1 : Le 1036 (eY1 x) := FM_le hx l2e_le (by decide) (by decide) (by decide) (by decide) _ (by decide) (by decide) (by decide)
  have h2 : Le 1038 (eY2 x) := FA_le h1 (halfF_le.mono (by decide)) (by decide) (by decide)
  obtain ⟨s, m, hi, hm⟩ := whole_bd .down h2 (by decide) (by decide)
  have hK : Le 1040 (eK x) := by
    unfold eK
    rw [hi]
    show Le 1040 (double.nearest s m 0)
    rcases nearest_le s m 0 17 1040 hm (by decide) (by decide) with h | h
    · exact h
    · omega
  have hA : Le 1042 (eA x) := FM_le hK lnG_le (by decide) (by decide) (by decide) (by decide) _ (by decide) (by decide) (by decide)
  have hB : Le 1044 (eB x) := FM_le hK lnS_le (by decide) (by decide) (by decide) (by decide) _ (by decide) (by decide) (by decide)
  have hR1 : Le 1044 (eR1 x) := FS_le (hx.mono (by decide)) hA (by decide) (by decide)
  have hR : Le 1046 (eR x) := FS_le hR1 hB (by decide) (by decide)
  have hP : Le 1428 (eP x) := by
    have := hor_le 1046 (eR x) 1023 27 hR (by decide) (by decide) (by decide) (by decide) (by decide) exp15 exp15_le (by decide)
    exact this
  obtain ⟨s2, m2, hi2, hm2⟩ := whole_bd .zero hK (by decide) (by decide)
  have h19 : (2 : Nat) ^ (1040 - 1021) = 524288 := by decide
  rw [h19] at hm2
  have hsig : signed s2 m2 0 = if s2 = true then -(m2 : Int) else (m2 : Int) := by
    cases s2
    · rw [signed_false]; simp
    · rw [signed_true]; simp
  have hN : floatToIntVal .f64 (eK x) .i64 = some (signed s2 m2 0) := by
    unfold floatToIntVal Datum.toInt
    show (match (match (double.read (eK x)).integral .zero with | .number s m _ => some (signed s m 0) | _ => none) with | some n => if IntKind.i64.min ≤ n ∧ n ≤ IntKind.i64.max then some n else none | none => none) = _
    rw [hi2]
    simp only
    have hmin : IntKind.i64.min = -9223372036854775808 := by decide
    have hmax : IntKind.i64.max = 9223372036854775807 := by decide
    rw [hmin, hmax, hsig]
    rw [if_pos]
    split <;> omega
  have hE : eN x = signed s2 m2 0 := by unfold eN; rw [hN]; rfl
  have nx := hx.num (by decide) (by decide)
  refine ⟨mul_num nx (l2e_le.num (by decide) (by decide)), add_num (h1.num (by decide) (by decide)) (halfF_le.num (by decide) (by decide)), h2.num (by decide) (by decide),
    mul_num (hK.num (by decide) (by decide)) (lnG_le.num (by decide) (by decide)), mul_num (hK.num (by decide) (by decide)) (lnS_le.num (by decide) (by decide)),
    sub_num nx (hA.num (by decide) (by decide)), sub_num (hR1.num (by decide) (by decide)) (hB.num (by decide) (by decide)), hR.num (by decide) (by decide),
    ok_of 1046 (eR x) 1023 27 hR (by decide) (by decide) (by decide) (by decide) (by decide) exp15 exp15_le (by decide), hP.num (by decide) (by decide), hP.1, by rw [hE]; exact hN, ?_⟩
  rw [hE, hsig]
  split <;> omega
end Go.Proofs.YtinopkmcddjgdaaGreatDoor.FB
namespace Go.Proofs.YtinopkmcddjgdaaGreatDoor.FB
open Ieee

theorem FM_comm {x y : Nat} (hx : Num x) (hy : Num y) : FM x y = FM y x := by
  obtain ⟨s, m, i, rx⟩ := hx
  obtain ⟨t, n, j, ry⟩ := hy
  unfold FM Format.mul
  rw [rx, ry]
  show double.nearest (s ^^ t) (m * n) (i + j) = double.nearest (t ^^ s) (n * m) (j + i)
  rw [Bool.xor_comm, Nat.mul_comm, Int.add_comm]

/-- A nothing, with or without its sign. -/
def Nz (x : Nat) : Prop := x = 0 ∨ x = 9223372036854775808
theorem Nz.read {x : Nat} (h : Nz x) : ∃ s, double.read x = .number s 0 (-1074) := by
  rcases h with rfl | rfl
  · exact ⟨false, by decide +kernel⟩
  · exact ⟨true, by decide +kernel⟩
theorem near_nz (s : Bool) (p : Int) : Nz (double.nearest s 0 p) := by
  unfold Format.nearest Format.word
  rw [if_pos rfl, sw]
  cases s
  · exact .inl rfl
  · exact .inr rfl
theorem SameZ.trans {a b c : Nat} (h : SameZ a b) (k : SameZ b c) : SameZ a c := by
  rcases h with rfl | ⟨h1, h2⟩
  · exact k
  · rcases k with rfl | ⟨k1, k2⟩
    · exact .inr ⟨h1, h2⟩
    · exact .inr ⟨h1, k2⟩
theorem SameZ.symm {a b : Nat} (h : SameZ a b) : SameZ b a := by
  rcases h with rfl | ⟨h1, h2⟩
  · exact .inl rfl
  · exact .inr ⟨h2, h1⟩
/-- The sum of two numbers, read. -/
def near3 (s : Bool) (m : Nat) (i : Int) (t : Bool) (n : Nat) (j : Int) : Nat :=
  double.nearest (if signed s m (i - min i j).toNat + signed t n (j - min i j).toNat = 0 then s && t else decide (signed s m (i - min i j).toNat + signed t n (j - min i j).toNat < 0)) (signed s m (i - min i j).toNat + signed t n (j - min i j).toNat).natAbs (min i j)
theorem FA_near {x y : Nat} {s : Bool} {m : Nat} {i : Int} {t : Bool} {n : Nat} {j : Int} (hx : double.read x = .number s m i) (hy : double.read y = .number t n j) : FA x y = near3 s m i t n j := by
  unfold FA Format.add; rw [hx, hy]; rfl
theorem FS_near {x y : Nat} {s : Bool} {m : Nat} {i : Int} {t : Bool} {n : Nat} {j : Int} (hx : double.read x = .number s m i) (hy : double.read y = .number t n j) : FS x y = near3 s m i (!t) n j := by
  unfold FS Format.sub; rw [hx, hy]; rfl
theorem near3_comm (s : Bool) (m : Nat) (i : Int) (t : Bool) (n : Nat) (j : Int) : near3 s m i t n j = near3 t n j s m i := by
  unfold near3
  rw [Int.min_comm j i, Int.add_comm (signed t n _), Bool.and_comm t s]
theorem FA_comm {x y : Nat} (hx : Num x) (hy : Num y) : FA x y = FA y x := by
  obtain ⟨s, m, i, rx⟩ := hx
  obtain ⟨t, n, j, ry⟩ := hy
  rw [FA_near rx ry, FA_near ry rx, near3_comm]
theorem signed_zero (b : Bool) (u : Nat) : signed b 0 u = 0 := by cases b <;> simp [signed_false, signed_true]
theorem near3_zr (s : Bool) (m : Nat) (i : Int) (t t' : Bool) (j : Int) : SameZ (near3 s m i t 0 j) (near3 s m i t' 0 j) := by
  unfold near3
  rw [signed_zero, signed_zero]
  generalize signed s m (i - min i j).toNat + 0 = T
  by_cases c : T = 0
  · subst c
    exact .inr ⟨near_nz _ _, near_nz _ _⟩
  · rw [if_neg c, if_neg c]; exact .inl rfl
theorem near3_zl (s s' : Bool) (i : Int) (t : Bool) (n : Nat) (j : Int) : SameZ (near3 s 0 i t n j) (near3 s' 0 i t n j) := by
  rw [near3_comm, near3_comm s']; exact near3_zr _ _ _ _ _ _
/-- The two stand for numbers that are the same but for a nothing's sign. -/
theorem same_read {x x' : Nat} (hx : Num x) (h : SameZ x x') : ∃ s s' m i, double.read x = .number s m i ∧ double.read x' = .number s' m i ∧ (s = s' ∨ m = 0) := by
  rcases h with rfl | ⟨h1, h2⟩
  · obtain ⟨s, m, i, rx⟩ := hx
    exact ⟨s, s, m, i, rx, rx, .inl rfl⟩
  · obtain ⟨s, r1⟩ := Nz.read h1
    obtain ⟨s', r2⟩ := Nz.read h2
    exact ⟨s, s', 0, _, r1, r2, .inr rfl⟩
theorem near3_z {s s' : Bool} {m : Nat} {i : Int} {t t' : Bool} {n : Nat} {j : Int} (h : s = s' ∨ m = 0) (k : t = t' ∨ n = 0) : SameZ (near3 s m i t n j) (near3 s' m i t' n j) := by
  have h1 : SameZ (near3 s m i t n j) (near3 s' m i t n j) := by
    rcases h with rfl | rfl
    · exact .inl rfl
    · exact near3_zl _ _ _ _ _ _
  have h2 : SameZ (near3 s' m i t n j) (near3 s' m i t' n j) := by
    rcases k with rfl | rfl
    · exact .inl rfl
    · exact near3_zr _ _ _ _ _ _
  exact h1.trans h2
theorem FA_zz {x x' y y' : Nat} (hx : Num x) (hy : Num y) (h : SameZ x x') (k : SameZ y y') : SameZ (FA x y) (FA x' y') := by
  obtain ⟨s, s', m, i, r1, r2, c⟩ := same_read hx h
  obtain ⟨t, t', n, j, q1, q2, d⟩ := same_read hy k
  rw [FA_near r1 q1, FA_near r2 q2]
  exact near3_z c d
theorem FS_zz {x x' y y' : Nat} (hx : Num x) (hy : Num y) (h : SameZ x x') (k : SameZ y y') : SameZ (FS x y) (FS x' y') := by
  obtain ⟨s, s', m, i, r1, r2, c⟩ := same_read hx h
  obtain ⟨t, t', n, j, q1, q2, d⟩ := same_read hy k
  rw [FS_near r1 q1, FS_near r2 q2]
  refine near3_z c ?_
  rcases d with rfl | d
  · exact .inl rfl
  · exact .inr d
theorem FM_zz {x x' y y' : Nat} (hx : Num x) (hy : Num y) (h : SameZ x x') (k : SameZ y y') : SameZ (FM x y) (FM x' y') := by
  obtain ⟨s, s', m, i, r1, r2, c⟩ := same_read hx h
  obtain ⟨t, t', n, j, q1, q2, d⟩ := same_read hy k
  have e1 : FM x y = double.nearest (s ^^ t) (m * n) (i + j) := by unfold FM Format.mul; rw [r1, q1]; rfl
  have e2 : FM x' y' = double.nearest (s' ^^ t') (m * n) (i + j) := by unfold FM Format.mul; rw [r2, q2]; rfl
  rw [e1, e2]
  rcases c with rfl | rfl
  · rcases d with rfl | rfl
    · exact .inl rfl
    · rw [Nat.mul_zero]; exact .inr ⟨near_nz _ _, near_nz _ _⟩
  · rw [Nat.zero_mul]; exact .inr ⟨near_nz _ _, near_nz _ _⟩
theorem sqrt_zz {x x' r : Nat} (h : SameZ x x') (hr : double.sqrt x = some r) : ∃ r', double.sqrt x' = some r' ∧ SameZ r r' := by
  have hz : ∀ u, Nz u → ∃ r, double.sqrt u = some r ∧ Nz r := by
    intro u hu
    obtain ⟨s, ru⟩ := Nz.read hu
    unfold Format.sqrt; rw [ru]
    exact ⟨_, rfl, near_nz _ _⟩
  rcases h with rfl | ⟨h1, h2⟩
  · exact ⟨r, hr, .inl rfl⟩
  · obtain ⟨q, e1, z1⟩ := hz x h1
    obtain ⟨q', e2, z2⟩ := hz x' h2
    rw [e1] at hr
    obtain rfl := Option.some.inj hr
    exact ⟨q', e2, .inr ⟨z1, z2⟩⟩
/-- Rounding knows no sign. -/
theorem near_mod (neg neg' : Bool) (mag : Nat) (place : Int) : double.nearest neg mag place % 9223372036854775808 = double.nearest neg' mag place % 9223372036854775808 := by
  have hw : ∀ (b : Bool) (r : Nat), r ≤ 9218868437227405312 → double.word b r % 9223372036854775808 = r := by
    intro b r hr
    unfold Format.word
    rw [sw]
    split <;> omega
  unfold Format.nearest
  by_cases c : mag = 0
  · rw [if_pos c, if_pos c, hw _ _ (by decide), hw _ _ (by decide)]
  · rw [if_neg c, if_neg c]
    simp only
    have hc : ∀ n d, Toward.even.cut neg n d = Toward.even.cut neg' n d := fun _ _ => rfl
    rw [ir, hw _ _ (Nat.min_le_right _ _), hw _ _ (Nat.min_le_right _ _), hc]
theorem signed_not (s : Bool) (m u : Nat) : signed (!s) m u = -signed s m u := by cases s <;> simp [signed_false, signed_true]
theorem FS_swap {x y : Nat} (hx : Num x) (hy : Num y) : FS x y % 9223372036854775808 = FS y x % 9223372036854775808 := by
  obtain ⟨s, m, i, rx⟩ := hx
  obtain ⟨t, n, j, ry⟩ := hy
  rw [FS_near rx ry, FS_near ry rx]
  unfold near3
  rw [Int.min_comm j i, signed_not, signed_not]
  have e : (signed t n (j - min i j).toNat + -signed s m (i - min i j).toNat).natAbs = (signed s m (i - min i j).toNat + -signed t n (j - min i j).toNat).natAbs := by omega
  rw [e]
  exact near_mod _ _ _ _
theorem FM_sq {x y : Nat} (hx : Num x) (h : x % 9223372036854775808 = y % 9223372036854775808) : FM x x = FM y y := by
  obtain ⟨s, m, i, rx⟩ := hx
  have ha : absB x = absB y := h
  have h1 := read_abs x
  rw [rx, ha, read_abs y] at h1
  obtain ⟨t, ry⟩ : ∃ t, double.read y = .number t m i := by
    cases hr : double.read y with
    | number t n j => rw [hr] at h1; injection h1 with _ h2 h3; exact ⟨t, by rw [h2, h3]⟩
    | infinity t => rw [hr] at h1; cases h1
    | nan t f => rw [hr] at h1; cases h1
  have e1 : FM x x = double.nearest (s ^^ s) (m * m) (i + i) := by unfold FM Format.mul; rw [rx]; rfl
  have e2 : FM y y = double.nearest (t ^^ t) (m * m) (i + i) := by unfold FM Format.mul; rw [ry]; rfl
  rw [e1, e2, Bool.xor_self, Bool.xor_self]
end Go.Proofs.YtinopkmcddjgdaaGreatDoor.FB
namespace Go.Proofs.YtinopkmcddjgdaaGreatDoor.FB
open Ieee

theorem read_word (s : Bool) (q M : Nat) (hM : M < 9007199254740992) (hq : q = 0 ∨ 4503599627370496 ≤ M) (h2 : q ≤ 2045) : double.read (double.word s (q * 4503599627370496 + M)) = .number s M (-1074 + (q : Int)) := by
  have hlt : q * 4503599627370496 + M < 9218868437227405312 := by omega
  have key : ∀ x : Nat, x % 9223372036854775808 = q * 4503599627370496 + M → (x / 9223372036854775808 % 2 == 1) = s → double.read x = .number s M (-1074 + (q : Int)) := by
    intro x h1 h3
    rw [read_eq, h1, h3]
    by_cases c : q * 4503599627370496 + M < 4503599627370496
    · rw [if_pos c]
      have hq0 : q = 0 := by omega
      subst hq0
      simp
    · rw [if_neg c, if_pos hlt]
      have e1 : 4503599627370496 + (q * 4503599627370496 + M) % 4503599627370496 = M := by omega
      have e2 : (q * 4503599627370496 + M) / 4503599627370496 - 1 = q := by omega
      rw [e1, e2]
  refine key _ ?_ ?_
  · unfold Format.word
    rw [sw]
    cases s
    · simp only [Bool.false_eq_true, if_false]; omega
    · simp only [if_true]; omega
  · unfold Format.word
    rw [sw]
    cases s
    · simp only [Bool.false_eq_true, if_false]
      rw [show (q * 4503599627370496 + M) / 9223372036854775808 = 0 by omega]; rfl
    · simp only [if_true]
      rw [show (9223372036854775808 + (q * 4503599627370496 + M)) / 9223372036854775808 = 1 by omega]; rfl

theorem cut_zero (neg : Bool) (n : Nat) : Toward.even.cut neg n 0 = n := by
  have := cut_exact neg n 0
  simpa using this

theorem log53 {N : Nat} (h0 : N ≠ 0) (hN : N < 9007199254740992) : N.log2 ≤ 52 ∧ 2 ^ N.log2 ≤ N ∧ N < 2 ^ (N.log2 + 1) := by
  refine ⟨?_, Nat.log2_self_le h0, Nat.lt_log2_self⟩
  have : N.log2 < 53 := (Nat.log2_lt h0).2 (by omega)
  omega

/-- What is written of a number that the format has. -/
theorem nearest_word_of (s : Bool) (N : Nat) (p : Int) (h0 : N ≠ 0) (hN : N < 9007199254740992) (hp : -1074 ≤ p) (hp2 : p ≤ 900) :
    ∃ e : Int, e = max (p + (N.log2 : Int) - 52) (-1074) ∧ double.nearest s N p = double.word s ((e + 1074).toNat * 4503599627370496 + N * 2 ^ (p - e).toNat) ∧ N * 2 ^ (p - e).toNat < 9007199254740992 ∧ ((e + 1074).toNat = 0 ∨ 4503599627370496 ≤ N * 2 ^ (p - e).toNat) ∧ e ≤ p ∧ e ≤ 900 := by
  obtain ⟨l1, l2, l3⟩ := log53 h0 hN
  refine ⟨_, rfl, ?_⟩
  generalize he : max (p + (N.log2 : Int) - 52) (-1074) = e
  have hep : e ≤ p := by omega
  obtain ⟨t, ht⟩ : ∃ t : Nat, (p - e).toNat = t := ⟨_, rfl⟩
  have hle : N.log2 + t ≤ 52 := by omega
  have hor : e = -1074 ∨ N.log2 + t = 52 := by omega
  have hk : N * 2 ^ t < 9007199254740992 := by
    have h1 : N * 2 ^ t < 2 ^ (N.log2 + 1) * 2 ^ t := Nat.mul_lt_mul_of_pos_right l3 (Nat.two_pow_pos _)
    rw [← Nat.pow_add] at h1
    have h2 : 2 ^ (N.log2 + 1 + t) ≤ 2 ^ 53 := Nat.pow_le_pow_right (by decide) (by omega)
    have h3 : (2 : Nat) ^ 53 = 9007199254740992 := by decide
    omega
  have hk2 : e = -1074 ∨ 4503599627370496 ≤ N * 2 ^ t := by
    rcases hor with h | h
    · exact .inl h
    · refine .inr ?_
      have h1 : 2 ^ N.log2 * 2 ^ t ≤ N * 2 ^ t := Nat.mul_le_mul_right _ l2
      rw [← Nat.pow_add, h] at h1
      have h3 : (2 : Nat) ^ 52 = 4503599627370496 := by decide
      omega
  rw [ht]
  refine ⟨?_, hk, by omega, hep, by omega⟩
  unfold Format.nearest
  rw [if_neg h0]
  simp only
  have hf : (double.fractionBits : Int) = 52 := rfl
  rw [bn, lp, ir, hf, he, ht]
  have e2 : (e - p).toNat = 0 := by omega
  rw [e2, Nat.shiftLeft_eq, cut_zero]
  have e3 : e - -1074 = e + 1074 := by omega
  rw [e3]
  congr 1
  refine Nat.min_eq_left ?_
  have : (e + 1074).toNat ≤ 1974 := by omega
  generalize (e + 1074).toNat = q at this ⊢
  generalize N * 2 ^ t = M at hk ⊢
  omega
theorem read_word0 (s : Bool) : double.read (double.word s 0) = .number s 0 (-1074) := by
  have := read_word s 0 0 (by decide) (.inl rfl) (by decide)
  simpa using this
theorem nearest_read (s : Bool) (N : Nat) (p : Int) (hN : N < 9007199254740992) (hp : -1074 ≤ p) (hp2 : p ≤ 900) :
    ∃ e : Int, -1074 ≤ e ∧ e ≤ p ∧ double.read (double.nearest s N p) = .number s (N * 2 ^ (p - e).toNat) e := by
  by_cases h0 : N = 0
  · subst h0
    refine ⟨-1074, Int.le_refl _, hp, ?_⟩
    have h : double.nearest s 0 p = double.word s 0 := by unfold Format.nearest; rw [if_pos rfl]
    rw [h, read_word0, Nat.zero_mul]
  · obtain ⟨e, he, h1, h2, h3, h4, h5⟩ := nearest_word_of s N p h0 hN hp hp2
    refine ⟨e, by omega, h4, ?_⟩
    rw [h1, read_word s _ _ h2 h3 (by omega)]
    congr 1
    omega
/-- Digits that are all 0 may be moved into the place. -/
theorem nearest_shift (s : Bool) (N t : Nat) (p : Int) (hN : N < 9007199254740992) (hp : -1074 ≤ p + t) (hp2 : p + t ≤ 900) : double.nearest s (N * 2 ^ t) p = double.nearest s N (p + t) := by
  by_cases h0 : N = 0
  · subst h0
    unfold Format.nearest
    rw [Nat.zero_mul, if_pos rfl, if_pos rfl]
  · obtain ⟨e, he, h1, h2, h3, h4, h5⟩ := nearest_word_of s N (p + t) h0 hN hp hp2
    rw [h1]
    have hne : N * 2 ^ t ≠ 0 := Nat.mul_ne_zero h0 (Nat.pos_iff_ne_zero.1 (Nat.two_pow_pos _))
    unfold Format.nearest
    rw [if_neg hne]
    simp only
    have hf : (double.fractionBits : Int) = 52 := rfl
    have hlog : (N * 2 ^ t).log2 = N.log2 + t := by
      rw [Nat.log2_eq_iff hne]
      have k1 : 2 ^ N.log2 ≤ N := Nat.log2_self_le h0
      have k2 : N < 2 ^ (N.log2 + 1) := Nat.lt_log2_self
      refine ⟨?_, ?_⟩
      · rw [Nat.pow_add]; exact Nat.mul_le_mul_right _ k1
      · rw [show N.log2 + t + 1 = N.log2 + 1 + t by omega, Nat.pow_add]; exact Nat.mul_lt_mul_of_pos_right k2 (Nat.two_pow_pos _)
    rw [bn, lp, ir, hf, hlog]
    have hl : max (p + ((N.log2 + t : Nat) : Int) - 52) (-1074) = e := by rw [he]; omega
    rw [hl]
    have e3 : e - -1074 = e + 1074 := by omega
    rw [e3]
    have hc : Toward.even.cut s ((N * 2 ^ t) <<< (p - e).toNat) (e - p).toNat = N * 2 ^ (p + t - e).toNat := by
      rw [Nat.shiftLeft_eq]
      by_cases c : e ≤ p
      · rw [show (e - p).toNat = 0 by omega, cut_zero, Nat.mul_assoc, ← Nat.pow_add, show t + (p - e).toNat = (p + t - e).toNat by omega]
      · rw [show (p - e).toNat = 0 by omega, Nat.pow_zero, Nat.mul_one]
        have ht : t = (p + t - e).toNat + (e - p).toNat := by omega
        generalize (p + t - e).toNat = u at ht
        generalize (e - p).toNat = v at ht
        rw [ht, Nat.pow_add, ← Nat.mul_assoc, cut_exact]
    rw [hc]
    congr 1
    refine Nat.min_eq_left ?_
    have : (e + 1074).toNat ≤ 1974 := by omega
    generalize (e + 1074).toNat = q at this ⊢
    generalize N * 2 ^ (p + t - e).toNat = M at h2 ⊢
    omega

theorem cut_even_parts (s : Bool) (m k : Nat) : Toward.even.cut s m k = m / 2 ^ k + (if 2 ^ k < 2 * (m % 2 ^ k) ∨ (2 ^ k = 2 * (m % 2 ^ k) ∧ m / 2 ^ k % 2 = 1) then 1 else 0) := by
  unfold Toward.cut
  simp only
  by_cases hd : k ≤ m.log2 + 2
  · rw [Nat.min_eq_left hd, Nat.one_shiftLeft]
    congr 1
    generalize m / 2 ^ k = q
    generalize m % 2 ^ k = r
    generalize 2 ^ k = g
    by_cases c1 : g < 2 * r
    · rw [if_pos (.inl c1)]; simp [c1]
    · by_cases c2 : g = 2 * r ∧ q % 2 = 1
      · rw [if_pos (.inr c2)]; simp [c2.1, c2.2]
      · rw [if_neg (by intro h; exact h.elim c1 c2)]
        have e1 : decide (g < 2 * r) = false := by simp [c1]
        have e2 : ((g == 2 * r) && (q % 2 == 1)) = false := by
          rw [Bool.and_eq_false_iff]
          by_cases c3 : g = 2 * r
          · refine .inr ?_
            have : ¬ q % 2 = 1 := fun h => c2 ⟨c3, h⟩
            simp [this]
          · refine .inl ?_
            simp [c3]
        rw [e1, e2]; rfl
  · rw [Nat.min_eq_right (by omega), Nat.one_shiftLeft]
    have hn : m < 2 ^ (m.log2 + 1) := Nat.lt_log2_self
    have e : 2 ^ (m.log2 + 2) = 2 * 2 ^ (m.log2 + 1) := by rw [Nat.pow_succ 2 (m.log2 + 1)]; omega
    have hk : 2 ^ (m.log2 + 2) ≤ 2 ^ k := Nat.pow_le_pow_right (by decide) (by omega)
    rw [Nat.div_eq_of_lt (show m < 2 ^ (m.log2 + 2) by omega), Nat.mod_eq_of_lt (show m < 2 ^ (m.log2 + 2) by omega), Nat.div_eq_of_lt (show m < 2 ^ k by omega), Nat.mod_eq_of_lt (show m < 2 ^ k by omega)]
    have e1 : decide (2 ^ (m.log2 + 2) < 2 * m) = false := by rw [decide_eq_false_iff_not]; omega
    have e2 : ((2 ^ (m.log2 + 2) == 2 * m) : Bool) = false := by rw [beq_eq_false_iff_ne]; omega
    rw [e1, e2, if_neg (by omega)]
    rfl
theorem cut_down_parts (s : Bool) (m k : Nat) : Toward.down.cut s m k = m / 2 ^ k + (if s = true ∧ m % 2 ^ k ≠ 0 then 1 else 0) := by
  unfold Toward.cut
  simp only
  have key : ∀ q r : Nat, q + (s && r != 0).toNat = q + (if s = true ∧ r ≠ 0 then 1 else 0) := by
    intro q r
    cases s
    · simp
    · by_cases c : r = 0
      · simp [c]
      · simp [c]
  by_cases hd : k ≤ m.log2 + 2
  · rw [Nat.min_eq_left hd, Nat.one_shiftLeft]
    exact key _ _
  · rw [Nat.min_eq_right (by omega), Nat.one_shiftLeft]
    have hn : m < 2 ^ (m.log2 + 1) := Nat.lt_log2_self
    have e : 2 ^ (m.log2 + 2) = 2 * 2 ^ (m.log2 + 1) := by rw [Nat.pow_succ 2 (m.log2 + 1)]; omega
    have hk : 2 ^ (m.log2 + 2) ≤ 2 ^ k := Nat.pow_le_pow_right (by decide) (by omega)
    rw [Nat.div_eq_of_lt (show m < 2 ^ (m.log2 + 2) by omega), Nat.mod_eq_of_lt (show m < 2 ^ (m.log2 + 2) by omega), Nat.div_eq_of_lt (show m < 2 ^ k by omega), Nat.mod_eq_of_lt (show m < 2 ^ k by omega)]
    exact key _ _
theorem cut_way_exact (way : Toward) (neg : Bool) (M t : Nat) : way.cut neg (M * 2 ^ t) t = M := by
  unfold Toward.cut
  simp only
  by_cases h0 : M = 0
  · subst h0; cases way <;> cases neg <;> simp
  have hlog : t ≤ (M * 2 ^ t).log2 + 2 := by
    have : t ≤ (M * 2 ^ t).log2 := (Nat.le_log2 (Nat.mul_ne_zero h0 (Nat.pos_iff_ne_zero.1 (Nat.two_pow_pos _)))).2 (Nat.le_mul_of_pos_left _ (by omega))
    omega
  rw [Nat.min_eq_left hlog, Nat.one_shiftLeft, Nat.mul_div_cancel _ (Nat.two_pow_pos _), Nat.mul_mod_left]
  have := Nat.two_pow_pos t
  cases way <;> cases neg <;> simp
/-- The whole number of a word that has one. -/
theorem toInt_whole {a : Nat} {s : Bool} {N : Nat} {e : Int} (he : e ≤ 0) (h : double.read a = .number s (N * 2 ^ (0 - e).toNat) e) : (double.read a).toInt .zero = some (signed s N 0) := by
  rw [h]
  unfold Datum.toInt Datum.integral
  simp only
  rw [show e.toNat = 0 by omega, Nat.shiftLeft_zero, show (-e).toNat = (0 - e).toNat by omega, cut_way_exact]

def halfW : Nat := 4602678819172646912
theorem read_half : double.read halfW = .number false 4503599627370496 (-53) := by decide +kernel
/-- What is left, held against a half. -/
theorem order_half (N k : Nat) (hN : N < 9007199254740992) (hk : k ≤ 1074) : double.order (double.nearest false N (-(k : Int))) halfW = some (compare (2 * N) (2 ^ k)) := by
  obtain ⟨e, h1, h2, h3⟩ := nearest_read false N (-(k : Int)) hN (by omega) (by omega)
  unfold Format.order
  rw [h3, read_half]
  simp only [Datum.order]
  rw [signed_false, signed_false]
  generalize hb : min e (-53) = base
  have b1 : base ≤ e := by omega
  have b2 : base ≤ -53 := by omega
  have e1 : N * 2 ^ (-(k : Int) - e).toNat * 2 ^ (e - base).toNat = N * 2 ^ (-(k : Int) - base).toNat := by
    rw [Nat.mul_assoc, ← Nat.pow_add]
    congr 2
    omega
  have e2 : 4503599627370496 * 2 ^ (-53 - base).toNat = 2 ^ (-1 - base).toNat := by
    rw [show (4503599627370496 : Nat) = 2 ^ 52 by decide, ← Nat.pow_add]
    congr 1
    omega
  rw [e1, e2]
  congr 1
  obtain ⟨u, hu⟩ : ∃ u : Nat, (-(k : Int) - base).toNat = u := ⟨_, rfl⟩
  have hv : (-1 - base).toNat + 1 = k + u := by omega
  rw [hu]
  have e3 : 2 * 2 ^ (-1 - base).toNat = 2 ^ k * 2 ^ u := by rw [← Nat.pow_add, ← hv, Nat.pow_succ, Nat.mul_comm]
  generalize 2 ^ (-1 - base).toNat = B at e3 ⊢
  have hp := Nat.two_pow_pos u
  generalize 2 ^ u = U at e3 hp ⊢
  generalize 2 ^ k = K at e3 ⊢
  rcases Nat.lt_trichotomy (2 * N) K with h | h | h
  · have : 2 * N * U < K * U := Nat.mul_lt_mul_of_pos_right h hp
    rw [Nat.compare_eq_lt.2 h, Int.compare_eq_lt.2]
    have e4 : 2 * N * U = 2 * (N * U) := Nat.mul_assoc _ _ _
    omega
  · have : 2 * N * U = K * U := by rw [h]
    rw [Nat.compare_eq_eq.2 h, Int.compare_eq_eq.2]
    have e4 : 2 * N * U = 2 * (N * U) := Nat.mul_assoc _ _ _
    omega
  · have : K * U < 2 * N * U := Nat.mul_lt_mul_of_pos_right h hp
    rw [Nat.compare_eq_gt.2 h, Int.compare_eq_gt.2]
    have e4 : 2 * N * U = 2 * (N * U) := Nat.mul_assoc _ _ _
    omega
end Go.Proofs.YtinopkmcddjgdaaGreatDoor.FB
namespace Go.Proofs.YtinopkmcddjgdaaGreatDoor.FB
open Ieee

theorem odd_test (n : Int) : (n.tmod 2 != 0) = decide (n % 2 = 1) := by
  rcases Int.le_total 0 n with h | h
  · rw [Int.tmod_eq_emod_of_nonneg h]
    have : n % 2 = 0 ∨ n % 2 = 1 := by omega
    rcases this with e | e <;> rw [e] <;> decide
  · obtain ⟨m, rfl⟩ : ∃ m : Int, n = -m := ⟨-n, by omega⟩
    rw [Int.neg_tmod, Int.tmod_eq_emod_of_nonneg (by omega)]
    have : m % 2 = 0 ∨ m % 2 = 1 := by omega
    rcases this with e | e
    · have e2 : (-m) % 2 = 0 := by omega
      rw [e, e2]; decide
    · have e2 : (-m) % 2 = 1 := by omega
      rw [e, e2]; decide
theorem half_lt : halfW < 9218868437227405312 := by unfold halfW; omega
theorem half_eq : 1022 * 4503599627370496 = halfW := by unfold halfW; omega
/-- Is one to be added to the floor? -/
def addOne (d : Nat) (n : Int) : Bool := double.order d halfW == some Ordering.gt || (double.order d halfW == some Ordering.eq && n.tmod 2 != 0)
theorem signed_zero_up (s : Bool) (m : Nat) : signed s m 0 = if s then -(m : Int) else (m : Int) := by
  cases s
  · rw [signed_false]; simp
  · rw [signed_true]; simp

theorem sub_left {x f : Nat} {s : Bool} {m k Q : Nat} {e : Int} (hr : double.read x = .number s m (-(k : Int))) (he : e ≤ 0) (hf : double.read f = .number s (Q * 2 ^ (0 - e).toNat) e) (N : Nat)
    (hN : if s = true then m + N = Q * 2 ^ k else Q * 2 ^ k + N = m) : ∃ t : Nat, ∃ base : Int, base + t = -(k : Int) ∧ double.sub x f = some (double.nearest false (N * 2 ^ t) base) := by
  obtain ⟨base, hb⟩ : ∃ b, min (-(k : Int)) e = b := ⟨_, rfl⟩
  refine ⟨(-(k : Int) - base).toNat, base, by omega, ?_⟩
  unfold Format.sub
  rw [hr, hf]
  simp only [Datum.opposite, Datum.sum]
  rw [hb]
  obtain ⟨t, ht⟩ : ∃ t : Nat, (-(k : Int) - base).toNat = t := ⟨_, rfl⟩
  rw [ht]
  have e1 : Q * 2 ^ (0 - e).toNat * 2 ^ (e - base).toNat = Q * 2 ^ k * 2 ^ t := by
    rw [Nat.mul_assoc, ← Nat.pow_add, Nat.mul_assoc, ← Nat.pow_add]
    congr 2
    omega
  have hsum : signed s m t + signed (!s) (Q * 2 ^ (0 - e).toNat) (e - base).toNat = ((N * 2 ^ t : Nat) : Int) := by
    cases s
    · rw [signed_false, Bool.not_false, signed_true, e1]
      rw [if_neg (by decide)] at hN
      rw [← hN, Nat.add_mul]
      omega
    · rw [signed_true, Bool.not_true, signed_false, e1]
      rw [if_pos rfl] at hN
      rw [← hN, Nat.add_mul]
      omega
  rw [hsum]
  show some (double.write (.number _ _ _)) = _
  congr 1
  show double.nearest _ _ _ = _
  have e2 : ((N * 2 ^ t : Nat) : Int).natAbs = N * 2 ^ t := Int.natAbs_natCast _
  rw [e2]
  congr 1
  by_cases h0 : ((N * 2 ^ t : Nat) : Int) = 0
  · rw [if_pos h0]; cases s <;> rfl
  · rw [if_neg h0]
    have : ¬ ((N * 2 ^ t : Nat) : Int) < 0 := by omega
    exact decide_eq_false this

/-- More digits than the format has: the number is above -1, and more than a half is left. -/
theorem far_ge {g r k t : Nat} {base : Int} (hg : 2 ^ k = g) (h0 : r ≠ 0) (hr : r < 9007199254740992) (hN : 9007199254740992 ≤ g - r) (hbt : base + t = -(k : Int)) :
    18014398509481984 ≤ g ∧ ∃ d, double.nearest false ((g - r) * 2 ^ t) base = d ∧ halfW ≤ d ∧ d < 9218868437227405312 := by
  have hk54 : 54 ≤ k := by
    apply Classical.byContradiction
    intro c
    have h1 : 2 ^ k ≤ 2 ^ 53 := Nat.pow_le_pow_right (by decide) (by omega)
    have h2 : (2 : Nat) ^ 53 = 9007199254740992 := by decide
    omega
  have hgh : 2 * 2 ^ (k - 1) = g := by rw [← hg, Nat.mul_comm, ← Nat.pow_succ]; congr 1; omega
  have hg54 : 18014398509481984 ≤ g := by
    have h1 : 2 ^ 54 ≤ 2 ^ k := Nat.pow_le_pow_right (by decide) hk54
    have h2 : (2 : Nat) ^ 54 = 18014398509481984 := by decide
    omega
  have hlow : 2 ^ (k - 1) ≤ g - r := by omega
  have hpos : 0 < (g - r) * 2 ^ t := Nat.mul_pos (by omega) (Nat.two_pow_pos _)
  have hlog : k - 1 + t ≤ ((g - r) * 2 ^ t).log2 := by
    refine (Nat.le_log2 (by omega)).2 ?_
    rw [Nat.pow_add]
    exact Nat.mul_le_mul_right _ hlow
  have hge := nearest_ge ((g - r) * 2 ^ t) base 1022 (by omega) (by decide) (by decide) (by omega)
  have hlt : (g - r) * 2 ^ t < 2 ^ (k + t) := by
    rw [Nat.pow_add, hg]
    exact Nat.mul_lt_mul_of_pos_right (by omega) (Nat.two_pow_pos _)
  have hle := nearest_le false ((g - r) * 2 ^ t) base (k + t) 1023 hlt (by decide) (by omega)
  have hle2 := (hle.resolve_right (by decide)).2
  have hsm : double.nearest false ((g - r) * 2 ^ t) base < 9223372036854775808 := by
    unfold Format.nearest
    rw [if_neg (by omega)]
    have hw : ∀ r, double.word false r = r := fun r => rfl
    simp only [hw]
    rw [ir]
    exact Nat.lt_of_le_of_lt (Nat.min_le_right _ _) (by decide)
  rw [Nat.mod_eq_of_lt hsm] at hle2
  rw [half_eq] at hge
  refine ⟨hg54, _, rfl, hge, ?_⟩
  generalize double.nearest false ((g - r) * 2 ^ t) base = d at *
  clear hge hlog hpos hlow hgh
  omega
theorem far_yes {d : Nat} (hge : halfW ≤ d) (hlt : d < 9218868437227405312) : addOne d (-((0 + 1 : Nat) : Int)) = true := by
  unfold addOne
  rw [order_pos hlt half_lt, odd_test]
  rcases Nat.lt_or_ge halfW d with c | c
  · rw [Nat.compare_eq_gt.2 c]; rfl
  · rw [Nat.compare_eq_eq.2 (show d = halfW by omega)]; rfl
theorem near_core {x : Nat} {s : Bool} {m k : Nat} (hr : double.read x = .number s m (-(k : Int))) (hk : 1 ≤ k) :
    ∃ d, double.sub x (double.nearest s (Toward.down.cut s m k) 0) = some d ∧
      signed s (Toward.even.cut s m k) 0 = (if addOne d (signed s (Toward.down.cut s m k) 0) = true then signed s (Toward.down.cut s m k) 0 + 1 else signed s (Toward.down.cut s m k) 0) := by
  obtain ⟨hm, hk2, _, _, _⟩ := num_bd hr
  have hkn : k ≤ 1074 := by omega
  have hdm := Nat.div_add_mod m (2 ^ k)
  have hrl := Nat.mod_lt m (Nat.two_pow_pos k)
  have hg2 : 2 ≤ 2 ^ k := by
    have : 2 ^ 1 ≤ 2 ^ k := Nat.pow_le_pow_right (by decide) hk
    omega
  have hq : m / 2 ^ k ≤ m / 2 := Nat.div_le_div_left hg2 (by decide)
  have hQ : Toward.down.cut s m k < 9007199254740992 := by
    rw [cut_down_parts]
    have : (if s = true ∧ m % 2 ^ k ≠ 0 then 1 else 0) ≤ 1 := by split <;> omega
    omega
  obtain ⟨e, he1, he2, he3⟩ := nearest_read s (Toward.down.cut s m k) 0 hQ (by omega) (by omega)
  rw [cut_even_parts]
  rw [cut_down_parts] at hQ he3 ⊢
  generalize hqq : m / 2 ^ k = q at *
  generalize hrr : m % 2 ^ k = r at *
  obtain ⟨g, hg⟩ : ∃ g, 2 ^ k = g := ⟨_, rfl⟩
  rw [hg] at hdm hrl hg2
  -- what is left, and the shape of the two numbers
  obtain ⟨N, hN, hNc⟩ : ∃ N, (if s = true then m + N = (q + (if s = true ∧ r ≠ 0 then 1 else 0)) * 2 ^ k else (q + (if s = true ∧ r ≠ 0 then 1 else 0)) * 2 ^ k + N = m) ∧
      (s = false ∧ N = r ∨ s = true ∧ r = 0 ∧ N = 0 ∨ s = true ∧ r ≠ 0 ∧ N = g - r) := by
    cases s
    · refine ⟨r, ?_, .inl ⟨rfl, rfl⟩⟩
      rw [if_neg (by decide), if_neg (by simp), Nat.add_zero, hg, Nat.mul_comm q g]; exact hdm
    · by_cases h0 : r = 0
      · refine ⟨0, ?_, .inr (.inl ⟨rfl, h0, rfl⟩)⟩
        rw [if_pos rfl, if_neg (by simp [h0]), Nat.add_zero, Nat.add_zero, hg, Nat.mul_comm q g]; omega
      · refine ⟨g - r, ?_, .inr (.inr ⟨rfl, h0, rfl⟩)⟩
        rw [if_pos rfl, if_pos ⟨rfl, h0⟩, hg, Nat.add_mul, Nat.mul_comm q g]; omega
  obtain ⟨t, base, hbt, hsub⟩ := sub_left hr he2 he3 N hN
  refine ⟨_, hsub, ?_⟩
  by_cases hNb : N < 9007199254740992
  · rw [nearest_shift false N t base hNb (by omega) (by omega), hbt]
    unfold addOne
    rw [order_half N k hNb hkn, odd_test, hg]
    rcases hNc with ⟨rfl, rfl⟩ | ⟨rfl, rfl, rfl⟩ | ⟨rfl, h0, rfl⟩
    · rw [signed_zero_up, signed_zero_up]
      rw [if_neg (show ¬ (false = true) by decide), if_neg (show ¬ (false = true) by decide), if_neg (show ¬ (false = true ∧ N ≠ 0) by simp), Nat.add_zero]
      rcases Nat.lt_trichotomy (2 * N) g with c | c | c
      · rw [Nat.compare_eq_lt.2 c, if_neg (by omega)]; simp
      · rw [Nat.compare_eq_eq.2 c]
        by_cases o : q % 2 = 1
        · rw [if_pos (.inr ⟨c.symm, o⟩)]
          have : ((q : Int) % 2 = 1) := by omega
          simp [this]
        · rw [if_neg (by intro h; rcases h with h | h; omega; exact o h.2)]
          have : ¬ ((q : Int) % 2 = 1) := by omega
          simp [this]
      · rw [Nat.compare_eq_gt.2 c, if_pos (.inl c)]; simp
    · rw [signed_zero_up, signed_zero_up]
      rw [Nat.mul_zero, Nat.compare_eq_lt.2 (show 0 < g by omega), if_neg (show ¬ (g < 0 ∨ g = 0 ∧ q % 2 = 1) by omega)]
      simp
    · rw [signed_zero_up, signed_zero_up]
      rw [if_pos (show (true = true ∧ r ≠ 0) from ⟨rfl, h0⟩), if_pos rfl, if_pos rfl]
      rcases Nat.lt_trichotomy (2 * (g - r)) g with c | c | c
      · rw [Nat.compare_eq_lt.2 c, if_pos (.inl (by omega))]; simp
      · rw [Nat.compare_eq_eq.2 c]
        by_cases o : q % 2 = 1
        · rw [if_pos (.inr ⟨by omega, o⟩)]
          have : ¬ (-((q + 1 : Nat) : Int) % 2 = 1) := by omega
          rw [decide_eq_false this, if_neg (by decide)]
        · rw [if_neg (by intro h; rcases h with h | h; omega; exact o h.2)]
          have : (-((q + 1 : Nat) : Int) % 2 = 1) := by omega
          simp only [this, decide_true, Bool.and_true]
          rw [if_pos (by decide)]
          omega
      · rw [Nat.compare_eq_gt.2 c, if_neg (by omega)]
        rw [if_pos (by simp)]
        omega
  · rcases hNc with ⟨rfl, rfl⟩ | ⟨rfl, rfl, rfl⟩ | ⟨rfl, h0, rfl⟩
    · have : N ≤ m := by rw [← hrr]; exact Nat.mod_le _ _
      omega
    · omega
    · have hrm : r ≤ m := by rw [← hrr]; exact Nat.mod_le _ _
      obtain ⟨hg54, d, hd, hge, hlt⟩ := far_ge hg h0 (show r < 9007199254740992 by omega) (by omega) hbt
      have hgm : m < g := by omega
      have hq0 : q = 0 := by rw [← hqq, hg]; exact Nat.div_eq_of_lt hgm
      subst hq0
      rw [hd, signed_zero_up, signed_zero_up]
      rw [if_pos (show (true = true ∧ r ≠ 0) from ⟨rfl, h0⟩), if_neg (show ¬ (2 ^ k < 2 * r ∨ 2 ^ k = 2 * r ∧ 0 % 2 = 1) by omega), if_pos rfl, if_pos rfl]
      rw [if_pos (far_yes hge hlt)]
      rfl
end Go.Proofs.YtinopkmcddjgdaaGreatDoor.FB
