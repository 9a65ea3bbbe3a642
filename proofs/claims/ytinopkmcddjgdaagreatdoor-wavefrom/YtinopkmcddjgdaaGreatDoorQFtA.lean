/-
  Chains of operations on numbers with a point: what each one leaves, whatever it is given.
-/
import Derived.Test.YtinopkmcddjgdaaGreatDoorQGpV
import Derived.Test.YtinopkmcddjgdaaGreatDoorQJ4
namespace Go.Proofs.YtinopkmcddjgdaaGreatDoor
open Go.RowKit FB

def oA (o p : Option Nat) : Option Nat := o.bind fun a => p.bind fun b => Ieee.double.add a b
def oS (o p : Option Nat) : Option Nat := o.bind fun a => p.bind fun b => Ieee.double.sub a b
def oM (o p : Option Nat) : Option Nat := o.bind fun a => p.bind fun b => Ieee.double.mul a b
def oD (o p : Option Nat) : Option Nat := o.bind fun a => p.bind fun b => Ieee.double.div a b
def oQ (o : Option Nat) : Option Nat := o.bind fsq
def oL (o : Option Nat) : Option Nat := o.bind lnO
def oN (o : Option Nat) : Option Nat := o.map (Op.negFloat .f64)

theorem write_lt (d : Ieee.Datum) (h : ∀ s f, d ≠ .nan s f) : Ieee.double.write d < 18446744073709551616 := by
  cases d with
  | nan s f => exact absurd rfl (h s f)
  | infinity s => cases s <;> decide +kernel
  | number s m i => exact (nearest_nn s m i).1
theorem sum_nn (a b d : Ieee.Datum) (h : a.sum b = some d) : ∀ s f, d ≠ .nan s f := by
  intro s f hd
  subst hd
  cases a <;> cases b <;> simp only [Ieee.Datum.sum] at h <;> first | (cases h; done) | (split at h <;> cases h)
theorem prod_nn (a b d : Ieee.Datum) (h : a.product b = some d) : ∀ s f, d ≠ .nan s f := by
  intro s f hd
  subst hd
  cases a <;> cases b <;> simp only [Ieee.Datum.product] at h <;> first | (cases h; done) | (split at h <;> cases h)
theorem quot_nn (k : Nat) (a b d : Ieee.Datum) (h : a.quotient k b = some d) : ∀ s f, d ≠ .nan s f := by
  intro s f hd
  subst hd
  cases a <;> cases b <;> simp only [Ieee.Datum.quotient] at h <;> first | (cases h; done) | (split at h <;> first | (cases h; done) | (split at h <;> cases h))
theorem add_lt {x y r : Nat} (h : Ieee.double.add x y = some r) : r < 18446744073709551616 := by
  unfold Ieee.Format.add at h
  obtain ⟨d, h1, rfl⟩ := Option.map_eq_some_iff.1 h
  exact write_lt d (sum_nn _ _ _ h1)
theorem sub_lt {x y r : Nat} (h : Ieee.double.sub x y = some r) : r < 18446744073709551616 := by
  unfold Ieee.Format.sub at h
  obtain ⟨d, h1, rfl⟩ := Option.map_eq_some_iff.1 h
  exact write_lt d (sum_nn _ _ _ h1)
theorem mul_lt {x y r : Nat} (h : Ieee.double.mul x y = some r) : r < 18446744073709551616 := by
  unfold Ieee.Format.mul at h
  obtain ⟨d, h1, rfl⟩ := Option.map_eq_some_iff.1 h
  exact write_lt d (prod_nn _ _ _ h1)
theorem div_lt {x y r : Nat} (h : Ieee.double.div x y = some r) : r < 18446744073709551616 := by
  unfold Ieee.Format.div at h
  obtain ⟨d, h1, rfl⟩ := Option.map_eq_some_iff.1 h
  exact write_lt d (quot_nn _ _ _ _ h1)

/-- A word that is what a chain gives. -/
def GW (o : Option Nat) (r : Nat) : Prop := Got o r ∧ r < 18446744073709551616
theorem cut_lt (x y t : Nat) : (Question.nanBits .f64 x y).cut t < 18446744073709551616 := by
  have h : (Question.nanBits .f64 x y).cut t = (t % 2) * 9223372036854775808 + (9218868437227405313 + (t / 2) % 4503599627370495) := by
    show (t % 2) * 2 ^ 63 + 0x7ff0000000000000 + 1 + (t / 2) % (2 ^ 52 - 1) = _
    omega
  rw [h]; omega
theorem nb_lt (x y : Nat) (w : World) : nb x y w < 18446744073709551616 := by
  unfold nb
  exact cut_lt x y _
theorem div_nan_l {x y : Nat} (h : Nan x) : Ieee.double.div x y = none := by obtain ⟨s, f, h⟩ := h; unfold Ieee.Format.div; rw [h]; rfl
theorem got_quo {o p : Option Nat} {x y : Nat} (hx : Got o x) (hy : Got p y) (w : World) : Got (o.bind fun a => p.bind fun b => Ieee.double.div a b) (fv (floatBits .quo .f64 x y) x y w) := by
  have hg := got_fv (floatBits .quo .f64 x y) x y w
  cases o with
  | none =>
    have : floatBits .quo .f64 x y = none := div_nan_l hx
    rw [this] at hg ⊢; exact hg
  | some a =>
    cases p with
    | none =>
      have : floatBits .quo .f64 x y = none := div_nan_r hy
      rw [this] at hg ⊢; exact hg
    | some b =>
      obtain rfl : x = a := hx
      obtain rfl : y = b := hy
      exact hg
theorem fv_lt {o : Option Nat} (h : ∀ r, o = some r → r < 18446744073709551616) (x y : Nat) (w : World) : fv o x y w < 18446744073709551616 := by
  cases o with
  | some r => exact h r rfl
  | none => exact nb_lt x y w
/-- The operations, under names. -/
theorem ops : ∃ (mF aF sF qF : Nat → Nat → World → Nat) (mD aD sD qD : Nat → Nat → Nat),
    (∀ x y w, (binOp .mul 22 (.float .f64 x) (.float .f64 y)).run Tryz.prog w = .ok (.float .f64 (mF x y w)) (w.drewN (mD x y))) ∧
    (∀ x y w, (binOp .add 22 (.float .f64 x) (.float .f64 y)).run Tryz.prog w = .ok (.float .f64 (aF x y w)) (w.drewN (aD x y))) ∧
    (∀ x y w, (binOp .sub 22 (.float .f64 x) (.float .f64 y)).run Tryz.prog w = .ok (.float .f64 (sF x y w)) (w.drewN (sD x y))) ∧
    (∀ x y w, (binOp .quo 22 (.float .f64 x) (.float .f64 y)).run Tryz.prog w = .ok (.float .f64 (qF x y w)) (w.drewN (qD x y))) ∧
    (∀ o p x y w, Got o x → Got p y → GW (oM o p) (mF x y w)) ∧ (∀ o p x y w, Got o x → Got p y → GW (oA o p) (aF x y w)) ∧
    (∀ o p x y w, Got o x → Got p y → GW (oS o p) (sF x y w)) ∧ (∀ o p x y w, Got o x → Got p y → GW (oD o p) (qF x y w)) :=
  ⟨fun x y w => fv (floatBits .mul .f64 x y) x y w, fun x y w => fv (floatBits .add .f64 x y) x y w, fun x y w => fv (floatBits .sub .f64 x y) x y w, fun x y w => fv (floatBits .quo .f64 x y) x y w,
   fun x y => dn (floatBits .mul .f64 x y), fun x y => dn (floatBits .add .f64 x y), fun x y => dn (floatBits .sub .f64 x y), fun x y => dn (floatBits .quo .f64 x y),
   hmulA, haddA, hsubA, hquoA,
   fun _ _ _ _ w hx hy => ⟨got_mul hx hy w, fv_lt (fun _ h => mul_lt h) _ _ w⟩, fun _ _ _ _ w hx hy => ⟨got_add hx hy w, fv_lt (fun _ h => add_lt h) _ _ w⟩,
   fun _ _ _ _ w hx hy => ⟨got_sub hx hy w, fv_lt (fun _ h => sub_lt h) _ _ w⟩, fun _ _ _ _ w hx hy => ⟨got_quo hx hy w, fv_lt (fun _ h => div_lt h) _ _ w⟩⟩

/-- The root. -/
theorem root_nn (k : Nat) (a d : Ieee.Datum) (h : a.root k = some d) : ∀ s f, d ≠ .nan s f := by
  intro s f hd
  subst hd
  cases a <;> simp only [Ieee.Datum.root] at h <;> first | (cases h; done) | (split at h <;> first | (cases h; done) | (split at h <;> cases h))
theorem sqrt_lt {x r : Nat} (h : fsq x = some r) : r < 18446744073709551616 := by
  unfold fsq Ieee.Format.sqrt at h
  obtain ⟨d, h1, rfl⟩ := Option.map_eq_some_iff.1 h
  exact write_lt d (root_nn _ _ _ h1)
theorem sqrtO (o : Option Nat) (x : Nat) (h : Got o x) (w : World) : Calls Tryz.prog 40 #[.float .f64 x] w fun e w' => ∃ r n, e = .returned (.float .f64 r) ∧ GW (oQ o) r ∧ w' = w.drewN n := by
  refine (sqrt_any x w).mono ?_
  rintro e w' ⟨rfl, rfl⟩
  exact ⟨_, _, rfl, ⟨got_sqrt h w, fv_lt (fun _ h => sqrt_lt h) _ _ w⟩, rfl⟩

/-- Both logarithms, of a chain. -/
theorem lnO_nan {x : Nat} (h : Nan x) : lnO x = none := by
  obtain ⟨s, f, h⟩ := h
  unfold lnO; rw [h]
theorem got_oL {o : Option Nat} {x r : Nat} (h : Got o x) (hr : Got (lnO x) r) : Got (oL o) r := by
  cases o with
  | none => rw [lnO_nan h] at hr; exact hr
  | some q => obtain rfl : x = q := h; exact hr
theorem lnP (o : Option Nat) (x : Nat) (h : GW o x) (w : World) : Calls Tryz.prog 82 #[.float .f64 x] w fun e w' => ∃ r, e = .returned (.float .f64 r) ∧ Got (oL o) r ∧ Below w.heap.size w w' := by
  refine (ln_any x h.2 w).1.mono ?_
  rintro e w' ⟨r, rfl, hr, hB⟩
  exact ⟨r, rfl, got_oL h.1 hr, hB⟩
theorem lnR (o : Option Nat) (x : Nat) (h : GW o x) (w : World) : Calls Tryz.prog 78 #[.float .f64 x] w fun e w' => ∃ r, e = .returned (.float .f64 r) ∧ Got (oL o) r ∧ Below w.heap.size w w' := by
  refine (ln_any x h.2 w).2.mono ?_
  rintro e w' ⟨r, rfl, hr, hB⟩
  exact ⟨r, rfl, got_oL h.1 hr, hB⟩

/-- The power of nothing is 1. -/
theorem zr_of {x : Nat} (hx : x < 18446744073709551616) (h : isZ x = true) : Zr x := by
  have he : Ieee.double.order x 0 = some .eq := by
    have h' : (Ieee.double.order x 0 == some Ordering.eq) = true := h
    simpa using h'
  cases hr : Ieee.double.read x with
  | nan s f => rw [order_nan hr] at he; cases he
  | infinity s => unfold Ieee.Format.order at he; rw [hr, show Ieee.double.read 0 = .number false 0 (-1074) by decide +kernel] at he; cases s <;> cases he
  | number s m i =>
    have hb := num_bd hr
    have hm : x % 9223372036854775808 = 0 := by
      refine hb.2.2.2.1 ?_
      unfold Ieee.Format.order at he
      rw [hr, show Ieee.double.read 0 = .number false 0 (-1074) by decide +kernel] at he
      simp only [Ieee.Datum.order] at he
      have hc := Option.some.inj he
      have hz : Ieee.signed false 0 (-1074 - min i (-1074)).toNat = 0 := by unfold Ieee.signed; rw [Nat.zero_shiftLeft]; rfl
      rw [hz] at hc
      have h0 := Int.compare_eq_eq.1 hc
      cases s with
      | true =>
        rw [signed_true] at h0
        have : m * 2 ^ (i - min i (-1074)).toNat = 0 := by omega
        exact (Nat.mul_eq_zero.1 this).resolve_right (Nat.ne_of_gt (Nat.two_pow_pos _))
      | false =>
        rw [signed_false] at h0
        have : m * 2 ^ (i - min i (-1074)).toNat = 0 := by omega
        exact (Nat.mul_eq_zero.1 this).resolve_right (Nat.ne_of_gt (Nat.two_pow_pos _))
    unfold Zr
    omega
theorem exp_zr_p : (eP 0 = 4607182418800017408 ∧ eN 0 = 0) ∧ eP 9223372036854775808 = 4607182418800017408 ∧ eN 9223372036854775808 = 0 := by decide +kernel
set_option maxHeartbeats 1000000 in
theorem ldexp_one' (w : World) : Calls Tryz.prog 101 #[.float .f64 4607182418800017408, .int .i64 0] w fun e w' => e = .returned (.float .f64 4607182418800017408) ∧ w' = w := by
  have hz : (FloatKind.f64.format.order 4607182418800017408 0 == some Ordering.eq) = false := by decide +kernel
  have HI := hid (fun w => isInf_any 4607182418800017408 (by decide) false (by decide +kernel) w)
  have HJ := hid (fun w => isNaN_any 4607182418800017408 false (by decide +kernel) w)
  have HN := hid (fun w => norm_big 4607182418800017408 (by decide) (by decide) w)
  have hb : ∀ w, (callFunc 97 #[.float .f64 4607182418800017408]).run Tryz.prog w = .ok (.value (.int .u64 4607182418800017408)) w := fun w => call_bits 4607182418800017408 w
  have hf : ∀ w, (callFunc 96 #[.int .u64 4607182418800017408]).run Tryz.prog w = .ok (.value (.float .f64 4607182418800017408)) w := fun w => call_from 4607182418800017408 w
  have m1 : bits .and .i64 1023 2047 = 1023 := by decide +kernel
  have m2 : bits .andNot .u64 4607182418800017408 9218868437227405312 = 0 := by decide +kernel
  have m3 : bits .or .u64 0 4607182418800017408 = 4607182418800017408 := by decide +kernel
  have hmm := fun w => hmul (show Ieee.double.mul 4607182418800017408 4607182418800017408 = some 4607182418800017408 by decide +kernel) w
  go_enter Tryz.func101, Tryz.ntmps101
  go_wp2_with fail
  refine (HI.out _).mono ?_
  rintro e w1 ⟨rfl, rfl⟩
  go_wp2_with fail
  refine (HJ.out _).mono ?_
  rintro e w2 ⟨rfl, rfl⟩
  go_wp2_with fail
  refine (HN.out _).mono ?_
  rintro e w3 ⟨rfl, rfl⟩
  go_wp2
  go_ret
  exact ⟨rfl, rfl⟩
theorem ldexp_one (w : World) : Calls Tryz.prog 71 #[.float .f64 4607182418800017408, .int .i64 0] w fun e w' => e = .returned (.float .f64 4607182418800017408) ∧ w' = w := by
  go_enter Tryz.func71, Tryz.ntmps71
  go_wp2_with (go_at_call 101; refine (ldexp_one' _).mono ?_; rintro e w' ⟨rfl, rfl⟩)
  go_ret
  exact ⟨rfl, rfl⟩
theorem exp_zr {x : Nat} (h : Zr x) (w : World) :
    (Calls Tryz.prog 81 #[.float .f64 x] w fun e w' => e = .returned (.float .f64 4607182418800017408) ∧ Below w.heap.size w w') ∧
    (Calls Tryz.prog 37 #[.float .f64 x] w fun e w' => e = .returned (.float .f64 4607182418800017408) ∧ w' = w) := by
  rcases h with rfl | rfl
  · have hO := exp_ok 0 ⟨by decide, by decide⟩
    have hL : ∀ w, Calls Tryz.prog 71 #[.float .f64 (eP 0), .int .i64 (eN 0)] w fun e w' => e = .returned (.float .f64 4607182418800017408) ∧ w' = w := by
      rw [exp_zr_p.1.1, exp_zr_p.1.2]; exact ldexp_one
    exact ⟨exp_mid 0 4607182418800017408 hO hL (by decide +kernel) (by decide +kernel) (by decide +kernel) w, expOf_mid 0 4607182418800017408 hO hL (by decide +kernel) (by decide +kernel) (by decide +kernel) w⟩
  · have hO := exp_ok 9223372036854775808 ⟨by decide, by decide⟩
    have hL : ∀ w, Calls Tryz.prog 71 #[.float .f64 (eP 9223372036854775808), .int .i64 (eN 9223372036854775808)] w fun e w' => e = .returned (.float .f64 4607182418800017408) ∧ w' = w := by
      rw [exp_zr_p.2.1, exp_zr_p.2.2]; exact ldexp_one
    exact ⟨exp_mid _ 4607182418800017408 hO hL (by decide +kernel) (by decide +kernel) (by decide +kernel) w, expOf_mid _ 4607182418800017408 hO hL (by decide +kernel) (by decide +kernel) (by decide +kernel) w⟩

/-- Both powers, of a chain. -/
noncomputable def expO (x : Nat) : Option Nat := open Classical in if isZ x = true then some 4607182418800017408 else if h : x < 18446744073709551616 then Classical.choose (exp_any x h) else none
noncomputable def oX (o : Option Nat) : Option Nat := o.bind expO
theorem nan_ne {x : Nat} (h : Nan x) : (FloatKind.f64.format.order x x != some Ordering.eq) = true := by
  obtain ⟨s, f, h⟩ := h
  show (Ieee.double.order x x != _) = _
  rw [order_nan h]; rfl
theorem expP (o : Option Nat) (x : Nat) (h : GW o x) (w : World) : Calls Tryz.prog 81 #[.float .f64 x] w fun e w' => ∃ r, e = .returned (.float .f64 r) ∧ Got (oX o) r ∧ Below w.heap.size w w' := by
  cases o with
  | none =>
    refine (exp_nan x (nan_ne h.1) w).mono ?_
    rintro e w' ⟨rfl, rfl⟩
    exact ⟨x, rfl, h.1, Below.refl _ _⟩
  | some q =>
    obtain ⟨h1, h2⟩ := h
    obtain rfl : x = q := h1
    by_cases hz : isZ x = true
    · refine (exp_zr (zr_of h2 hz) w).1.mono ?_
      rintro e w' ⟨rfl, hB⟩
      refine ⟨_, rfl, ?_, hB⟩
      show Got (expO x) _
      unfold expO
      rw [if_pos hz]; rfl
    · refine (Classical.choose_spec (exp_any x h2) w).1.mono ?_
      rintro e w' ⟨r, rfl, hr, hB⟩
      refine ⟨r, rfl, ?_, hB⟩
      show Got (expO x) r
      unfold expO
      rw [if_neg hz, dif_pos h2]; exact hr
theorem expR (o : Option Nat) (x : Nat) (h : GW o x) (w : World) : Calls Tryz.prog 37 #[.float .f64 x] w fun e w' => ∃ r, e = .returned (.float .f64 r) ∧ Got (oX o) r ∧ Below w.heap.size w w' := by
  cases o with
  | none =>
    refine (expOf_nan x (nan_ne h.1) w).mono ?_
    rintro e w' ⟨rfl, rfl⟩
    exact ⟨x, rfl, h.1, Below.refl _ _⟩
  | some q =>
    obtain ⟨h1, h2⟩ := h
    obtain rfl : x = q := h1
    by_cases hz : isZ x = true
    · refine (exp_zr (zr_of h2 hz) w).2.mono ?_
      rintro e w' ⟨rfl, rfl⟩
      refine ⟨_, rfl, ?_, Below.refl _ _⟩
      show Got (expO x) _
      unfold expO
      rw [if_pos hz]; rfl
    · refine (Classical.choose_spec (exp_any x h2) w).2.mono ?_
      rintro e w' ⟨r, rfl, hr, hB⟩
      refine ⟨r, rfl, ?_, hB⟩
      show Got (expO x) r
      unfold expO
      rw [if_neg hz, dif_pos h2]; exact hr
/-- The other sign. -/
theorem nan_neg {x : Nat} (hx : x < 18446744073709551616) (h : Nan x) : Nan (Op.negFloat .f64 x) := by
  obtain ⟨s, f, h⟩ := h
  have h1 := read_abs x
  have h2 := read_abs (Op.negFloat .f64 x)
  rw [(neg_abs x hx).1, h1, h] at h2
  cases hr : Ieee.double.read (Op.negFloat .f64 x) with
  | nan s f => exact ⟨s, f, hr⟩
  | infinity s => rw [hr] at h2; cases h2
  | number s m i => rw [hr] at h2; cases h2
theorem got_neg {o : Option Nat} {x : Nat} (h : GW o x) : GW (oN o) (Op.negFloat .f64 x) := by
  refine ⟨?_, (neg_abs x h.2).2⟩
  cases o with
  | none => exact nan_neg h.2 h.1
  | some q => obtain rfl : x = q := h.1; rfl
theorem uz_lt {x : Nat} (h : x < 18446744073709551616) : uz x < 18446744073709551616 := by
  unfold uz; split <;> omega
theorem exp_uz {x : Nat} (hx : x < 18446744073709551616) : expO (Op.negFloat .f64 (uz x)) = expO (Op.negFloat .f64 x) := by
  by_cases h : isZ x = true
  · have k0 : isZ (Op.negFloat .f64 0) = true ∧ isZ (Op.negFloat .f64 9223372036854775808) = true := by decide +kernel
    have hu : uz x = 0 := by
      unfold uz
      have h' : (Ieee.double.order x 0 == some Ordering.eq) = true := h
      rw [if_pos (by simpa using h')]
    have e : ∀ y, isZ y = true → expO y = some 4607182418800017408 := fun y hy => by unfold expO; rw [if_pos hy]
    rw [hu, e _ k0.1]
    rcases zr_of hx h with rfl | rfl
    · rw [e _ k0.1]
    · rw [e _ k0.2]
  · have hu : uz x = x := by
      unfold uz
      rw [if_neg]
      intro he
      apply h
      show (Ieee.double.order x 0 == some Ordering.eq) = true
      rw [he]; rfl
    rw [hu]
theorem expNP (o : Option Nat) (x : Nat) (h : GW o x) (w : World) : Calls Tryz.prog 81 #[.float .f64 (Op.negFloat .f64 (uz x))] w fun e w' => ∃ r, e = .returned (.float .f64 r) ∧ Got (oX (oN o)) r ∧ Below w.heap.size w w' := by
  cases o with
  | none =>
    rw [uz_nan h.1]
    exact expP none _ (got_neg (o := none) h) w
  | some q =>
    obtain ⟨h1, h2⟩ := h
    obtain rfl : x = q := h1
    refine (expP (some _) _ ⟨rfl, (neg_abs _ (uz_lt h2)).2⟩ w).mono ?_
    rintro e w' ⟨r, rfl, hr, hB⟩
    refine ⟨r, rfl, ?_, hB⟩
    show Got (expO (Op.negFloat .f64 x)) r
    rw [← exp_uz h2]
    exact hr

/-- A nothing's sign is not seen behind 1. -/
theorem one_add {u v : Nat} (h : SameZ u v) : Ieee.double.add 4607182418800017408 u = Ieee.double.add 4607182418800017408 v := by
  rcases h with rfl | ⟨rfl | rfl, rfl | rfl⟩ <;> first | rfl | decide +kernel
theorem one_sub {u v : Nat} (h : SameZ u v) : Ieee.double.sub 4607182418800017408 u = Ieee.double.sub 4607182418800017408 v := by
  rcases h with rfl | ⟨rfl | rfl, rfl | rfl⟩ <;> first | rfl | decide +kernel
def tbO (o : Option Nat) : Option Nat := oL (oD (oA (some 4607182418800017408) o) (oS (some 4607182418800017408) o))
theorem tbO_sim {o p : Option Nat} (h : Sim o p) : tbO o = tbO p := by
  rcases h with ⟨rfl, rfl⟩ | ⟨r, q, rfl, rfl, h⟩
  · rfl
  · unfold tbO oA oS
    show oL (oD (Ieee.double.add _ r) (Ieee.double.sub _ r)) = oL (oD (Ieee.double.add _ q) (Ieee.double.sub _ q))
    rw [one_add h, one_sub h]
theorem oM_sim {o p o' p' : Option Nat} (h : Sim o o') (k : Sim p p') : Sim (oM o p) (oM o' p') := by
  rcases h with ⟨rfl, rfl⟩ | ⟨r, q, rfl, rfl, h⟩
  · exact .inl ⟨rfl, rfl⟩
  · rcases k with ⟨rfl, rfl⟩ | ⟨r', q', rfl, rfl, k⟩
    · exact .inl ⟨rfl, rfl⟩
    · exact mul_sim h k
end Go.Proofs.YtinopkmcddjgdaaGreatDoor
