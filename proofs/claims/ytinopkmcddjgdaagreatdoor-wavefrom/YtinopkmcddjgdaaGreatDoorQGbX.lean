/-
  The radius across the meridian: Globe.Cross and mercatorref2.CrossOf: the same chain of operations, also where one of them has no answer.
-/
import Derived.Test.YtinopkmcddjgdaaGreatDoorQGbB
import Derived.Test.YtinopkmcddjgdaaGreatDoorQSpanK
namespace Go.Proofs.YtinopkmcddjgdaaGreatDoor
open Go.RowKit FB
attribute [local go_sem] run_store_float

theorem nan_of {x : Nat} (_hx : x < 18446744073709551616) (h : ¬ x % 9223372036854775808 ≤ 9218868437227405312) : ∃ s f, Ieee.double.read x = .nan s f := by
  rw [read_eq, if_neg (by omega), if_neg (by omega), if_neg (by omega)]
  exact ⟨_, _, rfl⟩
theorem ge_nn {x y : Nat} (hx : x < 18446744073709551616) (h : geB x y = true) : NN x := by
  refine ⟨hx, Classical.byContradiction fun hc => ?_⟩
  obtain ⟨s, f, hr⟩ := nan_of hx hc
  have : FloatKind.f64.format.order x y = none := by
    show Ieee.double.order x y = none
    unfold Ieee.Format.order; rw [hr]; rfl
  unfold geB at h; rw [this] at h; cases h
/-- A word within two that are numbers, by places. -/
theorem in_key {lo hi x : Nat} (hx : x < 18446744073709551616) (hlo : NN lo) (hhi : NN hi) (h : inB lo hi x = true) : NN x ∧ key lo ≤ key x ∧ key x ≤ key hi := by
  unfold inB at h
  rw [Bool.and_eq_true] at h
  have hn := ge_nn hx h.1
  have e1 := k_geq hn hlo
  have e2 := k_leq hn hhi
  have h1 : (FloatKind.f64.format.order x lo == some Ordering.gt || FloatKind.f64.format.order x lo == some Ordering.eq) = true := h.1
  have h2 : (FloatKind.f64.format.order x hi == some Ordering.lt || FloatKind.f64.format.order x hi == some Ordering.eq) = true := h.2
  rw [h1] at e1
  rw [h2] at e2
  exact ⟨hn, of_decide_eq_true e1.symm, of_decide_eq_true e2.symm⟩
theorem le_of_key {x k : Nat} (hn : NN x) (h : (key x).natAbs ≤ k * 4503599627370496) : Le k x := by
  refine ⟨hn.1, ?_⟩
  unfold key at h
  split at h <;> omega
theorem okG_le {a f : Nat} (ha : a < 18446744073709551616) (hf : f < 18446744073709551616) (h : okG a f = true) : Le 1053 a ∧ Le 1021 f ∧ 0 ≤ key f ∧ NN a ∧ 0 < key a := by
  unfold okG at h
  rw [Bool.and_eq_true] at h
  obtain ⟨n1, a1, a2⟩ := in_key ha ⟨by decide, by decide⟩ ⟨by decide, by decide⟩ h.1
  obtain ⟨n2, f1, f2⟩ := in_key hf ⟨by decide, by decide⟩ ⟨by decide, by decide⟩ h.2
  have c1 : key 4607182418800017408 = 4607182418800017408 := rfl
  have c2 : key 4741671816366391296 = 4741671816366391296 := rfl
  have c3 : key 0 = 0 := rfl
  have c4 : key 4598175219545276416 = 4598175219545276416 := rfl
  exact ⟨le_of_key n1 (by omega), le_of_key n2 (by omega), by omega, n1, by omega⟩
/-- The square of the eccentricity. -/
def eOf (f : Nat) : Nat := FM f (FS 4611686018427387904 f)
theorem two_le : Le 1024 4611686018427387904 := ⟨by decide, by decide⟩
theorem e_le {f : Nat} (hf : Le 1021 f) : Le 1027 (eOf f) := FM_le hf (FS_le two_le (hf.mono (by decide)) (by decide) (by decide)) (by decide) (by decide) (by decide) (by decide) _ (by decide) (by decide) (by decide)
theorem e_eqs {f : Nat} (hf : Le 1021 f) : Ieee.double.sub 4611686018427387904 f = some (FS 4611686018427387904 f) ∧ Ieee.double.mul f (FS 4611686018427387904 f) = some (eOf f) :=
  ⟨sub_num (two_le.num (by decide) (by decide)) (hf.num (by decide) (by decide)), mul_num (hf.num (by decide) (by decide)) ((FS_le two_le (hf.mono (by decide)) (by decide) (by decide)).num (by decide) (by decide))⟩
theorem sinV_le (n : Int) (h0 : 0 ≤ n) (h1 : n < 360000000000) : Le 1136 (sinV n) ∧ Le 1136 (cosV n) := by
  have hs := s_le n h0 h1
  have hc : Le 1136 (cOf n) := (hor_ang n 0 h0 h1).mono (by decide)
  unfold sinV cosV
  refine ⟨?_, ?_⟩ <;> (repeat' split) <;> first | exact hs | exact hc | exact neg_le hs | exact neg_le hc

/-- What stands beneath the root. -/
def rOf (f s : Nat) : Nat := FS 4607182418800017408 (FM (FM (eOf f) s) s)
theorem le_nn {k x : Nat} (h : Le k x) (hk : k ≤ 2046) : NN x := ⟨h.1, Nat.le_trans h.2 (by omega)⟩
theorem zero_of {k s : Nat} (hs : Le k s) (hk : k ≤ 2046) (h : Ieee.double.order s 0 = some .eq) : s = 0 ∨ s = 9223372036854775808 := by
  have hn := le_nn hs hk
  have e := k_eql hn nn_zero.1
  have h' : FloatKind.f64.format.order s 0 = some .eq := h
  rw [h', nn_zero.2] at e
  have hk : key s = 0 := of_decide_eq_true e.symm
  have := hn.1
  unfold key at hk
  split at hk <;> omega
theorem r_zero {f : Nat} (hf : Le 1021 f) : rOf f 0 = 4607182418800017408 ∧ rOf f 9223372036854775808 = 4607182418800017408 := by
  have he := (e_le hf).num (by decide) (by decide)
  unfold rOf
  refine ⟨?_, ?_⟩
  · rcases FM_zero he with h | h <;> rw [h] <;> decide +kernel
  · rcases FM_negzero he with h | h <;> rw [h] <;> decide +kernel
theorem r_uz {f s : Nat} (hf : Le 1021 f) (hs : Le 1136 s) : rOf f (uz s) = rOf f s := by
  unfold uz
  split
  · rename_i h
    rw [(r_zero hf).1]
    rcases zero_of hs (by decide) h with rfl | rfl
    · rw [(r_zero hf).1]
    · rw [(r_zero hf).2]
  · rfl
theorem uz_le {k s : Nat} (hs : Le k s) : Le k (uz s) := by
  unfold uz; split
  · exact ⟨by decide, Nat.zero_le _⟩
  · exact hs
theorem one_le : Le 1290 4607182418800017408 := ⟨by decide, by decide⟩
theorem r_eqs {f s : Nat} (hf : Le 1021 f) (hs : Le 1136 s) : Ieee.double.mul (eOf f) s = some (FM (eOf f) s) ∧ Ieee.double.mul (FM (eOf f) s) s = some (FM (FM (eOf f) s) s) ∧ Ieee.double.sub 4607182418800017408 (FM (FM (eOf f) s) s) = some (rOf f s) := by
  have h1 : Le 1142 (FM (eOf f) s) := FM_le (e_le hf) hs (by decide) (by decide) (by decide) (by decide) _ (by decide) (by decide) (by decide)
  have h2 : Le 1290 (FM (FM (eOf f) s) s) := FM_le h1 hs (by decide) (by decide) (by decide) (by decide) _ (by decide) (by decide) (by decide)
  exact ⟨mul_num ((e_le hf).num (by decide) (by decide)) (hs.num (by decide) (by decide)), mul_num (h1.num (by decide) (by decide)) (hs.num (by decide) (by decide)), sub_num (one_le.num (by decide) (by decide)) (h2.num (by decide) (by decide))⟩
/-- The radius across. -/
def crO (a f s : Nat) : Option Nat := (fsq (rOf f s)).bind fun r => Ieee.double.div a r
theorem div_nan_r {x y : Nat} (h : Nan y) : Ieee.double.div x y = none := by
  obtain ⟨s, f, h⟩ := h; unfold Ieee.Format.div; rw [h]; cases Ieee.double.read x <;> rfl
theorem got_div {o : Option Nat} {a x : Nat} (hx : Got o x) (w : World) : Got (o.bind fun r => Ieee.double.div a r) (fv (floatBits .quo .f64 a x) a x w) := by
  have hg := got_fv (floatBits .quo .f64 a x) a x w
  cases o with
  | none =>
    have : floatBits .quo .f64 a x = none := div_nan_r hx
    rw [this] at hg ⊢; exact hg
  | some b => obtain rfl : x = b := hx; exact hg
theorem hquoA (x y : Nat) (w : World) : (binOp .quo 22 (.float .f64 x) (.float .f64 y)).run Tryz.prog w = .ok (.float .f64 (fv (floatBits .quo .f64 x y) x y w)) (w.drewN (dn (floatBits .quo .f64 x y))) := run_any .quo x y (by simp) w

theorem bulge_any (a f : Nat) (hf : Le 1021 f) (w : World) : Calls Tryz.prog 64 #[.agg #[.float .f64 a, .float .f64 f]] w fun e w' => e = .returned (.float .f64 (eOf f)) ∧ Below w.heap.size w w' := by
  have e1 := fun w => hsub (e_eqs hf).1 w
  have e2 := fun w => hmul (e_eqs hf).2 w
  go_enter Tryz.func64, Tryz.ntmps64
  go_wp2
  go_ret
  exact ⟨rfl, (Below.refl _ _).alloc (Nat.le_refl _) _⟩
theorem squareOf_any (a f : Nat) (hf : Le 1021 f) (w : World) : Calls Tryz.prog 72 #[.agg #[.float .f64 a, .float .f64 f]] w fun e w' => e = .returned (.float .f64 (eOf f)) ∧ Below w.heap.size w w' := by
  have e1 := fun w => hsub (e_eqs hf).1 w
  have e2 := fun w => hmul (e_eqs hf).2 w
  go_enter Tryz.func72, Tryz.ntmps72
  go_wp2
  go_ret
  exact ⟨rfl, (Below.refl _ _).alloc (Nat.le_refl _) _⟩
theorem less_num {s a b m r : Nat} (h1 : Ieee.double.mul a b = some m) (h2 : Ieee.double.sub s m = some r) (w : World) : Calls Tryz.prog 73 #[.float .f64 s, .float .f64 a, .float .f64 b] w fun e w' => e = .returned (.float .f64 r) ∧ w' = w := by
  have e1 := fun w => hmul h1 w
  have e2 := fun w => hsub h2 w
  go_enter Tryz.func73, Tryz.ntmps73
  go_wp2
  go_ret
  exact ⟨rfl, rfl⟩
set_option maxHeartbeats 4000000 in
theorem cross_any (a f : Nat) (n : Int) (hf : Le 1021 f) (w : World) : Calls Tryz.prog 31 #[.agg #[.float .f64 a, .float .f64 f], .int .i64 n] w fun e w' => ∃ r, e = .returned (.float .f64 r) ∧ Got (crO a f (sinV (nrm n))) r ∧ Below w.heap.size w w' := by
  obtain ⟨hb0, hb1⟩ := nrm_lt n
  have hs := (sinV_le (nrm n) hb0 hb1).1
  obtain ⟨q1, q2, q3⟩ := r_eqs hf (uz_le hs)
  have hu := r_uz hf hs
  have e1 := fun w => hmul q1 w
  have e2 := fun w => hmul q2 w
  have e3 := fun w => hsub q3 w
  have e4 := hquoA
  have HF := hid hf
  have HU := hid hu
  clear q1 q2 q3 hb0 hb1 hs hf hu
  go_enter Tryz.func31, Tryz.ntmps31
  go_wp2_with fail
  refine (sin_any _ _).mono ?_
  rintro e w1 ⟨rfl, hB⟩
  obtain ⟨hc, hf1⟩ := bcell hB
  obtain hz : w.heap.size < w1.heap.size := by have := hB.size; simp at this; omega
  go_wp2
  go_region_held (fun w' => w'.cell? ⟨w.heap.size, 0, none⟩ = some (.float .f64 a) ∧ w'.cell? ⟨w.heap.size, 1, none⟩ = some (.float .f64 f))
    (first | assumption | (simp [go_sem, hc]; done) | (simp [go_sem, hS8.1, hS8.2]; done))
    ((first
      | (go_at_call 40; refine (sqrt_any _ _).mono ?_; rintro e wa ⟨rfl, rfl⟩)
      | (go_at_call 64; refine (bulge_any _ _ HF.out _).mono ?_; rintro e w8 ⟨rfl, hB8⟩; obtain ⟨hc8, hf8⟩ := bcell hB8; have hS8 : w8.cell? ⟨w.heap.size, 0, none⟩ = some (.float .f64 a) ∧ w8.cell? ⟨w.heap.size, 1, none⟩ = some (.float .f64 f) := ⟨by rw [hc8 _ _ (by simp; omega)]; simp [go_sem, hc], by rw [hc8 _ _ (by simp; omega)]; simp [go_sem, hc]⟩)))
  go_wp2
  go_ret
  refine ⟨_, rfl, ?_, ?_⟩
  · unfold crO
    rw [← HU.out]
    exact got_div (got_fv _ _ _ _) _
  · exact bdn (bt (bt ((Below.refl _ _).alloc (Nat.le_refl _) _) hB).drew hB8)
set_option maxHeartbeats 4000000 in
theorem crossOf_any (a f : Nat) (n : Int) (hf : Le 1021 f) (w : World) : Calls Tryz.prog 47 #[.agg #[.float .f64 a, .float .f64 f], .int .i64 n] w fun e w' => ∃ r, e = .returned (.float .f64 r) ∧ Got (crO a f (sinV (nrm n))) r ∧ Below w.heap.size w w' := by
  obtain ⟨hb0, hb1⟩ := nrm_lt n
  have hs := (sinV_le (nrm n) hb0 hb1).1
  obtain ⟨q1, q2, q3⟩ := r_eqs hf hs
  have e1 := fun w => hmul q1 w
  have HL := hid (fun w => less_num q2 q3 w)
  have e4 := hquoA
  have HF := hid hf
  clear q1 q2 q3 hb0 hb1 hs hf
  go_enter Tryz.func47, Tryz.ntmps47
  go_wp2_with fail
  refine (sinCos_any _ _).mono ?_
  rintro e w1 ⟨rfl, rfl⟩
  go_wp2_with fail
  refine (squareOf_any _ _ HF.out _).mono ?_
  rintro e w1 ⟨rfl, hB⟩
  obtain ⟨hc, hf1⟩ := bcell hB
  obtain hz : w.heap.size < w1.heap.size := by have := hB.size; simp at this; omega
  go_wp2
  go_region_held (fun w' => w'.cell? ⟨w.heap.size, 0, none⟩ = some (.float .f64 a) ∧ w'.cell? ⟨w.heap.size, 1, none⟩ = some (.float .f64 f))
    (first | assumption | (simp [go_sem, hc]; done))
    ((first
      | (go_at_call 40; refine (sqrt_any _ _).mono ?_; rintro e wa ⟨rfl, rfl⟩)
      | (go_at_call 73; refine (HL.out _).mono ?_; rintro e wa ⟨rfl, rfl⟩)))
  go_wp2
  go_ret
  refine ⟨_, rfl, ?_, ?_⟩
  · unfold crO
    exact got_div (got_fv _ _ _ _) _
  · exact bdn (bt ((Below.refl _ _).alloc (Nat.le_refl _) _) hB)
end Go.Proofs.YtinopkmcddjgdaaGreatDoor
