/-
  Globe.latitude, Globe.height.
-/
import Derived.Test.YtmiamfnnccjmeabDoorGpM
namespace Go.Proofs.YtmiamfnnccjmeabDoor
open Go.RowKit FB
attribute [local go_sem] run_store_float

/-- The globe's words at a block. -/
def GAt (W : World) (b a f : Nat) : Prop := W.cell? ⟨b, 0, none⟩ = some (.float .f64 a) ∧ W.cell? ⟨b, 1, none⟩ = some (.float .f64 f) ∧ b < W.heap.size
theorem GAt.below {W w' : World} {b a f : Nat} (h : GAt W b a f) (hB : Below W.heap.size W w') : GAt w' b a f := by
  obtain ⟨h1, h2⟩ := bcell hB
  exact ⟨by rw [h1 _ _ h.2.2]; exact h.1, by rw [h1 _ _ h.2.2]; exact h.2.1, Nat.lt_of_lt_of_le h.2.2 hB.size⟩
theorem GAt.below2 {W W' w' : World} {b a f : Nat} (h : GAt W b a f) (hB : Below W'.heap.size W' w') (e : W'.heap = W.heap) : GAt w' b a f := by
  refine GAt.below (W := W') ?_ hB
  obtain ⟨h1, h2, h3⟩ := h
  exact ⟨by simp only [World.cell?, e] at *; exact h1, by simp only [World.cell?, e] at *; exact h2, by rw [e]; exact h3⟩
theorem GAt.new (W : World) (a f t : Nat) : GAt (W.alloc (.cells #[.float .f64 a, .float .f64 f] t)) W.heap.size a f := ⟨by simp [go_sem], by simp [go_sem], by simp⟩
set_option maxHeartbeats 4000000 in
theorem latitude_any (a f p z : Nat) (g : GOK a f) (np : Num p) (lp : p < 18446744073709551616) (nz : Num z) (lz : z < 18446744073709551616) (w : World) : Calls Tryd.prog 36 #[.agg #[.float .f64 a, .float .f64 f], .float .f64 p, .float .f64 z] w fun e w' => e = .returned (.int .i64 (latN a f p z 8)) ∧ Below w.heap.size w w' := by
  have ne := (e1_le g.lf).num (by decide) (by decide)
  have e1 := fun w => hsub (e1_eq g.lf) w
  have e2 := fun w => hmul (mul_num np ne) w
  have HD := hid (fun w => direction_any z (FM p (e1Of f)) lz (FM_lt np ne) w)
  have GG := hid g
  have NZ := hid nz
  have LP := hid lp
  clear g np nz lz lp ne
  go_enter Tryd.func36, Tryd.ntmps36
  go_wp2_with fail
  refine (bulge_any _ _ GG.out.lf _).mono ?_
  rintro e w1 ⟨rfl, hB⟩
  have GA := (GAt.new w a f 25).below hB
  have HC := bt ((Below.refl _ _).alloc (Nat.le_refl _) _) hB
  clear hB
  go_wp2_with fail
  refine (HD.out _).mono ?_
  rintro e w2 ⟨rfl, hB⟩
  replace GA := GA.below hB
  replace HC := bt HC hB
  clear hB HD e1 e2
  go_wp2
  go_loopw [8, 17] (fun s t wr => ∃ k : Nat, k ≤ 8 ∧ s = .int .i64 (latN a f p z k) ∧ t = .int .i64 k ∧ Below w.heap.size w wr ∧ GAt wr w.heap.size a f) (fun _ t _ => 8 - (intOf t).toNat)
  case atStart => exact ⟨0, by decide, rfl, rfl, HC, GA⟩
  case round =>
    clear HC GA
    obtain ⟨k, hk, rfl, rfl, HC, GA⟩ := hrel
    by_cases hlt : k < 8
    · have hd : decide ((k : Int) < 8) = true := by simp; omega
      have HT : Hid (latN a f p z (k + 1) = dirW (yW a f z (latN a f p z k) (uz (sinV (nrm (latN a f p z k))))) p) := (step_uz GG.out _ NZ.out).symm
      generalize latN a f p z k = t at HT ⊢
      obtain ⟨n0, n1⟩ := nrm_lt t
      obtain ⟨q1, q2, q3, q4⟩ := y_eqs GG.out t (uz (sinV (nrm t))) (uz_le (sinV_le _ n0 n1).1) NZ.out
      have e1 := fun w => hmul q1 w
      have e2 := fun w => hmul q2 w
      have e3 := fun w => hadd q3 w
      have HD := hid (fun w => direction_any _ p q4 LP.out w)
      clear q1 q2 q3 q4 n0 n1
      obtain ⟨g0, g1, gz⟩ := GA
      go_wp2_with fail
      refine (cross_w _ _ _ GG.out _).mono ?_
      rintro e w4 ⟨rfl, hB⟩
      have GA := GAt.below ⟨g0, g1, gz⟩ hB
      replace HC := bt HC hB
      clear hB g0 g1 gz
      go_wp2_with fail
      refine (sin_any _ _).mono ?_
      rintro e w5 ⟨rfl, hB⟩
      replace GA := GA.below hB
      replace HC := bt HC hB
      clear hB
      go_wp2_with fail
      refine (HD.out _).mono ?_
      rintro e w6 ⟨rfl, hB⟩
      replace GA := GA.below hB
      replace HC := bt HC hB
      clear hB e1 e2 e3 HD
      go_wp2
      go_roundw
      case rel => exact ⟨k + 1, by omega, by rw [HT.out], by go_num, HC, GA⟩
      case measure => simp [intOf]; omega
    · obtain rfl : k = 8 := by omega
      go_wp2
      go_ret
      exact ⟨rfl, HC⟩

theorem sub_nn2 {x y : Nat} (hx : NN x) (hy : Num y) : Ieee.double.sub x y = some (FS x y) := by
  rcases Nat.lt_or_eq_of_le hx.2 with h | h
  · obtain ⟨s, m, e, hr, _⟩ := read_fin hx.1 h
    exact sub_num ⟨s, m, e, hr⟩ hy
  · obtain ⟨t, n, j, hy⟩ := hy
    unfold FS Ieee.Format.sub
    rw [read_inf hx.1 h, hy]; rfl
theorem key_of_mod {x : Nat} (h : x % 9223372036854775808 ≠ 0) : key x ≠ 0 := by unfold key; split <;> omega
theorem div_w {x y : Nat} (hx : Num x) (hy : Num y) (h : y % 9223372036854775808 ≠ 0) : Ieee.double.div x y = some (FD x y) ∧ NN (FD x y) := by
  obtain ⟨r, hr, hn⟩ := div_nn hx hy (key_of_mod h)
  have : FD x y = r := by unfold FD; rw [hr]; rfl
  rw [this]; exact ⟨hr, hn⟩
/-- How high. -/
def h1W (a f p : Nat) (t : Int) : Nat := FS (FD p (cosV (nrm t))) (nW a f t)
def h2W (a f z : Nat) (t : Int) : Nat := FS (FD z (sinV (nrm t))) (FM (nW a f t) (e1Of f))
theorem h1_eqs {a f p : Nat} (g : GOK a f) (np : Num p) (t : Int) (h0 : -45000000000 ≤ t) (h1 : t ≤ 45000000000) : uz (cosV (nrm t)) = cosV (nrm t) ∧ Ieee.double.div p (cosV (nrm t)) = some (FD p (cosV (nrm t))) ∧ Ieee.double.sub (FD p (cosV (nrm t))) (nW a f t) = some (h1W a f p t) := by
  obtain ⟨n0, n1⟩ := nrm_lt t
  have hc := (sinV_le (nrm t) n0 n1).2
  have hne := cos_ne t h0 h1
  obtain ⟨d1, d2⟩ := div_w np (hc.num (by decide) (by decide)) hne
  exact ⟨uz_ne hc (by decide) hne, d1, sub_nn2 d2 ((n_ok g t).2.num (by decide) (by decide))⟩
theorem h2_eqs {a f z : Nat} (g : GOK a f) (nz : Num z) (t : Int) (h0 : -90000000000 ≤ t) (h1 : t ≤ 90000000000) (h2 : 45000000000 < t ∨ t < -45000000000) : uz (sinV (nrm t)) = sinV (nrm t) ∧ Ieee.double.div z (sinV (nrm t)) = some (FD z (sinV (nrm t))) ∧ Ieee.double.mul (nW a f t) (e1Of f) = some (FM (nW a f t) (e1Of f)) ∧ Ieee.double.sub (FD z (sinV (nrm t))) (FM (nW a f t) (e1Of f)) = some (h2W a f z t) := by
  obtain ⟨n0, n1⟩ := nrm_lt t
  have hc := (sinV_le (nrm t) n0 n1).1
  have hne := sin_ne t h0 h1 h2
  obtain ⟨d1, d2⟩ := div_w nz (hc.num (by decide) (by decide)) hne
  have hn := (n_ok g t).2
  have h3 : Le 1624 (FM (nW a f t) (e1Of f)) := FM_le hn (e1_le g.lf) (by decide) (by decide) (by decide) (by decide) _ (by decide) (by decide) (by decide)
  exact ⟨uz_ne hc (by decide) hne, d1, mul_num (hn.num (by decide) (by decide)) ((e1_le g.lf).num (by decide) (by decide)), sub_nn2 d2 (h3.num (by decide) (by decide))⟩
set_option maxHeartbeats 4000000 in
theorem height_low (a f p z : Nat) (t : Int) (g : GOK a f) (np : Num p) (h0 : -45000000000 ≤ t) (h1 : t ≤ 45000000000) (w : World) : Calls Tryd.prog 38 #[.agg #[.float .f64 a, .float .f64 f], .float .f64 p, .float .f64 z, .int .i64 t] w fun e w' => e = .returned (.float .f64 (h1W a f p t)) ∧ Below w.heap.size w w' := by
  obtain ⟨q1, q2, q3⟩ := h1_eqs g np t h0 h1
  have e2 := fun w => hquo q2 w
  have e3 := fun w => hsub q3 w
  have HC0 := hid (fun w => cos_any t w)
  rw [q1] at HC0
  have GG := hid g
  have d0 : decide (-45000000000 ≤ t) = true := by simp; omega
  have d1 : decide (t ≤ 45000000000) = true := by simp; omega
  clear q1 q2 q3 g np
  go_enter Tryd.func38, Tryd.ntmps38
  go_wp2
  have GA := GAt.new w a f 25
  have HC := (Below.refl w.heap.size w).alloc (Nat.le_refl _) (.cells #[.float .f64 a, .float .f64 f] 25)
  go_region_held (fun w' => w'.cell? ⟨w.heap.size, 0, none⟩ = some (.float .f64 a) ∧ w'.cell? ⟨w.heap.size, 1, none⟩ = some (.float .f64 f))
    (first | exact ⟨GA.1, GA.2.1⟩ | (simp [go_sem]; done))
    ((first
      | (go_at_call 33; refine (HC0.out _).mono ?_; rintro e w5 ⟨rfl, hB5⟩; replace GA := GA.below2 hB5 rfl; replace HC : Below w.heap.size w w5 := (by first | exact bt HC hB5 | exact bt HC.drew hB5))
      | (go_at_call 13; refine (cross_w _ _ _ GG.out _).mono ?_; rintro e w5 ⟨rfl, hB5⟩; replace GA := GA.below2 hB5 rfl; replace HC : Below w.heap.size w w5 := (by first | exact bt HC hB5 | exact bt HC.drew hB5))))
  go_wp2
  go_ret
  exact ⟨rfl, HC⟩
end Go.Proofs.YtmiamfnnccjmeabDoor
