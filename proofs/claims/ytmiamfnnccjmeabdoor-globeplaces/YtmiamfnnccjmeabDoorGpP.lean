/-
  Globe.height, Globe.Place.
-/
import Derived.Test.YtmiamfnnccjmeabDoorGpH
namespace Go.Proofs.YtmiamfnnccjmeabDoor
open Go.RowKit FB
attribute [local go_sem] run_store_float

set_option maxHeartbeats 4000000 in
theorem height_high1 (a f p z : Nat) (t : Int) (g : GOK a f) (nz : Num z) (h0 : -90000000000 ≤ t) (h1 : t ≤ 90000000000) (h2 : 45000000000 < t) (w : World) : Calls Tryd.prog 38 #[.agg #[.float .f64 a, .float .f64 f], .float .f64 p, .float .f64 z, .int .i64 t] w fun e w' => e = .returned (.float .f64 (h2W a f z t)) ∧ Below w.heap.size w w' := by
  obtain ⟨q1, q2, q3, q4⟩ := h2_eqs g nz t h0 h1 (by omega)
  have e1 := fun w => hsub (e1_eq g.lf) w
  have e2 := fun w => hquo q2 w
  have e3 := fun w => hmul q3 w
  have e4 := fun w => hsub q4 w
  have HC0 := hid (fun w => sin_any t w)
  rw [q1] at HC0
  have GG := hid g
  have d0 : decide (-45000000000 ≤ t) = true := by simp; omega
  have d1 : decide (t ≤ 45000000000) = false := by simp; omega
  clear q1 q2 q3 q4 g nz h0 h1
  go_enter Tryd.func38, Tryd.ntmps38
  go_wp2
  have GA := GAt.new w a f 25
  have HC := (Below.refl w.heap.size w).alloc (Nat.le_refl _) (.cells #[.float .f64 a, .float .f64 f] 25)
  go_region_held (fun w' => w'.cell? ⟨w.heap.size, 0, none⟩ = some (.float .f64 a) ∧ w'.cell? ⟨w.heap.size, 1, none⟩ = some (.float .f64 f))
    (first | exact ⟨GA.1, GA.2.1⟩ | (simp [go_sem]; done))
    ((first
      | (go_at_call 27; refine (HC0.out _).mono ?_; rintro e w5 ⟨rfl, hB5⟩; replace GA := GA.below2 hB5 rfl; replace HC : Below w.heap.size w w5 := (by first | exact bt HC hB5 | exact bt HC.drew hB5))
      | (go_at_call 13; refine (cross_w _ _ _ GG.out _).mono ?_; rintro e w5 ⟨rfl, hB5⟩; replace GA := GA.below2 hB5 rfl; replace HC : Below w.heap.size w w5 := (by first | exact bt HC hB5 | exact bt HC.drew hB5))
      | (go_at_call 29; refine (bulge_any _ _ GG.out.lf _).mono ?_; rintro e w5 ⟨rfl, hB5⟩; replace GA := GA.below2 hB5 rfl; replace HC : Below w.heap.size w w5 := (by first | exact bt HC hB5 | exact bt HC.drew hB5))))
  go_wp2
  go_ret
  exact ⟨rfl, HC⟩
set_option maxHeartbeats 4000000 in
theorem height_high2 (a f p z : Nat) (t : Int) (g : GOK a f) (nz : Num z) (h0 : -90000000000 ≤ t) (h1 : t ≤ 90000000000) (h2 : t < -45000000000) (w : World) : Calls Tryd.prog 38 #[.agg #[.float .f64 a, .float .f64 f], .float .f64 p, .float .f64 z, .int .i64 t] w fun e w' => e = .returned (.float .f64 (h2W a f z t)) ∧ Below w.heap.size w w' := by
  obtain ⟨q1, q2, q3, q4⟩ := h2_eqs g nz t h0 h1 (by omega)
  have e1 := fun w => hsub (e1_eq g.lf) w
  have e2 := fun w => hquo q2 w
  have e3 := fun w => hmul q3 w
  have e4 := fun w => hsub q4 w
  have HC0 := hid (fun w => sin_any t w)
  rw [q1] at HC0
  have GG := hid g
  have d0 : decide (-45000000000 ≤ t) = false := by simp; omega
  clear q1 q2 q3 q4 g nz h0 h1
  go_enter Tryd.func38, Tryd.ntmps38
  go_wp2
  have GA := GAt.new w a f 25
  have HC := (Below.refl w.heap.size w).alloc (Nat.le_refl _) (.cells #[.float .f64 a, .float .f64 f] 25)
  go_region_held (fun w' => w'.cell? ⟨w.heap.size, 0, none⟩ = some (.float .f64 a) ∧ w'.cell? ⟨w.heap.size, 1, none⟩ = some (.float .f64 f))
    (first | exact ⟨GA.1, GA.2.1⟩ | (simp [go_sem]; done))
    ((first
      | (go_at_call 27; refine (HC0.out _).mono ?_; rintro e w5 ⟨rfl, hB5⟩; replace GA := GA.below2 hB5 rfl; replace HC : Below w.heap.size w w5 := (by first | exact bt HC hB5 | exact bt HC.drew hB5))
      | (go_at_call 13; refine (cross_w _ _ _ GG.out _).mono ?_; rintro e w5 ⟨rfl, hB5⟩; replace GA := GA.below2 hB5 rfl; replace HC : Below w.heap.size w w5 := (by first | exact bt HC hB5 | exact bt HC.drew hB5))
      | (go_at_call 29; refine (bulge_any _ _ GG.out.lf _).mono ?_; rintro e w5 ⟨rfl, hB5⟩; replace GA := GA.below2 hB5 rfl; replace HC : Below w.heap.size w w5 := (by first | exact bt HC hB5 | exact bt HC.drew hB5))))
  go_wp2
  go_ret
  exact ⟨rfl, HC⟩
/-- How high, at any latitude. -/
def htW (a f p z : Nat) (t : Int) : Nat := if -45000000000 ≤ t ∧ t ≤ 45000000000 then h1W a f p t else h2W a f z t
theorem height_any (a f p z : Nat) (t : Int) (g : GOK a f) (np : Num p) (nz : Num z) (h0 : -90000000000 ≤ t) (h1 : t ≤ 90000000000) (w : World) : Calls Tryd.prog 38 #[.agg #[.float .f64 a, .float .f64 f], .float .f64 p, .float .f64 z, .int .i64 t] w fun e w' => e = .returned (.float .f64 (htW a f p z t)) ∧ Below w.heap.size w w' := by
  unfold htW
  by_cases c : -45000000000 ≤ t ∧ t ≤ 45000000000
  · rw [if_pos c]; exact height_low a f p z t g np c.1 c.2 w
  · rw [if_neg c]
    by_cases c2 : 45000000000 < t
    · exact height_high1 a f p z t g nz h0 h1 c2 w
    · exact height_high2 a f p z t g nz h0 h1 (by omega) w
theorem sqrt_w {x r : Nat} (h : Ieee.double.sqrt x = some r) (w : World) : Calls Tryd.prog 28 #[.float .f64 x] w fun e w' => e = .returned (.float .f64 r) ∧ w' = w := by
  refine (sqrt_any x w).mono ?_
  rintro e w' ⟨rfl, rfl⟩
  have h' : fsq x = some r := h
  rw [h']
  exact ⟨rfl, rfl⟩
theorem isNeg_pos {p : Nat} (np : Num p) (lp : p < 18446744073709551616) (kp : 0 ≤ key p) : isNeg p = false := by
  have := k_lss (num_nn lp np).1 nn_zero.1
  unfold isNeg
  rw [this, nn_zero.2, decide_eq_false (by omega)]
theorem lat_bd {a f p z : Nat} (np : Num p) (lp : p < 18446744073709551616) (kp : 0 ≤ key p) : -90000000000 ≤ latN a f p z 8 ∧ latN a f p z 8 ≤ 90000000000 := dirW_bd (isNeg_pos np lp kp)
/-- What lies in memory while Place runs: the globe, the vector, the answer's own block. -/
structure PF (W : World) (b a f x y z : Nat) : Prop where
  g0 : W.cell? ⟨b, 0, none⟩ = some (.float .f64 a)
  g1 : W.cell? ⟨b, 1, none⟩ = some (.float .f64 f)
  v0 : W.cell? ⟨b + 1, 0, none⟩ = some (.float .f64 x)
  v1 : W.cell? ⟨b + 1, 1, none⟩ = some (.float .f64 y)
  v2 : W.cell? ⟨b + 1, 2, none⟩ = some (.float .f64 z)
  r0 : W.cell? ⟨b + 1 + 1, 0, none⟩ = some (.int .i64 0)
  r1 : W.cell? ⟨b + 1 + 1, 1, none⟩ = some (.int .i64 0)
  z0 : W.frozen? ⟨b + 1 + 1, 0, none⟩ = false
  z1 : W.frozen? ⟨b + 1 + 1, 1, none⟩ = false
  lt : b + 1 + 1 < W.heap.size
theorem PF.heap {W W' : World} {b a f x y z : Nat} (h : PF W b a f x y z) (e : W'.heap = W.heap) : PF W' b a f x y z := by
  obtain ⟨h1, h2, h3, h4, h5, h6, h7, h8, h9, h10⟩ := h
  refine ⟨?_, ?_, ?_, ?_, ?_, ?_, ?_, ?_, ?_, ?_⟩ <;> first | (simp only [World.cell?, e] at *; assumption) | (simp only [World.frozen?, World.cell?, e] at *; assumption) | (rw [e]; assumption)
theorem PF.below {W w' : World} {b a f x y z : Nat} (h : PF W b a f x y z) (hB : Below W.heap.size W w') : PF w' b a f x y z := by
  obtain ⟨c, q⟩ := bcell hB
  have hl := h.lt
  exact ⟨by rw [c _ _ (by omega)]; exact h.g0, by rw [c _ _ (by omega)]; exact h.g1, by rw [c _ _ (by omega)]; exact h.v0, by rw [c _ _ (by omega)]; exact h.v1, by rw [c _ _ (by omega)]; exact h.v2, by rw [c _ _ hl]; exact h.r0, by rw [c _ _ hl]; exact h.r1, by rw [q _ _ hl]; exact h.z0, by rw [q _ _ hl]; exact h.z1, Nat.lt_of_lt_of_le hl hB.size⟩
theorem PF.below2 {W W' w5 : World} {b a f x y z : Nat} (h : PF W b a f x y z) (hB : Below W'.heap.size W' w5) (e : W'.heap = W.heap) : PF w5 b a f x y z := (h.heap e).below hB
theorem PF.alloc {W : World} {b a f x y z : Nat} (h : PF W b a f x y z) (o : Obj) : PF (W.alloc o) b a f x y z := h.below ((Below.refl _ _).alloc (Nat.le_refl _) o)
theorem PF.init (w : World) (a f x y z t u v : Nat) : PF (((w.alloc (.cells #[.float .f64 a, .float .f64 f] t)).alloc (.cells #[.float .f64 x, .float .f64 y, .float .f64 z] u)).alloc (.cells #[.int .i64 0, .int .i64 0] v)) w.heap.size a f x y z :=
  ⟨by simp [go_sem], by simp [go_sem], by simp [go_sem], by simp [go_sem], by simp [go_sem], by simp [go_sem], by simp [go_sem], by simp [go_sem], by simp [go_sem], by simp⟩
theorem PF.all {W : World} {b a f x y z : Nat} (h : PF W b a f x y z) : W.cell? ⟨b, 0, none⟩ = some (.float .f64 a) ∧ W.cell? ⟨b, 1, none⟩ = some (.float .f64 f) ∧ W.cell? ⟨b + 1, 0, none⟩ = some (.float .f64 x) ∧ W.cell? ⟨b + 1, 1, none⟩ = some (.float .f64 y) ∧ W.cell? ⟨b + 1, 2, none⟩ = some (.float .f64 z) := ⟨h.g0, h.g1, h.v0, h.v1, h.v2⟩
theorem PF.keep {W : World} {b a f x y z : Nat} (h : PF W b a f x y z) (u v : Value) : ((W.setCell ⟨b + 1 + 1, 0, none⟩ u).setCell ⟨b + 1 + 1, 1, none⟩ v).cell? ⟨b, 0, none⟩ = some (.float .f64 a) ∧ ((W.setCell ⟨b + 1 + 1, 0, none⟩ u).setCell ⟨b + 1 + 1, 1, none⟩ v).cell? ⟨b, 1, none⟩ = some (.float .f64 f) ∧ ((W.setCell ⟨b + 1 + 1, 0, none⟩ u).setCell ⟨b + 1 + 1, 1, none⟩ v).cell? ⟨b + 1, 0, none⟩ = some (.float .f64 x) ∧ ((W.setCell ⟨b + 1 + 1, 0, none⟩ u).setCell ⟨b + 1 + 1, 1, none⟩ v).cell? ⟨b + 1, 1, none⟩ = some (.float .f64 y) ∧ ((W.setCell ⟨b + 1 + 1, 0, none⟩ u).setCell ⟨b + 1 + 1, 1, none⟩ v).cell? ⟨b + 1, 2, none⟩ = some (.float .f64 z) :=
  ⟨by simp [go_sem, h.g0], by simp [go_sem, h.g1], by simp [go_sem, h.v0], by simp [go_sem, h.v1], by simp [go_sem, h.v2]⟩
end Go.Proofs.YtmiamfnnccjmeabDoor
