/-
  Globe.Vec: the vector of a place.
-/
import Derived.Test.YtmiamfnnccjmeabDoorGpV
namespace Go.Proofs.YtmiamfnnccjmeabDoor
open Go.RowKit FB
attribute [local go_sem] run_store_float

/-- A pair of numbers without a point at a block. -/
def PlaceAt (W : World) (b : Nat) (lon lat : Int) : Prop := W.cell? ⟨b, 0, none⟩ = some (.int .i64 lon) ∧ W.cell? ⟨b, 1, none⟩ = some (.int .i64 lat)
theorem vec_shape (g : Nat → Addr) (a f h : Nat) (lon lat : Int) (hg : okG a f = false) (w : World) (hl : Laid w g) : Calls Tryd.prog 16 #[.agg #[.float .f64 a, .float .f64 f], .agg #[.int .i64 lon, .int .i64 lat], .float .f64 h] w fun e w' => e = .returned (.tuple #[.agg #[.float .f64 0, .float .f64 0, .float .f64 0], errV g 2]) ∧ Below w.heap.size w w' := by
  have HV := hid (fun w hl => valid_no g a f hg w hl)
  go_enter Tryd.func16, Tryd.ntmps16
  go_wp2_with fail
  refine (HV.out _ (((hl.alloc _).alloc _).alloc _)).mono ?_
  rintro e w1 ⟨rfl, hB⟩
  obtain ⟨hc, hf1⟩ := bcell hB
  obtain ⟨d0, d1, d2, f0, f1, f2⟩ : w1.cell? ⟨w.heap.size + 1 + 1, 0, none⟩ = some (.float .f64 0) ∧ w1.cell? ⟨w.heap.size + 1 + 1, 1, none⟩ = some (.float .f64 0) ∧ w1.cell? ⟨w.heap.size + 1 + 1, 2, none⟩ = some (.float .f64 0) ∧ w1.frozen? ⟨w.heap.size + 1 + 1, 0, none⟩ = false ∧ w1.frozen? ⟨w.heap.size + 1 + 1, 1, none⟩ = false ∧ w1.frozen? ⟨w.heap.size + 1 + 1, 2, none⟩ = false := ⟨by rw [hc _ _ (by simp)]; simp [go_sem], by rw [hc _ _ (by simp)]; simp [go_sem], by rw [hc _ _ (by simp)]; simp [go_sem], by rw [hf1 _ _ (by simp)]; simp [go_sem], by rw [hf1 _ _ (by simp)]; simp [go_sem], by rw [hf1 _ _ (by simp)]; simp [go_sem]⟩
  have hB1 : Below w.heap.size w w1 := bt ((((Below.refl _ _).alloc (Nat.le_refl _) _).alloc (by simp) _).alloc (by simp; omega) _) hB
  clear hc hf1 hB
  go_wp2
  exact bodyPost_ret (v := .tuple #[.agg #[.float .f64 0, .float .f64 0, .float .f64 0], errV g 2]) (by simp [results, Tryd.results16, go_sem, d0, d1, d2]) rfl ⟨rfl, ((hB1.setCell (by simp; omega) _).setCell (by simp; omega) _).setCell (by simp; omega) _⟩

/-- What lies in memory while Vec runs: the globe, the place, the answer's own block. -/
structure VF (W : World) (b a f : Nat) (lon lat : Int) : Prop where
  g0 : W.cell? ⟨b, 0, none⟩ = some (.float .f64 a)
  g1 : W.cell? ⟨b, 1, none⟩ = some (.float .f64 f)
  p0 : W.cell? ⟨b + 1, 0, none⟩ = some (.int .i64 lon)
  p1 : W.cell? ⟨b + 1, 1, none⟩ = some (.int .i64 lat)
  r0 : W.cell? ⟨b + 1 + 1, 0, none⟩ = some (.float .f64 0)
  r1 : W.cell? ⟨b + 1 + 1, 1, none⟩ = some (.float .f64 0)
  r2 : W.cell? ⟨b + 1 + 1, 2, none⟩ = some (.float .f64 0)
  z0 : W.frozen? ⟨b + 1 + 1, 0, none⟩ = false
  z1 : W.frozen? ⟨b + 1 + 1, 1, none⟩ = false
  z2 : W.frozen? ⟨b + 1 + 1, 2, none⟩ = false
  lt : b + 1 + 1 < W.heap.size
theorem VF.heap {W W' : World} {b a f : Nat} {lon lat : Int} (h : VF W b a f lon lat) (e : W'.heap = W.heap) : VF W' b a f lon lat := by
  obtain ⟨h1, h2, h3, h4, h5, h6, h7, h8, h9, h10, h11⟩ := h
  refine ⟨?_, ?_, ?_, ?_, ?_, ?_, ?_, ?_, ?_, ?_, ?_⟩ <;> first | (simp only [World.cell?, e] at *; assumption) | (simp only [World.frozen?, World.cell?, e] at *; assumption) | (rw [e]; assumption)
theorem VF.below {W w' : World} {b a f : Nat} {lon lat : Int} (h : VF W b a f lon lat) (hB : Below W.heap.size W w') : VF w' b a f lon lat := by
  obtain ⟨c, z⟩ := bcell hB
  have hl := h.lt
  exact ⟨by rw [c _ _ (by omega)]; exact h.g0, by rw [c _ _ (by omega)]; exact h.g1, by rw [c _ _ (by omega)]; exact h.p0, by rw [c _ _ (by omega)]; exact h.p1, by rw [c _ _ hl]; exact h.r0, by rw [c _ _ hl]; exact h.r1, by rw [c _ _ hl]; exact h.r2, by rw [z _ _ hl]; exact h.z0, by rw [z _ _ hl]; exact h.z1, by rw [z _ _ hl]; exact h.z2, Nat.lt_of_lt_of_le hl hB.size⟩
theorem VF.below2 {W W' w5 : World} {b a f : Nat} {lon lat : Int} (h : VF W b a f lon lat) (hB : Below W'.heap.size W' w5) (e : W'.heap = W.heap) : VF w5 b a f lon lat := (h.heap e).below hB
theorem VF.alloc {W : World} {b a f : Nat} {lon lat : Int} (h : VF W b a f lon lat) (o : Obj) : VF (W.alloc o) b a f lon lat := h.below ((Below.refl _ _).alloc (Nat.le_refl _) o)
theorem VF.keep {W : World} {b a f : Nat} {lon lat : Int} (h : VF W b a f lon lat) (x y z : Value) : (((W.setCell ⟨b + 1 + 1, 0, none⟩ x).setCell ⟨b + 1 + 1, 1, none⟩ y).setCell ⟨b + 1 + 1, 2, none⟩ z).cell? ⟨b, 0, none⟩ = some (.float .f64 a) ∧ (((W.setCell ⟨b + 1 + 1, 0, none⟩ x).setCell ⟨b + 1 + 1, 1, none⟩ y).setCell ⟨b + 1 + 1, 2, none⟩ z).cell? ⟨b, 1, none⟩ = some (.float .f64 f) ∧ (((W.setCell ⟨b + 1 + 1, 0, none⟩ x).setCell ⟨b + 1 + 1, 1, none⟩ y).setCell ⟨b + 1 + 1, 2, none⟩ z).cell? ⟨b + 1, 0, none⟩ = some (.int .i64 lon) ∧ (((W.setCell ⟨b + 1 + 1, 0, none⟩ x).setCell ⟨b + 1 + 1, 1, none⟩ y).setCell ⟨b + 1 + 1, 2, none⟩ z).cell? ⟨b + 1, 1, none⟩ = some (.int .i64 lat) :=
  ⟨by simp [go_sem, h.g0], by simp [go_sem, h.g1], by simp [go_sem, h.p0], by simp [go_sem, h.p1]⟩
/-- The operations, under names. -/
theorem op_names : ∃ (mF aF : Nat → Nat → World → Nat) (mD aD : Nat → Nat → Nat), (∀ x y w, (binOp .mul 22 (.float .f64 x) (.float .f64 y)).run Tryd.prog w = .ok (.float .f64 (mF x y w)) (w.drewN (mD x y))) ∧ (∀ x y w, (binOp .add 22 (.float .f64 x) (.float .f64 y)).run Tryd.prog w = .ok (.float .f64 (aF x y w)) (w.drewN (aD x y))) ∧ (∀ (o p : Option Nat) x y w, Got o x → Got p y → Got (o.bind fun a => p.bind fun b => Ieee.double.mul a b) (mF x y w)) ∧ (∀ (o p : Option Nat) x y w, Got o x → Got p y → Got (o.bind fun a => p.bind fun b => Ieee.double.add a b) (aF x y w)) :=
  ⟨fun x y w => fv (floatBits .mul .f64 x y) x y w, fun x y w => fv (floatBits .add .f64 x y) x y w, fun x y => dn (floatBits .mul .f64 x y), fun x y => dn (floatBits .add .f64 x y), hmulA, haddA, fun _ _ _ _ w hx hy => got_mul hx hy w, fun _ _ _ _ w hx hy => got_add hx hy w⟩
theorem VF.init (w : World) (a f t u v : Nat) (lon lat : Int) : VF (((w.alloc (.cells #[.float .f64 a, .float .f64 f] t)).alloc (.cells #[.int .i64 lon, .int .i64 lat] u)).alloc (.cells #[.float .f64 0, .float .f64 0, .float .f64 0] v)) w.heap.size a f lon lat :=
  ⟨by simp [go_sem], by simp [go_sem], by simp [go_sem], by simp [go_sem], by simp [go_sem], by simp [go_sem], by simp [go_sem], by simp [go_sem], by simp [go_sem], by simp [go_sem], by simp⟩
set_option maxHeartbeats 4000000 in
theorem vec_range1 (g : Nat → Addr) (a f h : Nat) (lon lat : Int) (hg : okG a f = true) (h1 : lat < -90000000000) (w : World) (hl : Laid w g) : Calls Tryd.prog 16 #[.agg #[.float .f64 a, .float .f64 f], .agg #[.int .i64 lon, .int .i64 lat], .float .f64 h] w fun e w' => e = .returned (.tuple #[.agg #[.float .f64 0, .float .f64 0, .float .f64 0], errV g 3]) ∧ Below w.heap.size w w' := by
  go_enter Tryd.func16, Tryd.ntmps16
  go_wp2_with fail
  refine (valid_ok a f hg _).mono ?_
  rintro e w1 ⟨rfl, hB⟩
  have VV := (VF.init w a f 25 41 43 lon lat).below hB
  have HC := bt ((((Below.refl _ _).alloc (Nat.le_refl _) _).alloc (by simp) _).alloc (by simp; omega) _) hB
  clear hB
  obtain ⟨g0, g1, p0, p1, r0, r1, r2, z0, z1, z2, lt⟩ := VV
  have cg : w1.cell? ⟨2, 0, none⟩ = some (.iface 119 (.pointer (some (g 3)))) := (hl.below HC).cell 3 (by decide)
  have lg : 2 < w.heap.size := lt_of_cell (p := ⟨2, 0, none⟩) (hl.cell 3 (by decide))
  have lz : ¬ w.heap.size = 0 := by omega
  have ln : ¬ w.heap.size + 1 + 1 = 2 := by omega
  have lm : ¬ 2 = w.heap.size + 1 + 1 := by omega
  clear hl
  go_wp2
  go_region
  all_goals
    go_wp2
    exact bodyPost_ret (v := .tuple #[.agg #[.float .f64 0, .float .f64 0, .float .f64 0], errV g 3]) (by simp [results, Tryd.results16, go_sem, r0, r1, r2]) rfl ⟨rfl, (((HC.setCell (by simp; omega) _).setCell (by simp; omega) _).setCell (by simp; omega) _).drew⟩
set_option maxHeartbeats 4000000 in
theorem vec_range2 (g : Nat → Addr) (a f h : Nat) (lon lat : Int) (hg : okG a f = true) (h1 : ¬ lat < -90000000000) (h2 : 90000000000 < lat) (w : World) (hl : Laid w g) : Calls Tryd.prog 16 #[.agg #[.float .f64 a, .float .f64 f], .agg #[.int .i64 lon, .int .i64 lat], .float .f64 h] w fun e w' => e = .returned (.tuple #[.agg #[.float .f64 0, .float .f64 0, .float .f64 0], errV g 3]) ∧ Below w.heap.size w w' := by
  go_enter Tryd.func16, Tryd.ntmps16
  go_wp2_with fail
  refine (valid_ok a f hg _).mono ?_
  rintro e w1 ⟨rfl, hB⟩
  have VV := (VF.init w a f 25 41 43 lon lat).below hB
  have HC := bt ((((Below.refl _ _).alloc (Nat.le_refl _) _).alloc (by simp) _).alloc (by simp; omega) _) hB
  clear hB
  obtain ⟨g0, g1, p0, p1, r0, r1, r2, z0, z1, z2, lt⟩ := VV
  have cg : w1.cell? ⟨2, 0, none⟩ = some (.iface 119 (.pointer (some (g 3)))) := (hl.below HC).cell 3 (by decide)
  have lg : 2 < w.heap.size := lt_of_cell (p := ⟨2, 0, none⟩) (hl.cell 3 (by decide))
  have lz : ¬ w.heap.size = 0 := by omega
  have ln : ¬ w.heap.size + 1 + 1 = 2 := by omega
  have lm : ¬ 2 = w.heap.size + 1 + 1 := by omega
  clear hl
  go_wp2
  go_region
  all_goals
    go_wp2
    exact bodyPost_ret (v := .tuple #[.agg #[.float .f64 0, .float .f64 0, .float .f64 0], errV g 3]) (by simp [results, Tryd.results16, go_sem, r0, r1, r2]) rfl ⟨rfl, (((HC.setCell (by simp; omega) _).setCell (by simp; omega) _).setCell (by simp; omega) _).drew⟩
set_option maxHeartbeats 4000000 in
theorem vec_range3 (g : Nat → Addr) (a f h : Nat) (lon lat : Int) (hg : okG a f = true) (h1 : ¬ lat < -90000000000) (h2 : ¬ 90000000000 < lat) (h3 : inB 13935002356576944128 4741671816366391296 h = false) (w : World) (hl : Laid w g) : Calls Tryd.prog 16 #[.agg #[.float .f64 a, .float .f64 f], .agg #[.int .i64 lon, .int .i64 lat], .float .f64 h] w fun e w' => e = .returned (.tuple #[.agg #[.float .f64 0, .float .f64 0, .float .f64 0], errV g 3]) ∧ Below w.heap.size w w' := by
  go_enter Tryd.func16, Tryd.ntmps16
  go_wp2_with fail
  refine (valid_ok a f hg _).mono ?_
  rintro e w1 ⟨rfl, hB⟩
  have VV := (VF.init w a f 25 41 43 lon lat).below hB
  have HC := bt ((((Below.refl _ _).alloc (Nat.le_refl _) _).alloc (by simp) _).alloc (by simp; omega) _) hB
  clear hB
  obtain ⟨g0, g1, p0, p1, r0, r1, r2, z0, z1, z2, lt⟩ := VV
  go_wp2_with fail
  refine (within1 _ _ _ h _ (by simp [go_sem])).mono ?_
  rintro e w2 ⟨rfl, hw2⟩
  have VV : VF w2 w.heap.size a f lon lat := by rw [hw2]; exact VF.alloc ⟨g0, g1, p0, p1, r0, r1, r2, z0, z1, z2, lt⟩ _
  replace HC : Below w.heap.size w w2 := by rw [hw2]; exact HC.alloc HC.size _
  clear g0 g1 p0 p1 r0 r1 r2 z0 z1 z2 lt hw2
  obtain ⟨g0, g1, p0, p1, r0, r1, r2, z0, z1, z2, lt⟩ := VV
  have cg : w2.cell? ⟨2, 0, none⟩ = some (.iface 119 (.pointer (some (g 3)))) := (hl.below HC).cell 3 (by decide)
  have lg : 2 < w.heap.size := lt_of_cell (p := ⟨2, 0, none⟩) (hl.cell 3 (by decide))
  have lz : ¬ w.heap.size = 0 := by omega
  have ln : ¬ w.heap.size + 1 + 1 = 2 := by omega
  have lm : ¬ 2 = w.heap.size + 1 + 1 := by omega
  clear hl
  go_wp2
  go_region
  all_goals
    go_wp2
    exact bodyPost_ret (v := .tuple #[.agg #[.float .f64 0, .float .f64 0, .float .f64 0], errV g 3]) (by simp [results, Tryd.results16, go_sem, r0, r1, r2]) rfl ⟨rfl, (((HC.setCell (by simp; omega) _).setCell (by simp; omega) _).setCell (by simp; omega) _).drew⟩
end Go.Proofs.YtmiamfnnccjmeabDoor
