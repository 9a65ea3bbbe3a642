/-
  Globe.Place.
-/
import Derived.Test.YtmiamfnnccjmeabDoorGpP
namespace Go.Proofs.YtmiamfnnccjmeabDoor
open Go.RowKit FB
attribute [local go_sem] run_store_float

set_option maxHeartbeats 2000000 in
theorem place_shape (g : Nat → Addr) (a f x y z : Nat) (hg : okG a f = false) (w : World) (hl : Laid w g) : Calls Tryd.prog 19 #[.agg #[.float .f64 a, .float .f64 f], .agg #[.float .f64 x, .float .f64 y, .float .f64 z]] w fun e w' => e = .returned (.tuple #[.agg #[.int .i64 0, .int .i64 0], .float .f64 0, errV g 2]) ∧ Below w.heap.size w w' := by
  have HV := hid (fun w hl => valid_no g a f hg w hl)
  go_enter Tryd.func19, Tryd.ntmps19
  go_wp2_with fail
  refine (HV.out _ (((hl.alloc _).alloc _).alloc _)).mono ?_
  rintro e w1 ⟨rfl, hB⟩
  have VV := (PF.init w a f x y z 25 43 41).below hB
  have HC := bt ((((Below.refl _ _).alloc (Nat.le_refl _) _).alloc (by simp) _).alloc (by simp; omega) _) hB
  clear hB hl
  obtain ⟨g0, g1, v0, v1, v2, r0, r1, z0, z1, lt⟩ := VV
  go_wp2
  exact bodyPost_ret (v := .tuple #[.agg #[.int .i64 0, .int .i64 0], .float .f64 0, errV g 2]) (by simp [results, Tryd.results19, go_sem, r0, r1]) rfl ⟨rfl, (HC.setCell (by simp; omega) _).setCell (by simp; omega) _⟩
set_option maxHeartbeats 4000000 in
theorem place_range (g : Nat → Addr) (a f x y z : Nat) (ha : a < 18446744073709551616) (hg : okG a f = true) (hL : okL a x y z = false) (w : World) (hl : Laid w g) : Calls Tryd.prog 19 #[.agg #[.float .f64 a, .float .f64 f], .agg #[.float .f64 x, .float .f64 y, .float .f64 z]] w fun e w' => e = .returned (.tuple #[.agg #[.int .i64 0, .int .i64 0], .float .f64 0, errV g 3]) ∧ Below w.heap.size w w' := by
  have e1 := fun w => hquo (half_eq ha hg) w
  go_enter Tryd.func19, Tryd.ntmps19
  go_wp2_with fail
  refine (valid_ok a f hg _).mono ?_
  rintro e w1 ⟨rfl, hB⟩
  have VV := (PF.init w a f x y z 25 43 41).below hB
  have HC := bt ((((Below.refl _ _).alloc (Nat.le_refl _) _).alloc (by simp) _).alloc (by simp; omega) _) hB
  clear hB
  go_wp2
  go_region_held (fun w' => w'.cell? ⟨w.heap.size, 0, none⟩ = some (.float .f64 a) ∧ w'.cell? ⟨w.heap.size, 1, none⟩ = some (.float .f64 f) ∧ w'.cell? ⟨w.heap.size + 1, 0, none⟩ = some (.float .f64 x) ∧ w'.cell? ⟨w.heap.size + 1, 1, none⟩ = some (.float .f64 y) ∧ w'.cell? ⟨w.heap.size + 1, 2, none⟩ = some (.float .f64 z))
    (first | exact VV.all | exact (VV.alloc _).all | exact VV.keep _ _)
    ((first
      | (go_at_call 35; refine (length_any _ _ _ _).mono ?_; rintro e w5 ⟨r, rfl, hr, hB5⟩; have hin := okL_got (a := a) hr; rw [hL] at hin; replace VV := VV.below2 hB5 rfl; replace HC : Below w.heap.size w w5 := (by first | exact bt HC hB5 | exact bt HC.drew hB5); clear hr hB5)
      | (go_at_call 26; refine (within1 _ _ _ r _ (by simp [go_sem])).mono ?_; rintro e w6 ⟨rfl, rfl⟩; replace VV := VV.alloc (.cells #[.float .f64 r] 22); replace HC := HC.alloc HC.size (.cells #[.float .f64 r] 22))))
  generalize w5.alloc (.cells #[.float .f64 r] 22) = w6 at VV HC ⊢
  have cg : w6.cell? ⟨2, 0, none⟩ = some (.iface 119 (.pointer (some (g 3)))) := (hl.below HC).cell 3 (by decide)
  have lg : 2 < w.heap.size := lt_of_cell (p := ⟨2, 0, none⟩) (hl.cell 3 (by decide))
  have lz : ¬ w.heap.size = 0 := by omega
  have ln : ¬ w.heap.size + 1 + 1 = 2 := by omega
  have lm : ¬ 2 = w.heap.size + 1 + 1 := by omega
  clear hl
  obtain ⟨g0, g1, v0, v1, v2, r0, r1, z0, z1, lt⟩ := VV
  go_wp2
  go_region
  all_goals
    go_wp2
    exact bodyPost_ret (v := .tuple #[.agg #[.int .i64 0, .int .i64 0], .float .f64 0, errV g 3]) (by simp [results, Tryd.results19, go_sem, r0, r1]) rfl ⟨rfl, ((HC.setCell (by simp; omega) _).setCell (by simp; omega) _).drew⟩
set_option maxRecDepth 4000 in
set_option maxHeartbeats 4000000 in
theorem place_ok (a f x y z p : Nat) (ha : a < 18446744073709551616) (lx : x < 18446744073709551616) (ly : y < 18446744073709551616) (lzz : z < 18446744073709551616) (hg : okG a f = true) (go : GOK a f) (hL : okL a x y z = true) (LL : LOK x y z p) (w : World) : Calls Tryd.prog 19 #[.agg #[.float .f64 a, .float .f64 f], .agg #[.float .f64 x, .float .f64 y, .float .f64 z]] w fun e w' => e = .returned (.tuple #[.agg #[.int .i64 (dirW y x), .int .i64 (latN a f p z 8)], .float .f64 (htW a f p z (latN a f p z 8)), .nilIface]) ∧ Below w.heap.size w w' := by
  have e1 := fun w => hquo (half_eq ha hg) w
  have e2 := fun w => hmul LL.x2 w
  have e3 := fun w => hmul LL.y2 w
  have e4 := fun w => hadd LL.s2 w
  have HS := hid (fun w => sqrt_w LL.rt w)
  have HT := hid (fun w => latitude_any a f p z go LL.np LL.lp LL.nz lzz w)
  have HD := hid (fun w => direction_any y x ly lx w)
  have bd := lat_bd (a := a) (f := f) (z := z) LL.np LL.lp LL.kp
  have HH := hid (fun w => height_any a f p z (latN a f p z 8) go LL.np LL.nz bd.1 bd.2 w)
  clear go LL bd ha lx ly lzz
  generalize latN a f p z 8 = t at HT HH ⊢
  go_enter Tryd.func19, Tryd.ntmps19
  go_wp2_with fail
  refine (valid_ok a f hg _).mono ?_
  rintro e w1 ⟨rfl, hB⟩
  have VV := (PF.init w a f x y z 25 43 41).below hB
  have HC := bt ((((Below.refl _ _).alloc (Nat.le_refl _) _).alloc (by simp) _).alloc (by simp; omega) _) hB
  clear hB
  go_wp2
  go_region_held (fun w' => w'.cell? ⟨w.heap.size, 0, none⟩ = some (.float .f64 a) ∧ w'.cell? ⟨w.heap.size, 1, none⟩ = some (.float .f64 f) ∧ w'.cell? ⟨w.heap.size + 1, 0, none⟩ = some (.float .f64 x) ∧ w'.cell? ⟨w.heap.size + 1, 1, none⟩ = some (.float .f64 y) ∧ w'.cell? ⟨w.heap.size + 1, 2, none⟩ = some (.float .f64 z))
    (first | exact VV.all | exact (VV.alloc _).all | exact VV.keep _ _)
    ((first
      | (go_at_call 35; refine (length_any _ _ _ _).mono ?_; rintro e w5 ⟨r, rfl, hr, hB5⟩; have hin := okL_got (a := a) hr; rw [hL] at hin; replace VV := VV.below2 hB5 rfl; replace HC : Below w.heap.size w w5 := (by first | exact bt HC hB5 | exact bt HC.drew hB5); clear hr hB5)
      | (go_at_call 26; refine (within1 _ _ _ r _ (by simp [go_sem])).mono ?_; rintro e w6 ⟨rfl, rfl⟩; replace VV := VV.alloc (.cells #[.float .f64 r] 22); replace HC := HC.alloc HC.size (.cells #[.float .f64 r] 22))))
  generalize w5.alloc (.cells #[.float .f64 r] 22) = w6 at VV HC ⊢
  obtain ⟨g0, g1, v0, v1, v2, r0, r1, z0, z1, lt⟩ := VV
  go_wp2_with fail
  refine (HS.out _).mono ?_
  rintro e w7 ⟨rfl, rfl⟩
  go_wp2_with fail
  refine (HT.out _).mono ?_
  rintro e w8 ⟨rfl, hB⟩
  have VV := PF.below ⟨g0, g1, v0, v1, v2, r0, r1, z0, z1, lt⟩ hB
  replace HC := bt HC hB
  clear hB g0 g1 v0 v1 v2 r0 r1 z0 z1 lt HT HS e1 e2 e3 e4 hin hL hg
  go_wp2
  go_region_held (fun w' => w'.cell? ⟨w.heap.size, 0, none⟩ = some (.float .f64 a) ∧ w'.cell? ⟨w.heap.size, 1, none⟩ = some (.float .f64 f) ∧ w'.cell? ⟨w.heap.size + 1, 0, none⟩ = some (.float .f64 x) ∧ w'.cell? ⟨w.heap.size + 1, 1, none⟩ = some (.float .f64 y) ∧ w'.cell? ⟨w.heap.size + 1, 2, none⟩ = some (.float .f64 z))
    (first | exact VV.all | exact VV.keep _ _)
    ((first
      | (go_at_call 37; refine (HD.out _).mono ?_; rintro e w9 ⟨rfl, hB9⟩; replace VV := VV.below2 hB9 rfl; replace HC : Below w.heap.size w w9 := (by first | exact bt HC hB9 | exact bt HC.drew hB9); obtain ⟨_, _, _, _, _, r0, r1, z0, z1, lt⟩ := id VV)
      | (go_at_call 38; refine (HH.out _).mono ?_; rintro e w9 ⟨rfl, hB9⟩; replace VV := VV.below2 hB9 rfl; replace HC : Below w.heap.size w w9 := (by first | exact bt HC hB9 | exact bt HC.drew hB9); obtain ⟨_, _, _, _, _, r0, r1, z0, z1, lt⟩ := id VV)))
  go_wp2
  exact bodyPost_ret (v := .tuple #[.agg #[.int .i64 (dirW y x), .int .i64 t], .float .f64 (htW a f p z t), .nilIface]) (by simp [results, Tryd.results19, go_sem, r0, r1]) rfl ⟨rfl, (HC.setCell (by simp; omega) _).setCell (by simp; omega) _⟩
end Go.Proofs.YtmiamfnnccjmeabDoor
