/-
  mercatorref2.PlaceOf.
-/
import Derived.Test.YtmiamfnnccjmeabDoorGpP
namespace Go.Proofs.YtmiamfnnccjmeabDoor
open Go.RowKit FB
attribute [local go_sem] run_store_float

theorem plus_w {s a b m r : Nat} (h1 : Ieee.double.mul a b = some m) (h2 : Ieee.double.add s m = some r) (w : World) : Calls Tryd.prog 40 #[.float .f64 s, .float .f64 a, .float .f64 b] w fun e w' => e = .returned (.float .f64 r) ∧ w' = w := by
  have e1 := fun w => hmul h1 w
  have e2 := fun w => hadd h2 w
  go_enter Tryd.func40, Tryd.ntmps40
  go_wp2
  go_ret
  exact ⟨rfl, rfl⟩
set_option maxHeartbeats 2000000 in
theorem placeOf_shape (a f x y z : Nat) (hg : okG a f = false) (w : World) : Calls Tryd.prog 20 #[.agg #[.float .f64 a, .float .f64 f], .agg #[.float .f64 x, .float .f64 y, .float .f64 z]] w fun e w' => e = .returned (.tuple #[.agg #[.int .i64 0, .int .i64 0], .float .f64 0, .int .i64 3]) ∧ Below w.heap.size w w' := by
  go_enter Tryd.func20, Tryd.ntmps20
  go_wp2_with fail
  refine (globeError_any a f _).mono ?_
  rintro e w1 ⟨rfl, hB⟩
  have VV := (PF.init w a f x y z 24 43 41).below hB
  have HC := bt ((((Below.refl _ _).alloc (Nat.le_refl _) _).alloc (by simp) _).alloc (by simp; omega) _) hB
  clear hB
  rw [hg]
  obtain ⟨g0, g1, v0, v1, v2, r0, r1, z0, z1, lt⟩ := VV
  go_wp2
  exact bodyPost_ret (v := .tuple #[.agg #[.int .i64 (0), .int .i64 (0)], .float .f64 (0), .int .i64 3]) (by simp [results, Tryd.results20, go_sem, r0, r1]) rfl ⟨rfl, (HC.setCell (by simp; omega) _).setCell (by simp; omega) _⟩
set_option maxHeartbeats 4000000 in
theorem placeOf_range (a f x y z : Nat) (ha : a < 18446744073709551616) (hg : okG a f = true) (hL : okL a x y z = false) (w : World) : Calls Tryd.prog 20 #[.agg #[.float .f64 a, .float .f64 f], .agg #[.float .f64 x, .float .f64 y, .float .f64 z]] w fun e w' => e = .returned (.tuple #[.agg #[.int .i64 0, .int .i64 0], .float .f64 0, .int .i64 4]) ∧ Below w.heap.size w w' := by
  have e1 := fun w => hquo (half_eq ha hg) w
  go_enter Tryd.func20, Tryd.ntmps20
  go_wp2_with fail
  refine (globeError_any a f _).mono ?_
  rintro e w1 ⟨rfl, hB⟩
  have VV := (PF.init w a f x y z 24 43 41).below hB
  have HC := bt ((((Below.refl _ _).alloc (Nat.le_refl _) _).alloc (by simp) _).alloc (by simp; omega) _) hB
  clear hB
  rw [hg]
  go_wp2
  go_region_held (fun w' => w'.cell? ⟨w.heap.size, 0, none⟩ = some (.float .f64 a) ∧ w'.cell? ⟨w.heap.size, 1, none⟩ = some (.float .f64 f) ∧ w'.cell? ⟨w.heap.size + 1, 0, none⟩ = some (.float .f64 x) ∧ w'.cell? ⟨w.heap.size + 1, 1, none⟩ = some (.float .f64 y) ∧ w'.cell? ⟨w.heap.size + 1, 2, none⟩ = some (.float .f64 z))
    (first | exact VV.all)
    ((first
      | (go_at_call 39; refine (lengthOf_any _ _ _ _).mono ?_; rintro e w5 ⟨r, rfl, hr, hB5⟩; have hin := okL_got (a := a) hr; rw [hL] at hin; replace VV := VV.below2 hB5 rfl; replace HC : Below w.heap.size w w5 := (by first | exact bt HC hB5 | exact bt HC.drew hB5); clear hr hB5)
      | (go_at_call 25; refine (between_any _ _ _ _).mono ?_; rintro e w6 ⟨rfl, rfl⟩)))
  obtain ⟨g0, g1, v0, v1, v2, r0, r1, z0, z1, lt⟩ := VV
  go_wp2
  exact bodyPost_ret (v := .tuple #[.agg #[.int .i64 (0), .int .i64 (0)], .float .f64 (0), .int .i64 4]) (by simp [results, Tryd.results20, go_sem, r0, r1]) rfl ⟨rfl, (HC.setCell (by simp; omega) _).setCell (by simp; omega) _⟩
set_option maxRecDepth 4000 in
set_option maxHeartbeats 4000000 in
theorem placeOf_ok (a f x y z p : Nat) (ha : a < 18446744073709551616) (lx : x < 18446744073709551616) (ly : y < 18446744073709551616) (lzz : z < 18446744073709551616) (hg : okG a f = true) (go : GOK a f) (hL : okL a x y z = true) (LL : LOK x y z p) (w : World) : Calls Tryd.prog 20 #[.agg #[.float .f64 a, .float .f64 f], .agg #[.float .f64 x, .float .f64 y, .float .f64 z]] w fun e w' => e = .returned (.tuple #[.agg #[.int .i64 (dirW y x), .int .i64 (latN a f p z 8)], .float .f64 (htW a f p z (latN a f p z 8)), .int .i64 0]) ∧ Below w.heap.size w w' := by
  have ne := (e1_le go.lf).num (by decide) (by decide)
  have e1 := fun w => hquo (half_eq ha hg) w
  have e2 := fun w => hmul LL.x2 w
  have e5 := fun w => hsub (e1_eq go.lf) w
  have e6 := fun w => hmul (mul_num LL.np ne) w
  have HP := hid (fun w => plus_w LL.y2 LL.s2 w)
  have HS := hid (fun w => sqrt_w LL.rt w)
  have H0 := hid (fun w => angle2_any z (FM p (e1Of f)) lzz (FM_lt LL.np ne) w)
  have HD := hid (fun w => angle2_any y x ly lx w)
  have BD := hid (lat_bd (a := a) (f := f) (z := z) LL.np LL.lp LL.kp)
  have GG := hid go
  have NP := hid LL.np
  have NZ := hid LL.nz
  have LP := hid LL.lp
  clear go LL ha lx ly lzz ne
  go_enter Tryd.func20, Tryd.ntmps20
  go_wp2_with fail
  refine (globeError_any a f _).mono ?_
  rintro e w1 ⟨rfl, hB⟩
  have VV := (PF.init w a f x y z 24 43 41).below hB
  have HC := bt ((((Below.refl _ _).alloc (Nat.le_refl _) _).alloc (by simp) _).alloc (by simp; omega) _) hB
  clear hB
  rw [hg]
  go_wp2
  go_region_held (fun w' => w'.cell? ⟨w.heap.size, 0, none⟩ = some (.float .f64 a) ∧ w'.cell? ⟨w.heap.size, 1, none⟩ = some (.float .f64 f) ∧ w'.cell? ⟨w.heap.size + 1, 0, none⟩ = some (.float .f64 x) ∧ w'.cell? ⟨w.heap.size + 1, 1, none⟩ = some (.float .f64 y) ∧ w'.cell? ⟨w.heap.size + 1, 2, none⟩ = some (.float .f64 z))
    (first | exact VV.all)
    ((first
      | (go_at_call 39; refine (lengthOf_any _ _ _ _).mono ?_; rintro e w5 ⟨r, rfl, hr, hB5⟩; have hin := okL_got (a := a) hr; rw [hL] at hin; replace VV := VV.below2 hB5 rfl; replace HC : Below w.heap.size w w5 := (by first | exact bt HC hB5 | exact bt HC.drew hB5); clear hr hB5)
      | (go_at_call 25; refine (between_any _ _ _ _).mono ?_; rintro e w6 ⟨rfl, rfl⟩)))
  obtain ⟨g0, g1, v0, v1, v2, r0, r1, z0, z1, lt⟩ := VV
  go_wp2_with fail
  refine (squareOf_any _ _ GG.out.lf _).mono ?_
  rintro e w6 ⟨rfl, hB⟩
  have VV := PF.below ⟨g0, g1, v0, v1, v2, r0, r1, z0, z1, lt⟩ hB
  replace HC := bt HC hB
  clear hB g0 g1 v0 v1 v2 r0 r1 z0 z1 lt hin hL hg e1
  obtain ⟨g0, g1, v0, v1, v2, r0, r1, z0, z1, lt⟩ := VV
  go_wp2_with fail
  refine (HP.out _).mono ?_
  rintro e w7 ⟨rfl, rfl⟩
  go_wp2_with fail
  refine (HS.out _).mono ?_
  rintro e w7 ⟨rfl, rfl⟩
  go_wp2_with fail
  refine (H0.out _).mono ?_
  rintro e w8 ⟨rfl, hB⟩
  have VV := PF.below ⟨g0, g1, v0, v1, v2, r0, r1, z0, z1, lt⟩ hB
  replace HC := bt HC hB
  clear hB g0 g1 v0 v1 v2 r0 r1 z0 z1 lt HP HS H0 e2
  go_wp2_with fail
  refine (signedAngle_any _ _).mono ?_
  rintro e w9 ⟨rfl, rfl⟩
  go_wp2
  go_loopw [11, 12] (fun s t wr => ∃ k : Nat, k ≤ 8 ∧ s = .int .i64 (latN a f p z k) ∧ t = .int .i64 k ∧ Below w.heap.size w wr ∧ PF wr w.heap.size a f x y z) (fun _ t _ => 8 - (intOf t).toNat)
  case atStart => exact ⟨0, by decide, rfl, rfl, HC, VV⟩
  case round =>
    clear HC VV
    obtain ⟨k, hk, rfl, rfl, HC, VV⟩ := hrel
    by_cases hlt : k < 8
    · have hd : decide ((k : Int) < 8) = true := by simp; omega
      have HT : Hid (latN a f p z (k + 1) = sgn (angV (yW a f z (latN a f p z k) (sinV (nrm (latN a f p z k)))) p).1) := rfl
      generalize latN a f p z k = t at HT ⊢
      obtain ⟨n0, n1⟩ := nrm_lt t
      obtain ⟨q1, q2, q3, q4⟩ := y_eqs GG.out t (sinV (nrm t)) (sinV_le _ n0 n1).1 NZ.out
      have e1 := fun w => hmul q1 w
      have HQ := hid (fun w => plus_w q2 q3 w)
      have HE := hid (fun w => angle2_any _ p q4 LP.out w)
      clear q1 q2 q3 q4 n0 n1
      obtain ⟨g0, g1, v0, v1, v2, r0, r1, z0, z1, lt⟩ := VV
      go_wp2_with fail
      refine (sinCos_any _ _).mono ?_
      rintro e w4 ⟨rfl, rfl⟩
      go_wp2_with fail
      refine (crossOf_w _ _ _ GG.out _).mono ?_
      rintro e w4 ⟨rfl, hB⟩
      have VV := PF.below ⟨g0, g1, v0, v1, v2, r0, r1, z0, z1, lt⟩ hB
      replace HC := bt HC hB
      clear hB g0 g1 v0 v1 v2 r0 r1 z0 z1 lt
      obtain ⟨g0, g1, v0, v1, v2, r0, r1, z0, z1, lt⟩ := VV
      go_wp2_with fail
      refine (HQ.out _).mono ?_
      rintro e w10 ⟨rfl, rfl⟩
      go_wp2_with fail
      refine (HE.out _).mono ?_
      rintro e w6 ⟨rfl, hB⟩
      have VV := PF.below ⟨g0, g1, v0, v1, v2, r0, r1, z0, z1, lt⟩ hB
      replace HC := bt HC hB
      clear hB g0 g1 v0 v1 v2 r0 r1 z0 z1 lt e1 HQ HE
      go_wp2_with fail
      refine (signedAngle_any _ _).mono ?_
      rintro e w10 ⟨rfl, rfl⟩
      go_wp2
      go_roundw
      case rel => exact ⟨k + 1, by omega, by rw [HT.out], by go_num, HC, VV⟩
      case measure => simp [intOf]; omega
    · obtain rfl : k = 8 := by omega
      generalize hgt : latN a f p z 8 = t at BD ⊢
      have HG := hid hgt
      clear hgt
      obtain ⟨t0, t1⟩ := BD.out
      by_cases c : -45000000000 ≤ t ∧ t ≤ 45000000000
      · obtain ⟨c0, c1⟩ := c
        obtain ⟨_, q2, q3⟩ := h1_eqs GG.out NP.out t c0 c1
        have HW : Hid (htW a f p z t = h1W a f p t) := if_pos ⟨c0, c1⟩
        have e1 := fun w => hquo q2 w
        have e3 := fun w => hsub q3 w
        have d0 : decide (45000000000 < t) = false := by simp; omega
        have d1 : decide (t < -45000000000) = false := by simp; omega
        clear q2 q3 c0 c1 t0 t1
        obtain ⟨g0, g1, v0, v1, v2, r0, r1, z0, z1, lt⟩ := VV
        go_wp2_with fail
        refine (sinCos_any _ _).mono ?_
        rintro e w4 ⟨rfl, rfl⟩
        go_wp2_with fail
        refine (crossOf_w _ _ _ GG.out _).mono ?_
        rintro e w4 ⟨rfl, hB⟩
        have VV := PF.below ⟨g0, g1, v0, v1, v2, r0, r1, z0, z1, lt⟩ hB
        replace HC := bt HC hB
        clear hB g0 g1 v0 v1 v2 r0 r1 z0 z1 lt
        obtain ⟨g0, g1, v0, v1, v2, r0, r1, z0, z1, lt⟩ := VV
        go_wp2_with fail
        refine (HD.out _).mono ?_
        rintro e w6 ⟨rfl, hB⟩
        have VV := PF.below ⟨g0, g1, v0, v1, v2, r0, r1, z0, z1, lt⟩ hB
        replace HC := bt HC hB
        clear hB g0 g1 v0 v1 v2 r0 r1 z0 z1 lt
        obtain ⟨g0, g1, v0, v1, v2, r0, r1, z0, z1, lt⟩ := VV
        go_wp2_with fail
        refine (signedAngle_any _ _).mono ?_
        rintro e w10 ⟨rfl, rfl⟩
        go_wp2
        exact bodyPost_ret (v := .tuple #[.agg #[.int .i64 (sgn (angV y x).1), .int .i64 t], .float .f64 (h1W a f p t), .int .i64 0]) (by simp [results, Tryd.results20, go_sem, r0, r1]) rfl ⟨by rw [HG.out, HW.out]; rfl, (HC.setCell (by simp; omega) _).setCell (by simp; omega) _⟩
      · by_cases c2 : 45000000000 < t
        · obtain ⟨_, q2, q3, q4⟩ := h2_eqs GG.out NZ.out t t0 t1 (.inl c2)
          have HW : Hid (htW a f p z t = h2W a f z t) := if_neg c
          have e1 := fun w => hquo q2 w
          have HL := hid (fun w => less_num q3 q4 w)
          have d0 : decide (45000000000 < t) = true := by simp; omega
          clear q2 q3 q4 c c2 t0 t1
          obtain ⟨g0, g1, v0, v1, v2, r0, r1, z0, z1, lt⟩ := VV
          go_wp2_with fail
          refine (sinCos_any _ _).mono ?_
          rintro e w4 ⟨rfl, rfl⟩
          go_wp2_with fail
          refine (crossOf_w _ _ _ GG.out _).mono ?_
          rintro e w4 ⟨rfl, hB⟩
          have VV := PF.below ⟨g0, g1, v0, v1, v2, r0, r1, z0, z1, lt⟩ hB
          replace HC := bt HC hB
          clear hB g0 g1 v0 v1 v2 r0 r1 z0 z1 lt
          obtain ⟨g0, g1, v0, v1, v2, r0, r1, z0, z1, lt⟩ := VV
          go_wp2_with fail
          refine (HL.out _).mono ?_
          rintro e w10 ⟨rfl, rfl⟩
          go_wp2_with fail
          refine (HD.out _).mono ?_
          rintro e w6 ⟨rfl, hB⟩
          have VV := PF.below ⟨g0, g1, v0, v1, v2, r0, r1, z0, z1, lt⟩ hB
          replace HC := bt HC hB
          clear hB g0 g1 v0 v1 v2 r0 r1 z0 z1 lt
          obtain ⟨g0, g1, v0, v1, v2, r0, r1, z0, z1, lt⟩ := VV
          go_wp2_with fail
          refine (signedAngle_any _ _).mono ?_
          rintro e w10 ⟨rfl, rfl⟩
          go_wp2
          exact bodyPost_ret (v := .tuple #[.agg #[.int .i64 (sgn (angV y x).1), .int .i64 t], .float .f64 (h2W a f z t), .int .i64 0]) (by simp [results, Tryd.results20, go_sem, r0, r1]) rfl ⟨by rw [HG.out, HW.out]; rfl, (HC.setCell (by simp; omega) _).setCell (by simp; omega) _⟩
        · obtain ⟨_, q2, q3, q4⟩ := h2_eqs GG.out NZ.out t t0 t1 (.inr (by omega))
          have HW : Hid (htW a f p z t = h2W a f z t) := if_neg c
          have e1 := fun w => hquo q2 w
          have HL := hid (fun w => less_num q3 q4 w)
          have d0 : decide (45000000000 < t) = false := by simp; omega
          have d1 : decide (t < -45000000000) = true := by simp; omega
          clear q2 q3 q4 c c2 t0 t1
          obtain ⟨g0, g1, v0, v1, v2, r0, r1, z0, z1, lt⟩ := VV
          go_wp2_with fail
          refine (sinCos_any _ _).mono ?_
          rintro e w4 ⟨rfl, rfl⟩
          go_wp2_with fail
          refine (crossOf_w _ _ _ GG.out _).mono ?_
          rintro e w4 ⟨rfl, hB⟩
          have VV := PF.below ⟨g0, g1, v0, v1, v2, r0, r1, z0, z1, lt⟩ hB
          replace HC := bt HC hB
          clear hB g0 g1 v0 v1 v2 r0 r1 z0 z1 lt
          obtain ⟨g0, g1, v0, v1, v2, r0, r1, z0, z1, lt⟩ := VV
          go_wp2_with fail
          refine (HL.out _).mono ?_
          rintro e w10 ⟨rfl, rfl⟩
          go_wp2_with fail
          refine (HD.out _).mono ?_
          rintro e w6 ⟨rfl, hB⟩
          have VV := PF.below ⟨g0, g1, v0, v1, v2, r0, r1, z0, z1, lt⟩ hB
          replace HC := bt HC hB
          clear hB g0 g1 v0 v1 v2 r0 r1 z0 z1 lt
          obtain ⟨g0, g1, v0, v1, v2, r0, r1, z0, z1, lt⟩ := VV
          go_wp2_with fail
          refine (signedAngle_any _ _).mono ?_
          rintro e w10 ⟨rfl, rfl⟩
          go_wp2
          exact bodyPost_ret (v := .tuple #[.agg #[.int .i64 (sgn (angV y x).1), .int .i64 t], .float .f64 (h2W a f z t), .int .i64 0]) (by simp [results, Tryd.results20, go_sem, r0, r1]) rfl ⟨by rw [HG.out, HW.out]; rfl, (HC.setCell (by simp; omega) _).setCell (by simp; omega) _⟩
end Go.Proofs.YtmiamfnnccjmeabDoor
