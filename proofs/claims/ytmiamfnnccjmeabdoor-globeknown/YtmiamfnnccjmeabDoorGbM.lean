/-
  The law GlobeKnown: its walk.
-/
import Derived.Test.YtmiamfnnccjmeabDoorGbL
import Derived.Test.YtmiamfnnccjmeabDoorAngAny
namespace Go.Proofs.YtmiamfnnccjmeabDoor
open Go.RowKit FB
attribute [local go_sem] run_store_float

theorem run_equalIn_float {P : Program} (w : World) (d : Nat) (t : TypeId) (k : FloatKind) (a b : Nat) (h : P.underlying t = some (.float k)) : (Op.equalIn (d + 1) t (.float k a) (.float k b)).run P w = .ok (k.format.order a b == some .eq) w := by
  simp [Op.equalIn, run_underlying h]
  rfl
attribute [local go_sem] run_equalIn_float
theorem neq_globe (A F A' F' : Nat) (h1 : FloatKind.f64.format.order A A' = some .eq) (h2 : FloatKind.f64.format.order F F' = some .eq) (w : World) : (binOp .neq 25 (.agg #[.float .f64 A, .float .f64 F]) (.agg #[.float .f64 A', .float .f64 F'])).run Tryd.prog w = .ok (.bool false) w := by
  rw [run_neq_struct, run_equalIn_struct w 9999 _ _ _ (by kernel_rfl) (by kernel_rfl)]
  simp [go_sem, Program.fieldsOf, Tryd.underlying25, Tryd.underlying22, h1, h2]
theorem six_ord : (FloatKind.f64.format.order 4708606483430899712 4708606483430899712 != some Ordering.eq) = false := by decide +kernel
set_option maxRecDepth 4000 in
set_option maxHeartbeats 4000000 in
theorem known_no_walk (s : ByteArray) (g : Nat → Addr) (a f : Nat) (n : Int) (h : okG a f = false) (w : World) (hl : Laid w g) : Calls Tryd.prog 3 #[.string s, .agg #[.float .f64 a, .float .f64 f], .int .i64 n] w fun e w' => e = .returned (.bool true) ∧ Below w.heap.size w w' := by
  have so := six_ord
  obtain ⟨o1, o2⟩ := kA_ord s
  have o1' : FloatKind.f64.format.order (kA s) (kA s) = some .eq := o1
  have o2' : FloatKind.f64.format.order (kF s) (kF s) = some .eq := o2
  have HE := hid (fun w => globeError_any a f w)
  rw [h] at HE
  clear o1 o2
  go_enter Tryd.func3, Tryd.ntmps3
  go_wp2_with fail
  refine (known_0 _ (by decide +kernel) _).mono ?_
  rintro e w1 ⟨rfl, hB1⟩
  have HC := bt ((Below.refl _ _).alloc (Nat.le_refl _) _) hB1
  have PG := (Pair.new w a f 24).below hB1
  clear hB1
  go_wp2_with fail
  refine (known_any g s _ ((hl.below HC).alloc _)).mono ?_
  rintro e w2 ⟨rfl, hB2⟩
  have hlt := PG.lt
  have hne : w1.heap.size ≠ w.heap.size := by omega
  have PK := (Pair.new w1 4708606483430899712 4569877477558837545 25).below hB2
  replace PG := (PG.alloc _).below hB2
  replace HC := bt (HC.alloc HC.size _) hB2
  clear hB2
  obtain ⟨k0, k1, k2, k3, kz⟩ := PK
  go_wp2_with fail
  refine (knownGlobe_any s _).mono ?_
  rintro e w3 ⟨rfl, hB3⟩
  have PK := (Pair.set ⟨k0, k1, k2, k3, kz⟩ (kA s) (kF s)).below hB3
  replace PG := ((PG.other hne 0 _).other hne 1 _).below hB3
  replace HC := bt ((HC.setCell (by simp; omega) _).setCell (by simp; omega) _) hB3
  clear hB3 k0 k1 k2 k3 kz
  go_wp2_with fail
  refine (coded_known g s _ ((hl.below HC).alloc _)).mono ?_
  rintro e w4 ⟨rfl, hB4⟩
  have PW := (Pair.new w3 (kA s) (kF s) 24).below hB4
  replace PK := (PK.alloc _).below hB4
  replace PG := (PG.alloc _).below hB4
  replace HC := bt (HC.alloc HC.size _) hB4
  clear hB4
  obtain ⟨k0, k1, kf0, kf1, kz⟩ := PK
  obtain ⟨p0, p1, pf0, pf1, pz⟩ := PW
  go_wp2
  go_region_held (fun w' => w'.cell? ⟨w1.heap.size, 0, none⟩ = some (.float .f64 (kA s)) ∧ w'.cell? ⟨w1.heap.size, 1, none⟩ = some (.float .f64 (kF s)) ∧ w'.cell? ⟨w3.heap.size, 0, none⟩ = some (.float .f64 (kA s)) ∧ w'.cell? ⟨w3.heap.size, 1, none⟩ = some (.float .f64 (kF s)))
    (first | assumption | (simp [go_sem, k0, k1, p0, p1]; done))
    ((go_at_call 9; refine (ball_any _ _ _).mono ?_; rintro e w5 ⟨rfl, hB5⟩; have hB5' : Below w4.heap.size w4 w5 := (Below.refl _ _).drew.trans hB5; have hS5 : w5.cell? ⟨w1.heap.size, 0, none⟩ = some (.float .f64 (kA s)) ∧ w5.cell? ⟨w1.heap.size, 1, none⟩ = some (.float .f64 (kF s)) ∧ w5.cell? ⟨w3.heap.size, 0, none⟩ = some (.float .f64 (kA s)) ∧ w5.cell? ⟨w3.heap.size, 1, none⟩ = some (.float .f64 (kF s)) := ⟨(Pair.below ⟨k0, k1, kf0, kf1, kz⟩ hB5').c0, (Pair.below ⟨k0, k1, kf0, kf1, kz⟩ hB5').c1, (Pair.below ⟨p0, p1, pf0, pf1, pz⟩ hB5').c0, (Pair.below ⟨p0, p1, pf0, pf1, pz⟩ hB5').c1⟩))
  replace PG := PG.below hB5'
  replace HC := bt HC hB5'
  clear hB5 hB5' hS5 k0 k1 kf0 kf1 kz p0 p1 pf0 pf1 pz
  obtain ⟨a0, a1, af0, af1, az⟩ := PG
  go_wp2_with fail
  refine (HE.out _).mono ?_
  rintro e w6 ⟨rfl, hB6⟩
  have PG := Pair.below ⟨a0, a1, af0, af1, az⟩ hB6
  replace HC := bt HC hB6
  clear hB6 a0 a1 af0 af1 az
  obtain ⟨a0, a1, af0, af1, az⟩ := PG
  go_wp2_with fail
  refine (ball_any _ _ _).mono ?_
  rintro e w7 ⟨rfl, hB7⟩
  replace HC := bt HC hB7
  have PG := Pair.below ⟨a0, a1, af0, af1, az⟩ hB7
  clear hB7 a0 a1 af0 af1 az
  obtain ⟨a0, a1, af0, af1, az⟩ := PG
  go_wp2_with fail
  refine (valid_no g a f h _ (hl.below HC)).mono ?_
  rintro e w8 ⟨rfl, hB8⟩
  replace HC := bt HC hB8
  have PG := Pair.below ⟨a0, a1, af0, af1, az⟩ hB8
  clear hB8 a0 a1 af0 af1 az
  obtain ⟨a0, a1, af0, af1, az⟩ := PG
  go_wp2_with fail
  refine (coded_sent g 2 (by decide) 3 _ (hl.below HC)).mono ?_
  rintro e w9 ⟨rfl, hB9⟩
  replace HC := bt HC hB9
  clear hB9 a0 a1 af0 af1 az
  go_wp2
  go_ret
  exact ⟨rfl, HC⟩
set_option maxRecDepth 4000 in
set_option maxHeartbeats 4000000 in
theorem known_yes_walk (s : ByteArray) (g : Nat → Addr) (a f : Nat) (n : Int) (ha : a < 18446744073709551616) (hf : f < 18446744073709551616) (h : okG a f = true) (w : World) (hl : Laid w g) : Calls Tryd.prog 3 #[.string s, .agg #[.float .f64 a, .float .f64 f], .int .i64 n] w fun e w' => e = .returned (.bool true) ∧ Below w.heap.size w w' := by
  have hfl := (okG_le ha hf h).2.1
  have HF := hid hfl
  clear ha hf hfl
  have so := six_ord
  obtain ⟨o1, o2⟩ := kA_ord s
  have o1' : FloatKind.f64.format.order (kA s) (kA s) = some .eq := o1
  have o2' : FloatKind.f64.format.order (kF s) (kF s) = some .eq := o2
  have HE := hid (fun w => globeError_any a f w)
  rw [h] at HE
  clear o1 o2
  go_enter Tryd.func3, Tryd.ntmps3
  go_wp2_with fail
  refine (known_0 _ (by decide +kernel) _).mono ?_
  rintro e w1 ⟨rfl, hB1⟩
  have HC := bt ((Below.refl _ _).alloc (Nat.le_refl _) _) hB1
  have PG := (Pair.new w a f 24).below hB1
  clear hB1
  go_wp2_with fail
  refine (known_any g s _ ((hl.below HC).alloc _)).mono ?_
  rintro e w2 ⟨rfl, hB2⟩
  have hlt := PG.lt
  have hne : w1.heap.size ≠ w.heap.size := by omega
  have PK := (Pair.new w1 4708606483430899712 4569877477558837545 25).below hB2
  replace PG := (PG.alloc _).below hB2
  replace HC := bt (HC.alloc HC.size _) hB2
  clear hB2
  obtain ⟨k0, k1, k2, k3, kz⟩ := PK
  go_wp2_with fail
  refine (knownGlobe_any s _).mono ?_
  rintro e w3 ⟨rfl, hB3⟩
  have PK := (Pair.set ⟨k0, k1, k2, k3, kz⟩ (kA s) (kF s)).below hB3
  replace PG := ((PG.other hne 0 _).other hne 1 _).below hB3
  replace HC := bt ((HC.setCell (by simp; omega) _).setCell (by simp; omega) _) hB3
  clear hB3 k0 k1 k2 k3 kz
  go_wp2_with fail
  refine (coded_known g s _ ((hl.below HC).alloc _)).mono ?_
  rintro e w4 ⟨rfl, hB4⟩
  have PW := (Pair.new w3 (kA s) (kF s) 24).below hB4
  replace PK := (PK.alloc _).below hB4
  replace PG := (PG.alloc _).below hB4
  replace HC := bt (HC.alloc HC.size _) hB4
  clear hB4
  obtain ⟨k0, k1, kf0, kf1, kz⟩ := PK
  obtain ⟨p0, p1, pf0, pf1, pz⟩ := PW
  go_wp2
  go_region_held (fun w' => w'.cell? ⟨w1.heap.size, 0, none⟩ = some (.float .f64 (kA s)) ∧ w'.cell? ⟨w1.heap.size, 1, none⟩ = some (.float .f64 (kF s)) ∧ w'.cell? ⟨w3.heap.size, 0, none⟩ = some (.float .f64 (kA s)) ∧ w'.cell? ⟨w3.heap.size, 1, none⟩ = some (.float .f64 (kF s)))
    (first | assumption | (simp [go_sem, k0, k1, p0, p1]; done))
    ((go_at_call 9; refine (ball_any _ _ _).mono ?_; rintro e w5 ⟨rfl, hB5⟩; have hB5' : Below w4.heap.size w4 w5 := (Below.refl _ _).drew.trans hB5; have hS5 : w5.cell? ⟨w1.heap.size, 0, none⟩ = some (.float .f64 (kA s)) ∧ w5.cell? ⟨w1.heap.size, 1, none⟩ = some (.float .f64 (kF s)) ∧ w5.cell? ⟨w3.heap.size, 0, none⟩ = some (.float .f64 (kA s)) ∧ w5.cell? ⟨w3.heap.size, 1, none⟩ = some (.float .f64 (kF s)) := ⟨(Pair.below ⟨k0, k1, kf0, kf1, kz⟩ hB5').c0, (Pair.below ⟨k0, k1, kf0, kf1, kz⟩ hB5').c1, (Pair.below ⟨p0, p1, pf0, pf1, pz⟩ hB5').c0, (Pair.below ⟨p0, p1, pf0, pf1, pz⟩ hB5').c1⟩))
  replace PG := PG.below hB5'
  replace HC := bt HC hB5'
  clear hB5 hB5' hS5 k0 k1 kf0 kf1 kz p0 p1 pf0 pf1 pz
  obtain ⟨a0, a1, af0, af1, az⟩ := PG
  go_wp2_with fail
  refine (HE.out _).mono ?_
  rintro e w6 ⟨rfl, hB6⟩
  have PG := Pair.below ⟨a0, a1, af0, af1, az⟩ hB6
  replace HC := bt HC hB6
  clear hB6 a0 a1 af0 af1 az
  obtain ⟨a0, a1, af0, af1, az⟩ := PG
  go_wp2_with fail
  refine (ball_any _ _ _).mono ?_
  rintro e w7 ⟨rfl, hB7⟩
  replace HC := bt HC hB7
  have PG := Pair.below ⟨a0, a1, af0, af1, az⟩ hB7
  clear hB7 a0 a1 af0 af1 az
  obtain ⟨a0, a1, af0, af1, az⟩ := PG
  go_wp2_with fail
  refine (valid_ok a f h _).mono ?_
  rintro e w8 ⟨rfl, hB8⟩
  replace HC := bt HC hB8
  have PG := Pair.below ⟨a0, a1, af0, af1, az⟩ hB8
  clear hB8 a0 a1 af0 af1 az
  obtain ⟨a0, a1, af0, af1, az⟩ := PG
  go_wp2_with fail
  refine (coded_nil 0 _).mono ?_
  rintro e w9 ⟨rfl, rfl⟩
  go_wp2
  go_region_held (fun w' => w'.cell? ⟨w.heap.size, 0, none⟩ = some (.float .f64 a) ∧ w'.cell? ⟨w.heap.size, 1, none⟩ = some (.float .f64 f))
    (first | assumption | (simp [go_sem, a0, a1]; done))
    ((first
      | (go_at_call 9; refine (ball_any _ _ _).mono ?_; rintro e w10 ⟨rfl, hB10⟩; have PG10 := Pair.below (Pair.drew ⟨a0, a1, af0, af1, az⟩) hB10; have hS10 := And.intro PG10.c0 PG10.c1)
      | (go_at_call 13; refine (cross_any _ _ _ HF.out _).mono ?_; rintro e w11 ⟨r, rfl, hr, hB11⟩; have PG11 := PG10.below hB11; have hS11 := And.intro PG11.c0 PG11.c1)
      | (go_at_call 14; refine (crossOf_any _ _ _ HF.out _).mono ?_; rintro e w12 ⟨r', rfl, hr', hB12⟩; have PG12 := PG11.below hB12; have hS12 := And.intro PG12.c0 PG12.c1)
      | (go_at_call 12; refine (same_got hr hr' _).mono ?_; rintro e w13 ⟨rfl, rfl⟩)))
  go_wp2
  go_ret
  exact ⟨rfl, bt (bt (bt HC.drew hB10) hB11) hB12⟩
theorem known_walk (s : ByteArray) (g : Nat → Addr) (a f : Nat) (n : Int) (ha : a < 18446744073709551616) (hf : f < 18446744073709551616) (w : World) (hl : Laid w g) : Calls Tryd.prog 3 #[.string s, .agg #[.float .f64 a, .float .f64 f], .int .i64 n] w fun e w' => e = .returned (.bool true) ∧ Below w.heap.size w w' := by
  cases h : okG a f with
  | false => exact known_no_walk s g a f n h w hl
  | true => exact known_yes_walk s g a f n ha hf h w hl
end Go.Proofs.YtmiamfnnccjmeabDoor
