/-
  What Vec and VecOf, Place and PlaceOf answer, together; the law's own check of a ball.
-/
import Derived.Test.YtmiamfnnccjmeabDoorGpE
import Derived.Test.YtmiamfnnccjmeabDoorGpG
import Derived.Test.YtmiamfnnccjmeabDoorGpQ
import Derived.Test.YtmiamfnnccjmeabDoorGpS
namespace Go.Proofs.YtmiamfnnccjmeabDoor
open Go.RowKit FB
attribute [local go_sem] run_store_float

/-- The number of Vec's error. -/
def vcode (a f h : Nat) (lat : Int) : Nat := if okG a f = false then 3 else if lat < -90000000000 then 4 else if 90000000000 < lat then 4 else if inB 13935002356576944128 4741671816366391296 h = false then 4 else 0
theorem vcode_of (a f h : Nat) (lat : Int) : vcode a f h lat = 0 ∨ vcode a f h lat = 3 ∨ vcode a f h lat = 4 := by
  unfold vcode; (repeat' split) <;> simp
def GV (a f h : Nat) (lon lat : Int) (x y z : Nat) : Prop := (vcode a f h lat = 0 ∧ x = uz (FM (dW a f h lat (uz (cosV (nrm lat)))) (uz (cosV (nrm lon)))) ∧ y = uz (FM (dW a f h lat (uz (cosV (nrm lat)))) (uz (sinV (nrm lon)))) ∧ z = uz (FM (uW a f h lat) (uz (sinV (nrm lat))))) ∨ (vcode a f h lat ≠ 0 ∧ x = 0 ∧ y = 0 ∧ z = 0)
def RV (a f h : Nat) (lon lat : Int) (x y z : Nat) : Prop := (vcode a f h lat = 0 ∧ x = FM (dW a f h lat (cosV (nrm lat))) (cosV (nrm lon)) ∧ y = FM (dW a f h lat (cosV (nrm lat))) (sinV (nrm lon)) ∧ z = FM (uW a f h lat) (sinV (nrm lat))) ∨ (vcode a f h lat ≠ 0 ∧ x = 0 ∧ y = 0 ∧ z = 0)
theorem vec_any (g : Nat → Addr) (a f h : Nat) (lon lat : Int) (ha : a < 18446744073709551616) (hf : f < 18446744073709551616) (hh : h < 18446744073709551616) (w : World) (hl : Laid w g) : Calls Tryd.prog 16 #[.agg #[.float .f64 a, .float .f64 f], .agg #[.int .i64 lon, .int .i64 lat], .float .f64 h] w fun e w' => ∃ x y z, e = .returned (.tuple #[.agg #[.float .f64 x, .float .f64 y, .float .f64 z], evOf g (vcode a f h lat)]) ∧ GV a f h lon lat x y z ∧ Below w.heap.size w w' := by
  cases hg : okG a f with
  | false =>
    have hc : vcode a f h lat = 3 := by unfold vcode; rw [if_pos hg]
    unfold GV; rw [hc]
    refine (vec_shape g a f h lon lat hg w hl).mono ?_
    rintro e w' ⟨rfl, hB⟩
    exact ⟨0, 0, 0, rfl, .inr ⟨by decide, rfl, rfl, rfl⟩, hB⟩
  | true =>
    by_cases c1 : lat < -90000000000
    · have hc : vcode a f h lat = 4 := by unfold vcode; rw [if_neg (by rw [hg]; simp), if_pos c1]
      unfold GV; rw [hc]
      refine (vec_range1 g a f h lon lat hg c1 w hl).mono ?_
      rintro e w' ⟨rfl, hB⟩
      exact ⟨0, 0, 0, rfl, .inr ⟨by decide, rfl, rfl, rfl⟩, hB⟩
    · by_cases c2 : 90000000000 < lat
      · have hc : vcode a f h lat = 4 := by unfold vcode; rw [if_neg (by rw [hg]; simp), if_neg c1, if_pos c2]
        unfold GV; rw [hc]
        refine (vec_range2 g a f h lon lat hg c1 c2 w hl).mono ?_
        rintro e w' ⟨rfl, hB⟩
        exact ⟨0, 0, 0, rfl, .inr ⟨by decide, rfl, rfl, rfl⟩, hB⟩
      · cases h3 : inB 13935002356576944128 4741671816366391296 h with
        | false =>
          have hc : vcode a f h lat = 4 := by unfold vcode; rw [if_neg (by rw [hg]; simp), if_neg c1, if_neg c2, if_pos h3]
          unfold GV; rw [hc]
          refine (vec_range3 g a f h lon lat hg c1 c2 h3 w hl).mono ?_
          rintro e w' ⟨rfl, hB⟩
          exact ⟨0, 0, 0, rfl, .inr ⟨by decide, rfl, rfl, rfl⟩, hB⟩
        | true =>
          have hc : vcode a f h lat = 0 := by unfold vcode; rw [if_neg (by rw [hg]; simp), if_neg c1, if_neg c2, if_neg (by rw [h3]; simp)]
          unfold GV; rw [hc]
          refine (vec_ok a f h lon lat hg (gok_of ha hf hg) (high_le hh h3) c1 c2 h3 w).mono ?_
          rintro e w' ⟨rfl, hB⟩
          exact ⟨_, _, _, rfl, .inl ⟨rfl, rfl, rfl, rfl⟩, hB⟩
theorem vecOf_any (a f h : Nat) (lon lat : Int) (ha : a < 18446744073709551616) (hf : f < 18446744073709551616) (hh : h < 18446744073709551616) (w : World) : Calls Tryd.prog 17 #[.agg #[.float .f64 a, .float .f64 f], .agg #[.int .i64 lon, .int .i64 lat], .float .f64 h] w fun e w' => ∃ x y z, e = .returned (.tuple #[.agg #[.float .f64 x, .float .f64 y, .float .f64 z], .int .i64 (vcode a f h lat)]) ∧ RV a f h lon lat x y z ∧ Below w.heap.size w w' := by
  cases hg : okG a f with
  | false =>
    have hc : vcode a f h lat = 3 := by unfold vcode; rw [if_pos hg]
    unfold RV; rw [hc]
    refine (vecOf_shape a f h lon lat hg w).mono ?_
    rintro e w' ⟨rfl, hB⟩
    exact ⟨0, 0, 0, rfl, .inr ⟨by decide, rfl, rfl, rfl⟩, hB⟩
  | true =>
    by_cases c2 : 90000000000 < lat
    · have hc : vcode a f h lat = 4 := by unfold vcode; rw [if_neg (by rw [hg]; simp), if_neg (by omega), if_pos c2]
      unfold RV; rw [hc]
      refine (vecOf_range1 a f h lon lat hg c2 w).mono ?_
      rintro e w' ⟨rfl, hB⟩
      exact ⟨0, 0, 0, rfl, .inr ⟨by decide, rfl, rfl, rfl⟩, hB⟩
    · by_cases c1 : lat < -90000000000
      · have hc : vcode a f h lat = 4 := by unfold vcode; rw [if_neg (by rw [hg]; simp), if_pos c1]
        unfold RV; rw [hc]
        refine (vecOf_range2 a f h lon lat hg c2 c1 w).mono ?_
        rintro e w' ⟨rfl, hB⟩
        exact ⟨0, 0, 0, rfl, .inr ⟨by decide, rfl, rfl, rfl⟩, hB⟩
      · cases h3 : inB 13935002356576944128 4741671816366391296 h with
        | false =>
          have hc : vcode a f h lat = 4 := by unfold vcode; rw [if_neg (by rw [hg]; simp), if_neg c1, if_neg c2, if_pos h3]
          unfold RV; rw [hc]
          refine (vecOf_range3 a f h lon lat hg c2 c1 h3 w).mono ?_
          rintro e w' ⟨rfl, hB⟩
          exact ⟨0, 0, 0, rfl, .inr ⟨by decide, rfl, rfl, rfl⟩, hB⟩
        | true =>
          have hc : vcode a f h lat = 0 := by unfold vcode; rw [if_neg (by rw [hg]; simp), if_neg c1, if_neg c2, if_neg (by rw [h3]; simp)]
          unfold RV; rw [hc]
          refine (vecOf_ok a f h lon lat hg (gok_of ha hf hg) (high_le hh h3) c2 c1 h3 w).mono ?_
          rintro e w' ⟨rfl, hB⟩
          exact ⟨_, _, _, rfl, .inl ⟨rfl, rfl, rfl, rfl⟩, hB⟩
theorem vec_sb {a f h : Nat} {lon lat : Int} {x y z x' y' z' : Nat} (ha : a < 18446744073709551616) (hf : f < 18446744073709551616) (hh : h < 18446744073709551616) (h1 : GV a f h lon lat x y z) (h2 : RV a f h lon lat x' y' z') : SB x x' ∧ SB y y' ∧ SB z z' := by
  rcases h1 with ⟨hc, rfl, rfl, rfl⟩ | ⟨hc, rfl, rfl, rfl⟩
  · rcases h2 with ⟨_, rfl, rfl, rfl⟩ | ⟨hd, _⟩
    · have hg : okG a f = true := by
        cases hg : okG a f with
        | true => rfl
        | false => unfold vcode at hc; rw [if_pos hg] at hc; cases hc
      have h3 : inB 13935002356576944128 4741671816366391296 h = true := by
        cases h3 : inB 13935002356576944128 4741671816366391296 h with
        | true => rfl
        | false =>
          unfold vcode at hc
          rw [if_neg (by rw [hg]; simp), if_pos h3] at hc
          split at hc
          · cases hc
          · split at hc
            · cases hc
            · cases hc
      have g := gok_of ha hf hg
      have hl := high_le hh h3
      obtain ⟨l0, l1⟩ := nrm_lt lat
      obtain ⟨m0, m1⟩ := nrm_lt lon
      have sl := (sinV_le _ l0 l1).1
      have cl := (sinV_le _ l0 l1).2
      have sm := (sinV_le _ m0 m1).1
      have cm := (sinV_le _ m0 m1).2
      obtain ⟨_, _, _, _, _, _, n1, n2, n3⟩ := vec_eqs lat g hl (uz (cosV (nrm lat))) (uz (cosV (nrm lat))) (uz (cosV (nrm lat))) (uz_le cl) (uz_le cl) (uz_le cl)
      obtain ⟨_, _, _, _, _, _, _, n4, _⟩ := vec_eqs lat g hl (cosV (nrm lat)) (cosV (nrm lat)) (cosV (nrm lat)) cl cl cl
      have nn : ∀ {s : Nat}, Le 1136 s → Num s := fun h => h.num (by decide) (by decide)
      have hd : SameZ (dW a f h lat (uz (cosV (nrm lat)))) (dW a f h lat (cosV (nrm lat))) := FM_z n1 n1 (nn (uz_le cl)) (nn cl) (.inl rfl) (uz_z cl (by decide))
      exact ⟨fun w => same_uz _ _ (FM_z n2 n4 (nn (uz_le cm)) (nn cm) hd (uz_z cm (by decide))) w, fun w => same_uz _ _ (FM_z n2 n4 (nn (uz_le sm)) (nn sm) hd (uz_z sm (by decide))) w, fun w => same_uz _ _ (FM_z n3 n3 (nn (uz_le sl)) (nn sl) (.inl rfl) (uz_z sl (by decide))) w⟩
    · exact absurd hc hd
  · rcases h2 with ⟨hd, _⟩ | ⟨_, rfl, rfl, rfl⟩
    · exact absurd hd hc
    · exact ⟨SB.zero, SB.zero, SB.zero⟩
/-- The number of Place's error. -/
def pcode (a f x y z : Nat) : Nat := if okG a f = false then 3 else if okL a x y z = false then 4 else 0
theorem pcode_of (a f x y z : Nat) : pcode a f x y z = 0 ∨ pcode a f x y z = 3 ∨ pcode a f x y z = 4 := by
  unfold pcode; (repeat' split) <;> simp
def PV (a f x y z : Nat) (lon lat : Int) (h : Nat) : Prop := (pcode a f x y z = 0 ∧ ∃ p, LOK x y z p ∧ lon = dirW y x ∧ lat = latN a f p z 8 ∧ h = htW a f p z (latN a f p z 8)) ∨ (pcode a f x y z ≠ 0 ∧ lon = 0 ∧ lat = 0 ∧ h = 0)
theorem PV.same {a f x y z : Nat} {lon lat lon' lat' : Int} {h h' : Nat} (h1 : PV a f x y z lon lat h) (h2 : PV a f x y z lon' lat' h') : lon = lon' ∧ lat = lat' ∧ h = h' := by
  rcases h1 with ⟨hc, p, lp, rfl, rfl, rfl⟩ | ⟨hc, rfl, rfl, rfl⟩
  · rcases h2 with ⟨_, q, lq, rfl, rfl, rfl⟩ | ⟨hd, _⟩
    · obtain rfl : p = q := Option.some.inj (lp.rt.symm.trans lq.rt)
      exact ⟨rfl, rfl, rfl⟩
    · exact absurd hc hd
  · rcases h2 with ⟨hd, _⟩ | ⟨_, rfl, rfl, rfl⟩
    · exact absurd hd hc
    · exact ⟨rfl, rfl, rfl⟩
theorem place_any (g : Nat → Addr) (a f x y z : Nat) (ha : a < 18446744073709551616) (hf : f < 18446744073709551616) (lx : x < 18446744073709551616) (ly : y < 18446744073709551616) (lz : z < 18446744073709551616) (w : World) (hl : Laid w g) : Calls Tryd.prog 19 #[.agg #[.float .f64 a, .float .f64 f], .agg #[.float .f64 x, .float .f64 y, .float .f64 z]] w fun e w' => ∃ lon lat h, e = .returned (.tuple #[.agg #[.int .i64 lon, .int .i64 lat], .float .f64 h, evOf g (pcode a f x y z)]) ∧ PV a f x y z lon lat h ∧ Below w.heap.size w w' := by
  cases hg : okG a f with
  | false =>
    have hc : pcode a f x y z = 3 := by unfold pcode; rw [if_pos hg]
    unfold PV; rw [hc]
    refine (place_shape g a f x y z hg w hl).mono ?_
    rintro e w' ⟨rfl, hB⟩
    exact ⟨0, 0, 0, rfl, .inr ⟨by decide, rfl, rfl, rfl⟩, hB⟩
  | true =>
    cases hL : okL a x y z with
    | false =>
      have hc : pcode a f x y z = 4 := by unfold pcode; rw [if_neg (by rw [hg]; simp), if_pos hL]
      unfold PV; rw [hc]
      refine (place_range g a f x y z ha hg hL w hl).mono ?_
      rintro e w' ⟨rfl, hB⟩
      exact ⟨0, 0, 0, rfl, .inr ⟨by decide, rfl, rfl, rfl⟩, hB⟩
    | true =>
      have hc : pcode a f x y z = 0 := by unfold pcode; rw [if_neg (by rw [hg]; simp), if_neg (by rw [hL]; simp)]
      unfold PV; rw [hc]
      obtain ⟨p, LL⟩ := lok_of (axis_ge ha hg) hL
      refine (place_ok a f x y z p ha lx ly lz hg (gok_of ha hf hg) hL LL w).mono ?_
      rintro e w' ⟨rfl, hB⟩
      exact ⟨_, _, _, rfl, .inl ⟨rfl, p, LL, rfl, rfl, rfl⟩, hB⟩
theorem placeOf_any (a f x y z : Nat) (ha : a < 18446744073709551616) (hf : f < 18446744073709551616) (lx : x < 18446744073709551616) (ly : y < 18446744073709551616) (lz : z < 18446744073709551616) (w : World) : Calls Tryd.prog 20 #[.agg #[.float .f64 a, .float .f64 f], .agg #[.float .f64 x, .float .f64 y, .float .f64 z]] w fun e w' => ∃ lon lat h, e = .returned (.tuple #[.agg #[.int .i64 lon, .int .i64 lat], .float .f64 h, .int .i64 (pcode a f x y z)]) ∧ PV a f x y z lon lat h ∧ Below w.heap.size w w' := by
  cases hg : okG a f with
  | false =>
    have hc : pcode a f x y z = 3 := by unfold pcode; rw [if_pos hg]
    unfold PV; rw [hc]
    refine (placeOf_shape a f x y z hg w).mono ?_
    rintro e w' ⟨rfl, hB⟩
    exact ⟨0, 0, 0, rfl, .inr ⟨by decide, rfl, rfl, rfl⟩, hB⟩
  | true =>
    cases hL : okL a x y z with
    | false =>
      have hc : pcode a f x y z = 4 := by unfold pcode; rw [if_neg (by rw [hg]; simp), if_pos hL]
      unfold PV; rw [hc]
      refine (placeOf_range a f x y z ha hg hL w).mono ?_
      rintro e w' ⟨rfl, hB⟩
      exact ⟨0, 0, 0, rfl, .inr ⟨by decide, rfl, rfl, rfl⟩, hB⟩
    | true =>
      have hc : pcode a f x y z = 0 := by unfold pcode; rw [if_neg (by rw [hg]; simp), if_neg (by rw [hL]; simp)]
      unfold PV; rw [hc]
      obtain ⟨p, LL⟩ := lok_of (axis_ge ha hg) hL
      refine (placeOf_ok a f x y z p ha lx ly lz hg (gok_of ha hf hg) hL LL w).mono ?_
      rintro e w' ⟨rfl, hB⟩
      exact ⟨_, _, _, rfl, .inl ⟨rfl, p, LL, rfl, rfl, rfl⟩, hB⟩

theorem five_x : uz (FM (dW 4617315517961601024 0 0 0 (uz (cosV (nrm 0)))) (uz (cosV (nrm 0)))) = 4617315517961601024 := by decide +kernel
theorem five_ord : (FloatKind.f64.format.order 4617315517961601024 4617315517961601024 == some Ordering.eq) = true := by decide +kernel
set_option maxHeartbeats 1000000 in
theorem round_any (w : World) : Calls Tryd.prog 15 #[] w fun e w' => e = .returned (.bool true) ∧ Below w.heap.size w w' := by
  have hg : okG 4617315517961601024 0 = true := by decide +kernel
  have HV := hid (fun w => vec_ok 4617315517961601024 0 0 0 0 hg (gok_of (by decide) (by decide) hg) ⟨by decide, by decide⟩ (by decide) (by decide) (by decide +kernel) w)
  rw [five_x] at HV
  have o5 := five_ord
  clear hg
  go_enter Tryd.func15, Tryd.ntmps15
  go_wp2_with fail
  refine (HV.out _).mono ?_
  rintro e w1 ⟨rfl, hB⟩
  generalize uz (FM (dW 4617315517961601024 0 0 0 (uz (cosV (nrm 0)))) (uz (sinV (nrm 0)))) = yy
  generalize uz (FM (uW 4617315517961601024 0 0 0) (uz (sinV (nrm 0)))) = zz
  clear HV
  go_wp2
  go_ret
  exact ⟨rfl, hB.alloc hB.size _⟩
end Go.Proofs.YtmiamfnnccjmeabDoor
