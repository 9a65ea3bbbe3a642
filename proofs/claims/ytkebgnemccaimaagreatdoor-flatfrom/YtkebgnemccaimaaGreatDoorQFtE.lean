/-
  flat: Valid, draws; mercatorref2: PaperError, PlaceError.
-/
import Derived.Test.YtkebgnemccaimaaGreatDoorQFtD
namespace Go.Proofs.YtkebgnemccaimaaGreatDoor
open Go.RowKit FB
attribute [local go_sem] run_store_float

/-- Which kind of paper. -/
def kd (k : ByteArray) : Nat := if (k.toList == [109, 101, 114, 99, 97, 116, 111, 114]) = true then 0 else if (k.toList == [101, 113, 117, 97, 108]) = true then 1 else if (k.toList == [112, 111, 108, 97, 114]) = true then 2 else 3
structure Kd (k : ByteArray) (a b c : Bool) : Prop where
  t0 : (k.toList == [109, 101, 114, 99, 97, 116, 111, 114]) = a
  t1 : (k.toList == [101, 113, 117, 97, 108]) = b
  t2 : (k.toList == [112, 111, 108, 97, 114]) = c
theorem kd_cases (k : ByteArray) : (Kd k true false false ∧ kd k = 0) ∨ (Kd k false true false ∧ kd k = 1) ∨ (Kd k false false true ∧ kd k = 2) ∨ (Kd k false false false ∧ kd k = 3) := by
  cases t0 : (k.toList == [109, 101, 114, 99, 97, 116, 111, 114]) with
  | true =>
    have e : k.toList = [109, 101, 114, 99, 97, 116, 111, 114] := by simpa using t0
    refine .inl ⟨⟨t0, by rw [e]; decide, by rw [e]; decide⟩, by unfold kd; rw [t0]; rfl⟩
  | false =>
    cases t1 : (k.toList == [101, 113, 117, 97, 108]) with
    | true =>
      have e : k.toList = [101, 113, 117, 97, 108] := by simpa using t1
      refine .inr (.inl ⟨⟨t0, t1, by rw [e]; decide⟩, by unfold kd; rw [t0, t1]; rfl⟩)
    | false =>
      cases t2 : (k.toList == [112, 111, 108, 97, 114]) with
      | true => exact .inr (.inr (.inl ⟨⟨t0, t1, t2⟩, by unfold kd; rw [t0, t1, t2]; rfl⟩))
      | false => exact .inr (.inr (.inr ⟨⟨t0, t1, t2⟩, by unfold kd; rw [t0, t1, t2]; rfl⟩))
/-- The number of a paper's error, and of a latitude's on it. -/
def pcode (a f : Nat) (k : ByteArray) (m : Nat) : Nat := if okG a f = true then (if kd k = 3 then 5 else if inB 4591870180066957722 4621819117588971520 m = true then 0 else 3) else 3
def dcode (a f : Nat) (k : ByteArray) (m : Nat) (lat : Int) : Nat := if pcode a f k m = 0 then (if 89000000000 < lat ∨ lat < -89000000000 ∨ (kd k = 2 ∧ lat < 0) then 4 else 0) else pcode a f k m

set_option maxHeartbeats 1000000 in
theorem pvalid_g (g : Nat → Addr) (a f m : Nat) (k : ByteArray) (mid : Int) (hg : okG a f = false) (w : World) (hl : Laid w g) : Calls Tryz.prog 11 #[pV a f k mid m] w fun x w' => x = .returned (errV g 2) ∧ Gr w w' := by
  have HL := hid hl
  clear hl
  go_enter Tryz.func11, Tryz.ntmps11
  go_wp2_with fail
  refine (valid_no g a f hg _ (HL.out.alloc _)).mono ?_
  rintro x w1 ⟨rfl, hB⟩
  have HC : Gr w w1 := Gr.step (by ((with_reducible repeat' (first | assumption | refine Gr.drewN ?_ _ | refine Gr.drew ?_ | refine Gr.alloc ?_ _ | exact Gr.refl _)); done)) hB
  clear hB
  go_wp2
  go_ret
  exact ⟨rfl, HC⟩
set_option maxHeartbeats 1000000 in
theorem pvalid_k (g : Nat → Addr) (a f m : Nat) (k : ByteArray) (mid : Int) (hg : okG a f = true) (hk : Kd k false false false) (w : World) (hl : Laid w g) : Calls Tryz.prog 11 #[pV a f k mid m] w fun x w' => x = .returned (errV g 4) ∧ Gr w w' := by
  have HL := hid hl
  obtain ⟨t0, t1, t2⟩ := hk
  clear hl
  go_enter Tryz.func11, Tryz.ntmps11
  go_wp2_with fail
  refine (valid_ok a f hg _).mono ?_
  rintro x w1 ⟨rfl, hB⟩
  have HC : Gr w w1 := Gr.step (by ((with_reducible repeat' (first | assumption | refine Gr.drewN ?_ _ | refine Gr.drew ?_ | refine Gr.alloc ?_ _ | exact Gr.refl _)); done)) hB
  have PA : At w1 w.heap.size (pL a f k mid m) := At.below hB (At.new5 w _ _ _ _ _ _)
  have cg : w1.cell? ⟨0, 0, none⟩ = some (.iface 175 (.pointer (some (g 4)))) := (HL.out.below HC).cell 4 (by decide)
  obtain ⟨c0, c1, c2, c3, c4⟩ := PA.c5
  clear hB
  go_wp2
  go_ret
  exact ⟨rfl, HC⟩
set_option maxHeartbeats 4000000 in
theorem pvalid_m (g : Nat → Addr) (a f m : Nat) (k : ByteArray) (mid : Int) (hg : okG a f = true) (hk : Kd k true false false ∨ Kd k false true false ∨ Kd k false false true) (hm : inB 4591870180066957722 4621819117588971520 m = false) (w : World) (hl : Laid w g) : Calls Tryz.prog 11 #[pV a f k mid m] w fun x w' => x = .returned (errV g 2) ∧ Gr w w' := by
  have HL := hid hl
  clear hl
  unfold inB geB leB at hm
  cases h1 : (FloatKind.f64.format.order m 4591870180066957722 == some Ordering.gt || FloatKind.f64.format.order m 4591870180066957722 == some Ordering.eq) with
  | false =>
    clear hm
    rcases hk with ⟨t0, t1, t2⟩ | ⟨t0, t1, t2⟩ | ⟨t0, t1, t2⟩
    all_goals
      go_enter Tryz.func11, Tryz.ntmps11
      go_wp2_with fail
      refine (valid_ok a f hg _).mono ?_
      rintro x w1 ⟨rfl, hB⟩
      have HC : Gr w w1 := Gr.step (by ((with_reducible repeat' (first | assumption | refine Gr.drewN ?_ _ | refine Gr.drew ?_ | refine Gr.alloc ?_ _ | exact Gr.refl _)); done)) hB
      have PA : At w1 w.heap.size (pL a f k mid m) := At.below hB (At.new5 w _ _ _ _ _ _)
      have cg : w1.cell? ⟨1, 0, none⟩ = some (.iface 175 (.pointer (some (g 2)))) := (HL.out.below HC).cell 2 (by decide)
      obtain ⟨c0, c1, c2, c3, c4⟩ := PA.c5
      clear hB
      go_wp2
      go_ret
      exact ⟨rfl, HC⟩
  | true =>
    rw [h1, Bool.true_and] at hm
    rcases hk with ⟨t0, t1, t2⟩ | ⟨t0, t1, t2⟩ | ⟨t0, t1, t2⟩
    all_goals
      go_enter Tryz.func11, Tryz.ntmps11
      go_wp2_with fail
      refine (valid_ok a f hg _).mono ?_
      rintro x w1 ⟨rfl, hB⟩
      have HC : Gr w w1 := Gr.step (by ((with_reducible repeat' (first | assumption | refine Gr.drewN ?_ _ | refine Gr.drew ?_ | refine Gr.alloc ?_ _ | exact Gr.refl _)); done)) hB
      have PA : At w1 w.heap.size (pL a f k mid m) := At.below hB (At.new5 w _ _ _ _ _ _)
      have cg : w1.cell? ⟨1, 0, none⟩ = some (.iface 175 (.pointer (some (g 2)))) := (HL.out.below HC).cell 2 (by decide)
      obtain ⟨c0, c1, c2, c3, c4⟩ := PA.c5
      clear hB
      go_wp2
      go_ret
      exact ⟨rfl, HC⟩
set_option maxHeartbeats 4000000 in
theorem pvalid_ok (a f m : Nat) (k : ByteArray) (mid : Int) (hg : okG a f = true) (hk : Kd k true false false ∨ Kd k false true false ∨ Kd k false false true) (hm : inB 4591870180066957722 4621819117588971520 m = true) (w : World) : Calls Tryz.prog 11 #[pV a f k mid m] w fun x w' => x = .returned .nilIface ∧ Gr w w' := by
  unfold inB geB leB at hm
  rw [Bool.and_eq_true] at hm
  obtain ⟨h1, h2⟩ := hm
  rcases hk with ⟨t0, t1, t2⟩ | ⟨t0, t1, t2⟩ | ⟨t0, t1, t2⟩
  all_goals
    go_enter Tryz.func11, Tryz.ntmps11
    go_wp2_with fail
    refine (valid_ok a f hg _).mono ?_
    rintro x w1 ⟨rfl, hB⟩
    have HC : Gr w w1 := Gr.step (by ((with_reducible repeat' (first | assumption | refine Gr.drewN ?_ _ | refine Gr.drew ?_ | refine Gr.alloc ?_ _ | exact Gr.refl _)); done)) hB
    have PA : At w1 w.heap.size (pL a f k mid m) := At.below hB (At.new5 w _ _ _ _ _ _)
    obtain ⟨c0, c1, c2, c3, c4⟩ := PA.c5
    clear hB
    go_wp2
    go_ret
    exact ⟨rfl, HC⟩
theorem pvalid_at (g : Nat → Addr) (a f m : Nat) (k : ByteArray) (mid : Int) (w : World) (hl : Laid w g) : Calls Tryz.prog 11 #[pV a f k mid m] w fun x w' => x = .returned (evOf g (pcode a f k m)) ∧ Gr w w' := by
  unfold pcode
  cases hg : okG a f with
  | false => exact pvalid_g g a f m k mid hg w hl
  | true =>
    rw [if_pos rfl]
    have key : (Kd k true false false ∨ Kd k false true false ∨ Kd k false false true) → ¬ kd k = 3 → Calls Tryz.prog 11 #[pV a f k mid m] w fun x w' => x = .returned (evOf g (if kd k = 3 then 5 else if inB 4591870180066957722 4621819117588971520 m = true then 0 else 3)) ∧ Gr w w' := by
      intro hk h3
      rw [if_neg h3]
      cases hm : inB 4591870180066957722 4621819117588971520 m with
      | false => exact pvalid_m g a f m k mid hg hk hm w hl
      | true => exact pvalid_ok a f m k mid hg hk hm w
    rcases kd_cases k with ⟨h, e⟩ | ⟨h, e⟩ | ⟨h, e⟩ | ⟨h, e⟩
    · exact key (.inl h) (by omega)
    · exact key (.inr (.inl h)) (by omega)
    · exact key (.inr (.inr h)) (by omega)
    · rw [if_pos e]; exact pvalid_k g a f m k mid hg h w hl

theorem paperError_any (a f m : Nat) (k : ByteArray) (mid : Int) (w : World) : Calls Tryz.prog 12 #[pV a f k mid m] w fun x w' => x = .returned (.int .i64 (pcode a f k m)) ∧ Gr w w' := by
  have HB := hid between_any
  cases hg : okG a f with
  | false =>
    go_enter Tryz.func12, Tryz.ntmps12
    go_wp2_with fail
    refine (globeError_any _ _ _).mono ?_
    rw [hg]
    rintro x w1 ⟨rfl, hB⟩
    rw [if_neg (by decide)]
    have HC : Gr w w1 := Gr.step (by ((with_reducible repeat' (first | assumption | refine Gr.drewN ?_ _ | refine Gr.drew ?_ | refine Gr.alloc ?_ _ | exact Gr.refl _)); done)) hB
    clear hB
    go_wp2
    go_ret
    exact ⟨by unfold pcode; rw [hg]; rfl, HC⟩
  | true =>
    have one : ∀ (b0 b1 b2 : Bool), Kd k b0 b1 b2 → kd k = (if b0 then 0 else if b1 then 1 else if b2 then 2 else 3) → Calls Tryz.prog 12 #[pV a f k mid m] w fun x w' => x = .returned (.int .i64 (pcode a f k m)) ∧ Gr w w' := by
      intro b0 b1 b2 hk e
      obtain ⟨t0, t1, t2⟩ := hk
      have HP : Hid (pcode a f k m = if kd k = 3 then 5 else if inB 4591870180066957722 4621819117588971520 m = true then 0 else 3) := by unfold pcode Hid; rw [if_pos hg]
      have HE := hid e
      clear e
      cases hm : inB 4591870180066957722 4621819117588971520 m with
      | false =>
        cases b0 <;> cases b1 <;> cases b2
        all_goals
          go_enter Tryz.func12, Tryz.ntmps12
          go_wp2_with fail
          refine (globeError_any _ _ _).mono ?_
          rw [hg]
          rintro x w1 ⟨rfl, hB⟩
          rw [if_pos rfl]
          have HC : Gr w w1 := Gr.step (by ((with_reducible repeat' (first | assumption | refine Gr.drewN ?_ _ | refine Gr.drew ?_ | refine Gr.alloc ?_ _ | exact Gr.refl _)); done)) hB
          have PA : At w1 w.heap.size (pL a f k mid m) := At.below hB (At.new5 w _ _ _ _ _ _)
          obtain ⟨c0, c1, c2, c3, c4⟩ := PA.c5
          clear hB
          go_wp2_with (go_at_call 41; refine (HB.out _ _ _ _).mono ?_; rintro e w' ⟨rfl, rfl⟩)
          go_ret
          exact ⟨by rw [HP.out, HE.out, hm]; rfl, HC⟩
      | true =>
        cases b0 <;> cases b1 <;> cases b2
        all_goals
          go_enter Tryz.func12, Tryz.ntmps12
          go_wp2_with fail
          refine (globeError_any _ _ _).mono ?_
          rw [hg]
          rintro x w1 ⟨rfl, hB⟩
          rw [if_pos rfl]
          have HC : Gr w w1 := Gr.step (by ((with_reducible repeat' (first | assumption | refine Gr.drewN ?_ _ | refine Gr.drew ?_ | refine Gr.alloc ?_ _ | exact Gr.refl _)); done)) hB
          have PA : At w1 w.heap.size (pL a f k mid m) := At.below hB (At.new5 w _ _ _ _ _ _)
          obtain ⟨c0, c1, c2, c3, c4⟩ := PA.c5
          clear hB
          go_wp2_with (go_at_call 41; refine (HB.out _ _ _ _).mono ?_; rintro e w' ⟨rfl, rfl⟩)
          go_ret
          exact ⟨by rw [HP.out, HE.out, hm]; rfl, HC⟩
    rcases kd_cases k with ⟨h, e⟩ | ⟨h, e⟩ | ⟨h, e⟩ | ⟨h, e⟩ <;> exact one _ _ _ h e
end Go.Proofs.YtkebgnemccaimaaGreatDoor
