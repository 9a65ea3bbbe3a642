/-
  grain.Exp and mercatorref1.ExpOf.
-/
import Derived.Test.YtkebgnemccaimaaGreatDoorQLnAll
import Derived.Test.YtkebgnemccaimaaGreatDoorQLdexp
namespace Go.Proofs.YtkebgnemccaimaaGreatDoor
open Go.RowKit FB
attribute [local go_sem] run_store_float

theorem floor_eq (x : Nat) : ∃ g : Bool → Nat → Sem Value, Extern.MathFloor.toIntegral "math.archFloor" .down #[.float .f64 x] = (match FloatKind.f64.decode x with
    | .nan s t => g s t
    | d => pure (.float .f64 (FloatKind.f64.encode (d.integral .down)))) := ⟨_, rfl⟩
theorem floor_num (x : Nat) (hn : Num x) (w : World) : Calls Tryz.prog 115 #[.float .f64 x] w fun e w' => e = .returned (.float .f64 (Ieee.double.write ((Ieee.double.read x).integral .down))) ∧ w' = w := by
  obtain ⟨s, m, e, hr⟩ := hn
  have hf : ∀ w, (callFunc 131 #[.float .f64 x]).run Tryz.prog w = .ok (.value (.float .f64 (Ieee.double.write ((Ieee.double.read x).integral .down)))) w := by
    intro w
    rw [@run_callFunc_extern Tryz.prog 131 _ (Extern.MathFloor.toIntegral "math.archFloor" .down) Tryz.func131 (by kernel_rfl) (by kernel_rfl) (by kernel_rfl) (by kernel_rfl) _ w]
    obtain ⟨g, hg⟩ := floor_eq x
    rw [hg]
    have hd : FloatKind.f64.decode x = .number s m e := hr
    rw [hd, hr]; rfl
  clear hr
  go_enter Tryz.func115, Tryz.ntmps115
  go_wp2
  go_ret
  exact ⟨rfl, rfl⟩

theorem conv_int (b : Nat) (n : Int) (h : floatToIntVal .f64 b .i64 = some n) (w : World) : (convert 22 3 (.float .f64 b)).run Tryz.prog w = .ok (.int .i64 n) w :=
  run_convert_float_int w 22 3 .f64 .i64 b n (by kernel_rfl) Tryz.underlying3 h

theorem fifteen {c0 c1 c2 c3 c4 c5 c6 c7 c8 c9 ca cb cc cd ce : Nat} (w : World) (t : TypeId) :
    ∀ i, i < 15 → (w.alloc (.cells #[.float .f64 c0, .float .f64 c1, .float .f64 c2, .float .f64 c3, .float .f64 c4, .float .f64 c5, .float .f64 c6, .float .f64 c7, .float .f64 c8, .float .f64 c9, .float .f64 ca, .float .f64 cb, .float .f64 cc, .float .f64 cd, .float .f64 ce] t)).cell? ⟨w.heap.size, i, none⟩ = some (.float .f64 ([c0, c1, c2, c3, c4, c5, c6, c7, c8, c9, ca, cb, cc, cd, ce].getD i 0)) := by
  intro i hi
  rw [World.cell?_alloc_at _ _ _ _ rfl]
  match i, hi with
  | 0, _ | 1, _ | 2, _ | 3, _ | 4, _ | 5, _ | 6, _ | 7, _ | 8, _ | 9, _ | 10, _ | 11, _ | 12, _ | 13, _ | 14, _ => rfl
theorem exp15_cells (w : World) : ∀ i, i < 15 → (w.alloc (.cells #[.float .f64 4607182418800017408, .float .f64 4607182418800017408, .float .f64 4602678819172646912, .float .f64 4595172819793696085, .float .f64 4586165620538955093, .float .f64 4575957461383581969, .float .f64 4564047942368979991, .float .f64 4551452160554016794, .float .f64 4537941361671905306, .float .f64 4523617214285662004, .float .f64 4508805057796939612, .float .f64 4493156764026750180, .float .f64 4477122120089393304, .float .f64 4460272573143870729, .float .f64 4443145680587881629] 156)).cell? ⟨w.heap.size, i, none⟩ = some (.float .f64 (exp15.getD i 0)) := by
  unfold exp15
  exact fifteen w _
theorem poly15 (x : Nat) (hok : Ok exp15 (eR x)) (b : Nat) (w : World) (hc : ∀ i, i < 15 → w.cell? ⟨b, i, none⟩ = some (.float .f64 (exp15.getD i 0))) :
    Calls Tryz.prog 112 #[.float .f64 (eR x), .slice (some ⟨b, 0, none⟩) 15 15] w fun e w' => e = .returned (.float .f64 (eP x)) ∧ w' = w :=
  poly_any b (fun i => exp15.getD i 0) exp15 15 (eR x) w rfl (by decide) hok (get12 _ _ rfl) hc

set_option maxHeartbeats 2000000 in
theorem exp_mid (x q : Nat) (hO : ExpOk x) (hL : ∀ w, Calls Tryz.prog 119 #[.float .f64 (eP x), .int .i64 (eN x)] w fun e w' => e = .returned (.float .f64 q) ∧ w' = w)
    (h1 : (FloatKind.f64.format.order x x != some Ordering.eq) = false) (h2 : (FloatKind.f64.format.order x 4649456441864749056 == some Ordering.gt) = false) (h3 : (FloatKind.f64.format.order x 13873145138068324352 == some Ordering.lt) = false) (w : World) :
    Calls Tryz.prog 98 #[.float .f64 x] w fun e w' => e = .returned (.float .f64 q) ∧ Below w.heap.size w w' := by
  have HL := hid hL
  have HJ := hid (fun w => isNaN_any x false h1 w)
  have HF := hid (show ∀ w, Calls Tryz.prog 115 #[.float .f64 (eY2 x)] w fun e w' => e = .returned (.float .f64 (eK x)) ∧ w' = w from fun w => floor_num (eY2 x) hO.y2n w)
  have HP := hid (fun b w hc => poly15 x hO.p b w hc)
  have a1 := fun w => hmul hO.y1 w
  have a2 := fun w => hadd hO.y2 w
  have a3 := fun w => hmul hO.a w
  have a4 := fun w => hmul hO.b w
  have a5 := fun w => hsub hO.r1 w
  have a6 := fun w => hsub hO.r w
  have a7 := fun w => conv_int _ _ hO.n w
  unfold l2e at a1
  unfold halfF at a2
  unfold lnG at a3
  unfold lnS at a4
  clear hL hO h1
  go_enter Tryz.func98, Tryz.ntmps98
  go_wp2_with fail
  refine (HJ.out _).mono ?_
  rintro e w1 ⟨rfl, rfl⟩
  go_wp2_with fail
  refine (HF.out _).mono ?_
  rintro e w2 ⟨rfl, rfl⟩
  go_wp2_with fail
  refine (HP.out _ _ (exp15_cells _)).mono ?_
  rintro e w3 ⟨rfl, rfl⟩
  go_wp2_with fail
  refine (HL.out _).mono ?_
  rintro e w4 ⟨rfl, rfl⟩
  go_wp2
  go_ret
  exact ⟨rfl, (Below.refl _ _).alloc (Nat.le_refl _) _⟩
end Go.Proofs.YtkebgnemccaimaaGreatDoor
