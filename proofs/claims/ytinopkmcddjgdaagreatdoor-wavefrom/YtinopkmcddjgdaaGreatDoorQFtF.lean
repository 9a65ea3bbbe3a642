/-
  flat: draws; mercatorref2: PlaceError; mercatorlaw2: paper, sameFlat.
-/
import Derived.Test.YtinopkmcddjgdaaGreatDoorQFtE
namespace Go.Proofs.YtinopkmcddjgdaaGreatDoor
open Go.RowKit FB
attribute [local go_sem] run_store_float

theorem pcode_cases (a f : Nat) (k : ByteArray) (m : Nat) : pcode a f k m = 0 ∨ pcode a f k m = 3 ∨ pcode a f k m = 5 := by
  unfold pcode
  split
  · split
    · exact .inr (.inr rfl)
    · split
      · exact .inl rfl
      · exact .inr (.inl rfl)
  · exact .inr (.inl rfl)
theorem pcode_ok {a f : Nat} {k : ByteArray} {m : Nat} (h : pcode a f k m = 0) : okG a f = true ∧ (Kd k true false false ∧ kd k = 0 ∨ Kd k false true false ∧ kd k = 1 ∨ Kd k false false true ∧ kd k = 2) ∧ inB 4591870180066957722 4621819117588971520 m = true := by
  unfold pcode at h
  cases hg : okG a f with
  | false => rw [hg] at h; cases h
  | true =>
    rw [if_pos hg] at h
    by_cases h3 : kd k = 3
    · rw [if_pos h3] at h; cases h
    · rw [if_neg h3] at h
      cases hm : inB 4591870180066957722 4621819117588971520 m with
      | false => rw [hm] at h; cases h
      | true =>
        refine ⟨rfl, ?_, rfl⟩
        rcases kd_cases k with ⟨h, e⟩ | ⟨h, e⟩ | ⟨h, e⟩ | ⟨h, e⟩
        · exact .inl ⟨h, e⟩
        · exact .inr (.inl ⟨h, e⟩)
        · exact .inr (.inr ⟨h, e⟩)
        · exact absurd e h3
theorem dcode_cases (a f : Nat) (k : ByteArray) (m : Nat) (lat : Int) : dcode a f k m lat = 0 ∨ dcode a f k m lat = 3 ∨ dcode a f k m lat = 4 ∨ dcode a f k m lat = 5 := by
  unfold dcode
  rcases pcode_cases a f k m with h | h | h
  · rw [if_pos h]; split
    · exact .inr (.inr (.inl rfl))
    · exact .inl rfl
  · rw [if_neg (by omega), h]; exact .inr (.inl rfl)
  · rw [if_neg (by omega), h]; exact .inr (.inr (.inr rfl))
theorem dcode_ok {a f : Nat} {k : ByteArray} {m : Nat} {lat : Int} (h : dcode a f k m lat = 0) : pcode a f k m = 0 ∧ ¬ 89000000000 < lat ∧ ¬ lat < -89000000000 ∧ ¬ (kd k = 2 ∧ lat < 0) := by
  unfold dcode at h
  by_cases hp : pcode a f k m = 0
  · rw [if_pos hp] at h
    split at h
    · cases h
    · rename_i hn
      exact ⟨hp, fun c => hn (.inl c), fun c => hn (.inr (.inl c)), fun c => hn (.inr (.inr c))⟩
  · rw [if_neg hp] at h; exact absurd h hp

set_option maxHeartbeats 1000000 in
theorem sameFlat_any (x y x' y' : Nat) (h1 : SB x x') (h2 : SB y y') (w : World) : Calls Tryz.prog 13 #[.agg #[.float .f64 x, .float .f64 y], .agg #[.float .f64 x', .float .f64 y']] w fun e w' => e = .returned (.bool true) ∧ Gr w w' := by
  have H1 := hid h1
  have H2 := hid h2
  clear h1 h2
  go_enter Tryz.func13, Tryz.ntmps13
  go_wp2_with fail
  refine (H1.out _).mono ?_
  rintro e w1 ⟨rfl, rfl⟩
  go_wp2_with fail
  refine (H2.out _).mono ?_
  rintro e w1 ⟨rfl, rfl⟩
  go_wp2
  go_ret
  exact ⟨rfl, by ((with_reducible repeat' (first | assumption | refine Gr.drewN ?_ _ | refine Gr.drew ?_ | refine Gr.alloc ?_ _ | exact Gr.refl _)); done)⟩
end Go.Proofs.YtinopkmcddjgdaaGreatDoor
