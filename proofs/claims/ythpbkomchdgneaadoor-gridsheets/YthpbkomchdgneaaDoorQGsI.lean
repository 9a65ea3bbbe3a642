/-
  The law GridSheets: what it calls is so.
-/
import Derived.Test.YthpbkomchdgneaaDoorQGsH
namespace Go.Proofs.YthpbkomchdgneaaDoor
open Go.RowKit

theorem gridSheets_facts (g : Nat → Addr) (a b c d wide high lap px py : Int) : ∃ L er ec, GS g a b c d wide high lap px py L er ec := by
  cases h : okS a b c d wide high lap with
  | false =>
    refine ⟨[], errV g 2, 3, by simp, fun w hl => ?_, fun w => ?_, fun w hl => ?_, fun h => by omega⟩
    · refine (sheets_no g a b c d wide high lap h w hl).mono ?_
      rintro e w' ⟨rfl, hB⟩
      exact ⟨_, rfl, .inl ⟨rfl, rfl⟩, hB⟩
    · refine (sheetsOf_no a b c d wide high lap h w).mono ?_
      rintro e w' ⟨rfl, hB⟩
      exact ⟨_, rfl, .inl ⟨rfl, rfl⟩, hB⟩
    · exact coded_g g 2 (by decide) w hl
  | true =>
    by_cases hm : cnt a c wide * cnt b d high ≤ 4000
    · refine ⟨shL a b wide high lap (cnt a c wide) (cnt b d high * cnt a c wide), .nilIface, 0, by rw [shL_len, Nat.mul_comm]; exact hm, fun w hl => sheets_ok g a b c d wide high lap h hm w hl, fun w => sheetsOf_ok a b c d wide high lap h hm w, fun w _ => ?_, fun _ h1 h2 h3 h4 => ?_⟩
      · refine (coded_nil 0 w).mono ?_
        rintro e w' ⟨rfl, rfl⟩
        exact ⟨rfl, Gr.refl _⟩
      · rw [shL_len]
        exact on_some (okS_fine h) h1 h2 h3 h4
    · refine ⟨[], errV g 1, 2, by simp, fun w hl => ?_, fun w => ?_, fun w hl => ?_, fun h => by omega⟩
      · refine (sheets_many g a b c d wide high lap h (by omega) w hl).mono ?_
        rintro e w' ⟨rfl, hB⟩
        exact ⟨_, rfl, .inl ⟨rfl, rfl⟩, hB⟩
      · refine (sheetsOf_many a b c d wide high lap h (by omega) w).mono ?_
        rintro e w' ⟨rfl, hB⟩
        exact ⟨_, rfl, .inl ⟨rfl, rfl⟩, hB⟩
      · exact coded_g g 1 (by decide) w hl
theorem gridSheets_walk (g : Nat → Addr) (a b c d wide high lap px py : Int) (w : World) (hl : Laid w g) : Calls Tryd.prog 4 #[boV a b c d, .int .i64 wide, .int .i64 high, .int .i64 lap, .agg #[.int .i64 px, .int .i64 py]] w fun e w' => e = .returned (.bool true) ∧ Gr w w' := by
  obtain ⟨L, er, ec, H⟩ := gridSheets_facts g a b c d wide high lap px py
  exact gridSheets_gen (hidb H) w hl
end Go.Proofs.YthpbkomchdgneaaDoor
