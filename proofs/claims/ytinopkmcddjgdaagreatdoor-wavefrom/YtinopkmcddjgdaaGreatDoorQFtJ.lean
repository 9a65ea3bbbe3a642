/-
  mercatorlaw2: coded, paper, drawn.
-/
import Derived.Test.YtinopkmcddjgdaaGreatDoorQFtG
namespace Go.Proofs.YtinopkmcddjgdaaGreatDoor
open Go.RowKit FB
attribute [local go_sem] run_store_float

theorem At.f5 {W : World} {B : Nat} {a b c d e : Value} (h : At W B [a, b, c, d, e]) : W.frozen? ⟨B, 0, none⟩ = false ∧ W.frozen? ⟨B, 1, none⟩ = false ∧ W.frozen? ⟨B, 2, none⟩ = false ∧ W.frozen? ⟨B, 3, none⟩ = false ∧ W.frozen? ⟨B, 4, none⟩ = false := ⟨(h.1 0 (by simp)).2, (h.1 1 (by simp)).2, (h.1 2 (by simp)).2, (h.1 3 (by simp)).2, (h.1 4 (by simp)).2⟩
theorem coded_p (g : Nat → Addr) (c : Nat) (hc : c = 0 ∨ c = 3 ∨ c = 4 ∨ c = 5) (w : World) (hl : Laid w g) : Calls Tryz.prog 6 #[evOf g c, .int .i64 c] w fun e w' => e = .returned (.bool true) ∧ Gr w w' := by
  unfold evOf
  rcases hc with rfl | rfl | rfl | rfl
  · refine (coded_nil 0 w).mono ?_
    rintro e w' ⟨rfl, rfl⟩
    exact ⟨rfl, Gr.refl _⟩
  · refine (coded_sent g 2 (by decide) 3 w hl).mono ?_
    rintro e w' ⟨rfl, hB⟩
    exact ⟨rfl, hB⟩
  · refine (coded_sent g 3 (by decide) 4 w hl).mono ?_
    rintro e w' ⟨rfl, hB⟩
    exact ⟨rfl, hB⟩
  · refine (coded_sent g 4 (by decide) 5 w hl).mono ?_
    rintro e w' ⟨rfl, hB⟩
    exact ⟨rfl, hB⟩
theorem drawn_x : asO 4617315517961601024 4607182418800017408 (nrm 90000000000 - nrm 0) = some 4620528815617423454 := by decide +kernel
def kM : ByteArray := ⟨#[109, 101, 114, 99, 97, 116, 111, 114]⟩
theorem kM_kd : Kd kM true false false := ⟨by decide +kernel, by decide +kernel, by decide +kernel⟩
theorem kM_kd0 : kd kM = 0 := by unfold kd; rw [kM_kd.t0]; rfl
theorem drawn_code : dcode 4617315517961601024 0 kM 4607182418800017408 0 = 0 := by
  have h : pcode 4617315517961601024 0 kM 4607182418800017408 = 0 := by
    unfold pcode
    rw [if_pos (by decide +kernel), kM_kd0, if_neg (by decide), if_pos (by decide +kernel)]
  unfold dcode
  rw [if_pos h, kM_kd0, if_neg (by decide)]
end Go.Proofs.YtinopkmcddjgdaaGreatDoor
