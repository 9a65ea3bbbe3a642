/-
  mercatorref2.SquareText.
-/
import Derived.Test.YtfahmaapodoaaaaGreatDoorQGqF
import Derived.Test.YtfahmaapodoaaaaGreatDoorQGqC
import Derived.BigRegion
namespace Go.Proofs.YtfahmaapodoaaaaGreatDoor
open Go.RowKit GQ

def lN : List Int := [65, 66, 67, 68, 69, 70, 71, 72, 74, 75, 76, 77, 78, 80, 81, 82, 83, 84, 85, 86]
def lL : List Value := lN.map (.int .u8)
theorem lN_at : ∀ k : Fin 20, lN[k.val]? = some ((ltr k.val).toNat : Int) := by decide
theorem lL_at (a : Nat) (ha : a < 20) : lL[a]? = some (.int .u8 ((ltr a).toNat : Int)) := by
  unfold lL
  rw [List.getElem?_map, lN_at ⟨a, ha⟩]
  rfl
theorem At.get {W : World} {B : Nat} {l : List Value} (h : At W B l) {i : Nat} {v : Value} (hv : l[i]? = some v) : W.cell? ⟨B, i, none⟩ = some v := by
  obtain ⟨hi, e⟩ := List.getElem?_eq_some_iff.1 hv
  rw [(h.1 i hi).1, ← e]
theorem conv2 (W : World) (B c : Nat) (p q : UInt8) (h0 : W.cell? ⟨B, 0, none⟩ = some (.int .u8 (p.toNat : Int))) (h1 : W.cell? ⟨B, 1, none⟩ = some (.int .u8 (q.toNat : Int))) : (convert 61 9 (.slice (some ⟨B, 0, none⟩) 2 c)).run Tryz.prog W = .ok (.string ⟨[p, q].toArray⟩) W := by
  refine run_convert_bytes_back (P := Tryz.prog) _ 61 9 5 ⟨B, 0, none⟩ c [p, q] Tryz.underlying61 Tryz.underlying5 Tryz.underlying9 ?_
  intro j hj
  rcases j with _ | _ | j
  · exact h0
  · exact h1
  · simp at hj; omega
theorem squareText_no (z : Int) (b : Bool) (x y m : Int) (h : ¬ (okRef z x y ∧ 0 ≤ m ∧ m ≤ 5)) (w : World) : Calls Tryz.prog 17 #[rfV z b x y, .int .i64 m] w fun e w' => (∃ k : Int, e = .returned (.tuple #[.string ⟨#[]⟩, .int .i64 k]) ∧ 0 < k) ∧ Gr w w' := by
  by_cases hr : okRef z x y
  · have H1 := hidb (fun w => refError_ok z b x y hr w)
    have hm : m < 0 ∨ 5 < m := by
      rcases Int.lt_or_le m 0 with h0 | h0
      · exact Or.inl h0
      · exact Or.inr (Int.not_le.1 fun h1 => h ⟨hr, h0, h1⟩)
    have HM := hidb hm
    clear h hr hm
    go_enter Tryz.func17, Tryz.ntmps17
    go_wp2_with fail
    have HC : Gr w (w.alloc (.cells #[.int .i64 z, .bool b, .int .i64 x, .int .i64 y] 23)) := (Gr.refl w).alloc _
    generalize w.alloc (.cells #[.int .i64 z, .bool b, .int .i64 x, .int .i64 y] 23) = w1 at *
    refine (H1.out _).mono ?_
    rintro e w2 ⟨rfl, g2⟩
    replace HC : Gr w w2 := HC.step g2
    clear g2
    rcases HM.out with hm | hm
    · go_wp2_with fail
      go_ret2
      exact ⟨⟨3, rfl, by decide⟩, HC⟩
    · have hm0 : ¬ m < 0 := by omega
      go_wp2_with fail
      go_ret2
      exact ⟨⟨3, rfl, by decide⟩, HC⟩
  · have H1 := hidb (fun w => refError_no z b x y hr w)
    clear h hr
    go_enter Tryz.func17, Tryz.ntmps17
    go_wp2_with fail
    have HC : Gr w (w.alloc (.cells #[.int .i64 z, .bool b, .int .i64 x, .int .i64 y] 23)) := (Gr.refl w).alloc _
    generalize w.alloc (.cells #[.int .i64 z, .bool b, .int .i64 x, .int .i64 y] 23) = w1 at *
    refine (H1.out _).mono ?_
    rintro e w2 ⟨rfl, g2⟩
    replace HC : Gr w w2 := HC.step g2
    clear g2
    go_wp2_with fail
    go_ret2
    exact ⟨⟨4, rfl, by decide⟩, HC⟩
end Go.Proofs.YtfahmaapodoaaaaGreatDoor
