/-
  GridSquares: the law.
-/
import Derived.Test.YthpbkomchdgneaaDoorQGqD
import Derived.Test.YthpbkomchdgneaaDoorQGqH
namespace Go.Proofs.YthpbkomchdgneaaDoor
open Go.RowKit GQ

theorem ref_any (z : Int) (b : Bool) (x y : Int) (w : World) : Calls Tryd.prog 7 #[rfV z b x y] w fun e w' => e = .returned (rfV z b x y) ∧ Gr w w' := by
  go_enter Tryd.func7, Tryd.ntmps7
  go_wp2
  refine bodyPost_ret (v := rfV z b x y) ?_ rfl ⟨rfl, by ((with_reducible repeat' (first | assumption | refine Gr.drewN ?_ _ | refine Gr.drew ?_ | refine Gr.alloc ?_ _ | exact Gr.refl _)); done)⟩
  go_simp
  simp [results, Tryd.results7, go_sem]
theorem odd_no (x y : Int) (s : ByteArray) (h : s.size % 2 = 1) (_h2 : 2 ≤ s.size) (_h3 : s.size ≤ 13) : ((SQ x y ((s.size / 2 - 1 : Nat) : Int)).toList == s.toList) = false := by
  rw [ByteArray.toList_eq, ByteArray.toList_eq]
  apply beq_eq_false_iff_ne.2
  intro e
  have e1 := congrArg List.length e
  unfold SQ at e1
  simp only [Int.toNat_natCast, sqt, List.length_cons, List.length_append, dgs_length, Array.length_toList] at e1
  have e2 : s.data.size = s.size := rfl
  omega
abbrev rfO (z : Int) (b : Bool) (x y : Int) : Obj := .cells #[.int .i64 z, .bool b, .int .i64 x, .int .i64 y] 23
theorem law_long (z : Int) (b : Bool) (x y : Int) (s : ByteArray) (hs : 100 < s.size) (w : World) : Calls Tryd.prog 3 #[rfV z b x y, .string s] w fun e w' => e = .returned (.bool true) ∧ Gr w w' := by
  have H1 := hidb zonedZ
  have hs' : (100 : Int) < (s.size : Int) := by omega
  clear hs
  go_enter Tryd.func3, Tryd.ntmps3
  go_wp2_with fail
  refine (H1.out _).mono ?_
  rintro e w1 ⟨rfl, rfl⟩
  go_wp2_with fail
  go_ret
  exact ⟨rfl, by ((with_reducible repeat' (first | assumption | refine Gr.drewN ?_ _ | refine Gr.drew ?_ | refine Gr.alloc ?_ _ | exact Gr.refl _)); done)⟩
theorem law_odd (z : Int) (b : Bool) (x y : Int) (s : ByteArray) (hs : s.size ≤ 100) (ho : s.size < 2 ∨ s.size % 2 = 1) (w : World) (hl : SqL w)
    (HI : Hid (∀ w, SqL w → Calls Tryd.prog 8 #[rfV z b x y, .string s] w fun e w' => e = .returned (.bool false) ∧ Gr w w')) : Calls Tryd.prog 3 #[rfV z b x y, .string s] w fun e w' => e = .returned (.bool true) ∧ Gr w w' := by
  have H1 := hidb zonedZ
  have H2 := hidb (ref_any z b x y)
  have hs' : ¬ (100 : Int) < (s.size : Int) := by omega
  have e1 : IntKind.i64.wrap ((s.size : Int) - 2) = (s.size : Int) - 2 := wrq (by omega) (by omega)
  obtain ⟨n, hn⟩ : ∃ n : Int, (s.size : Int) - 2 = n := ⟨_, rfl⟩
  have HO : Hid (n < 0 ∨ (¬ n < 0 ∧ n % 2 = 1)) := by
    show n < 0 ∨ (¬ n < 0 ∧ n % 2 = 1)
    by_cases h : n < 0
    · exact Or.inl h
    · refine Or.inr ⟨h, ?_⟩
      omega
  rw [hn] at e1
  have HL := hidb hl
  clear hs ho hl
  go_enter Tryd.func3, Tryd.ntmps3
  go_wp2_with fail
  refine (H1.out _).mono ?_
  rintro e w1 ⟨rfl, rfl⟩
  have PA : At (w.alloc (rfO z b x y)) w.heap.size [.int .i64 z, .bool b, .int .i64 x, .int .i64 y] := At.new4 w _ _ _ _ _
  have HC : Gr w (w.alloc (rfO z b x y)) := (Gr.refl w).alloc _
  generalize w.alloc (rfO z b x y) = w2 at *
  obtain ⟨c0, c1, c2, c3⟩ := PA.c4
  go_wp2_with fail
  refine (H2.out _).mono ?_
  rintro e w3 ⟨rfl, g3⟩
  replace HC := HC.step g3
  go_wp2_with fail
  refine (HI.out _ (HL.out.gr HC)).mono ?_
  rintro e w4 ⟨rfl, g4⟩
  replace HC := HC.step g4
  rcases HO.out with h | ⟨h, h'⟩
  · go_wp2_with fail
    go_ret
    exact ⟨rfl, HC⟩
  · go_wp2_with fail
    go_ret
    exact ⟨rfl, HC⟩
theorem law_even (z : Int) (b : Bool) (x y : Int) (s : ByteArray) (hs : s.size ≤ 100) (h2 : 2 ≤ s.size) (he : s.size % 2 = 0) (i : Bool) (w : World) (hl : SqL w)
    (HI : Hid (∀ w, SqL w → Calls Tryd.prog 8 #[rfV z b x y, .string s] w fun e w' => e = .returned (.bool i) ∧ Gr w w'))
    (HT : Hid (∀ w, Calls Tryd.prog 9 #[rfV z b x y, .int .i64 ((s.size / 2 - 1 : Nat) : Int)] w fun e w' => (∃ (T : ByteArray) (k : Int), e = .returned (.tuple #[.string T, .int .i64 k]) ∧ ((k = 0 ∧ (T.toList == s.toList) = i) ∨ (0 < k ∧ i = false))) ∧ Gr w w')) : Calls Tryd.prog 3 #[rfV z b x y, .string s] w fun e w' => e = .returned (.bool true) ∧ Gr w w' := by
  have H1 := hidb zonedZ
  have H2 := hidb (ref_any z b x y)
  have hs' : ¬ (100 : Int) < (s.size : Int) := by omega
  have e1 : IntKind.i64.wrap ((s.size : Int) - 2) = (s.size : Int) - 2 := wrq (by omega) (by omega)
  obtain ⟨n, hn⟩ : ∃ n : Int, (s.size : Int) - 2 = n := ⟨_, rfl⟩
  have n0 : ¬ n < 0 := by omega
  have n1 : n.tmod 2 = 0 := by rw [Int.tmod_eq_emod_of_nonneg (by omega)]; omega
  obtain ⟨m, hm⟩ : ∃ m : Int, ((s.size / 2 - 1 : Nat) : Int) = m := ⟨_, rfl⟩
  have n2 : n.tdiv 2 = m := by rw [Int.tdiv_eq_ediv_of_nonneg (by omega)]; omega
  have n3 : IntKind.i64.wrap m = m := wrq (by omega) (by omega)
  rw [hn] at e1
  rw [hm] at HT
  have HL := hidb hl
  clear hs h2 he hl hm
  go_enter Tryd.func3, Tryd.ntmps3
  go_wp2_with fail
  refine (H1.out _).mono ?_
  rintro e w1 ⟨rfl, rfl⟩
  have PA : At (w.alloc (rfO z b x y)) w.heap.size [.int .i64 z, .bool b, .int .i64 x, .int .i64 y] := At.new4 w _ _ _ _ _
  have HC : Gr w (w.alloc (rfO z b x y)) := (Gr.refl w).alloc _
  generalize w.alloc (rfO z b x y) = w2 at *
  obtain ⟨c0, c1, c2, c3⟩ := PA.c4
  go_wp2_with fail
  refine (H2.out _).mono ?_
  rintro e w3 ⟨rfl, g3⟩
  replace HC := HC.step g3
  replace PA := At.below g3 PA
  go_wp2_with fail
  refine (HI.out _ (HL.out.gr HC)).mono ?_
  rintro e w4 ⟨rfl, g4⟩
  replace HC := HC.step g4
  replace PA := At.below g4 PA
  clear c0 c1 c2 c3 g3 g4
  obtain ⟨c0, c1, c2, c3⟩ := PA.c4
  go_wp2_with fail
  refine (HT.out _).mono ?_
  rintro e w5 ⟨⟨T, k, rfl, hk⟩, g5⟩
  replace HC := HC.step g5
  clear c0 c1 c2 c3 g5 PA
  rcases hk with ⟨rfl, hk⟩ | ⟨hk, rfl⟩
  · go_wp2_with fail
    go_ret
    exact ⟨by simp, HC⟩
  · have hk' : ¬ k = 0 := by omega
    go_wp2_with fail
    go_ret
    exact ⟨rfl, HC⟩
theorem law_any (z : Int) (b : Bool) (x y : Int) (s : ByteArray) (w : World) (hl : SqL w) : Calls Tryd.prog 3 #[rfV z b x y, .string s] w fun e w' => e = .returned (.bool true) ∧ Gr w w' := by
  by_cases hs : s.size ≤ 100
  · by_cases hr : okRef z x y ∧ 2 ≤ s.size ∧ s.size ≤ 13
    · obtain ⟨hr, h2, h3⟩ := hr
      have HI := fun w hl => in_ok z b x y s hr h2 h3 w hl
      by_cases ho : s.size % 2 = 1
      · rw [odd_no x y s ho h2 h3] at HI
        exact law_odd z b x y s hs (Or.inr ho) w hl HI
      · refine law_even z b x y s hs h2 (by omega) _ w hl HI (fun w => ?_)
        refine (squareText_ok z b x y _ hr (by omega) (by omega) w).mono ?_
        rintro e w' ⟨rfl, g⟩
        exact ⟨⟨_, _, rfl, Or.inl ⟨rfl, rfl⟩⟩, g⟩
    · have HI := fun w hl => in_no z b x y s hr hs w hl
      by_cases ho : s.size < 2 ∨ s.size % 2 = 1
      · exact law_odd z b x y s hs ho w hl HI
      · refine law_even z b x y s hs (by omega) (by omega) _ w hl HI (fun w => ?_)
        refine (squareText_no z b x y _ (fun ⟨h1, h2, h3⟩ => hr ⟨h1, by omega, by omega⟩) w).mono ?_
        rintro e w' ⟨⟨k, rfl, hk⟩, g⟩
        exact ⟨⟨_, _, rfl, Or.inr ⟨hk, rfl⟩⟩, g⟩
  · exact law_long z b x y s (by omega) w
end Go.Proofs.YthpbkomchdgneaaDoor
