/-
  The law, whatever is handed in.
-/
import Derived.Test.YtfahmaapodoaaaaGreatDoorQGfL
namespace Go.Proofs.YtfahmaapodoaaaaGreatDoor
open Go.RowKit GQ

set_option maxRecDepth 4000 in
theorem law_long (lon zone z : Int) (b : Bool) (x y : Int) (s : ByteArray) (many : Int) (hs : 200 < s.size) (w : World) : Calls Tryz.prog 3 #[.int .i64 lon, .int .i64 zone, rfV z b x y, .string s, .int .i64 many] w fun e w' => e = .returned (.bool true) ∧ Gr w w' := by
  have H1 := hidb zonedZ
  have hs' : (200 : Int) < (s.size : Int) := by omega
  clear hs
  go_enter Tryz.func3, Tryz.ntmps3
  go_wp2_with fail
  refine (H1.out _).mono ?_
  rintro e w1 ⟨rfl, rfl⟩
  go_wp2_with fail
  go_ret
  exact ⟨rfl, by ((with_reducible repeat' (first | assumption | refine Gr.drewN ?_ _ | refine Gr.drew ?_ | refine Gr.alloc ?_ _ | exact Gr.refl _)); done)⟩
/-- A reference's text and its error, on both sides. -/
structure TxF (g : Nat → Addr) (z : Int) (b : Bool) (x y : Int) (T : ByteArray) (E1 : Value) (c1 : Int) : Prop where
  text : ∀ w, Laid w g → SqL w → Calls Tryz.prog 10 #[rfV z b x y] w fun e w' => e = .returned (.tuple #[.string T, E1]) ∧ Gr w w'
  rtext : ∀ w, Calls Tryz.prog 11 #[rfV z b x y] w fun e w' => e = .returned (.tuple #[.string T, .int .i64 c1]) ∧ Gr w w'
  valid : ∀ w, Laid w g → Calls Tryz.prog 12 #[rfV z b x y] w fun e w' => e = .returned E1 ∧ Gr w w'
  cod1 : ∀ w, Laid w g → Calls Tryz.prog 6 #[E1, .int .i64 c1] w fun e w' => e = .returned (.bool true) ∧ Gr w w'
  back : 0 < c1 ∨ (c1 = 0 ∧ ∀ w, Laid w g → Calls Tryz.prog 13 #[.string T] w fun e w' => e = .returned (.tuple #[rfV z b x y, .nilIface]) ∧ Gr w w')
theorem cod_nil (w : World) : Calls Tryz.prog 6 #[.nilIface, .int .i64 0] w fun e w' => e = .returned (.bool true) ∧ Gr w w' := by
  refine (coded_nil 0 w).mono ?_
  rintro e w' ⟨rfl, rfl⟩
  exact ⟨rfl, Gr.refl _⟩
theorem tx_any (g : Nat → Addr) (z : Int) (b : Bool) (x y : Int) : ∃ T E1 c1, TxF g z b x y T E1 c1 := by
  by_cases ho : okRef z x y
  · exact ⟨TX z b x y, .nilIface, 0, fun w _ hq => text_ok z b x y ho w hq, fun w => refText_ok z b x y ho w, fun w _ => valid_ok z b x y ho w, fun w _ => cod_nil w, Or.inr ⟨rfl, fun w hl => read_text g z b x y ho w hl⟩⟩
  · exact ⟨⟨#[]⟩, errV g 3, 4, fun w hl _ => text_no g z b x y ho w hl, fun w => refText_no z b x y ho w, fun w hl => valid_code g z b x y ho w hl, fun w hl => coded_g g 3 (by decide) w hl, Or.inl (by decide)⟩
/-- A square and its error, on both sides. -/
structure SqF (g : Nat → Addr) (z : Int) (b : Bool) (x y many : Int) (Q : ByteArray) (E3 : Value) (c3 : Int) : Prop where
  cod3 : ∀ w, Laid w g → Calls Tryz.prog 6 #[E3, .int .i64 c3] w fun e w' => e = .returned (.bool true) ∧ Gr w w'
  square : ∀ w, Laid w g → SqL w → Calls Tryz.prog 16 #[rfV z b x y, .int .i64 many] w fun e w' => e = .returned (.tuple #[.string Q, E3]) ∧ Gr w w'
  rsquare : ∀ w, Calls Tryz.prog 17 #[rfV z b x y, .int .i64 many] w fun e w' => e = .returned (.tuple #[.string Q, .int .i64 c3]) ∧ Gr w w'
  inn : ¬ c3 = 0 ∨ (c3 = 0 ∧ ∀ w, SqL w → Calls Tryz.prog 18 #[rfV z b x y, .string Q] w fun e w' => e = .returned (.bool true) ∧ Gr w w')
theorem sq_size (x y : Int) (m : Nat) : (SQ x y (m : Int)).size = 2 + 2 * m := by
  unfold SQ
  rw [size_s]
  simp only [Int.toNat_natCast, sqt, List.length_cons, List.length_append, dgs_length]
  omega
theorem sq_in (z : Int) (b : Bool) (x y : Int) (m : Nat) (ho : okRef z x y) (hm : m ≤ 5) (w : World) (hq : SqL w) : Calls Tryz.prog 18 #[rfV z b x y, .string (SQ x y (m : Int))] w fun e w' => e = .returned (.bool true) ∧ Gr w w' := by
  have hz := sq_size x y m
  refine (in_ok z b x y (SQ x y (m : Int)) ho (by omega) (by omega) w hq).mono ?_
  rintro e w' ⟨rfl, hg⟩
  refine ⟨?_, hg⟩
  rw [hz, show (2 + 2 * m) / 2 - 1 = m by omega]
  simp
theorem sq_any (g : Nat → Addr) (z : Int) (b : Bool) (x y many : Int) : ∃ Q E3 c3, SqF g z b x y many Q E3 c3 := by
  by_cases ho : okRef z x y
  · by_cases hm : 0 ≤ many ∧ many ≤ 5
    · obtain ⟨m0, m1⟩ := hm
      refine ⟨SQ x y many, .nilIface, 0, fun w _ => cod_nil w, fun w _ hq => square_ok z b x y many ho m0 m1 w hq, fun w => squareText_ok z b x y many ho m0 m1 w, Or.inr ⟨rfl, fun w hq => ?_⟩⟩
      obtain ⟨m, rfl⟩ := Int.eq_ofNat_of_zero_le m0
      exact sq_in z b x y m ho (by omega) w hq
    · exact ⟨⟨#[]⟩, errV g 2, 3, fun w hl => coded_g g 2 (by decide) w hl, fun w hl _ => square_code g z b x y many 2 (Or.inr ⟨ho, hm, rfl⟩) w hl, fun w => squareText_code z b x y many 2 (Or.inr ⟨ho, hm, rfl⟩) w, Or.inl (by decide)⟩
  · exact ⟨⟨#[]⟩, errV g 3, 4, fun w hl => coded_g g 3 (by decide) w hl, fun w hl _ => square_code g z b x y many 3 (Or.inl ⟨ho, rfl⟩) w hl, fun w => squareText_code z b x y many 3 (Or.inl ⟨ho, rfl⟩) w, Or.inl (by decide)⟩
theorem gridRefs_walk (g : Nat → Addr) (lon zone z : Int) (b : Bool) (x y : Int) (s : ByteArray) (many : Int) (w : World) (hl : Laid w g) (hq : SqL w) : Calls Tryz.prog 3 #[.int .i64 lon, .int .i64 zone, rfV z b x y, .string s, .int .i64 many] w fun e w' => e = .returned (.bool true) ∧ Gr w w' := by
  by_cases hs : s.size ≤ 200
  · obtain ⟨T, E1, c1, hT⟩ := tx_any g z b x y
    obtain ⟨Q, E3, c3, hQ⟩ := sq_any g z b x y many
    rcases read_any g s hs with ⟨i, p, hi, h1, h2⟩ | ⟨zq, bq, xq, yq, h1, h2⟩
    · refine law_any g lon zone z b x y s T Q many E1 E3 c1 c3 0 false 0 0 ((i : Int) + 1) p hs { text := hT.text, rtext := hT.rtext, valid := hT.valid, cod1 := hT.cod1, cod3 := hQ.cod3, square := hQ.square, rsquare := hQ.rsquare, inn := hQ.inn, back := hT.back, read := fun w hl => ?_, rread := h2 } w hl hq
      refine (h1 w hl).mono ?_
      rintro e w' ⟨B, rfl, hB, hg⟩
      exact ⟨_, rfl, hg, fun W hW hlW => faulted_hit g i hi B p W hlW (At.below hW hB)⟩
    · refine law_any g lon zone z b x y s T Q many E1 E3 c1 c3 zq bq xq yq 0 (-1) hs { text := hT.text, rtext := hT.rtext, valid := hT.valid, cod1 := hT.cod1, cod3 := hQ.cod3, square := hQ.square, rsquare := hQ.rsquare, inn := hQ.inn, back := hT.back, read := fun w hl => ?_, rread := h2 } w hl hq
      refine (h1 w hl).mono ?_
      rintro e w' ⟨rfl, hg⟩
      exact ⟨_, rfl, hg, fun W _ _ => faulted_nil (-1) W⟩
  · exact law_long lon zone z b x y s many (by omega) w
end Go.Proofs.YtfahmaapodoaaaaGreatDoor
