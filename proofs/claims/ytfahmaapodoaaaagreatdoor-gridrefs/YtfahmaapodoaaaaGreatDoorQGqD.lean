/-
  grid: Square of what is no reference, or with too many digits; In.
-/
import Derived.Test.YtfahmaapodoaaaaGreatDoorQGqC
namespace Go.Proofs.YtfahmaapodoaaaaGreatDoor
open Go.RowKit GQ

abbrev noSq (p : Option Addr) : Value := .tuple #[.string ⟨#[]⟩, .iface 141 (.pointer p)]
theorem square_no (z : Int) (b : Bool) (x y m : Int) (h : ¬ (okRef z x y ∧ 0 ≤ m ∧ m ≤ 5)) (w : World) (hs : SqL w) : Calls Tryz.prog 16 #[rfV z b x y, .int .i64 m] w fun e w' => (∃ p, e = .returned (noSq p)) ∧ Gr w w' := by
  have HH := hidb hs
  by_cases hr : okRef z x y
  · have H1 := hidb (fun w => valid_ok z b x y hr w)
    have hm : m < 0 ∨ 5 < m := by
      rcases Int.lt_or_le m 0 with h0 | h0
      · exact Or.inl h0
      · exact Or.inr (Int.not_le.1 fun h1 => h ⟨hr, h0, h1⟩)
    have HM := hidb hm
    clear hs h hr hm
    go_enter Tryz.func16, Tryz.ntmps16
    go_wp2_with fail
    have HC : Gr w (w.alloc (.cells #[.int .i64 z, .bool b, .int .i64 x, .int .i64 y] 32)) := (Gr.refl w).alloc _
    generalize w.alloc (.cells #[.int .i64 z, .bool b, .int .i64 x, .int .i64 y] 32) = w1 at *
    refine (H1.out _).mono ?_
    rintro e w2 ⟨rfl, g2⟩
    replace HC : Gr w w2 := HC.step g2
    clear g2
    obtain ⟨p, hp⟩ := (HH.out.gr HC).shp
    rcases HM.out with hm | hm
    · go_upto_region 5 with fail
      go_quiet (fail)
      go_wp2_with fail
      go_ret2
      exact ⟨⟨p, rfl⟩, by ((with_reducible repeat' (first | assumption | refine Gr.drewN ?_ _ | refine Gr.drew ?_ | refine Gr.alloc ?_ _ | exact Gr.refl _)); done)⟩
    · have hm0 : ¬ m < 0 := by omega
      go_upto_region 5 with fail
      go_quiet (fail)
      go_wp2_with fail
      go_ret2
      exact ⟨⟨p, rfl⟩, by ((with_reducible repeat' (first | assumption | refine Gr.drewN ?_ _ | refine Gr.drew ?_ | refine Gr.alloc ?_ _ | exact Gr.refl _)); done)⟩
  · have H1 := hidb (fun w hs => valid_no z b x y hr w hs)
    clear hs h hr
    go_enter Tryz.func16, Tryz.ntmps16
    go_wp2_with fail
    have HC : Gr w (w.alloc (.cells #[.int .i64 z, .bool b, .int .i64 x, .int .i64 y] 32)) := (Gr.refl w).alloc _
    generalize w.alloc (.cells #[.int .i64 z, .bool b, .int .i64 x, .int .i64 y] 32) = w1 at *
    refine (H1.out _ (HH.out.gr HC)).mono ?_
    rintro e w2 ⟨⟨p, rfl⟩, g2⟩
    replace HC : Gr w w2 := HC.step g2
    clear g2
    go_wp2_with fail
    go_ret2
    exact ⟨⟨p, rfl⟩, HC⟩
theorem in_ok (z : Int) (b : Bool) (x y : Int) (s : ByteArray) (h : okRef z x y) (s0 : 2 ≤ s.size) (s1 : s.size ≤ 13) (w : World) (hs : SqL w) : Calls Tryz.prog 18 #[rfV z b x y, .string s] w fun e w' => e = .returned (.bool ((SQ x y ((s.size / 2 - 1 : Nat) : Int)).toList == s.toList)) ∧ Gr w w' := by
  have H1 := hidb (fun w hs => square_ok z b x y ((s.size / 2 - 1 : Nat) : Int) h (by omega) (by omega) w hs)
  have e1 : ((s.size : Int)).tdiv 2 = ((s.size / 2 : Nat) : Int) := by rw [Int.tdiv_eq_ediv_of_nonneg (by omega)]; omega
  have e2 : IntKind.i64.wrap (((s.size / 2 : Nat) : Int) - 1) = ((s.size / 2 - 1 : Nat) : Int) := by rw [wrq (by omega) (by omega)]; omega
  have e3 : IntKind.i64.wrap ((s.size / 2 : Nat) : Int) = ((s.size / 2 : Nat) : Int) := wrq (by omega) (by omega)
  obtain ⟨m, hm⟩ : ∃ m : Int, ((s.size / 2 - 1 : Nat) : Int) = m := ⟨_, rfl⟩
  obtain ⟨q, hq⟩ : ∃ q : Int, ((s.size / 2 : Nat) : Int) = q := ⟨_, rfl⟩
  rw [hq] at e1 e2 e3
  rw [hm] at e2 H1 ⊢
  have HH := hidb hs
  clear hm hq s0 s1 hs h
  generalize SQ x y m = T at H1 ⊢
  go_enter Tryz.func18, Tryz.ntmps18
  go_wp2_with fail
  refine (H1.out _ (HH.out.gr ((Gr.refl w).alloc _))).mono ?_
  rintro e w2 ⟨rfl, g2⟩
  go_wp2_with fail
  go_ret
  refine ⟨?_, (Gr.alloc (Gr.refl w) _).step g2⟩
  rfl
/-- What keeps In from looking at the text. -/
theorem in_no (z : Int) (b : Bool) (x y : Int) (s : ByteArray) (h : ¬ (okRef z x y ∧ 2 ≤ s.size ∧ s.size ≤ 13)) (hz : s.size ≤ 100) (w : World) (hs : SqL w) : Calls Tryz.prog 18 #[rfV z b x y, .string s] w fun e w' => e = .returned (.bool false) ∧ Gr w w' := by
  have H1 := hidb (fun w hs => square_no z b x y (((s.size / 2 : Nat) : Int) - 1) (fun ⟨h1, h2, h3⟩ => h ⟨h1, by omega, by omega⟩) w hs)
  have e1 : ((s.size : Int)).tdiv 2 = ((s.size / 2 : Nat) : Int) := by rw [Int.tdiv_eq_ediv_of_nonneg (by omega)]; omega
  have e2 : IntKind.i64.wrap (((s.size / 2 : Nat) : Int) - 1) = ((s.size / 2 : Nat) : Int) - 1 := wrq (by omega) (by omega)
  have e3 : IntKind.i64.wrap ((s.size / 2 : Nat) : Int) = ((s.size / 2 : Nat) : Int) := wrq (by omega) (by omega)
  obtain ⟨q, hq⟩ : ∃ q : Int, ((s.size / 2 : Nat) : Int) = q := ⟨_, rfl⟩
  rw [hq] at e1 e2 e3 H1
  obtain ⟨m, hm⟩ : ∃ m : Int, q - 1 = m := ⟨_, rfl⟩
  rw [hm] at H1
  rw [hm] at e2
  have HH := hidb hs
  clear hq hs h hz
  go_enter Tryz.func18, Tryz.ntmps18
  go_wp2_with fail
  refine (H1.out _ (HH.out.gr ((Gr.refl w).alloc _))).mono ?_
  rintro e w2 ⟨⟨p, rfl⟩, g2⟩
  go_wp2_with fail
  go_ret
  exact ⟨rfl, (Gr.alloc (Gr.refl w) _).step g2⟩
end Go.Proofs.YtfahmaapodoaaaaGreatDoor
