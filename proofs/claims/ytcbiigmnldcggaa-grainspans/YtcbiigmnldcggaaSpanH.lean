/-
  grain.Join of right spans.
-/
import Derived.Test.YtcbiigmnldcggaaSpanG
namespace Go.Proofs.Ytcbiigmnldcggaa
open Go.RowKit FB
attribute [local go_sem] run_store_float

theorem lies_below {w w' : World} {b : Nat} {l : List Nat} (h : Lies w b l) (hb : b < w.heap.size) (hB : Below w.heap.size w w') : Lies w' b l :=
  fun i hi => by rw [hB.cell (p := ⟨b, i, none⟩) hb]; exact h i hi
set_option maxHeartbeats 2000000 in
theorem join_none (h : Int) (a b c d : Nat) (ha : W64 a) (hb : W64 b) (hc : W64 c) (hd : W64 d) (h1 : spB a b = true) (h2 : spB c d = true) (he : ends h a b c d = none) (w : World) : Calls Try.prog 6 #[.agg #[.float .f64 a, .float .f64 b], .agg #[.float .f64 c, .float .f64 d], .int .u8 h] w fun e w' => e = .returned (.tuple #[.agg #[.float .f64 0, .float .f64 0], .bool false]) ∧ Below w.heap.size w w' := by
  have HE := hid (fun w => ends_none h a b c d hc hd h2 he w)
  clear he
  go_enter Try.func6, Try.ntmps6
  go_wp2_with fail
  refine (right_any _ _ (by assumption) (by assumption) _).mono ?_
  rintro e w1 ⟨rfl, hB⟩
  obtain ⟨hc1, hf1⟩ := bcell hB
  obtain ⟨hz, ha1, hb1⟩ : w.heap.size + 1 + 1 < w1.heap.size ∧ w.heap.size + 1 < w1.heap.size ∧ w.heap.size < w1.heap.size := by have := hB.size; simp at this; omega
  go_wp2_with fail
  refine (right_any _ _ (by assumption) (by assumption) _).mono ?_
  rintro e w2 ⟨rfl, hB2⟩
  obtain ⟨hc2, hf2⟩ := bcell hB2
  obtain ⟨hz2, ha2, hb2⟩ : w.heap.size + 1 + 1 < w2.heap.size ∧ w.heap.size + 1 < w2.heap.size ∧ w.heap.size < w2.heap.size := by have := hB2.size; omega
  go_wp2_with fail
  refine (HE.out _).mono ?_
  rintro e w3 ⟨rfl, hB3⟩
  obtain ⟨hc3, hf3⟩ := bcell hB3
  go_wp2
  exact bodyPost_ret (v := .tuple #[.agg #[.float .f64 0, .float .f64 0], .bool false]) (by simp [results, Try.results6, go_sem, hc1, hc2, hc3, hz, hz2]) rfl ⟨rfl, ((bt (bt (bt ((((Below.refl _ _).alloc (Nat.le_refl _) _).alloc (by simp) _).alloc (by simp; omega) _) hB) hB2) hB3).setCell (by simp; omega) _).setCell (by simp; omega) _⟩
set_option maxHeartbeats 2000000 in
theorem join_some (h : Int) (a b c d : Nat) (l : List Nat) (ha : W64 a) (hb : W64 b) (hc : W64 c) (hd : W64 d) (h1 : spB a b = true) (h2 : spB c d = true) (he : ends h a b c d = some l) (w : World) : Calls Try.prog 6 #[.agg #[.float .f64 a, .float .f64 b], .agg #[.float .f64 c, .float .f64 d], .int .u8 h] w fun e w' => ∃ u v ok, e = .returned (.tuple #[.agg #[.float .f64 u, .float .f64 v], .bool ok]) ∧ Out (wid (mnL l) (mxL l)) u v ok ∧ Below w.heap.size w w' := by
  have HE := hid (fun w => ends_some h a b c d l hc hd h1 h2 he w)
  obtain ⟨hnn, hl0, hl4⟩ := ends_nn h1 h2 he
  have HN := hid hnn
  have hle := mn_le_mx (l := l) (by intro c; rw [c] at hl0; simp at hl0)
  have HLE := hid hle
  have hl0' : ¬ (l.length : Int) = 0 := by omega
  clear he hnn hle
  go_enter Try.func6, Try.ntmps6
  go_wp2_with fail
  refine (right_any _ _ (by assumption) (by assumption) _).mono ?_
  rintro e w1 ⟨rfl, hB⟩
  obtain ⟨hc1, hf1⟩ := bcell hB
  obtain ⟨hz, ha1, hb1⟩ : w.heap.size + 1 + 1 < w1.heap.size ∧ w.heap.size + 1 < w1.heap.size ∧ w.heap.size < w1.heap.size := by have := hB.size; simp at this; omega
  go_wp2_with fail
  refine (right_any _ _ (by assumption) (by assumption) _).mono ?_
  rintro e w2 ⟨rfl, hB2⟩
  obtain ⟨hc2, hf2⟩ := bcell hB2
  obtain ⟨hz2, ha2, hb2⟩ : w.heap.size + 1 + 1 < w2.heap.size ∧ w.heap.size + 1 < w2.heap.size ∧ w.heap.size < w2.heap.size := by have := hB2.size; omega
  go_wp2_with fail
  refine (HE.out _).mono ?_
  rintro e w3 ⟨⟨blk, hk1, hk2, hlies, rfl⟩, hB3⟩
  obtain ⟨hc3, hf3⟩ := bcell hB3
  obtain ⟨hz3, ha3, hb3⟩ : w.heap.size + 1 + 1 < w3.heap.size ∧ w.heap.size + 1 < w3.heap.size ∧ w.heap.size < w3.heap.size := by have := hB3.size; omega
  have HL := hid hlies
  clear hlies
  go_wp2_with fail
  refine (min_any blk l hl0 hl4 HN.out _ HL.out).mono ?_
  rintro e w4 ⟨m, rfl, hm, rfl⟩
  have HM := hid hm
  clear hm
  go_wp2_with fail
  refine (below_any _ HM.out.1 _).mono ?_
  rintro e w5 ⟨rfl, rfl⟩
  go_wp2_with fail
  refine (max_any blk l hl0 hl4 HN.out _ HL.out).mono ?_
  rintro e w6 ⟨n, rfl, hn, rfl⟩
  have HX := hid hn
  clear hn
  go_wp2_with fail
  refine (above_any _ HX.out.1 _).mono ?_
  rintro e w7 ⟨rfl, rfl⟩
  go_wp2_with fail
  refine (told_any _ _ (dn1_key HM.out.1).1 (up1_key HX.out.1).1 _).mono ?_
  rintro e w8 ⟨u, v, ok, rfl, ho, hB8⟩
  obtain ⟨hc8, hf8⟩ := bcell hB8
  have HO : Hid (Out (wid (mnL l) (mxL l)) u v ok) := by
    unfold Hid
    rw [told_wid HM.out.1 HX.out.1 (by rw [least_key HM.out, most_key HX.out]; exact HLE.out), least_key HM.out, most_key HX.out] at ho
    exact ho
  clear ho
  go_wp2
  exact bodyPost_ret (v := .tuple #[.agg #[.float .f64 u, .float .f64 v], .bool ok]) (by simp [results, Try.results6, go_sem, hc1, hc2, hc3, hc8, hz, hz2, hz3]) rfl ⟨u, v, ok, rfl, HO.out, ((bt (bt (bt (bt ((((Below.refl _ _).alloc (Nat.le_refl _) _).alloc (by simp) _).alloc (by simp; omega) _) hB) hB2) hB3) hB8).setCell (by simp; omega) _).setCell (by simp; omega) _⟩
theorem join_any (h : Int) (a b c d : Nat) (ha : W64 a) (hb : W64 b) (hc : W64 c) (hd : W64 d) (w : World) : Calls Try.prog 6 #[.agg #[.float .f64 a, .float .f64 b], .agg #[.float .f64 c, .float .f64 d], .int .u8 h] w fun e w' => ∃ u v ok, e = .returned (.tuple #[.agg #[.float .f64 u, .float .f64 v], .bool ok]) ∧ Out (joinO h a b c d) u v ok ∧ Below w.heap.size w w' := by
  unfold joinO
  cases h1 : spB a b with
  | false =>
    refine (join_bad1 h a b c d ha hb h1 w).mono ?_
    rintro e w' ⟨rfl, hB⟩
    exact ⟨0, 0, false, rfl, by rw [if_neg (by simp)]; exact ⟨rfl, rfl, rfl⟩, hB⟩
  | true =>
    cases h2 : spB c d with
    | false =>
      refine (join_bad2 h a b c d ha hb hc hd h1 h2 w).mono ?_
      rintro e w' ⟨rfl, hB⟩
      exact ⟨0, 0, false, rfl, by rw [if_neg (by simp)]; exact ⟨rfl, rfl, rfl⟩, hB⟩
    | true =>
      rw [if_pos ⟨rfl, rfl⟩]
      cases he : ends h a b c d with
      | none =>
        refine (join_none h a b c d ha hb hc hd h1 h2 he w).mono ?_
        rintro e w' ⟨rfl, hB⟩
        exact ⟨0, 0, false, rfl, ⟨rfl, rfl, rfl⟩, hB⟩
      | some l => exact join_some h a b c d l ha hb hc hd h1 h2 he w
end Go.Proofs.Ytcbiigmnldcggaa
