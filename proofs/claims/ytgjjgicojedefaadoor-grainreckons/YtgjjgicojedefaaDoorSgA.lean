/-
  Whole numbers of any size and sign: mercatorref1.SignedOf, SignedBack, SignedMul.
-/
import Derived.Test.YtgjjgicojedefaaDoorBgH
import Derived.Test.YtgjjgicojedefaaDoorMem
import Derived.Deep.DrawnRows
import Derived.Deep.RegionHeld3
namespace Go.Proofs.YtgjjgicojedefaaDoor
open Go.RowKit BG
attribute [local go_sem ↓] Go.wp_at_zero Go.wp_at_succ

/-- The value stands for the number. -/
def Sg (w : World) (m : Bool) (v : Value) (z : Int) : Prop := Bg w v (dn z.natAbs) ∧ m = decide (z < 0)
theorem Sg.below {W w' : World} {m : Bool} {v : Value} {z : Int} (h : Sg W m v z) (hB : Below W.heap.size W w') : Sg w' m v z := ⟨h.1.below hB, h.2⟩
theorem Bg.setS {w : World} {v : Value} {l : List Nat} {B : Nat} {m : Bool} {x : Value} (h : Bg w v l) (hA : At w B [.bool m, x]) (o : Nat) (y : Value) : Bg (w.setCell ⟨B, o, none⟩ y) v l := by
  rcases h with h | ⟨b, cap, h1, h2, h3, h4, h5⟩
  · exact .inl h
  · refine .inr ⟨b, cap, h1, h2, h3, fun i hi => ?_, by simpa using h5⟩
    have hne : ¬ B = b := by
      intro e
      subst e
      have a := hA.c2.1
      have c := h4 0 (by omega)
      rw [a] at c; cases c
    have hne' : ¬ b = B := fun e => hne e.symm
    simp [go_sem, h4 i hi]
theorem Bg.setS2 {w : World} {v : Value} {l : List Nat} {B : Nat} {m m' : Bool} {x : Value} (h : Bg w v l) (hA : At w B [.bool m, x]) (y : Value) : Bg ((w.setCell ⟨B, 0, none⟩ (.bool m')).setCell ⟨B, 1, none⟩ y) v l := (h.setS hA 0 _).setS (hA.put 0 (.bool m')) 1 y
theorem Bg.alloc {w : World} {v : Value} {l : List Nat} (h : Bg w v l) (o : Obj) : Bg (w.alloc o) v l := h.below ((Below.refl _ _).alloc (Nat.le_refl _) o)
theorem len_pos (n : Nat) : decide (0 < ((dn n).length : Int)) = decide (n ≠ 0) := by
  have h := dn_empty (n := n)
  by_cases c : n = 0
  · subst c; rw [dn_zero]; simp
  · have : (dn n).length ≠ 0 := fun e => c (h.1 e)
    rw [decide_eq_true (by omega), decide_eq_true (by simpa using c)]
set_option maxHeartbeats 1000000 in
theorem signedOf_any (n : Int) (h1 : -9223372036854775808 < n) (h2 : n ≤ 9223372036854775807) (w : World) : Calls Tryd.prog 13 #[.int .i64 n] w fun e w' => ∃ m v, e = .returned (.agg #[.bool m, v]) ∧ Sg w' m v n ∧ Below w.heap.size w w' ∧ w.heap.size < w'.heap.size := by
  by_cases c : n < 0
  · have H1 := hidb (fun w => bigOf_any n.natAbs (by omega) w)
    have en : -n = ((n.natAbs : Nat) : Int) := by omega
    go_enter Tryd.func13, Tryd.ntmps13
    go_wp2_with fail
    refine (H1.out _).mono ?_
    rintro e w1 ⟨v, rfl, hv, hB⟩
    have HA := At.below hB (At.new2 w (.bool false) (.slice none 0 0) 38)
    have HC := Gr.step ((Gr.refl w).alloc (.cells #[.bool false, .slice none 0 0] 38)) hB
    clear hB
    obtain ⟨c0, c1⟩ := HA.c2
    obtain ⟨f0, f1⟩ := HA.f2
    have HV := hidb hv
    obtain ⟨ad, cap, hf⟩ := hv.form
    rw [hf] at HV ⊢
    clear hv hf
    go_wp2
    exact bodyPost_ret (v := .agg #[.bool true, .slice ad (dn n.natAbs).length cap]) (by simp [results, Tryd.results13, go_sem, c0, c1]) rfl ⟨true, _, rfl, ⟨HV.out.setS2 HA _, by simp [c]⟩, (HC.set (Nat.le_refl _) _ _).set (Nat.le_refl _) _ _, by have := HA.lt; simp; omega⟩
  · have H1 := hidb (fun w => bigOf_any n.natAbs (by omega) w)
    obtain ⟨k, rfl⟩ : ∃ k : Nat, n = k := ⟨n.natAbs, by omega⟩
    rw [Int.natAbs_natCast] at H1
    go_enter Tryd.func13, Tryd.ntmps13
    go_wp2_with fail
    refine (H1.out _).mono ?_
    rintro e w1 ⟨v, rfl, hv, hB⟩
    have HA := At.below hB (At.new2 w (.bool false) (.slice none 0 0) 38)
    have HC := Gr.step ((Gr.refl w).alloc (.cells #[.bool false, .slice none 0 0] 38)) hB
    clear hB
    obtain ⟨c0, c1⟩ := HA.c2
    obtain ⟨f0, f1⟩ := HA.f2
    have HV := hidb hv
    obtain ⟨ad, cap, hf⟩ := hv.form
    rw [hf] at HV ⊢
    clear hv hf
    go_wp2
    exact bodyPost_ret (v := .agg #[.bool false, .slice ad (dn k).length cap]) (by simp [results, Tryd.results13, go_sem, c0, c1]) rfl ⟨false, _, rfl, ⟨by rw [Int.natAbs_natCast]; exact HV.out.setS2 HA _, by simp⟩, (HC.set (Nat.le_refl _) _ _).set (Nat.le_refl _) _ _, by have := HA.lt; simp; omega⟩
/-- The number's sign as the program reckons it. -/
theorem back_sign (z : Int) : decide (-z < 0) = (!decide (z < 0) && decide (z.natAbs ≠ 0)) := by
  rcases Int.lt_trichotomy z 0 with h | h | h
  · rw [decide_eq_false (by omega), decide_eq_true h]; rfl
  · subst h; rfl
  · rw [decide_eq_true (by omega), decide_eq_false (by omega), decide_eq_true (by omega)]; rfl
set_option maxHeartbeats 1000000 in
theorem signedBack_any {w : World} {m : Bool} {v : Value} {z : Int} (h : Sg w m v z) : Calls Tryd.prog 56 #[.agg #[.bool m, v]] w fun e w' => ∃ m', e = .returned (.agg #[.bool m', v]) ∧ Sg w' m' v (-z) ∧ Below w.heap.size w w' ∧ w.heap.size < w'.heap.size := by
  obtain ⟨hb, hm⟩ := h
  obtain ⟨ad, cap, rfl⟩ := hb.form
  have HB := hidb hb
  have HN : Hid (decide (0 < ((dn z.natAbs).length : Int)) = decide (z.natAbs ≠ 0)) := len_pos _
  have HZ := hidb (back_sign z)
  have HM := hidb hm
  clear hb hm
  generalize hL : (dn z.natAbs).length = L at *
  clear hL
  have HA := At.nx2 (W := w) (.cells #[.bool m, .slice ad L cap] 38) (.bool false) (.slice none 0 0) 38
  cases m with
  | true =>
    go_enter Tryd.func56, Tryd.ntmps56
    go_wp2
    exact bodyPost_ret (v := .agg #[.bool false, .slice ad L cap]) (by simp [results, Tryd.results56, go_sem]) rfl ⟨false, rfl, ⟨by rw [Int.natAbs_neg]; exact (HB.out.alloc _).alloc _, by rw [HZ.out, ← HM.out]; rfl⟩, (((Below.refl _ _).alloc (Nat.le_refl _) _).alloc (by simp) _), by simp; omega⟩
  | false =>
    go_enter Tryd.func56, Tryd.ntmps56
    go_wp2
    exact bodyPost_ret (v := .agg #[.bool (decide (0 < (L : Int))), .slice ad L cap]) (by simp [results, Tryd.results56, go_sem]) rfl ⟨decide (0 < (L : Int)), rfl, ⟨by rw [Int.natAbs_neg]; exact (HB.out.alloc _).alloc _, by rw [HZ.out, ← HM.out, HN.out]; rfl⟩, (((Below.refl _ _).alloc (Nat.le_refl _) _).alloc (by simp) _), by simp; omega⟩
theorem mul_sign (x y : Int) : decide (x * y < 0) = ((decide (x < 0) != decide (y < 0)) && decide (x.natAbs * y.natAbs ≠ 0)) := by
  have hz : x.natAbs * y.natAbs = (x * y).natAbs := (Int.natAbs_mul x y).symm
  rw [hz]
  rcases Int.lt_trichotomy x 0 with h | h | h <;> rcases Int.lt_trichotomy y 0 with k | k | k
  · have := Int.mul_pos_of_neg_of_neg h k; rw [decide_eq_false (by omega), decide_eq_true h, decide_eq_true k]; rfl
  · subst k; simp
  · have := Int.mul_neg_of_neg_of_pos h k; rw [decide_eq_true this, decide_eq_true h, decide_eq_false (by omega), decide_eq_true (by omega)]; rfl
  · subst h; simp
  · subst h; simp
  · subst h; simp
  · have := Int.mul_neg_of_pos_of_neg h k; rw [decide_eq_true this, decide_eq_false (by omega), decide_eq_true k, decide_eq_true (by omega)]; rfl
  · subst k; simp
  · have := Int.mul_pos h k; rw [decide_eq_false (by omega), decide_eq_false (by omega), decide_eq_false (by omega)]; rfl
set_option maxHeartbeats 2000000 in
theorem signedMul_any {w : World} {m n : Bool} {u v : Value} {x y : Int} (lx : x.natAbs < 1000000 ^ 50) (ly : y.natAbs < 1000000 ^ 50) (h : Sg w m u x) (k : Sg w n v y) : Calls Tryd.prog 49 #[.agg #[.bool m, u], .agg #[.bool n, v]] w fun e w' => ∃ o t, e = .returned (.agg #[.bool o, t]) ∧ Sg w' o t (x * y) ∧ Below w.heap.size w w' ∧ w.heap.size < w'.heap.size := by
  obtain ⟨hb, hm⟩ := h
  obtain ⟨kb, hn⟩ := k
  have HZ := hidb (mul_sign x y)
  have HM := hidb hm
  have HN := hidb hn
  have HP := hidb (fun w (h : Bg w u (dn x.natAbs)) (k : Bg w v (dn y.natAbs)) => mul_dn lx ly h k)
  have HB := hidb hb
  have KB := hidb kb
  have HL := hidb (len_pos (x.natAbs * y.natAbs))
  clear hb kb hm hn
  go_enter Tryd.func49, Tryd.ntmps49
  go_wp2_with fail
  refine (HP.out _ (((HB.out.alloc _).alloc _).alloc _) (((KB.out.alloc _).alloc _).alloc _)).mono ?_
  rintro e w1 ⟨t, rfl, ht, hB⟩
  have HA := At.below hB (At.ny2 (W := w) (.cells #[.bool m, u] 38) (.cells #[.bool n, v] 38) (.bool false) (.slice none 0 0) 38)
  have MA := At.below hB (((At.new2 w (.bool m) u 38).alloc (.cells #[.bool n, v] 38)).alloc (.cells #[.bool false, .slice none 0 0] 38))
  have NA := At.below hB ((At.nx2 (W := w) (.cells #[.bool m, u] 38) (.bool n) v 38).alloc (.cells #[.bool false, .slice none 0 0] 38))
  have HC := Gr.step ((((Gr.refl w).alloc (.cells #[.bool m, u] 38)).alloc (.cells #[.bool n, v] 38)).alloc (.cells #[.bool false, .slice none 0 0] 38)) hB
  clear hB
  obtain ⟨c0, c1⟩ := HA.c2
  obtain ⟨f0, f1⟩ := HA.f2
  obtain ⟨a0, a1⟩ := MA.c2
  obtain ⟨b0, b1⟩ := NA.c2
  obtain ⟨ad, cap, hf⟩ := ht.form
  have HT := hidb ht
  rw [hf] at HT ⊢
  clear ht hf
  have hge : w.heap.size ≤ w.heap.size + 1 + 1 := by omega
  generalize hL : (dn (x.natAbs * y.natAbs)).length = L at *
  clear hL
  cases m <;> cases n
  all_goals
    go_wp2
    refine bodyPost_ret (v := .agg #[.bool _, .slice ad L cap]) (by simp [results, Tryd.results49, go_sem, c0, c1]; rfl) rfl ⟨_, _, rfl, ⟨by rw [Int.natAbs_mul]; exact HT.out.setS2 HA _, ?_⟩, (HC.set hge _ _).set hge _ _, by have := HA.lt; simp; omega⟩
  all_goals (rw [HZ.out, ← HM.out, ← HN.out, ← HL.out]; first | rfl | simp)
end Go.Proofs.YtgjjgicojedefaaDoor
