/-
  The law GrainSpans: its walk.
-/
import Derived.Test.YtcbiigmnldcggaaSpanY
import Derived.Test.YtcbiigmnldcggaaSpanP
namespace Go.Proofs.Ytcbiigmnldcggaa
open Go.RowKit FB
attribute [local go_sem] run_store_float

theorem same_key (a b : Nat) (ha : NN a) (hb : NN b) (h : key a = key b) (w : World) : Calls Try.prog 25 #[.float .f64 a, .float .f64 b] w fun e w' => e = .returned (.bool true) ∧ w' = w := by
  have t1 := k_neq ha ha
  rw [decide_eq_false (by simp)] at t1
  have t2 := k_eql ha hb
  rw [decide_eq_true h] at t2
  clear h ha hb
  go_enter Try.func25, Try.ntmps25
  go_wp2
  go_ret
  exact ⟨rfl, rfl⟩
theorem sameSpan_any (a b c d : Nat) (ha : NN a) (hb : NN b) (hc : NN c) (hd : NN d) (h1 : key a = key c) (h2 : key b = key d) (w : World) : Calls Try.prog 8 #[.agg #[.float .f64 a, .float .f64 b], .agg #[.float .f64 c, .float .f64 d]] w fun e w' => e = .returned (.bool true) ∧ Below w.heap.size w w' := by
  have HA := hid (fun w => same_key a c ha hc h1 w)
  have HB := hid (fun w => same_key b d hb hd h2 w)
  clear ha hb hc hd h1 h2
  go_enter Try.func8, Try.ntmps8
  go_wp2_with fail
  refine (HA.out _).mono ?_
  rintro e w1 ⟨rfl, rfl⟩
  go_wp2_with fail
  refine (HB.out _).mono ?_
  rintro e w1 ⟨rfl, rfl⟩
  go_wp2
  go_ret
  exact ⟨rfl, ((Below.refl _ _).alloc (Nat.le_refl _) _).alloc (by simp) _⟩
theorem out_same {o : Option (Int × Int)} {u v u' v' : Nat} {ok ok' : Bool} (h : Out o u v ok) (k : Out o u' v' ok') : ok = ok' ∧ key u = key u' ∧ key v = key v' := by
  cases o with
  | none => obtain ⟨rfl, rfl, rfl⟩ := h; obtain ⟨rfl, rfl, rfl⟩ := k; exact ⟨rfl, rfl, rfl⟩
  | some o => exact ⟨h.2.2.2.2.trans k.2.2.2.2.symm, h.2.1.trans k.2.1.symm, h.2.2.2.1.trans k.2.2.2.1.symm⟩
theorem join_const : joinO 43 4607182418800017408 4611686018427387904 4613937818241073152 4616189618054758400 = some (4616189618054758399, 4618441417868443649) := by decide +kernel
theorem nn_lit {x : Nat} (h : x ≤ 9218868437227405312) : NN x ∧ key x = x := ⟨⟨by omega, by omega⟩, by unfold key; omega⟩
set_option maxHeartbeats 1000000 in
theorem encloses_any (w : World) : Calls Try.prog 5 #[] w fun e w' => e = .returned (.bool true) ∧ Below w.heap.size w w' := by
  have HJ := hid (fun w => join_any 43 4607182418800017408 4611686018427387904 4613937818241073152 4616189618054758400 (by unfold W64; decide) (by unfold W64; decide) (by unfold W64; decide) (by unfold W64; decide) w)
  rw [join_const] at HJ
  go_enter Try.func5, Try.ntmps5
  go_wp2_with fail
  refine (HJ.out _).mono ?_
  rintro e w1 ⟨u, v, ok, rfl, ⟨nu, ku, nv, kv, rfl⟩, hB⟩
  obtain ⟨n1, k1⟩ := nn_lit (x := 4616189618054758400) (by decide)
  obtain ⟨n2, k2⟩ := nn_lit (x := 4613937818241073152) (by decide)
  obtain ⟨n3, k3⟩ := nn_lit (x := 4618441417868443648) (by decide)
  obtain ⟨n4, k4⟩ := nn_lit (x := 4619567317775286272) (by decide)
  have t1 := k_lss nu n1
  rw [decide_eq_true (by omega)] at t1
  have t2 := k_gtr nu n2
  rw [decide_eq_true (by omega)] at t2
  have t3 := k_gtr nv n3
  rw [decide_eq_true (by omega)] at t3
  have t4 := k_lss nv n4
  rw [decide_eq_true (by omega)] at t4
  clear nu ku nv kv n1 k1 n2 k2 n3 k3 n4 k4 HJ
  go_wp2
  go_ret
  exact ⟨rfl, hB.alloc hB.size _⟩
/-- A pair of words at a block. -/
def Two (W : World) (b x y : Nat) : Prop := W.cell? ⟨b, 0, none⟩ = some (.float .f64 x) ∧ W.cell? ⟨b, 1, none⟩ = some (.float .f64 y) ∧ b < W.heap.size
theorem Two.below {W w' : World} {b x y : Nat} (h : Two W b x y) (hB : Below W.heap.size W w') : Two w' b x y := by
  obtain ⟨h1, h2⟩ := bcell hB
  exact ⟨by rw [h1 _ _ h.2.2]; exact h.1, by rw [h1 _ _ h.2.2]; exact h.2.1, Nat.lt_of_lt_of_le h.2.2 hB.size⟩
theorem Two.alloc {W : World} {b x y : Nat} (h : Two W b x y) (o : Obj) : Two (W.alloc o) b x y := by
  obtain ⟨h1, h2, h3⟩ := h
  exact ⟨by simp [go_sem, h1, h3], by simp [go_sem, h2, h3], by simp; omega⟩
theorem Two.new (W : World) (x y t : Nat) : Two (W.alloc (.cells #[.float .f64 x, .float .f64 y] t)) W.heap.size x y := ⟨by simp [go_sem], by simp [go_sem], by simp⟩
set_option maxRecDepth 4000 in
set_option maxHeartbeats 4000000 in
theorem spans_1 (h : Int) (a b c d x : Nat) (ha : W64 a) (hb : W64 b) (hc : W64 c) (hd : W64 d) (h1 : spB a b = false) (w : World) : Calls Try.prog 3 #[.agg #[.float .f64 a, .float .f64 b], .agg #[.float .f64 c, .float .f64 d], .int .u8 h, .float .f64 x] w fun e w' => e = .returned (.bool true) ∧ Below w.heap.size w w' := by
  go_enter Try.func3, Try.ntmps3
  go_wp2_with fail
  refine (encloses_any _).mono ?_
  rintro e w1 ⟨rfl, hB1⟩
  have TA := ((Two.new w a b 24).alloc _).below hB1
  have TC := (Two.new (w.alloc (.cells #[.float .f64 a, .float .f64 b] 24)) c d 24).below hB1
  have HC := bt (((Below.refl _ _).alloc (Nat.le_refl _) _).alloc (by simp) _) hB1
  rw [show (w.alloc (.cells #[.float .f64 a, .float .f64 b] 24)).heap.size = w.heap.size + 1 by simp] at TC
  obtain ⟨a0, a1, az⟩ := TA
  obtain ⟨c0, c1, cz⟩ := TC
  clear hB1
  go_wp2_with fail
  refine (join_any _ _ _ _ _ (by assumption) (by assumption) (by assumption) (by assumption) _).mono ?_
  rintro e w2 ⟨u, v, ok, rfl, ho, hB2⟩
  replace TA := Two.below ⟨a0, a1, az⟩ hB2
  replace TC := Two.below ⟨c0, c1, cz⟩ hB2
  replace HC := bt HC hB2
  clear a0 a1 az c0 c1 cz hB2
  have HO := hid ho
  clear ho
  obtain ⟨a0, a1, az⟩ := TA
  obtain ⟨c0, c1, cz⟩ := TC
  go_wp2_with fail
  refine (joinOf_any _ _ _ _ _ (by assumption) (by assumption) (by assumption) (by assumption) _).mono ?_
  rintro e w3 ⟨u', v', ok', rfl, ho, hB3⟩
  obtain ⟨rfl, s1, s2⟩ := out_same HO.out ho
  have HK := hid (fun w => sameSpan_any u v u' v' (out_nn HO.out).1 (out_nn HO.out).2 (out_nn ho).1 (out_nn ho).2 s1 s2 w)
  replace TA := (Two.alloc ⟨a0, a1, az⟩ _).below hB3
  have TS := (Two.new w2 u v 24).below hB3
  replace HC := bt (HC.alloc HC.size _) hB3
  clear a0 a1 az c0 c1 cz hB3 HO ho s1 s2
  obtain ⟨a0, a1, az⟩ := TA
  obtain ⟨s0, s1, sz⟩ := TS
  go_wp2_with fail
  refine (HK.out _).mono ?_
  rintro e w4 ⟨rfl, hB4⟩
  replace TA := (Two.alloc ⟨a0, a1, az⟩ _).below hB4
  replace HC := bt (HC.alloc HC.size _) hB4
  clear a0 a1 az s0 s1 sz hB4 HK
  obtain ⟨a0, a1, az⟩ := TA
  go_wp2_with fail
  refine (rooted_any _ _ (by assumption) (by assumption) _).mono ?_
  rintro e w5 ⟨m, n, was, rfl, ho, hB5⟩
  have HO := hid ho
  clear ho
  replace TA := Two.below ⟨a0, a1, az⟩ hB5
  replace HC := bt HC hB5
  clear a0 a1 az hB5
  obtain ⟨a0, a1, az⟩ := TA
  go_wp2_with fail
  refine (rootedOf_any _ _ (by assumption) (by assumption) _).mono ?_
  rintro e w6 ⟨m', n', was', rfl, ho, hB6⟩
  obtain ⟨rfl, s1, s2⟩ := out_same HO.out ho
  have HK := hid (fun w => sameSpan_any m n m' n' (out_nn HO.out).1 (out_nn HO.out).2 (out_nn ho).1 (out_nn ho).2 s1 s2 w)
  replace TA := (Two.alloc ⟨a0, a1, az⟩ _).below hB6
  have TS := (Two.new w5 m n 24).below hB6
  replace HC := bt (HC.alloc HC.size _) hB6
  clear a0 a1 az hB6 HO ho s1 s2
  obtain ⟨a0, a1, az⟩ := TA
  obtain ⟨s0, s1, sz⟩ := TS
  go_wp2_with fail
  refine (HK.out _).mono ?_
  rintro e w7 ⟨rfl, hB7⟩
  replace TA := (Two.alloc ⟨a0, a1, az⟩ _).below hB7
  replace HC := bt (HC.alloc HC.size _) hB7
  clear a0 a1 az s0 s1 sz hB7 HK
  obtain ⟨a0, a1, az⟩ := TA
  go_wp2_with fail
  refine (isSpan_any _ _ (by assumption) (by assumption) _).mono ?_
  rintro e w8 ⟨rfl, hB8⟩
  replace TA := Two.below ⟨a0, a1, az⟩ hB8
  replace HC := bt HC hB8
  clear a0 a1 az hB8
  obtain ⟨a0, a1, az⟩ := TA
  go_wp2_with fail
  refine (has_any _ _ _ (by assumption) (by assumption) _).mono ?_
  rintro e w9 ⟨rfl, hB9⟩
  replace HC := bt HC hB9
  clear a0 a1 az hB9
  go_wp2
  go_ret
  exact ⟨rfl, HC⟩
set_option maxRecDepth 4000 in
set_option maxHeartbeats 4000000 in
theorem spans_2 (h : Int) (a b c d x : Nat) (ha : W64 a) (hb : W64 b) (hc : W64 c) (hd : W64 d) (h1 : spB a b = true) (l1 : leB a x = false) (t1 : (FloatKind.f64.format.order a x == some Ordering.lt || FloatKind.f64.format.order a x == some Ordering.eq) = false) (w : World) : Calls Try.prog 3 #[.agg #[.float .f64 a, .float .f64 b], .agg #[.float .f64 c, .float .f64 d], .int .u8 h, .float .f64 x] w fun e w' => e = .returned (.bool true) ∧ Below w.heap.size w w' := by
  go_enter Try.func3, Try.ntmps3
  go_wp2_with fail
  refine (encloses_any _).mono ?_
  rintro e w1 ⟨rfl, hB1⟩
  have TA := ((Two.new w a b 24).alloc _).below hB1
  have TC := (Two.new (w.alloc (.cells #[.float .f64 a, .float .f64 b] 24)) c d 24).below hB1
  have HC := bt (((Below.refl _ _).alloc (Nat.le_refl _) _).alloc (by simp) _) hB1
  rw [show (w.alloc (.cells #[.float .f64 a, .float .f64 b] 24)).heap.size = w.heap.size + 1 by simp] at TC
  obtain ⟨a0, a1, az⟩ := TA
  obtain ⟨c0, c1, cz⟩ := TC
  clear hB1
  go_wp2_with fail
  refine (join_any _ _ _ _ _ (by assumption) (by assumption) (by assumption) (by assumption) _).mono ?_
  rintro e w2 ⟨u, v, ok, rfl, ho, hB2⟩
  replace TA := Two.below ⟨a0, a1, az⟩ hB2
  replace TC := Two.below ⟨c0, c1, cz⟩ hB2
  replace HC := bt HC hB2
  clear a0 a1 az c0 c1 cz hB2
  have HO := hid ho
  clear ho
  obtain ⟨a0, a1, az⟩ := TA
  obtain ⟨c0, c1, cz⟩ := TC
  go_wp2_with fail
  refine (joinOf_any _ _ _ _ _ (by assumption) (by assumption) (by assumption) (by assumption) _).mono ?_
  rintro e w3 ⟨u', v', ok', rfl, ho, hB3⟩
  obtain ⟨rfl, s1, s2⟩ := out_same HO.out ho
  have HK := hid (fun w => sameSpan_any u v u' v' (out_nn HO.out).1 (out_nn HO.out).2 (out_nn ho).1 (out_nn ho).2 s1 s2 w)
  replace TA := (Two.alloc ⟨a0, a1, az⟩ _).below hB3
  have TS := (Two.new w2 u v 24).below hB3
  replace HC := bt (HC.alloc HC.size _) hB3
  clear a0 a1 az c0 c1 cz hB3 HO ho s1 s2
  obtain ⟨a0, a1, az⟩ := TA
  obtain ⟨s0, s1, sz⟩ := TS
  go_wp2_with fail
  refine (HK.out _).mono ?_
  rintro e w4 ⟨rfl, hB4⟩
  replace TA := (Two.alloc ⟨a0, a1, az⟩ _).below hB4
  replace HC := bt (HC.alloc HC.size _) hB4
  clear a0 a1 az s0 s1 sz hB4 HK
  obtain ⟨a0, a1, az⟩ := TA
  go_wp2_with fail
  refine (rooted_any _ _ (by assumption) (by assumption) _).mono ?_
  rintro e w5 ⟨m, n, was, rfl, ho, hB5⟩
  have HO := hid ho
  clear ho
  replace TA := Two.below ⟨a0, a1, az⟩ hB5
  replace HC := bt HC hB5
  clear a0 a1 az hB5
  obtain ⟨a0, a1, az⟩ := TA
  go_wp2_with fail
  refine (rootedOf_any _ _ (by assumption) (by assumption) _).mono ?_
  rintro e w6 ⟨m', n', was', rfl, ho, hB6⟩
  obtain ⟨rfl, s1, s2⟩ := out_same HO.out ho
  have HK := hid (fun w => sameSpan_any m n m' n' (out_nn HO.out).1 (out_nn HO.out).2 (out_nn ho).1 (out_nn ho).2 s1 s2 w)
  replace TA := (Two.alloc ⟨a0, a1, az⟩ _).below hB6
  have TS := (Two.new w5 m n 24).below hB6
  replace HC := bt (HC.alloc HC.size _) hB6
  clear a0 a1 az hB6 HO ho s1 s2
  obtain ⟨a0, a1, az⟩ := TA
  obtain ⟨s0, s1, sz⟩ := TS
  go_wp2_with fail
  refine (HK.out _).mono ?_
  rintro e w7 ⟨rfl, hB7⟩
  replace TA := (Two.alloc ⟨a0, a1, az⟩ _).below hB7
  replace HC := bt (HC.alloc HC.size _) hB7
  clear a0 a1 az s0 s1 sz hB7 HK
  obtain ⟨a0, a1, az⟩ := TA
  go_wp2_with fail
  refine (isSpan_any _ _ (by assumption) (by assumption) _).mono ?_
  rintro e w8 ⟨rfl, hB8⟩
  replace TA := Two.below ⟨a0, a1, az⟩ hB8
  replace HC := bt HC hB8
  clear a0 a1 az hB8
  obtain ⟨a0, a1, az⟩ := TA
  go_wp2_with fail
  refine (has_any _ _ _ (by assumption) (by assumption) _).mono ?_
  rintro e w9 ⟨rfl, hB9⟩
  replace HC := bt HC hB9
  clear a0 a1 az hB9
  go_wp2
  go_ret
  exact ⟨rfl, HC⟩
set_option maxRecDepth 4000 in
set_option maxHeartbeats 4000000 in
theorem spans_3 (h : Int) (a b c d x : Nat) (ha : W64 a) (hb : W64 b) (hc : W64 c) (hd : W64 d) (h1 : spB a b = true) (l1 : leB a x = true) (t1 : (FloatKind.f64.format.order a x == some Ordering.lt || FloatKind.f64.format.order a x == some Ordering.eq) = true) (l2 : leB x b = false) (t2 : (FloatKind.f64.format.order x b == some Ordering.lt || FloatKind.f64.format.order x b == some Ordering.eq) = false) (w : World) : Calls Try.prog 3 #[.agg #[.float .f64 a, .float .f64 b], .agg #[.float .f64 c, .float .f64 d], .int .u8 h, .float .f64 x] w fun e w' => e = .returned (.bool true) ∧ Below w.heap.size w w' := by
  go_enter Try.func3, Try.ntmps3
  go_wp2_with fail
  refine (encloses_any _).mono ?_
  rintro e w1 ⟨rfl, hB1⟩
  have TA := ((Two.new w a b 24).alloc _).below hB1
  have TC := (Two.new (w.alloc (.cells #[.float .f64 a, .float .f64 b] 24)) c d 24).below hB1
  have HC := bt (((Below.refl _ _).alloc (Nat.le_refl _) _).alloc (by simp) _) hB1
  rw [show (w.alloc (.cells #[.float .f64 a, .float .f64 b] 24)).heap.size = w.heap.size + 1 by simp] at TC
  obtain ⟨a0, a1, az⟩ := TA
  obtain ⟨c0, c1, cz⟩ := TC
  clear hB1
  go_wp2_with fail
  refine (join_any _ _ _ _ _ (by assumption) (by assumption) (by assumption) (by assumption) _).mono ?_
  rintro e w2 ⟨u, v, ok, rfl, ho, hB2⟩
  replace TA := Two.below ⟨a0, a1, az⟩ hB2
  replace TC := Two.below ⟨c0, c1, cz⟩ hB2
  replace HC := bt HC hB2
  clear a0 a1 az c0 c1 cz hB2
  have HO := hid ho
  clear ho
  obtain ⟨a0, a1, az⟩ := TA
  obtain ⟨c0, c1, cz⟩ := TC
  go_wp2_with fail
  refine (joinOf_any _ _ _ _ _ (by assumption) (by assumption) (by assumption) (by assumption) _).mono ?_
  rintro e w3 ⟨u', v', ok', rfl, ho, hB3⟩
  obtain ⟨rfl, s1, s2⟩ := out_same HO.out ho
  have HK := hid (fun w => sameSpan_any u v u' v' (out_nn HO.out).1 (out_nn HO.out).2 (out_nn ho).1 (out_nn ho).2 s1 s2 w)
  replace TA := (Two.alloc ⟨a0, a1, az⟩ _).below hB3
  have TS := (Two.new w2 u v 24).below hB3
  replace HC := bt (HC.alloc HC.size _) hB3
  clear a0 a1 az c0 c1 cz hB3 HO ho s1 s2
  obtain ⟨a0, a1, az⟩ := TA
  obtain ⟨s0, s1, sz⟩ := TS
  go_wp2_with fail
  refine (HK.out _).mono ?_
  rintro e w4 ⟨rfl, hB4⟩
  replace TA := (Two.alloc ⟨a0, a1, az⟩ _).below hB4
  replace HC := bt (HC.alloc HC.size _) hB4
  clear a0 a1 az s0 s1 sz hB4 HK
  obtain ⟨a0, a1, az⟩ := TA
  go_wp2_with fail
  refine (rooted_any _ _ (by assumption) (by assumption) _).mono ?_
  rintro e w5 ⟨m, n, was, rfl, ho, hB5⟩
  have HO := hid ho
  clear ho
  replace TA := Two.below ⟨a0, a1, az⟩ hB5
  replace HC := bt HC hB5
  clear a0 a1 az hB5
  obtain ⟨a0, a1, az⟩ := TA
  go_wp2_with fail
  refine (rootedOf_any _ _ (by assumption) (by assumption) _).mono ?_
  rintro e w6 ⟨m', n', was', rfl, ho, hB6⟩
  obtain ⟨rfl, s1, s2⟩ := out_same HO.out ho
  have HK := hid (fun w => sameSpan_any m n m' n' (out_nn HO.out).1 (out_nn HO.out).2 (out_nn ho).1 (out_nn ho).2 s1 s2 w)
  replace TA := (Two.alloc ⟨a0, a1, az⟩ _).below hB6
  have TS := (Two.new w5 m n 24).below hB6
  replace HC := bt (HC.alloc HC.size _) hB6
  clear a0 a1 az hB6 HO ho s1 s2
  obtain ⟨a0, a1, az⟩ := TA
  obtain ⟨s0, s1, sz⟩ := TS
  go_wp2_with fail
  refine (HK.out _).mono ?_
  rintro e w7 ⟨rfl, hB7⟩
  replace TA := (Two.alloc ⟨a0, a1, az⟩ _).below hB7
  replace HC := bt (HC.alloc HC.size _) hB7
  clear a0 a1 az s0 s1 sz hB7 HK
  obtain ⟨a0, a1, az⟩ := TA
  go_wp2_with fail
  refine (isSpan_any _ _ (by assumption) (by assumption) _).mono ?_
  rintro e w8 ⟨rfl, hB8⟩
  replace TA := Two.below ⟨a0, a1, az⟩ hB8
  replace HC := bt HC hB8
  clear a0 a1 az hB8
  obtain ⟨a0, a1, az⟩ := TA
  go_wp2_with fail
  refine (has_any _ _ _ (by assumption) (by assumption) _).mono ?_
  rintro e w9 ⟨rfl, hB9⟩
  replace HC := bt HC hB9
  clear a0 a1 az hB9
  go_wp2
  go_ret
  exact ⟨rfl, HC⟩
set_option maxRecDepth 4000 in
set_option maxHeartbeats 4000000 in
theorem spans_4 (h : Int) (a b c d x : Nat) (ha : W64 a) (hb : W64 b) (hc : W64 c) (hd : W64 d) (h1 : spB a b = true) (l1 : leB a x = true) (t1 : (FloatKind.f64.format.order a x == some Ordering.lt || FloatKind.f64.format.order a x == some Ordering.eq) = true) (l2 : leB x b = true) (t2 : (FloatKind.f64.format.order x b == some Ordering.lt || FloatKind.f64.format.order x b == some Ordering.eq) = true) (w : World) : Calls Try.prog 3 #[.agg #[.float .f64 a, .float .f64 b], .agg #[.float .f64 c, .float .f64 d], .int .u8 h, .float .f64 x] w fun e w' => e = .returned (.bool true) ∧ Below w.heap.size w w' := by
  go_enter Try.func3, Try.ntmps3
  go_wp2_with fail
  refine (encloses_any _).mono ?_
  rintro e w1 ⟨rfl, hB1⟩
  have TA := ((Two.new w a b 24).alloc _).below hB1
  have TC := (Two.new (w.alloc (.cells #[.float .f64 a, .float .f64 b] 24)) c d 24).below hB1
  have HC := bt (((Below.refl _ _).alloc (Nat.le_refl _) _).alloc (by simp) _) hB1
  rw [show (w.alloc (.cells #[.float .f64 a, .float .f64 b] 24)).heap.size = w.heap.size + 1 by simp] at TC
  obtain ⟨a0, a1, az⟩ := TA
  obtain ⟨c0, c1, cz⟩ := TC
  clear hB1
  go_wp2_with fail
  refine (join_any _ _ _ _ _ (by assumption) (by assumption) (by assumption) (by assumption) _).mono ?_
  rintro e w2 ⟨u, v, ok, rfl, ho, hB2⟩
  replace TA := Two.below ⟨a0, a1, az⟩ hB2
  replace TC := Two.below ⟨c0, c1, cz⟩ hB2
  replace HC := bt HC hB2
  clear a0 a1 az c0 c1 cz hB2
  have HO := hid ho
  clear ho
  obtain ⟨a0, a1, az⟩ := TA
  obtain ⟨c0, c1, cz⟩ := TC
  go_wp2_with fail
  refine (joinOf_any _ _ _ _ _ (by assumption) (by assumption) (by assumption) (by assumption) _).mono ?_
  rintro e w3 ⟨u', v', ok', rfl, ho, hB3⟩
  obtain ⟨rfl, s1, s2⟩ := out_same HO.out ho
  have HK := hid (fun w => sameSpan_any u v u' v' (out_nn HO.out).1 (out_nn HO.out).2 (out_nn ho).1 (out_nn ho).2 s1 s2 w)
  replace TA := (Two.alloc ⟨a0, a1, az⟩ _).below hB3
  have TS := (Two.new w2 u v 24).below hB3
  replace HC := bt (HC.alloc HC.size _) hB3
  clear a0 a1 az c0 c1 cz hB3 HO ho s1 s2
  obtain ⟨a0, a1, az⟩ := TA
  obtain ⟨s0, s1, sz⟩ := TS
  go_wp2_with fail
  refine (HK.out _).mono ?_
  rintro e w4 ⟨rfl, hB4⟩
  replace TA := (Two.alloc ⟨a0, a1, az⟩ _).below hB4
  replace HC := bt (HC.alloc HC.size _) hB4
  clear a0 a1 az s0 s1 sz hB4 HK
  obtain ⟨a0, a1, az⟩ := TA
  go_wp2_with fail
  refine (rooted_any _ _ (by assumption) (by assumption) _).mono ?_
  rintro e w5 ⟨m, n, was, rfl, ho, hB5⟩
  have HO := hid ho
  clear ho
  replace TA := Two.below ⟨a0, a1, az⟩ hB5
  replace HC := bt HC hB5
  clear a0 a1 az hB5
  obtain ⟨a0, a1, az⟩ := TA
  go_wp2_with fail
  refine (rootedOf_any _ _ (by assumption) (by assumption) _).mono ?_
  rintro e w6 ⟨m', n', was', rfl, ho, hB6⟩
  obtain ⟨rfl, s1, s2⟩ := out_same HO.out ho
  have HK := hid (fun w => sameSpan_any m n m' n' (out_nn HO.out).1 (out_nn HO.out).2 (out_nn ho).1 (out_nn ho).2 s1 s2 w)
  replace TA := (Two.alloc ⟨a0, a1, az⟩ _).below hB6
  have TS := (Two.new w5 m n 24).below hB6
  replace HC := bt (HC.alloc HC.size _) hB6
  clear a0 a1 az hB6 HO ho s1 s2
  obtain ⟨a0, a1, az⟩ := TA
  obtain ⟨s0, s1, sz⟩ := TS
  go_wp2_with fail
  refine (HK.out _).mono ?_
  rintro e w7 ⟨rfl, hB7⟩
  replace TA := (Two.alloc ⟨a0, a1, az⟩ _).below hB7
  replace HC := bt (HC.alloc HC.size _) hB7
  clear a0 a1 az s0 s1 sz hB7 HK
  obtain ⟨a0, a1, az⟩ := TA
  go_wp2_with fail
  refine (isSpan_any _ _ (by assumption) (by assumption) _).mono ?_
  rintro e w8 ⟨rfl, hB8⟩
  replace TA := Two.below ⟨a0, a1, az⟩ hB8
  replace HC := bt HC hB8
  clear a0 a1 az hB8
  obtain ⟨a0, a1, az⟩ := TA
  go_wp2_with fail
  refine (has_any _ _ _ (by assumption) (by assumption) _).mono ?_
  rintro e w9 ⟨rfl, hB9⟩
  replace HC := bt HC hB9
  clear a0 a1 az hB9
  go_wp2
  go_ret
  exact ⟨rfl, HC⟩
theorem spans_walk (h : Int) (a b c d x : Nat) (ha : W64 a) (hb : W64 b) (hc : W64 c) (hd : W64 d) (w : World) : Calls Try.prog 3 #[.agg #[.float .f64 a, .float .f64 b], .agg #[.float .f64 c, .float .f64 d], .int .u8 h, .float .f64 x] w fun e w' => e = .returned (.bool true) ∧ Below w.heap.size w w' := by
  cases h1 : spB a b with
  | false => exact spans_1 h a b c d x ha hb hc hd h1 w
  | true =>
    cases l1 : leB a x with
    | false => exact spans_2 h a b c d x ha hb hc hd h1 l1 l1 w
    | true =>
      cases l2 : leB x b with
      | false => exact spans_3 h a b c d x ha hb hc hd h1 l1 l1 l2 l2 w
      | true => exact spans_4 h a b c d x ha hb hc hd h1 l1 l1 l2 l2 w
end Go.Proofs.Ytcbiigmnldcggaa
