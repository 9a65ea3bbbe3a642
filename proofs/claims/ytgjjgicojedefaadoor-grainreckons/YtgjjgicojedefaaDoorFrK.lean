/-
  GrainMakes: the law's walk.
-/
import Derived.Test.YtgjjgicojedefaaDoorFrJ
namespace Go.Proofs.YtgjjgicojedefaaDoor
open Go.RowKit BG
attribute [local go_sem ↓] Go.wp_at_zero Go.wp_at_succ

/-- A number of 64 bits. -/
def I64 (n : Int) : Prop := -9223372036854775808 ≤ n ∧ n ≤ 9223372036854775807
abbrev fa (p q : Int) : Value := .agg #[.int .i64 p, .int .i64 q]
abbrev fz : Obj := .cells #[.int .i64 0, .int .i64 0] 29
abbrev fc (p q : Int) : Obj := .cells #[.int .i64 p, .int .i64 q] 29
theorem i64_lt {n : Int} (h : I64 n) (k : n != -9223372036854775808) : -9223372036854775808 < n := by
  obtain ⟨h1, h2⟩ := h
  have k' : n ≠ -9223372036854775808 := by simpa using k
  omega
theorem i64_lid {n : Int} (h : -9223372036854775808 < n) (k : n ≤ 9223372036854775807) : n.natAbs ≤ 2 * lid := Nat.le_trans (show n.natAbs ≤ 9223372036854775808 by omega) (by decide +kernel)
theorem gm_least (n d p q r s : Int) (h : n = -9223372036854775808 ∨ d = -9223372036854775808) (w : World) : Calls Tryd.prog 4 #[.int .i64 n, .int .i64 d, fa p q, fa r s] w fun e w' => e = .returned (.bool true) ∧ Below w.heap.size w w' := by
  have HM := hidb makes_any
  have HN := hidb (fun w => small_any n w)
  have HD := hidb (fun w => small_any d w)
  have hb : (n != -9223372036854775808 && d != -9223372036854775808) = false := by
    rcases h with rfl | rfl <;> simp
  clear h
  generalize (n != -9223372036854775808) = bn at *
  generalize (d != -9223372036854775808) = bd at *
  go_enter Tryd.func4, Tryd.ntmps4
  go_wp2_with fail
  refine (HM.out _).mono ?_
  rintro e w1 ⟨rfl, hB⟩
  have HC := Gr.step (((Gr.refl w).alloc (fc p q)).alloc (fc r s)) hB
  clear hB
  go_wp2_with fail
  refine (HN.out _).mono ?_
  rintro e w2 ⟨rfl, rfl⟩
  go_wp2_with fail
  refine (HD.out _).mono ?_
  rintro e w3 ⟨rfl, rfl⟩
  clear HM HN HD
  cases bn
  · cases bd
    · go_wp2
      go_ret
      exact ⟨rfl, HC⟩
    · go_wp2
      go_ret
      exact ⟨rfl, HC⟩
  · cases bd
    · go_wp2
      go_ret
      exact ⟨rfl, HC⟩
    · cases hb
set_option maxHeartbeats 1000000 in
theorem gm_zero (g : Nat → Addr) (n p q r s : Int) (hn : n != -9223372036854775808) (w : World) (hl : Laid w g) : Calls Tryd.prog 4 #[.int .i64 n, .int .i64 0, fa p q, fa r s] w fun e w' => e = .returned (.bool true) ∧ Below w.heap.size w w' := by
  have HM := hidb makes_any
  have HN := hidb (fun w => small_any n w)
  rw [hn] at HN
  have HD := hidb (fun w => small_any 0 w)
  have HZ := hidb (fun w hl => make_zero g n w hl)
  have H3 := hidb (fun w hl => coded_3 g w hl)
  go_enter Tryd.func4, Tryd.ntmps4
  go_wp2_with fail
  refine (HM.out _).mono ?_
  rintro e w1 ⟨rfl, hB⟩
  have HC := Gr.step (((Gr.refl w).alloc (fc p q)).alloc (fc r s)) hB
  clear hB
  go_wp2_with fail
  refine (HN.out _).mono ?_
  rintro e w2 ⟨rfl, rfl⟩
  go_wp2_with fail
  refine (HD.out _).mono ?_
  rintro e w3 ⟨rfl, rfl⟩
  clear HM HN HD
  go_wp2_with fail
  refine (HZ.out _ (hl.below HC.out)).mono ?_
  rintro e w4 ⟨rfl, hB⟩
  replace HC := Gr.step HC hB
  clear hB HZ
  go_wp2_with fail
  refine (H3.out _ (hl.below (HC.alloc _).out)).mono ?_
  rintro e w5 ⟨rfl, hB⟩
  replace HC := Gr.step (HC.alloc _) hB
  have FA := At.below hB (At.new2 w4 (.int .i64 0) (.int .i64 0) 29)
  clear hB H3
  obtain ⟨f0, f1⟩ := FA.c2
  go_wp2
  go_ret
  exact ⟨rfl, HC⟩
set_option maxHeartbeats 1000000 in
theorem gm_no (g : Nat → Addr) (n d p q r s : Int) (hn : I64 n) (hd : I64 d) (hn' : n != -9223372036854775808) (hd' : d != -9223372036854775808) (h0 : ¬ d = 0) (hf : ¬ fits (rn n.natAbs d.natAbs) (rd n.natAbs d.natAbs)) (w : World) (hl : Laid w g) : Calls Tryd.prog 4 #[.int .i64 n, .int .i64 d, fa p q, fa r s] w fun e w' => e = .returned (.bool true) ∧ Below w.heap.size w w' := by
  have HM := hidb makes_any
  have HN := hidb (fun w => small_any n w)
  rw [hn'] at HN
  have HD := hidb (fun w => small_any d w)
  rw [hd'] at HD
  have HZ := hidb (fun w hl => make_no g n d hn.1 hn.2 hd.1 hd.2 h0 hf w hl)
  have n1 := i64_lt hn hn'
  have d1 := i64_lt hd hd'
  have SN := hidb (fun w => signedOf_any n n1 hn.2 w)
  have SD := hidb (fun w => signedOf_any d d1 hd.2 w)
  have lx : n.natAbs ≤ 2 * lid := i64_lid n1 hn.2
  have ly : d.natAbs ≤ 2 * lid := i64_lid d1 hd.2
  have HR := hidb (fun w m k u v (a : Sg w m u n) (b : Sg w k v d) => reduced_no lx ly h0 a b hf)
  have H2 := hidb (fun w hl => coded_2 g w hl)
  clear lx ly hf hn hd hn' hd' n1 d1
  go_enter Tryd.func4, Tryd.ntmps4
  go_wp2_with fail
  refine (HM.out _).mono ?_
  rintro e w1 ⟨rfl, hB⟩
  have HC := Gr.step (((Gr.refl w).alloc (fc p q)).alloc (fc r s)) hB
  clear hB
  go_wp2_with fail
  refine (HN.out _).mono ?_
  rintro e w2 ⟨rfl, rfl⟩
  go_wp2_with fail
  refine (HD.out _).mono ?_
  rintro e w3 ⟨rfl, rfl⟩
  clear HM HN HD
  go_wp2_with fail
  refine (HZ.out _ (hl.below HC.out)).mono ?_
  rintro e w4 ⟨rfl, hB⟩
  replace HC := Gr.step HC hB
  clear hB HZ
  have FA := At.new2 w4 (.int .i64 0) (.int .i64 0) 29
  replace HC := HC.alloc fz
  go_wp2_with fail
  refine (SN.out _).mono ?_
  rintro e w5 ⟨m1, u1, rfl, s1, hB, _⟩
  replace HC := Gr.step HC hB
  replace FA := At.below hB FA
  clear hB SN
  have S1 := hidb s1
  clear s1
  go_wp2_with fail
  refine (SD.out _).mono ?_
  rintro e w6 ⟨m2, u2, rfl, s2, hB, _⟩
  replace HC := Gr.step HC hB
  replace FA := At.below hB FA
  replace S1 := hidb (S1.out.below hB)
  have S2 := hidb s2
  clear hB SD s2
  go_wp2_with fail
  refine (HR.out _ _ _ _ _ S1.out S2.out).mono ?_
  rintro e w7 ⟨rfl, hB⟩
  replace HC := Gr.step HC hB
  replace FA := At.below hB FA
  clear hB HR S1 S2
  go_wp2_with fail
  refine (H2.out _ (hl.below (HC.alloc _).out)).mono ?_
  rintro e w8 ⟨rfl, hB⟩
  replace FA := At.below hB (FA.alloc _)
  replace HC := Gr.step (HC.alloc _) hB
  clear hB H2
  obtain ⟨f0, f1⟩ := FA.c2
  go_wp2
  go_ret
  exact ⟨rfl, HC⟩
end Go.Proofs.YtgjjgicojedefaaDoor
