/- GrainFunctions is true: for every number x it returns true and changes nothing that was there. -/
import Derived.Test.YtmiamfnnccjmeabExpOf
import Derived.Test.YtmiamfnnccjmeabRows
import Derived.ProofKit
import Derived.OpenShut
namespace Go.Proofs.Ytmiamfnnccjmeab
open Go.ChangeShapes Go.WideShapes Go.ChangeAt Go.RowKit FB

theorem own : ownKnob Try.prog.godebug = none := by kernel_rfl
theorem wf_lt {b : Nat} (h : (Lit.float .f64 b).wf = true) : b < 18446744073709551616 := by simpa [Lit.wf] using h

theorem same_got {o : Option Nat} {r s : Nat} (hr : Got o r) (hs : Got o s) (w : World) : Calls Try.prog 8 #[.float .f64 r, .float .f64 s] w fun e w' => e = .returned (.bool true) ∧ w' = w := by
  cases o with
  | none => exact same_nan r s hr hs w
  | some q =>
    obtain rfl : r = q := hr
    obtain rfl : s = r := hs
    cases h : Ieee.double.read s with
    | number t m e => exact same_num s s ⟨t, m, e, h⟩ (order_self ⟨t, m, e, h⟩) w
    | infinity t => exact same_inf s t h w
    | nan t f => exact same_nan s s ⟨t, f, h⟩ ⟨t, f, h⟩ w
theorem bt {a b c : World} (h : Below a.heap.size a b) (k : Below b.heap.size b c) : Below a.heap.size a c := h.trans (k.mono h.size)

/-- The logarithm of 1 is 0, the power of 0 is 1. -/
theorem ln_one_val : Ieee.double.order (lnV (lnM oneF) (lnK oneF)) 0 = some .eq := by decide +kernel
theorem ln_one (w : World) : Calls Try.prog 6 #[.float .f64 4607182418800017408] w fun e w' => ∃ r, e = .returned (.float .f64 r) ∧ (FloatKind.f64.format.order r 0 != some Ordering.eq) = false ∧ Below w.heap.size w w' := by
  refine (ln_pos 4607182418800017408 (by decide) (by decide) w).mono fun e w' h => ⟨_, h.1, ?_, h.2⟩
  show (Ieee.double.order (lnV (lnM oneF) (lnK oneF)) 0 != _) = _
  rw [ln_one_val]; rfl
theorem exp_zero_p : eP 0 = 4607182418800017408 ∧ eN 0 = 0 := by decide +kernel
set_option maxHeartbeats 1000000 in
theorem ldexp_one' (w : World) : Calls Try.prog 45 #[.float .f64 4607182418800017408, .int .i64 0] w fun e w' => e = .returned (.float .f64 4607182418800017408) ∧ w' = w := by
  have hz : (FloatKind.f64.format.order 4607182418800017408 0 == some Ordering.eq) = false := by decide +kernel
  have HI := hid (fun w => isInf_any 4607182418800017408 (by decide) false (by decide +kernel) w)
  have HJ := hid (fun w => isNaN_any 4607182418800017408 false (by decide +kernel) w)
  have HN := hid (fun w => norm_big 4607182418800017408 (by decide) (by decide) w)
  have hb : ∀ w, (callFunc 46 #[.float .f64 4607182418800017408]).run Try.prog w = .ok (.value (.int .u64 4607182418800017408)) w := fun w => call_bits 4607182418800017408 w
  have hf : ∀ w, (callFunc 39 #[.int .u64 4607182418800017408]).run Try.prog w = .ok (.value (.float .f64 4607182418800017408)) w := fun w => call_from 4607182418800017408 w
  have m1 : bits .and .i64 1023 2047 = 1023 := by decide +kernel
  have m2 : bits .andNot .u64 4607182418800017408 9218868437227405312 = 0 := by decide +kernel
  have m3 : bits .or .u64 0 4607182418800017408 = 4607182418800017408 := by decide +kernel
  have hmm := fun w => hmul (show Ieee.double.mul 4607182418800017408 4607182418800017408 = some 4607182418800017408 by decide +kernel) w
  go_enter Try.func45, Try.ntmps45
  go_wp2_with fail
  refine (HI.out _).mono ?_
  rintro e w1 ⟨rfl, rfl⟩
  go_wp2_with fail
  refine (HJ.out _).mono ?_
  rintro e w2 ⟨rfl, rfl⟩
  go_wp2_with fail
  refine (HN.out _).mono ?_
  rintro e w3 ⟨rfl, rfl⟩
  go_wp2
  go_ret
  exact ⟨rfl, rfl⟩
theorem ldexp_one (w : World) : Calls Try.prog 29 #[.float .f64 4607182418800017408, .int .i64 0] w fun e w' => e = .returned (.float .f64 4607182418800017408) ∧ w' = w := by
  go_enter Try.func29, Try.ntmps29
  go_wp2_with (go_at_call 45; refine (ldexp_one' _).mono ?_; rintro e w' ⟨rfl, rfl⟩)
  go_ret
  exact ⟨rfl, rfl⟩
theorem exp_zero (w : World) : Calls Try.prog 7 #[.float .f64 0] w fun e w' => e = .returned (.float .f64 4607182418800017408) ∧ Below w.heap.size w w' := by
  have hO := exp_ok 0 ⟨by decide, by decide⟩
  refine exp_mid 0 4607182418800017408 hO ?_ (by decide +kernel) (by decide +kernel) (by decide +kernel) w
  rw [exp_zero_p.1, exp_zero_p.2]
  exact ldexp_one

set_option maxHeartbeats 1000000 in
theorem func_walk (x : Nat) (hx : x < 18446744073709551616) (w : World) :
    Calls Try.prog 3 #[.float .f64 x] w fun e w' => e = .returned (.bool true) ∧ Below w.heap.size w w' := by
  obtain ⟨o, hE⟩ := exp_any x hx
  have HE := hid hE
  have HL := hid (fun w => ln_any x hx w)
  have hone : (FloatKind.f64.format.order 4607182418800017408 4607182418800017408 != some Ordering.eq) = false := by decide +kernel
  clear hE
  go_enter Try.func3, Try.ntmps3
  go_wp2_with fail
  refine (ln_one _).mono ?_
  rintro e w1 ⟨r1, rfl, h1, hb1⟩
  go_wp2_with fail
  refine (exp_zero _).mono ?_
  rintro e w2 ⟨rfl, hb2⟩
  go_wp2_with fail
  refine (HL.out _).1.mono ?_
  rintro e w3 ⟨r3, rfl, hg3, hb3⟩
  go_wp2_with fail
  refine (HL.out _).2.mono ?_
  rintro e w4 ⟨r4, rfl, hg4, hb4⟩
  have HS := hid (fun w => same_got hg3 hg4 w)
  go_wp2_with fail
  refine (HS.out _).mono ?_
  rintro e w5 ⟨rfl, rfl⟩
  go_wp2_with fail
  refine (HE.out _).1.mono ?_
  rintro e w6 ⟨r6, rfl, hg6, hb6⟩
  go_wp2_with fail
  refine (HE.out _).2.mono ?_
  rintro e w7 ⟨r7, rfl, hg7, hb7⟩
  have HT := hid (fun w => same_got hg6 hg7 w)
  go_wp2_with fail
  refine (HT.out _).mono ?_
  rintro e w8 ⟨rfl, rfl⟩
  go_wp2
  go_ret
  exact ⟨rfl, bt (bt (bt (bt (bt hb1 hb2) hb3) hb4) hb6) hb7⟩

set_option maxRecDepth 100000 in
theorem func_lifted (os : Os) (started : os.Started) (H : Type) (enc : TypeId × Value → H) :
    ReturnsInHanded {} Try.checked os 3 .any (Rows.grainFunctionsSpec.pre6 enc Try.prog Try.f3 Rows.grainFunctionsRow.domain false) (Rows.grainFunctionsSpec.post enc Try.prog Try.f3 false true false false) := by
  refine returnsInHanded_of_change (C := Try.checked) own started (by kernel_rfl) Try.func3
    (ChangeSpec.witness6 (enc := enc) (C := Try.checked) false ⟨#[], #[.float .f64 0], []⟩ 8 (by kernel_rfl) (by kernel_rfl) (by kernel_rfl) (by kernel_rfl)) ?_
  intro W base args ds gs before hval0 hW hcnd _
  have hval : ∀ (j : Nat) t v, Try.f3.params[j]? = some t → args[j]? = some v → Value.okWide Try.prog W .any base t v := hval0
  have hW' := hW
  obtain ⟨p, q, hA0, hV, rfl, hfz, hnd⟩ := hW
  have hA : DataW.TrodAll enc Try.prog W 0 (fun _ => true) true Try.f3.params.toList args.toList ds p := hA0
  rw [Try.params3] at hA hval
  obtain ⟨v0, vs0, d0, ds0, p0, q0, hargs, rfl, rfl, h0, r0⟩ := trodAll_cons hA
  obtain ⟨rfl, rfl, rfl⟩ := trodAll_nil r0
  obtain rfl : args = #[v0] := by cases args; simp_all
  obtain ⟨rfl, rfl⟩ := trodVars_none hV
  obtain ⟨a0, rfl, rfl, rfl, w0⟩ := open_float Try.underlying22 (hval 0 22 v0 rfl rfl) h0
  clear hA0 hval0
  simp only [List.append_nil] at hW'
  refine (func_walk a0 (wf_lt w0) W).mono fun e W' ⟨he, hb⟩ => ?_
  subst he
  refine ⟨_, rfl, _, _, _, [], [], [], hW', ?_, ?_, ?_, hb.frame _, fun h => by cases h⟩
  · exact trodAll_cons_mk (shut_bool Try.underlying4 _) trodAll_mk0
  · exact trodAll_cons_mk (shut_float Try.underlying22 w0) trodAll_mk0
  · rfl

theorem func_said : Rows.GrainFunctionsSaid :=
  OpenClaim.holds_of_wide 3 Try.f3 rfl rfl rfl rfl rfl rfl rfl ⟨rfl, rfl, rfl, rfl, rfl⟩ rfl rfl rfl rfl rfl (by kernel_rfl) Try.func3 (by kernel_rfl)
    (of_decide_eq_true (by kernel_rfl)) (by unfold Func.isWrapper; first | (rw [if_pos (by decide +kernel)]; kernel_rfl) | (rw [if_neg (by decide +kernel)]; exact ⟨rfl, rfl⟩))
    (fun os started H enc _ => func_lifted os started H enc)
end Go.Proofs.Ytmiamfnnccjmeab
