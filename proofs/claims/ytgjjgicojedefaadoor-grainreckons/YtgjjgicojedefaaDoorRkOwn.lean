/- GrainReckons is true: for every two fractions, called in any memory in which the program's own start-up text has laid its errors, it returns true and changes nothing that was there. -/
import Derived.Test.YtgjjgicojedefaaDoorRkI
import Derived.Test.YtgjjgicojedefaaDoorLaidAll
import Derived.Test.YtgjjgicojedefaaDoorCards
import Derived.Test.YtgjjgicojedefaaDoorTie
import Derived.OpenShut
import Derived.Stop.Joined
import Derived.SevenTiedAt
import Derived.Lib.SmallJoins
namespace Go.Proofs.YtgjjgicojedefaaDoor
open Go.ChangeShapes Go.WideShapes Go.ChangeAt Go.RowKit Go.Joins

theorem wf_i64 {n : Int} (h : (Lit.int .i64 n).wf = true) : I64 n := by
  have h' : decide (IntKind.i64.min ≤ n) = true ∧ decide (n ≤ IntKind.i64.max) = true := by simpa [Lit.wf, Bool.and_eq_true] using h
  have e1 : IntKind.i64.min = -9223372036854775808 := by decide +kernel
  have e2 : IntKind.i64.max = 9223372036854775807 := by decide +kernel
  rw [e1, e2] at h'
  exact ⟨of_decide_eq_true h'.1, of_decide_eq_true h'.2⟩
theorem cellsFrac : Tryd.prog.cellsOf 29 = 2 := by kernel_rfl
/-- The door's own heap meets the condition. -/
theorem rk_met (os : Os) (args : Array Value) : laidMetH Tryd.prog Rows.grainReckonsRow.laid ((World.doorLaid Tryd.prog 183 os).forCall (fun _ _ => 0) ⟨#[], args, []⟩).memory :=
  laidMetH_of_parts3 (fuel := 8) (laidMet_of_run' 8 (by kernel_rfl) (by kernel_rfl)) (by kernel_rfl) (by kernel_rfl)

theorem rk_laid {W : World} (h : laidMetH Tryd.prog Rows.grainReckonsRow.laid W) : ∃ a, Laid W a := by
  have h' : laidMet Tryd.prog (eightNames.map fun x => (x.1, sentData x.2.1)) W ∧ handlesMet Tryd.prog [("errors.errorType", Rows.laid_errors_errorType)] W := h
  exact laid_of h'.1 (handle_of h'.2 (List.mem_singleton.2 rfl))

set_option maxRecDepth 100000 in
theorem rk_lifted (os : Os) (started : os.Started) (H : Type) (enc : TypeId × Value → H) :
    ReturnsInHanded {} Tryd.checked os 5 .any (fun w args => (Rows.grainReckonsSpec.pre enc Tryd.prog Tryd.f5 [] false w args ∧ laidMetH Tryd.prog Rows.grainReckonsRow.laid w) ∧ sizedMet enc Tryd.prog Tryd.f5 (OpenSpec.ofChange Rows.grainReckonsSpec) false w args)
      (Rows.grainReckonsSpec.post enc Tryd.prog Tryd.f5 false true false false) := by
  refine returnsInHanded_of_change_and (C := Tryd.checked) (X := fun w _ => laidMetH Tryd.prog Rows.grainReckonsRow.laid w) (fun _ _ _ hh h => h.of_heap hh) own started (by kernel_rfl) Tryd.func5
    (ChangeSpec.witness_shaped (enc := enc) (C := Tryd.checked) (os := os) (X := fun w _ => laidMetH Tryd.prog Rows.grainReckonsRow.laid w) false (World.doorLaid Tryd.prog 183 os) #[.agg #[.int .i64 0, .int .i64 0], .agg #[.int .i64 0, .int .i64 0]] 8 rfl (World.shaped_of_RefB (by kernel_rfl) (by kernel_rfl)) (by kernel_rfl) (by kernel_rfl) (by kernel_rfl) (rk_met os _)) ?_
  intro W base args ds gs before hval0 hW _ _ hL _
  have hval : ∀ (j : Nat) t v, Tryd.f5.params[j]? = some t → args[j]? = some v → Value.okWide Tryd.prog W .any base t v := hval0
  have hW' := hW
  obtain ⟨p, q, hA0, hV, rfl, hfz, hnd⟩ := hW
  have hA : DataW.TrodAll enc Tryd.prog W 0 (fun _ => true) true Tryd.f5.params.toList args.toList ds p := hA0
  rw [Tryd.params5] at hA hval
  obtain ⟨v0, v1, d0, d1, p0, p1, hargs, rfl, rfl, h0, h1⟩ := trodAll_two hA
  obtain rfl : args = #[v0, v1] := by cases args; simp_all
  obtain ⟨rfl, rfl⟩ := trodVars_none hV
  obtain ⟨g, hl⟩ := rk_laid hL
  obtain ⟨c2, c3, y2, y3, m', rfl, rfl, rfl, hy2, hy3⟩ := open_agg2 Tryd.underlying29 (by kernel_rfl) cellsFrac (hval 0 29 v0 rfl rfl) h0
  obtain ⟨p, e2, rfl, wp⟩ := DataW.trod_int Tryd.underlying3 hy2
  obtain ⟨q, e3, rfl, wq⟩ := DataW.trod_int Tryd.underlying3 hy3
  simp at e2 e3
  subst e2 e3
  obtain ⟨c4, c5, y4, y5, m2, rfl, rfl, rfl, hy4, hy5⟩ := open_agg2 Tryd.underlying29 (by kernel_rfl) cellsFrac (hval 1 29 v1 rfl rfl) h1
  obtain ⟨r, e4, rfl, wr⟩ := DataW.trod_int Tryd.underlying3 hy4
  obtain ⟨s, e5, rfl, ws⟩ := DataW.trod_int Tryd.underlying3 hy5
  simp at e4 e5
  subst e4 e5
  clear hA0 hval0
  simp only [List.append_nil] at hW'
  have reads : ∀ (W' : World) (sp : Nat → Bool) (x y : Int), (Lit.int .i64 x).wf = true → (Lit.int .i64 y).wf = true → DataW.Trod enc Tryd.prog W' 0 sp true 29 (.agg #[.int .i64 x, .int .i64 y]) (.agg [.lit (.int .i64 x), .lit (.int .i64 y)]) [] := fun W' sp x y hx hy =>
    shut_agg2 (y0 := (.lit (.int .i64 x), [])) (y1 := (.lit (.int .i64 y), [])) Tryd.underlying29 (by kernel_rfl) cellsFrac ⟨1, by simp [DataW.trod, Tryd.underlying3, hx]⟩ ⟨1, by simp [DataW.trod, Tryd.underlying3, hy]⟩
  refine (rk_walk g p q r s (wf_i64 wp) (wf_i64 wr) W hl).mono fun e W' ⟨he, hb⟩ => ?_
  subst he
  refine ⟨_, rfl, _, _, _, [], [], [], hW', ?_, ?_, ?_, hb.frame _, fun h => by cases h⟩
  · exact trodAll_cons_mk (shut_bool Tryd.underlying4 _) trodAll_mk0
  · exact trodAll_cons_mk (reads _ _ p q wp wq) (trodAll_cons_mk (reads _ _ r s wr ws) trodAll_mk0)
  · rfl

theorem rk_said : Rows.GrainReckonsSaid :=
  OpenClaim.holds_of_wide 5 Tryd.f5 rfl rfl rfl rfl rfl rfl rfl ⟨rfl, rfl, rfl, rfl, rfl⟩ rfl rfl rfl rfl rfl (by kernel_rfl) Tryd.func5 (by kernel_rfl)
    (of_decide_eq_true (by kernel_rfl)) (by unfold Func.isWrapper; first | (rw [if_pos (by decide +kernel)]; kernel_rfl) | (rw [if_neg (by decide +kernel)]; exact ⟨rfl, rfl⟩))
    (fun os started H enc _ => rk_lifted os started H enc)

theorem rk_plain (f : FuncId) (fn : Func) (hf : Tryd.pinned.checked.prog.funcNamed "mercator/mercatorlaw1.GrainReckons" = some f) (hfn : Tryd.pinned.checked.prog.funcs[f]? = some fn) :
    true = Tryd.pinned.checked.prog.looks [] ∧ ∀ (j : Nat) t, fn.params[j]? = some t → Tryd.pinned.checked.prog.wantsStandIn t = false := by
  obtain rfl : f = 5 := Option.some.inj ((show Tryd.prog.funcNamed "mercator/mercatorlaw1.GrainReckons" = some 5 by kernel_rfl).symm.trans hf) |>.symm
  obtain rfl : fn = Tryd.f5 := (Option.some.inj (Tryd.func5.symm.trans hfn)).symm
  refine ⟨by kernel_rfl, fun j t ht => ?_⟩
  rw [Tryd.params5] at ht
  have hm := List.mem_of_getElem? (by simpa using ht)
  have hall : (([29, 29] : List Nat).all fun t => !(Tryd.prog.wantsStandIn t)) = true := by kernel_rfl
  have := List.all_eq_true.1 hall t hm
  have h2 : Tryd.prog.wantsStandIn t = false := by simpa using this
  exact h2

theorem rk_card : Rows.GrainReckonsCardSaid :=
  Claim7.holds_tied_plain_at .later [] _ _ _ _ rk_said (fun _ h => by cases h) (by kernel_rfl) (fun _ h => by cases h) grainReckons_row_tie rfl ⟨rfl, rfl⟩ (by kernel_rfl) rfl rk_plain (by kernel_rfl)
end Go.Proofs.YtgjjgicojedefaaDoor
