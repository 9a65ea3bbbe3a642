/- WaveFrom is true: for every strip and every point, called in any memory in which the program's own start-up text has laid its errors, it returns true and changes nothing that was there. -/
import Derived.Test.YtinopkmcddjgdaaGreatDoorQWvV
import Derived.Test.YtinopkmcddjgdaaGreatDoorQWvT
import Derived.Test.YtinopkmcddjgdaaGreatDoorQLaidAll
import Derived.Test.YtinopkmcddjgdaaGreatDoorCards
import Derived.Test.YtinopkmcddjgdaaGreatDoorTie
import Derived.OpenShut
import Derived.Stop.Joined
import Derived.SevenTiedAt
import Derived.Lib.SmallJoins
namespace Go.Proofs.YtinopkmcddjgdaaGreatDoor
open Go.ChangeShapes Go.WideShapes Go.ChangeAt Go.RowKit Go.Joins FB

theorem cellsFlat : Tryz.prog.cellsOf 40 = 2 := by kernel_rfl
/-- The door's own heap meets the condition. -/
theorem wf_met (os : Os) (args : Array Value) : laidMetH Tryz.prog Rows.waveFromRow.laid ((World.doorLaid Tryz.prog 168 os).forCall (fun _ _ => 0) ⟨#[], args, []⟩).memory :=
  laidMetH_of_parts3 (fuel := 8) (laidMet_of_run' 8 (by kernel_rfl) (by kernel_rfl)) (by kernel_rfl) (by kernel_rfl)

theorem wf_laid {W : World} (h : laidMetH Tryz.prog Rows.waveFromRow.laid W) : ∃ a, Laid W a := by
  have h' : laidMet Tryz.prog (eightNames.map fun x => (x.1, sentData x.2.1)) W ∧ handlesMet Tryz.prog [("errors.errorType", Rows.laid_errors_errorType)] W := h
  exact laid_of h'.1 (handle_of h'.2 (List.mem_singleton.2 rfl))

set_option maxRecDepth 100000 in
theorem wf_lifted (os : Os) (started : os.Started) (H : Type) (enc : TypeId × Value → H) :
    ReturnsInHanded {} Tryz.checked os 4 .any (fun w args => (Rows.waveFromSpec.pre enc Tryz.prog Tryz.f4 [] false w args ∧ laidMetH Tryz.prog Rows.waveFromRow.laid w) ∧ sizedMet enc Tryz.prog Tryz.f4 (OpenSpec.ofChange Rows.waveFromSpec) false w args)
      (Rows.waveFromSpec.post enc Tryz.prog Tryz.f4 false true false false) := by
  refine returnsInHanded_of_change_and (C := Tryz.checked) (X := fun w _ => laidMetH Tryz.prog Rows.waveFromRow.laid w) (fun _ _ _ hh h => h.of_heap hh) own started (by kernel_rfl) Tryz.func4
    (ChangeSpec.witness_shaped (enc := enc) (C := Tryz.checked) (os := os) (X := fun w _ => laidMetH Tryz.prog Rows.waveFromRow.laid w) false (World.doorLaid Tryz.prog 168 os) #[.agg #[.float .f64 0, .float .f64 0, .int .i64 0, .float .f64 0], .agg #[.float .f64 0, .float .f64 0]] 8 rfl (World.shaped_of_RefB (by kernel_rfl) (by kernel_rfl)) (by kernel_rfl) (by kernel_rfl) (by kernel_rfl) (wf_met os _)) ?_
  intro W base args ds gs before hval0 hW _ _ hL _
  have hval : ∀ (j : Nat) t v, Tryz.f4.params[j]? = some t → args[j]? = some v → Value.okWide Tryz.prog W .any base t v := hval0
  have hW' := hW
  obtain ⟨p, q, hA0, hV, rfl, hfz, hnd⟩ := hW
  have hA : DataW.TrodAll enc Tryz.prog W 0 (fun _ => true) true Tryz.f4.params.toList args.toList ds p := hA0
  rw [Tryz.params4] at hA hval
  obtain ⟨v0, v1, d0, d1, p0, p1, hargs, rfl, rfl, h0, h1⟩ := trodAll_two hA
  obtain rfl : args = #[v0, v1] := by cases args; simp_all
  obtain ⟨rfl, rfl⟩ := trodVars_none hV
  obtain ⟨g, hl⟩ := wf_laid hL
  obtain ⟨a, f, mid, m, rfl, rfl, rfl, wa, wf, wm, ws⟩ := open_strip (hval 0 26 v0 rfl rfl) h0
  obtain ⟨c2, c3, y2, y3, n', rfl, rfl, rfl, hy2, hy3⟩ := open_agg2 Tryz.underlying40 (by kernel_rfl) cellsFlat (hval 1 40 v1 rfl rfl) h1
  obtain ⟨x, e2, rfl, wx⟩ := trodF Tryz.underlying22 hy2
  obtain ⟨y, e3, rfl, wy⟩ := trodF Tryz.underlying22 hy3
  simp at e2 e3
  subst e2 e3
  clear hA0 hval0
  simp only [List.append_nil] at hW'
  have readsP : ∀ (W' : World) (sp : Nat → Bool), DataW.Trod enc Tryz.prog W' 0 sp true 40 (.agg #[.float .f64 x, .float .f64 y]) (.agg [.lit (.float .f64 x), .lit (.float .f64 y)]) [] := fun W' sp =>
    shut_agg2 (y0 := (.lit (.float .f64 x), [])) (y1 := (.lit (.float .f64 y), [])) Tryz.underlying40 (by kernel_rfl) cellsFlat ⟨1, by simp [DataW.trod, Tryz.underlying22, wx]⟩ ⟨1, by simp [DataW.trod, Tryz.underlying22, wy]⟩
  refine (waveFrom_walk g a f m x y mid (wf_lt wa) (wf_lt wf) W hl).mono fun e W' ⟨he, hb⟩ => ?_
  subst he
  refine ⟨_, rfl, _, _, _, [], [], [], hW', ?_, ?_, ?_, hb.out.frame _, fun h => by cases h⟩
  · exact trodAll_cons_mk (shut_bool Tryz.underlying4 _) trodAll_mk0
  · exact trodAll_cons_mk (shut_strip wa wf wm ws) (trodAll_cons_mk (readsP _ _) trodAll_mk0)
  · rfl

theorem wf_said : Rows.WaveFromSaid :=
  OpenClaim.holds_of_wide 4 Tryz.f4 rfl rfl rfl rfl rfl rfl rfl ⟨rfl, rfl, rfl, rfl, rfl⟩ rfl rfl rfl rfl rfl (by kernel_rfl) Tryz.func4 (by kernel_rfl)
    (of_decide_eq_true (by kernel_rfl)) (by unfold Func.isWrapper; first | (rw [if_pos (by decide +kernel)]; kernel_rfl) | (rw [if_neg (by decide +kernel)]; exact ⟨rfl, rfl⟩))
    (fun os started H enc _ => wf_lifted os started H enc)

theorem wf_plain (f : FuncId) (fn : Func) (hf : Tryz.pinned.checked.prog.funcNamed "mercator/mercatorlaw2.WaveFrom" = some f) (hfn : Tryz.pinned.checked.prog.funcs[f]? = some fn) :
    true = Tryz.pinned.checked.prog.looks [] ∧ ∀ (j : Nat) t, fn.params[j]? = some t → Tryz.pinned.checked.prog.wantsStandIn t = false := by
  obtain rfl : f = 4 := Option.some.inj ((show Tryz.prog.funcNamed "mercator/mercatorlaw2.WaveFrom" = some 4 by kernel_rfl).symm.trans hf) |>.symm
  obtain rfl : fn = Tryz.f4 := (Option.some.inj (Tryz.func4.symm.trans hfn)).symm
  refine ⟨by kernel_rfl, fun j t ht => ?_⟩
  rw [Tryz.params4] at ht
  have hm := List.mem_of_getElem? (by simpa using ht)
  have hall : (([26, 40] : List Nat).all fun t => !(Tryz.prog.wantsStandIn t)) = true := by kernel_rfl
  have := List.all_eq_true.1 hall t hm
  have h2 : Tryz.prog.wantsStandIn t = false := by simpa using this
  exact h2

theorem wf_card : Rows.WaveFromCardSaid :=
  Claim7.holds_tied_plain_at .later [] _ _ _ _ wf_said (fun _ h => by cases h) (by kernel_rfl) (fun _ h => by cases h) waveFrom_row_tie rfl ⟨rfl, rfl⟩ (by kernel_rfl) rfl wf_plain (by kernel_rfl)
end Go.Proofs.YtinopkmcddjgdaaGreatDoor
