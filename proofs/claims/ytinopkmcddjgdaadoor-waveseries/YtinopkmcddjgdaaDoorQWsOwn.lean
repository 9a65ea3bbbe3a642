/- WaveSeries is true: for every globe, every angle and every number, called in any memory in which the program's own start-up text has laid its errors, it returns true and changes nothing that was there. -/
import Derived.Test.YtinopkmcddjgdaaDoorQWsB
import Derived.Test.YtinopkmcddjgdaaDoorQLaidAll
import Derived.Test.YtinopkmcddjgdaaDoorCards
import Derived.Test.YtinopkmcddjgdaaDoorTie
import Derived.OpenShut
import Derived.Stop.Joined
import Derived.SevenTiedAt
import Derived.Lib.SmallJoins
namespace Go.Proofs.YtinopkmcddjgdaaDoor
open Go.ChangeShapes Go.WideShapes Go.ChangeAt Go.RowKit Go.Joins FB

theorem wf_lt {b : Nat} (h : (Lit.float .f64 b).wf = true) : b < 18446744073709551616 := by simpa [Lit.wf] using h
section
variable {H : Type} {enc : TypeId × Value → H} {P : Program} {w : World} {base : Nat} {spare : Nat → Bool} {held : Bool}
theorem trodF {fuel : Nat} {t : TypeId} {cs : List Value} {x : DataW H × List MemPlace} {k : FloatKind} (ht : P.underlying t = some (.float k)) (h : DataW.trod enc P w base spare held fuel t cs = some x) : ∃ n, cs = [.float k n] ∧ x = (.lit (.float k n), []) ∧ (Lit.float k n).wf = true := by
  cases fuel with
  | zero => simp [DataW.trod] at h
  | succ n =>
    unfold DataW.trod at h
    rw [ht] at h
    split at h <;> simp_all
end
theorem cellsGlobe : Tryd.prog.cellsOf 24 = 2 := by kernel_rfl
/-- The door's own heap meets the condition. -/
theorem ws_met (os : Os) (args : Array Value) : laidMetH Tryd.prog Rows.waveSeriesRow.laid ((World.doorLaid Tryd.prog 168 os).forCall (fun _ _ => 0) ⟨#[], args, []⟩).memory :=
  laidMetH_of_parts3 (fuel := 8) (laidMet_of_run' 8 (by kernel_rfl) (by kernel_rfl)) (by kernel_rfl) (by kernel_rfl)

theorem ws_laid {W : World} (h : laidMetH Tryd.prog Rows.waveSeriesRow.laid W) : ∃ a, Laid W a := by
  have h' : laidMet Tryd.prog (eightNames.map fun x => (x.1, sentData x.2.1)) W ∧ handlesMet Tryd.prog [("errors.errorType", Rows.laid_errors_errorType)] W := h
  exact laid_of h'.1 (handle_of h'.2 (List.mem_singleton.2 rfl))

set_option maxRecDepth 100000 in
theorem ws_lifted (os : Os) (started : os.Started) (H : Type) (enc : TypeId × Value → H) :
    ReturnsInHanded {} Tryd.checked os 3 .any (fun w args => (Rows.waveSeriesSpec.pre enc Tryd.prog Tryd.f3 [] false w args ∧ laidMetH Tryd.prog Rows.waveSeriesRow.laid w) ∧ sizedMet enc Tryd.prog Tryd.f3 (OpenSpec.ofChange Rows.waveSeriesSpec) false w args)
      (Rows.waveSeriesSpec.post enc Tryd.prog Tryd.f3 false true false false) := by
  refine returnsInHanded_of_change_and (C := Tryd.checked) (X := fun w _ => laidMetH Tryd.prog Rows.waveSeriesRow.laid w) (fun _ _ _ hh h => h.of_heap hh) own started (by kernel_rfl) Tryd.func3
    (ChangeSpec.witness_shaped (enc := enc) (C := Tryd.checked) (os := os) (X := fun w _ => laidMetH Tryd.prog Rows.waveSeriesRow.laid w) false (World.doorLaid Tryd.prog 168 os) #[.agg #[.float .f64 0, .float .f64 0], .int .i64 0, .float .f64 0] 8 rfl (World.shaped_of_RefB (by kernel_rfl) (by kernel_rfl)) (by kernel_rfl) (by kernel_rfl) (by kernel_rfl) (ws_met os _)) ?_
  intro W base args ds gs before hval0 hW _ _ hL _
  have hval : ∀ (j : Nat) t v, Tryd.f3.params[j]? = some t → args[j]? = some v → Value.okWide Tryd.prog W .any base t v := hval0
  have hW' := hW
  obtain ⟨p, q, hA0, hV, rfl, hfz, hnd⟩ := hW
  have hA : DataW.TrodAll enc Tryd.prog W 0 (fun _ => true) true Tryd.f3.params.toList args.toList ds p := hA0
  rw [Tryd.params3] at hA hval
  obtain ⟨v0, v1, v2, d0, d1, d2, p0, p1, p2, hargs, rfl, rfl, h0, h1, h2⟩ := trodAll_three hA
  obtain rfl : args = #[v0, v1, v2] := by cases args; simp_all
  obtain ⟨rfl, rfl⟩ := trodVars_none hV
  obtain ⟨g, hl⟩ := ws_laid hL
  obtain ⟨c2, c3, y2, y3, n', rfl, rfl, rfl, hy2, hy3⟩ := open_agg2 Tryd.underlying24 (by kernel_rfl) cellsGlobe (hval 0 24 v0 rfl rfl) h0
  obtain ⟨a, e2, rfl, wa⟩ := trodF Tryd.underlying22 hy2
  obtain ⟨f, e3, rfl, wf⟩ := trodF Tryd.underlying22 hy3
  simp at e2 e3
  subst e2 e3
  obtain ⟨u, rfl, rfl, rfl, wu⟩ := open_int Tryd.underlying3 (hval 1 3 v1 rfl rfl) h1
  obtain ⟨v, rfl, rfl, rfl, wv⟩ := open_float Tryd.underlying22 (hval 2 22 v2 rfl rfl) h2
  clear hA0 hval0
  simp only [List.append_nil] at hW'
  have readsP : ∀ (W' : World) (sp : Nat → Bool), DataW.Trod enc Tryd.prog W' 0 sp true 24 (.agg #[.float .f64 a, .float .f64 f]) (.agg [.lit (.float .f64 a), .lit (.float .f64 f)]) [] := fun W' sp =>
    shut_agg2 (y0 := (.lit (.float .f64 a), [])) (y1 := (.lit (.float .f64 f), [])) Tryd.underlying24 (by kernel_rfl) cellsGlobe ⟨1, by simp [DataW.trod, Tryd.underlying22, wa]⟩ ⟨1, by simp [DataW.trod, Tryd.underlying22, wf]⟩
  refine (waveSeries_walk g a f v u (wf_lt wa) (wf_lt wf) (wf_lt wv) W hl).mono fun e W' ⟨he, hb⟩ => ?_
  subst he
  refine ⟨_, rfl, _, _, _, [], [], [], hW', ?_, ?_, ?_, hb.out.frame _, fun h => by cases h⟩
  · exact trodAll_cons_mk (shut_bool Tryd.underlying4 _) trodAll_mk0
  · exact trodAll_cons_mk (readsP _ _) (trodAll_cons_mk (shut_int Tryd.underlying3 wu) (trodAll_cons_mk (shut_float Tryd.underlying22 wv) trodAll_mk0))
  · rfl

theorem ws_said : Rows.WaveSeriesSaid :=
  OpenClaim.holds_of_wide 3 Tryd.f3 rfl rfl rfl rfl rfl rfl rfl ⟨rfl, rfl, rfl, rfl, rfl⟩ rfl rfl rfl rfl rfl (by kernel_rfl) Tryd.func3 (by kernel_rfl)
    (of_decide_eq_true (by kernel_rfl)) (by unfold Func.isWrapper; first | (rw [if_pos (by decide +kernel)]; kernel_rfl) | (rw [if_neg (by decide +kernel)]; exact ⟨rfl, rfl⟩))
    (fun os started H enc _ => ws_lifted os started H enc)

theorem ws_plain (f : FuncId) (fn : Func) (hf : Tryd.pinned.checked.prog.funcNamed "mercator/mercatorlaw2.WaveSeries" = some f) (hfn : Tryd.pinned.checked.prog.funcs[f]? = some fn) :
    true = Tryd.pinned.checked.prog.looks [] ∧ ∀ (j : Nat) t, fn.params[j]? = some t → Tryd.pinned.checked.prog.wantsStandIn t = false := by
  obtain rfl : f = 3 := Option.some.inj ((show Tryd.prog.funcNamed "mercator/mercatorlaw2.WaveSeries" = some 3 by kernel_rfl).symm.trans hf) |>.symm
  obtain rfl : fn = Tryd.f3 := (Option.some.inj (Tryd.func3.symm.trans hfn)).symm
  refine ⟨by kernel_rfl, fun j t ht => ?_⟩
  rw [Tryd.params3] at ht
  have hm := List.mem_of_getElem? (by simpa using ht)
  have hall : (([24, 3, 22] : List Nat).all fun t => !(Tryd.prog.wantsStandIn t)) = true := by kernel_rfl
  have := List.all_eq_true.1 hall t hm
  have h2 : Tryd.prog.wantsStandIn t = false := by simpa using this
  exact h2

theorem ws_card : Rows.WaveSeriesCardSaid :=
  Claim7.holds_tied_plain_at .later [] _ _ _ _ ws_said (fun _ h => by cases h) (by kernel_rfl) (fun _ h => by cases h) waveSeries_row_tie rfl ⟨rfl, rfl⟩ (by kernel_rfl) rfl ws_plain (by kernel_rfl)
end Go.Proofs.YtinopkmcddjgdaaDoor
