/- GlobePlaces is true: for every globe, every place, every height and every vector, called in any memory in which the program's own start-up text has laid its errors, it returns true and changes nothing that was there. -/
import Derived.Test.YtmiamfnnccjmeabDoorGpU
import Derived.Test.YtmiamfnnccjmeabDoorLaidAll
import Derived.Test.YtmiamfnnccjmeabDoorCards
import Derived.Test.YtmiamfnnccjmeabDoorTie
import Derived.OpenShut
import Derived.Stop.Joined
import Derived.SevenTiedAt
import Derived.Lib.SmallJoins
namespace Go.Proofs.YtmiamfnnccjmeabDoor
open Go.ChangeShapes Go.WideShapes Go.ChangeAt Go.RowKit Go.Joins

theorem wf_lt {b : Nat} (h : (Lit.float .f64 b).wf = true) : b < 18446744073709551616 := by simpa [Lit.wf] using h
theorem trodF {H : Type} {enc : TypeId × Value → H} {P : Program} {w : World} {base : Nat} {spare : Nat → Bool} {held : Bool} {fuel : Nat} {t : TypeId} {cs : List Value} {x : DataW H × List MemPlace} {k : FloatKind} (ht : P.underlying t = some (.float k)) (h : DataW.trod enc P w base spare held fuel t cs = some x) : ∃ n, cs = [.float k n] ∧ x = (.lit (.float k n), []) ∧ (Lit.float k n).wf = true := by
  cases fuel with
  | zero => simp [DataW.trod] at h
  | succ n =>
    unfold DataW.trod at h
    rw [ht] at h
    split at h <;> simp_all
theorem cellsGlobe : Tryd.prog.cellsOf 24 = 2 := by kernel_rfl
theorem cellsPlace : Tryd.prog.cellsOf 41 = 2 := by kernel_rfl
theorem cellsVec : Tryd.prog.cellsOf 43 = 3 := by kernel_rfl
/-- The door's own heap meets the condition. -/
theorem gp_met (os : Os) (args : Array Value) : laidMetH Tryd.prog Rows.globePlacesRow.laid ((World.doorLaid Tryd.prog 168 os).forCall (fun _ _ => 0) ⟨#[], args, []⟩).memory :=
  laidMetH_of_parts3 (fuel := 8) (laidMet_of_run' 8 (by kernel_rfl) (by kernel_rfl)) (by kernel_rfl) (by kernel_rfl)

theorem gp_laid {W : World} (h : laidMetH Tryd.prog Rows.globePlacesRow.laid W) : ∃ a, Laid W a := by
  have h' : laidMet Tryd.prog (eightNames.map fun x => (x.1, sentData x.2.1)) W ∧ handlesMet Tryd.prog [("errors.errorType", Rows.laid_errors_errorType)] W := h
  exact laid_of h'.1 (handle_of h'.2 (List.mem_singleton.2 rfl))

set_option maxRecDepth 100000 in
theorem gp_lifted (os : Os) (started : os.Started) (H : Type) (enc : TypeId × Value → H) :
    ReturnsInHanded {} Tryd.checked os 4 .any (fun w args => (Rows.globePlacesSpec.pre enc Tryd.prog Tryd.f4 [] false w args ∧ laidMetH Tryd.prog Rows.globePlacesRow.laid w) ∧ sizedMet enc Tryd.prog Tryd.f4 (OpenSpec.ofChange Rows.globePlacesSpec) false w args)
      (Rows.globePlacesSpec.post enc Tryd.prog Tryd.f4 false true false false) := by
  refine returnsInHanded_of_change_and (C := Tryd.checked) (X := fun w _ => laidMetH Tryd.prog Rows.globePlacesRow.laid w) (fun _ _ _ hh h => h.of_heap hh) own started (by kernel_rfl) Tryd.func4
    (ChangeSpec.witness_shaped (enc := enc) (C := Tryd.checked) (os := os) (X := fun w _ => laidMetH Tryd.prog Rows.globePlacesRow.laid w) false (World.doorLaid Tryd.prog 168 os) #[.agg #[.float .f64 0, .float .f64 0], .agg #[.int .i64 0, .int .i64 0], .float .f64 0, .agg #[.float .f64 0, .float .f64 0, .float .f64 0]] 8 rfl (World.shaped_of_RefB (by kernel_rfl) (by kernel_rfl)) (by kernel_rfl) (by kernel_rfl) (by kernel_rfl) (gp_met os _)) ?_
  intro W base args ds gs before hval0 hW _ _ hL _
  have hval : ∀ (j : Nat) t v, Tryd.f4.params[j]? = some t → args[j]? = some v → Value.okWide Tryd.prog W .any base t v := hval0
  have hW' := hW
  obtain ⟨p, q, hA0, hV, rfl, hfz, hnd⟩ := hW
  have hA : DataW.TrodAll enc Tryd.prog W 0 (fun _ => true) true Tryd.f4.params.toList args.toList ds p := hA0
  rw [Tryd.params4] at hA hval
  obtain ⟨v0, v1, v2, v3, d0, d1, d2, d3, p0, p1, p2, p3, hargs, rfl, rfl, h0, h1, h2, h3⟩ := trodAll_four hA
  obtain rfl : args = #[v0, v1, v2, v3] := by cases args; simp_all
  obtain ⟨rfl, rfl⟩ := trodVars_none hV
  obtain ⟨g, hl⟩ := gp_laid hL
  obtain ⟨c0, c1, y0, y1, m, rfl, rfl, rfl, hy0, hy1⟩ := open_agg2 Tryd.underlying24 (by kernel_rfl) cellsGlobe (hval 0 24 v0 rfl rfl) h0
  obtain ⟨a, e0, rfl, wa⟩ := trodF Tryd.underlying22 hy0
  obtain ⟨f, e1, rfl, wf⟩ := trodF Tryd.underlying22 hy1
  simp at e0 e1
  subst e0 e1
  obtain ⟨c2, c3, y2, y3, m', rfl, rfl, rfl, hy2, hy3⟩ := open_agg2 Tryd.underlying41 (by kernel_rfl) cellsPlace (hval 1 41 v1 rfl rfl) h1
  obtain ⟨lon, e2, rfl, wlon⟩ := DataW.trod_int Tryd.underlying3 hy2
  obtain ⟨lat, e3, rfl, wlat⟩ := DataW.trod_int Tryd.underlying3 hy3
  simp at e2 e3
  subst e2 e3
  obtain ⟨h, rfl, rfl, rfl, wh⟩ := open_float Tryd.underlying22 (hval 2 22 v2 rfl rfl) h2
  obtain ⟨c4, c5, c6, y4, y5, y6, m2, rfl, rfl, rfl, hy4, hy5, hy6⟩ := open_agg3 Tryd.underlying43 (by kernel_rfl) cellsVec (hval 3 43 v3 rfl rfl) h3
  obtain ⟨x, e4, rfl, wx⟩ := trodF Tryd.underlying22 hy4
  obtain ⟨y, e5, rfl, wy⟩ := trodF Tryd.underlying22 hy5
  obtain ⟨z, e6, rfl, wz⟩ := trodF Tryd.underlying22 hy6
  simp at e4 e5 e6
  subst e4 e5 e6
  clear hA0 hval0
  simp only [List.append_nil] at hW'
  have readsG : ∀ (W' : World) (sp : Nat → Bool), DataW.Trod enc Tryd.prog W' 0 sp true 24 (.agg #[.float .f64 a, .float .f64 f]) (.agg [.lit (.float .f64 a), .lit (.float .f64 f)]) [] := fun W' sp =>
    shut_agg2 (y0 := (.lit (.float .f64 a), [])) (y1 := (.lit (.float .f64 f), [])) Tryd.underlying24 (by kernel_rfl) cellsGlobe ⟨1, by simp [DataW.trod, Tryd.underlying22, wa]⟩ ⟨1, by simp [DataW.trod, Tryd.underlying22, wf]⟩
  have readsP : ∀ (W' : World) (sp : Nat → Bool), DataW.Trod enc Tryd.prog W' 0 sp true 41 (.agg #[.int .i64 lon, .int .i64 lat]) (.agg [.lit (.int .i64 lon), .lit (.int .i64 lat)]) [] := fun W' sp =>
    shut_agg2 (y0 := (.lit (.int .i64 lon), [])) (y1 := (.lit (.int .i64 lat), [])) Tryd.underlying41 (by kernel_rfl) cellsPlace ⟨1, by simp [DataW.trod, Tryd.underlying3, wlon]⟩ ⟨1, by simp [DataW.trod, Tryd.underlying3, wlat]⟩
  have readsV : ∀ (W' : World) (sp : Nat → Bool), DataW.Trod enc Tryd.prog W' 0 sp true 43 (.agg #[.float .f64 x, .float .f64 y, .float .f64 z]) (.agg [.lit (.float .f64 x), .lit (.float .f64 y), .lit (.float .f64 z)]) [] := fun W' sp =>
    shut_agg3 (y0 := (.lit (.float .f64 x), [])) (y1 := (.lit (.float .f64 y), [])) (y2 := (.lit (.float .f64 z), [])) Tryd.underlying43 (by kernel_rfl) cellsVec ⟨1, by simp [DataW.trod, Tryd.underlying22, wx]⟩ ⟨1, by simp [DataW.trod, Tryd.underlying22, wy]⟩ ⟨1, by simp [DataW.trod, Tryd.underlying22, wz]⟩
  refine (places_walk g a f h x y z lon lat (wf_lt wa) (wf_lt wf) (wf_lt wh) (wf_lt wx) (wf_lt wy) (wf_lt wz) W hl).mono fun e W' ⟨he, hb⟩ => ?_
  subst he
  refine ⟨_, rfl, _, _, _, [], [], [], hW', ?_, ?_, ?_, hb.frame _, fun h => by cases h⟩
  · exact trodAll_cons_mk (shut_bool Tryd.underlying4 _) trodAll_mk0
  · exact trodAll_cons_mk (readsG _ _) (trodAll_cons_mk (readsP _ _) (trodAll_cons_mk (shut_float Tryd.underlying22 wh) (trodAll_cons_mk (readsV _ _) trodAll_mk0)))
  · rfl

theorem gp_said : Rows.GlobePlacesSaid :=
  OpenClaim.holds_of_wide 4 Tryd.f4 rfl rfl rfl rfl rfl rfl rfl ⟨rfl, rfl, rfl, rfl, rfl⟩ rfl rfl rfl rfl rfl (by kernel_rfl) Tryd.func4 (by kernel_rfl)
    (of_decide_eq_true (by kernel_rfl)) (by unfold Func.isWrapper; first | (rw [if_pos (by decide +kernel)]; kernel_rfl) | (rw [if_neg (by decide +kernel)]; exact ⟨rfl, rfl⟩))
    (fun os started H enc _ => gp_lifted os started H enc)

theorem gp_plain (f : FuncId) (fn : Func) (hf : Tryd.pinned.checked.prog.funcNamed "mercator/mercatorlaw2.GlobePlaces" = some f) (hfn : Tryd.pinned.checked.prog.funcs[f]? = some fn) :
    true = Tryd.pinned.checked.prog.looks [] ∧ ∀ (j : Nat) t, fn.params[j]? = some t → Tryd.pinned.checked.prog.wantsStandIn t = false := by
  obtain rfl : f = 4 := Option.some.inj ((show Tryd.prog.funcNamed "mercator/mercatorlaw2.GlobePlaces" = some 4 by kernel_rfl).symm.trans hf) |>.symm
  obtain rfl : fn = Tryd.f4 := (Option.some.inj (Tryd.func4.symm.trans hfn)).symm
  refine ⟨by kernel_rfl, fun j t ht => ?_⟩
  rw [Tryd.params4] at ht
  have hm := List.mem_of_getElem? (by simpa using ht)
  have hall : (([24, 41, 22, 43] : List Nat).all fun t => !(Tryd.prog.wantsStandIn t)) = true := by kernel_rfl
  have := List.all_eq_true.1 hall t hm
  have h2 : Tryd.prog.wantsStandIn t = false := by simpa using this
  exact h2

theorem gp_card : Rows.GlobePlacesCardSaid :=
  Claim7.holds_tied_plain_at .later [] _ _ _ _ gp_said (fun _ h => by cases h) (by kernel_rfl) (fun _ h => by cases h) globePlaces_row_tie rfl ⟨rfl, rfl⟩ (by kernel_rfl) rfl gp_plain (by kernel_rfl)
end Go.Proofs.YtmiamfnnccjmeabDoor
