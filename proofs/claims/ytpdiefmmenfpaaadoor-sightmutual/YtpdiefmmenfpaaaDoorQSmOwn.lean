/- SightMutual is true: for every pointer to a raster (a nil one too), every look and every two whole numbers, called in any memory in which the program's own start-up text has laid its errors, it returns true and changes nothing that was there. -/
import Derived.Test.YtpdiefmmenfpaaaDoorQSiN
import Derived.Test.YtpdiefmmenfpaaaDoorQLaidAll
import Derived.Test.YtpdiefmmenfpaaaDoorCards
import Derived.Test.YtpdiefmmenfpaaaDoorTie
import Derived.OpenShut
import Derived.Stop.Joined
import Derived.SevenTiedAt
import Derived.Lib.SmallJoins
import Derived.Carry
namespace Go.Proofs.YtpdiefmmenfpaaaDoor
open Go.ChangeShapes Go.WideShapes Go.ChangeAt Go.RowKit Go.Joins

theorem wf_i64 {n : Int} (h : (Lit.int .i64 n).wf = true) : -9223372036854775808 ≤ n ∧ n ≤ 9223372036854775807 := by
  have h' : decide (IntKind.i64.min ≤ n) = true ∧ decide (n ≤ IntKind.i64.max) = true := by simpa [Lit.wf, Bool.and_eq_true] using h
  have e1 : IntKind.i64.min = -9223372036854775808 := by decide +kernel
  have e2 : IntKind.i64.max = 9223372036854775807 := by decide +kernel
  rw [e1, e2] at h'
  exact ⟨of_decide_eq_true h'.1, of_decide_eq_true h'.2⟩
theorem cellsLook : Tryd.prog.cellsOf 47 = 4 := by kernel_rfl
def threeNames : List (String × List UInt8 × Nat) :=
  [("mercator/api.ErrBound", [109, 101, 114, 99, 97, 116, 111, 114, 58, 32, 98, 111, 117, 110, 100], 2),
   ("mercator/api.ErrShape", [109, 101, 114, 99, 97, 116, 111, 114, 58, 32, 115, 104, 97, 112, 101], 1), ("mercator/api.ErrRange", [109, 101, 114, 99, 97, 116, 111, 114, 58, 32, 114, 97, 110, 103, 101], 0)]
theorem three_known : ∀ x ∈ threeNames, Tryd.prog.globalNamed x.1 = some x.2.2 ∧ (Tryd.prog.globals[x.2.2]?).map (·.type) = some 30 := by
  intro x hx
  have hall : (threeNames.all fun x => Tryd.prog.globalNamed x.1 == some x.2.2 && ((Tryd.prog.globals[x.2.2]?).map (·.type)) == some 30) = true := by kernel_rfl
  have := List.all_eq_true.1 hall x hx
  simpa using this
theorem lai_of {W : World} (h : laidMet Tryd.prog (threeNames.map fun x => (x.1, sentData x.2.1)) W) : ∃ a, Lai W a := by
  obtain ⟨ps, hv, hnd, hrows⟩ := h
  obtain ⟨f, hf, hft, hfo⟩ : ∃ f, Tryd.prog.underlying 191 = some (.struct #[f]) ∧ f.type = 9 ∧ f.offset = 0 := ⟨_, Tryd.underlying191, rfl, rfl⟩
  obtain ⟨bs, hlen, _, hat⟩ := sents (P := Tryd.prog) (W := W) Tryd.underlying30 Tryd.sentRow Tryd.underlying170 hf hft hfo Tryd.underlying9 (by kernel_rfl) (by kernel_rfl) threeNames ps three_known hv hrows
  have hlen3 : bs.length = 3 := hlen
  have hget : ∀ i, i < 3 → bs[i]? = some (bs[i]?.getD ⟨0, 0, none⟩) := by
    intro i hi
    rw [List.getElem?_eq_getElem (by omega)]; rfl
  have hx : ∀ i, i < 3 → ∃ x, threeNames[i]? = some x ∧ x.2.2 = gv (i + 1) := by
    intro i hi
    match i, hi with
    | 0, _ | 1, _ | 2, _ => exact ⟨_, rfl, rfl⟩
  refine ⟨fun i => bs[i - 1]?.getD ⟨0, 0, none⟩, ⟨fun i hi => ?_⟩⟩
  obtain ⟨x, h1, h2⟩ := hx (i - 1) (by omega)
  have := (hat (i - 1) x _ h1 (hget (i - 1) (by omega))).1
  rw [h2, show i - 1 + 1 = i by omega] at this
  exact this
/-- The door's own heap meets the condition. -/
theorem sm_met (os : Os) (args : Array Value) : laidMetH Tryd.prog Rows.sightMutualRow.laid ((World.doorLaid Tryd.prog 168 os).forCall (fun _ _ => 0) ⟨#[], args, []⟩).memory :=
  show laidMet Tryd.prog Rows.sightMutualRow.laid _ from laidMet_of_run' 8 (by kernel_rfl) (by kernel_rfl)

theorem sm_laid {W : World} (h : laidMetH Tryd.prog Rows.sightMutualRow.laid W) : ∃ a, Lai W a := by
  have h' : laidMet Tryd.prog (threeNames.map fun x => (x.1, sentData x.2.1)) W := h
  exact lai_of h'

set_option maxRecDepth 100000 in
theorem sm_lifted (os : Os) (started : os.Started) (H : Type) (enc : TypeId × Value → H) :
    ReturnsInHanded {} Tryd.checked os 6 .any (fun w args => (Rows.sightMutualSpec.pre enc Tryd.prog Tryd.f6 [] false w args ∧ laidMetH Tryd.prog Rows.sightMutualRow.laid w) ∧ sizedMet enc Tryd.prog Tryd.f6 (OpenSpec.ofChange Rows.sightMutualSpec) false w args)
      (Rows.sightMutualSpec.post enc Tryd.prog Tryd.f6 false true false false) := by
  refine returnsInHanded_of_change_and (C := Tryd.checked) (X := fun w _ => laidMetH Tryd.prog Rows.sightMutualRow.laid w) (fun _ _ _ hh h => h.of_heap hh) own started (by kernel_rfl) Tryd.func6
    (ChangeSpec.witness_shaped (enc := enc) (C := Tryd.checked) (os := os) (X := fun w _ => laidMetH Tryd.prog Rows.sightMutualRow.laid w) false (World.doorLaid Tryd.prog 168 os) #[.pointer none, .agg #[.int .i64 0, .int .i64 0, .int .i64 0, .int .i64 0], .int .i64 0, .int .i64 0] 8 rfl (World.shaped_of_RefB (by kernel_rfl) (by kernel_rfl)) (by kernel_rfl) (by kernel_rfl) (by kernel_rfl) (sm_met os _)) ?_
  intro W base args ds gs before hval0 hW _ _ hL _
  have hval : ∀ (j : Nat) t v, Tryd.f6.params[j]? = some t → args[j]? = some v → Value.okWide Tryd.prog W .any base t v := hval0
  have hW' := hW
  obtain ⟨p, q, hA0, hV, rfl, hfz, hnd⟩ := hW
  have hA : DataW.TrodAll enc Tryd.prog W 0 (fun _ => true) true Tryd.f6.params.toList args.toList ds p := hA0
  rw [Tryd.params6] at hA hval
  obtain ⟨v0, vs0, d0, ds0, p0, q0, hargs, rfl, rfl, h0, hr0⟩ := trodAll_cons hA
  obtain ⟨v1, vs1, d1, ds1, p1, q1, rfl, rfl, rfl, h1, hr1⟩ := trodAll_cons hr0
  obtain ⟨v2, vs2, d2, ds2, p2, q2, rfl, rfl, rfl, h2, hr2⟩ := trodAll_cons hr1
  obtain ⟨v3, vs3, d3, ds3, p3, q3, rfl, rfl, rfl, h3, hr3⟩ := trodAll_cons hr2
  obtain ⟨rfl, rfl, rfl⟩ := trodAll_nil hr3
  obtain rfl : args = #[v0, v1, v2, v3] := by cases args; simp_all
  obtain ⟨rfl, rfl⟩ := trodVars_none hV
  obtain ⟨g, hl⟩ := sm_laid hL
  obtain ⟨a, rfl⟩ := okWide_pointer Tryd.underlying22 (hval 0 22 v0 rfl rfl)
  have h0k := h0
  obtain ⟨fuel, hf⟩ := h0
  have ha := open_raster hf
  obtain ⟨c1a, c1b, c1c, c1d, y1a, y1b, y1c, y1d, m1, rfl, rfl, rfl, hy1a, hy1b, hy1c, hy1d⟩ := open_agg4 Tryd.underlying47 (by kernel_rfl) cellsLook (hval 1 47 v1 rfl rfl) h1
  obtain ⟨n1a, e1a, rfl, wx1a⟩ := DataW.trod_int Tryd.underlying3 hy1a
  obtain ⟨n1b, e1b, rfl, wx1b⟩ := DataW.trod_int Tryd.underlying3 hy1b
  obtain ⟨n1c, e1c, rfl, wx1c⟩ := DataW.trod_int Tryd.underlying3 hy1c
  obtain ⟨n1d, e1d, rfl, wx1d⟩ := DataW.trod_int Tryd.underlying3 hy1d
  simp at e1a e1b e1c e1d
  subst e1a e1b e1c e1d
  obtain ⟨n2, rfl, rfl, rfl, wh2⟩ := open_int Tryd.underlying3 (hval 2 3 v2 rfl rfl) h2
  obtain ⟨n3, rfl, rfl, rfl, wh3⟩ := open_int Tryd.underlying3 (hval 3 3 v3 rfl rfl) h3
  simp only [List.append_nil] at hW'
  have hlt0 : ∀ x ∈ p0, x.block < W.heap.size := fun x hx => by have := hW'.lt x (by simp [hx]); simpa using this
  clear hA0 hval0
  have readsK : ∀ (W' : World) (sp : Nat → Bool) (x y z t : Int), (Lit.int .i64 x).wf = true → (Lit.int .i64 y).wf = true → (Lit.int .i64 z).wf = true → (Lit.int .i64 t).wf = true → DataW.Trod enc Tryd.prog W' 0 sp true 47 (.agg #[.int .i64 x, .int .i64 y, .int .i64 z, .int .i64 t]) (.agg [.lit (.int .i64 x), .lit (.int .i64 y), .lit (.int .i64 z), .lit (.int .i64 t)]) [] := fun W' sp x y z t hx hy hz ht =>
    shut_agg4 (y0 := (.lit (.int .i64 x), [])) (y1 := (.lit (.int .i64 y), [])) (y2 := (.lit (.int .i64 z), [])) (y3 := (.lit (.int .i64 t), [])) Tryd.underlying47 (by kernel_rfl) cellsLook ⟨1, by simp [DataW.trod, Tryd.underlying3, hx]⟩ ⟨1, by simp [DataW.trod, Tryd.underlying3, hy]⟩ ⟨1, by simp [DataW.trod, Tryd.underlying3, hz]⟩ ⟨1, by simp [DataW.trod, Tryd.underlying3, ht]⟩
  refine (sightMutual_law g a n1a n1b n1c n1d n2 n3 W hl ha).mono fun e W' ⟨he, hb⟩ => ?_
  subst he
  refine ⟨_, rfl, _, _, _, [], p0 ++ ([] ++ ([] ++ ([] ++ ([])))), [], hW', ?_, ?_, ?_, hb.frame _, fun h => by cases h⟩
  · exact trodAll_cons_mk (shut_bool Tryd.underlying4 _) trodAll_mk0
  · exact trodAll_cons_mk (Below.trod (show laidOutB Tryd.prog = true by kernel_rfl) (by kernel_rfl) (of_decide_eq_true (by kernel_rfl)) h0k hb.out hlt0) (trodAll_cons_mk (readsK _ _ n1a n1b n1c n1d wx1a wx1b wx1c wx1d) (trodAll_cons_mk (shut_int Tryd.underlying3 wh2) (trodAll_cons_mk (shut_int Tryd.underlying3 wh3) trodAll_mk0)))
  · rfl

theorem sm_said : Rows.SightMutualSaid :=
  OpenClaim.holds_of_wide 6 Tryd.f6 rfl rfl rfl rfl rfl rfl rfl ⟨rfl, rfl, rfl, rfl, rfl⟩ rfl rfl rfl rfl rfl (by kernel_rfl) Tryd.func6 (by kernel_rfl)
    (of_decide_eq_true (by kernel_rfl)) (by unfold Func.isWrapper; first | (rw [if_pos (by decide +kernel)]; kernel_rfl) | (rw [if_neg (by decide +kernel)]; exact ⟨rfl, rfl⟩))
    (fun os started H enc _ => sm_lifted os started H enc)

theorem sm_plain (f : FuncId) (fn : Func) (hf : Tryd.pinned.checked.prog.funcNamed "mercator/mercatorlaw4.SightMutual" = some f) (hfn : Tryd.pinned.checked.prog.funcs[f]? = some fn) :
    true = Tryd.pinned.checked.prog.looks [] ∧ ∀ (j : Nat) t, fn.params[j]? = some t → Tryd.pinned.checked.prog.wantsStandIn t = false := by
  obtain rfl : f = 6 := Option.some.inj ((show Tryd.prog.funcNamed "mercator/mercatorlaw4.SightMutual" = some 6 by kernel_rfl).symm.trans hf) |>.symm
  obtain rfl : fn = Tryd.f6 := (Option.some.inj (Tryd.func6.symm.trans hfn)).symm
  refine ⟨by kernel_rfl, fun j t ht => ?_⟩
  rw [Tryd.params6] at ht
  have hm := List.mem_of_getElem? (by simpa using ht)
  have hall : (([22, 47, 3, 3] : List Nat).all fun t => !(Tryd.prog.wantsStandIn t)) = true := by kernel_rfl
  have := List.all_eq_true.1 hall t hm
  have h2 : Tryd.prog.wantsStandIn t = false := by simpa using this
  exact h2

theorem sm_card : Rows.SightMutualCardSaid :=
  Claim7.holds_tied_plain_at .later [] _ _ _ _ sm_said (fun _ h => by cases h) (by kernel_rfl) (fun _ h => by cases h) sightMutual_row_tie rfl ⟨rfl, rfl⟩ (by kernel_rfl) rfl sm_plain (by kernel_rfl)
end Go.Proofs.YtpdiefmmenfpaaaDoor
