/- For every pointer to a map of bulk at most 1048576 (nil as well) and every int ShapeKeeps answers true and leaves what it was handed as it was. Conditions: the bulk; the three errors that the row lists are laid as the program lays them. -/
import Derived.Test.YtnadgoomkaldkaaDoorQJ22
import Derived.Test.YtnadgoomkaldkaaDoorQLaidAll
import Derived.Test.YtnadgoomkaldkaaDoorCards
import Derived.Test.YtnadgoomkaldkaaDoorTie
import Derived.OpenShut
import Derived.Stop.Joined
import Derived.SevenTiedAt
import Derived.Lib.SmallJoins
import Derived.Carry
import Derived.Deep.DeepHandedRow
import Derived.Deep.DeepWitnessRowRef
namespace Go.Proofs.YtnadgoomkaldkaaDoor
open Go.ChangeShapes Go.WideShapes Go.ChangeAt Go.RowKit Go.Joins

def threeNames : List (String × List UInt8 × Nat) :=
  [("mercator/api.ErrBound", [109, 101, 114, 99, 97, 116, 111, 114, 58, 32, 98, 111, 117, 110, 100], 0),
   ("mercator/api.ErrShape", [109, 101, 114, 99, 97, 116, 111, 114, 58, 32, 115, 104, 97, 112, 101], 1),
   ("mercator/api.ErrOrder", [109, 101, 114, 99, 97, 116, 111, 114, 58, 32, 111, 114, 100, 101, 114], 2)]
theorem three_known : ∀ x ∈ threeNames, Tryd.prog.globalNamed x.1 = some x.2.2 ∧ (Tryd.prog.globals[x.2.2]?).map (·.type) = some 28 := by
  intro x hx
  have hall : (threeNames.all fun x => Tryd.prog.globalNamed x.1 == some x.2.2 && ((Tryd.prog.globals[x.2.2]?).map (·.type)) == some 28) = true := by kernel_rfl
  have := List.all_eq_true.1 hall x hx
  simpa using this
theorem lc_of {W : World} (h : laidMet Tryd.prog (threeNames.map fun x => (x.1, sentData x.2.1)) W) : ∃ a, Lc W a := by
  obtain ⟨ps, hv, hnd, hrows⟩ := h
  obtain ⟨f, hf, hft, hfo⟩ : ∃ f, Tryd.prog.underlying 159 = some (.struct #[f]) ∧ f.type = 9 ∧ f.offset = 0 := ⟨_, Tryd.underlying159, rfl, rfl⟩
  obtain ⟨bs, hlen, _, hat⟩ := sents (P := Tryd.prog) (W := W) Tryd.underlying28 Tryd.sentRow Tryd.underlying137 hf hft hfo Tryd.underlying9 (by kernel_rfl) (by kernel_rfl) threeNames ps three_known hv hrows
  have hlen3 : bs.length = 3 := hlen
  have hget : ∀ i, i < 3 → bs[i]? = some (bs[i]?.getD ⟨0, 0, none⟩) := by
    intro i hi
    rw [List.getElem?_eq_getElem (by omega)]; rfl
  refine ⟨fun i => bs[if i = 6 then 2 else i - 1]?.getD ⟨0, 0, none⟩, ⟨fun i hi => ?_⟩⟩
  rcases hi with rfl | rfl | rfl
  · exact (hat 0 _ _ rfl (hget 0 (by omega))).1
  · exact (hat 1 _ _ rfl (hget 1 (by omega))).1
  · exact (hat 2 _ _ rfl (hget 2 (by omega))).1
/-- The door's own heap meets the condition. -/
theorem skp_met (os : Os) (args : Array Value) : laidMetH Tryd.prog Rows.shapeKeepsUptoRow.laid ((World.doorLaid Tryd.prog 168 os).forCall (fun _ _ => 0) ⟨#[], args, []⟩).memory :=
  show laidMet Tryd.prog Rows.shapeKeepsUptoRow.laid _ from laidMet_of_run' 8 (by kernel_rfl) (by kernel_rfl)
theorem skp_laid {W : World} (h : laidMetH Tryd.prog Rows.shapeKeepsUptoRow.laid W) : ∃ a, Lc W a := by
  have h' : laidMet Tryd.prog (threeNames.map fun x => (x.1, sentData x.2.1)) W := h
  exact lc_of h'
theorem skp_reads (os : Os) {H : Type} (enc : TypeId × Value → H) : ∃ places, DataW.whole enc Tryd.prog ((World.doorLaid Tryd.prog 168 os).forCall (fun _ _ => 0) ⟨#[], #[.pointer none, .int .i64 0], []⟩).memory Tryd.f5.params.toList Rows.shapeKeepsSpec.vars false (#[.pointer none, .int .i64 0] : Array Value).toList 8 = some ([.nil, .lit (.int .i64 0)], [], places) :=
  ⟨[], by kernel_rfl⟩

set_option maxRecDepth 100000 in
theorem skp_lifted (os : Os) (started : os.Started) (H : Type) (enc : TypeId × Value → H) (F : Stop.Interp) :
    ReturnsInHanded {} Tryd.checked os 5 .any ((Rows.OpenSpec.upto Rows.shapeKeepsSpec).preRow enc Tryd.prog Tryd.f5 Rows.shapeKeepsUptoRow.domain false Rows.shapeKeepsUptoRow.laid) (((Rows.OpenSpec.upto Rows.shapeKeepsSpec).at F).post enc Tryd.prog Tryd.f5 false true false false) := by
  obtain ⟨places, hx⟩ := skp_reads os enc
  refine returnsInHanded_of_row (C := Tryd.checked) (s := Rows.OpenSpec.upto Rows.shapeKeepsSpec) own started (by kernel_rfl) Tryd.func5
    (witness_row_atRef (enc := enc) (C := Tryd.checked) false (World.doorLaid Tryd.prog 168 os) #[.pointer none, .int .i64 0] rfl (by kernel_rfl) (by kernel_rfl) (by kernel_rfl)
      (OpenSpec.preRow_of_cond 8 hx (by kernel_rfl) (fun k hk => by cases hk; kernel_rfl) (by kernel_rfl) (skp_met os _))) ?_
  intro W base args ds gs before hval0 hW _ hcond _ hL _ _
  have hk : Rows.uptoBulkAll (ds ++ gs) ≤ 1048576 := of_decide_eq_true (hcond _ rfl)
  have hval : ∀ (j : Nat) t v, Tryd.f5.params[j]? = some t → args[j]? = some v → Value.okWide Tryd.prog W .any base t v := hval0
  have hW' := hW
  obtain ⟨p, q, hA0, hV, rfl, hfz, hnd⟩ := hW
  have hA : DataW.TrodAll enc Tryd.prog W 0 (fun _ => true) true Tryd.f5.params.toList args.toList ds p := hA0
  rw [Tryd.params5] at hA hval
  obtain ⟨v0, vs0, d0, ds0, p0, q0, hargs, rfl, rfl, h0, hr0⟩ := trodAll_cons hA
  obtain ⟨v1, vs1, d1, ds1, p1, q1, rfl, rfl, rfl, h1, hr1⟩ := trodAll_cons hr0
  obtain ⟨rfl, rfl, rfl⟩ := trodAll_nil hr1
  obtain rfl : args = #[v0, v1] := by cases args; simp_all
  obtain ⟨rfl, rfl⟩ := trodVars_none hV
  obtain ⟨g, hl⟩ := skp_laid hL
  have hk2 : Rows.uptoBulk d0 ≤ 1048576 := by
    simp only [List.cons_append, Rows.uptoBulkAll] at hk
    omega
  obtain ⟨a0, rfl⟩ := okWide_pointer Tryd.underlying22 (hval 0 22 v0 rfl rfl)
  have h0k := h0
  obtain ⟨fuel0, hf0⟩ := h0
  have hm0 := open_map hf0
  obtain ⟨n1, rfl, rfl, rfl, wh1⟩ := open_int Tryd.underlying3 (hval 1 3 v1 rfl rfl) h1
  simp only [List.append_nil] at hW'
  have hlt0 : ∀ x ∈ p0, x.block < W.heap.size := fun x hx => by have := hW'.lt x (by simp [hx]); simpa using this
  clear hA0 hval0
  refine Calls.mono (shapeKeeps_law g a0 n1 W hl hk2 hm0) fun e W' ⟨he, hb⟩ => ?_
  subst he
  refine ⟨_, rfl, _, _, _, [], p0 ++ ([] ++ ([])), [], hW', ?_, ?_, ?_, hb.frame _, fun h => by cases h⟩
  · exact trodAll_cons_mk (shut_bool Tryd.underlying4 _) trodAll_mk0
  · exact trodAll_cons_mk (Below.trod (show laidOutB Tryd.prog = true by kernel_rfl) (by kernel_rfl) (of_decide_eq_true (by kernel_rfl)) h0k hb.out hlt0) (trodAll_cons_mk (shut_int Tryd.underlying3 wh1) trodAll_mk0)
  · rfl

theorem skp_said : Rows.ShapeKeepsUptoSaid :=
  OpenClaim.holds_of_cond 5 Tryd.f5 rfl rfl rfl rfl rfl rfl rfl ⟨rfl, rfl, rfl, rfl, rfl⟩ rfl rfl rfl rfl rfl (by kernel_rfl) Tryd.func5 (by kernel_rfl)
    (of_decide_eq_true (by kernel_rfl)) (by unfold Func.isWrapper; first | (rw [if_pos (by decide +kernel)]; kernel_rfl) | (rw [if_neg (by decide +kernel)]; exact ⟨rfl, rfl⟩))
    (fun os started H enc _ F => by rw [OpenClaim.pre_eq_preRow]; exact skp_lifted os started H enc F)

theorem skp_plain (f : FuncId) (fn : Func) (hf : Tryd.pinned.checked.prog.funcNamed "mercator/mercatorlaw5.ShapeKeeps" = some f) (hfn : Tryd.pinned.checked.prog.funcs[f]? = some fn) :
    true = Tryd.pinned.checked.prog.looks [] ∧ ∀ (j : Nat) t, fn.params[j]? = some t → Tryd.pinned.checked.prog.wantsStandIn t = false := by
  obtain rfl : f = 5 := Option.some.inj ((show Tryd.prog.funcNamed "mercator/mercatorlaw5.ShapeKeeps" = some 5 by kernel_rfl).symm.trans hf) |>.symm
  obtain rfl : fn = Tryd.f5 := (Option.some.inj (Tryd.func5.symm.trans hfn)).symm
  refine ⟨by kernel_rfl, fun j t ht => ?_⟩
  rw [Tryd.params5] at ht
  have hm := List.mem_of_getElem? (by simpa using ht)
  have hall : (([22, 3] : List Nat).all fun t => !(Tryd.prog.wantsStandIn t)) = true := by kernel_rfl
  have := List.all_eq_true.1 hall t hm
  have h2 : Tryd.prog.wantsStandIn t = false := by simpa using this
  exact h2

theorem skp_card : Rows.ShapeKeepsUptoCardSaid :=
  Claim7.holds_tied_plain_at .later [] _ _ _ _ skp_said (fun _ h => by cases h) (by kernel_rfl) (fun _ h => by cases h) shapeKeepsUpto_row_tie rfl ⟨rfl, rfl⟩ (by kernel_rfl) rfl skp_plain (by kernel_rfl)
end Go.Proofs.YtnadgoomkaldkaaDoor
