/- GridSquares is true: for every reference and every text, called in any memory in which the program's own start-up text has laid its errors and the library's its tables, it returns true and changes nothing that was there. -/
import Derived.Test.YthpbkomchdgneaaDoorQGqI
import Derived.Test.YthpbkomchdgneaaDoorQLaidAll
import Derived.Test.YthpbkomchdgneaaDoorCards
import Derived.Test.YthpbkomchdgneaaDoorTie
import Derived.OpenShut
import Derived.Stop.Joined
import Derived.SevenTiedAt
import Derived.Lib.SmallJoins
import Derived.Lib.LaidTab
import Derived.Stop.LaidErr
import Derived.ChangeMaps5
namespace Go.Proofs.YthpbkomchdgneaaDoor
open Go.ChangeMaps Go.ChangeShapes Go.WideShapes Go.ChangeAt Go.RowKit Go.Joins

/-- The door's own heap meets the condition. -/
theorem gq_met (os : Os) (args : Array Value) : laidMetH Tryd.prog Rows.gridSquaresRow.laid ((World.doorLaid Tryd.prog 183 os).forCall (fun _ _ => 0) ⟨#[], args, []⟩).memory :=
  laidMetH_of_parts3 (fuel := 8) (laidMet_of_run' 8 (by kernel_rfl) (by kernel_rfl)) (by kernel_rfl) (by kernel_rfl)

theorem gq_tab : (Rows.laid_internal_strconv_uint64pow10 : DataW Unit) = Lib.tabData .u64 Lib.pow10Tab := by kernel_rfl
theorem gq_laid {W : World} (h : laidMetH Tryd.prog Rows.gridSquaresRow.laid W) : SqL W := by
  have h' : laidMet Tryd.prog [("math/bits.deBruijn32tab", Rows.laid_math_bits_deBruijn32tab), ("math/bits.deBruijn64tab", Rows.laid_math_bits_deBruijn64tab), ("internal/strconv.uint64pow10", Rows.laid_internal_strconv_uint64pow10), ("mercator/api.ErrShape", Rows.laid_mercator_api_ErrShape), ("mercator/api.ErrRange", Rows.laid_mercator_api_ErrRange)] W := h
  have h3 := h'.tail.tail
  rw [gq_tab] at h3
  obtain ⟨f, hf, hft, hfo⟩ : ∃ f, Tryd.prog.underlying 162 = some (.struct #[f]) ∧ f.type = 9 ∧ f.offset = 0 := ⟨_, Tryd.underlying162, rfl, rfl⟩
  have g1 : Tryd.prog.globalNamed "mercator/api.ErrShape" = some 0 := by kernel_rfl
  have g2 : Tryd.prog.globalNamed "mercator/api.ErrRange" = some 2 := by kernel_rfl
  obtain ⟨a0, s0, hv0, -, -, -⟩ := laid_sentinel h3.tail g1 (by kernel_rfl) Tryd.underlying37 Tryd.sentRow Tryd.underlying143 hf hft hfo Tryd.underlying9 (by kernel_rfl) (by kernel_rfl)
  obtain ⟨a1, s1, hv1, -, -, -⟩ := laid_sentinel h3.tail.tail g2 (by kernel_rfl) Tryd.underlying37 Tryd.sentRow Tryd.underlying143 hf hft hfo Tryd.underlying9 (by kernel_rfl) (by kernel_rfl)
  refine ⟨Lib.tabIs_of_head (g := 9) (by kernel_rfl) (by kernel_rfl) Tryd.underlying136 Tryd.underlying124 (by kernel_rfl) (by kernel_rfl) h3, ⟨some a1, ?_⟩, ⟨some a0, ?_⟩⟩
  · simpa using World.var?_cell g2 hv1 0
  · simpa using World.var?_cell g1 hv0 0
theorem cellsRef : Tryd.prog.cellsOf 23 = 4 := by kernel_rfl

set_option maxRecDepth 100000 in
theorem gq_lifted (os : Os) (started : os.Started) (H : Type) (enc : TypeId × Value → H) :
    ReturnsInHanded {} Tryd.checked os 3 .any (fun w args => (Rows.gridSquaresSpec.pre enc Tryd.prog Tryd.f3 [] false w args ∧ laidMetH Tryd.prog Rows.gridSquaresRow.laid w) ∧ sizedMet enc Tryd.prog Tryd.f3 (OpenSpec.ofChange Rows.gridSquaresSpec) false w args)
      (Rows.gridSquaresSpec.post enc Tryd.prog Tryd.f3 false true false false) := by
  refine returnsInHanded_of_change_and (C := Tryd.checked) (X := fun w _ => laidMetH Tryd.prog Rows.gridSquaresRow.laid w) (fun _ _ _ hh h => h.of_heap hh) own started (by kernel_rfl) Tryd.func3
    (ChangeSpec.witness_shaped (enc := enc) (C := Tryd.checked) (os := os) (X := fun w _ => laidMetH Tryd.prog Rows.gridSquaresRow.laid w) false (World.doorLaid Tryd.prog 183 os) #[.agg #[.int .i64 0, .bool false, .int .i64 0, .int .i64 0], .string ⟨#[]⟩] 8 rfl (World.shaped_of_RefB (by kernel_rfl) (by kernel_rfl)) (by kernel_rfl) (by kernel_rfl) (by kernel_rfl) (gq_met os _)) ?_
  intro W base args ds gs before hval0 hW _ _ hL _
  have hval : ∀ (j : Nat) t v, Tryd.f3.params[j]? = some t → args[j]? = some v → Value.okWide Tryd.prog W .any base t v := hval0
  have hW' := hW
  obtain ⟨p, q, hA0, hV, rfl, hfz, hnd⟩ := hW
  have hA : DataW.TrodAll enc Tryd.prog W 0 (fun _ => true) true Tryd.f3.params.toList args.toList ds p := hA0
  rw [Tryd.params3] at hA hval
  obtain ⟨v0, v1, d0, d1, p0, p1, hargs, rfl, rfl, h0, h1⟩ := trodAll_two hA
  obtain rfl : args = #[v0, v1] := by cases args; simp_all
  obtain ⟨rfl, rfl⟩ := trodVars_none hV
  have hl := gq_laid hL
  obtain ⟨c0, c1, c2, c3, y0, y1, y2, y3, m, rfl, rfl, rfl, k0, k1, k2, k3⟩ := open_agg4 Tryd.underlying23 (by kernel_rfl) cellsRef (hval 0 23 v0 rfl rfl) h0
  obtain ⟨z, e0, rfl, wz⟩ := DataW.trod_int Tryd.underlying3 k0
  obtain ⟨b, e1, rfl⟩ := DataW.trod_bool Tryd.underlying4 k1
  obtain ⟨x, e2, rfl, wx⟩ := DataW.trod_int Tryd.underlying3 k2
  obtain ⟨y, e3, rfl, wy⟩ := DataW.trod_int Tryd.underlying3 k3
  obtain rfl := List.singleton_inj.1 e0
  obtain rfl := List.singleton_inj.1 e1
  obtain rfl := List.singleton_inj.1 e2
  obtain rfl := List.singleton_inj.1 e3
  obtain ⟨s, rfl, rfl, rfl, ws⟩ := open_string Tryd.underlying9 (hval 1 9 v1 rfl rfl) h1
  clear hA0 hval0
  simp only [List.append_nil] at hW'
  refine (law_any z b x y s W hl).mono fun e W' ⟨he, hb⟩ => ?_
  subst he
  refine ⟨_, rfl, _, _, _, [], [], [], hW', ?_, ?_, ?_, hb.out.frame _, fun h => by cases h⟩
  · exact trodAll_cons_mk (shut_bool Tryd.underlying4 _) trodAll_mk0
  · exact trodAll_cons_mk (shut_agg4 (y0 := (.lit (.int .i64 z), [])) (y1 := (.lit (.bool b), [])) (y2 := (.lit (.int .i64 x), [])) (y3 := (.lit (.int .i64 y), [])) Tryd.underlying23 (by kernel_rfl) cellsRef ⟨1, by simp [DataW.trod, Tryd.underlying3, wz]⟩ ⟨1, by simp [DataW.trod, Tryd.underlying4]⟩ ⟨1, by simp [DataW.trod, Tryd.underlying3, wx]⟩ ⟨1, by simp [DataW.trod, Tryd.underlying3, wy]⟩) (trodAll_cons_mk (shut_string Tryd.underlying9 ws) trodAll_mk0)
  · rfl

theorem gq_said : Rows.GridSquaresSaid :=
  OpenClaim.holds_of_wide 3 Tryd.f3 rfl rfl rfl rfl rfl rfl rfl ⟨rfl, rfl, rfl, rfl, rfl⟩ rfl rfl rfl rfl rfl (by kernel_rfl) Tryd.func3 (by kernel_rfl)
    (of_decide_eq_true (by kernel_rfl)) (by unfold Func.isWrapper; first | (rw [if_pos (by decide +kernel)]; kernel_rfl) | (rw [if_neg (by decide +kernel)]; exact ⟨rfl, rfl⟩))
    (fun os started H enc _ => gq_lifted os started H enc)

theorem gq_plain (f : FuncId) (fn : Func) (hf : Tryd.pinned.checked.prog.funcNamed "mercator/mercatorlaw2.GridSquares" = some f) (hfn : Tryd.pinned.checked.prog.funcs[f]? = some fn) :
    true = Tryd.pinned.checked.prog.looks [] ∧ ∀ (j : Nat) t, fn.params[j]? = some t → Tryd.pinned.checked.prog.wantsStandIn t = false := by
  obtain rfl : f = 3 := Option.some.inj ((show Tryd.prog.funcNamed "mercator/mercatorlaw2.GridSquares" = some 3 by kernel_rfl).symm.trans hf) |>.symm
  obtain rfl : fn = Tryd.f3 := (Option.some.inj (Tryd.func3.symm.trans hfn)).symm
  refine ⟨by kernel_rfl, fun j t ht => ?_⟩
  rw [Tryd.params3] at ht
  have hm := List.mem_of_getElem? (by simpa using ht)
  have hall : (([23, 9] : List Nat).all fun t => !(Tryd.prog.wantsStandIn t)) = true := by kernel_rfl
  have := List.all_eq_true.1 hall t hm
  have h2 : Tryd.prog.wantsStandIn t = false := by simpa using this
  exact h2

theorem gq_card : Rows.GridSquaresCardSaid :=
  Claim7.holds_tied_plain_at .later [] _ _ _ _ gq_said (fun _ h => by cases h) (by kernel_rfl) (fun _ h => by cases h) gridSquares_row_tie rfl ⟨rfl, rfl⟩ (by kernel_rfl) rfl gq_plain (by kernel_rfl)
end Go.Proofs.YthpbkomchdgneaaDoor
