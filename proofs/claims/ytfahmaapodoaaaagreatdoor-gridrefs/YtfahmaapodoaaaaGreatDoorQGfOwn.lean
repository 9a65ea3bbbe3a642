/- GridRefs is true: for every longitude, zone, reference, text and number of digits, called in any memory in which the program's own start-up text has laid its errors and the library's its tables, it returns true and changes nothing that was there. -/
import Derived.Test.YtfahmaapodoaaaaGreatDoorQGfP
import Derived.Test.YtfahmaapodoaaaaGreatDoorQGfH
import Derived.Test.YtfahmaapodoaaaaGreatDoorCards
import Derived.Test.YtfahmaapodoaaaaGreatDoorTie
import Derived.OpenShut
import Derived.Stop.Joined
import Derived.SevenTiedAt
import Derived.Lib.SmallJoins
import Derived.Lib.LaidTab
import Derived.Stop.LaidErr
import Derived.ChangeMaps5
namespace Go.Proofs.YtfahmaapodoaaaaGreatDoor
open Go.ChangeMaps Go.ChangeShapes Go.WideShapes Go.ChangeAt Go.RowKit Go.Joins

/-- The door's own heap meets the condition. -/
theorem gf_met (os : Os) (args : Array Value) : laidMetH Tryz.prog Rows.gridRefsRow.laid ((World.doorLaid Tryz.prog 221 os).forCall (fun _ _ => 0) ⟨#[], args, []⟩).memory :=
  laidMetH_of_parts3 (fuel := 8) (laidMet_of_run' 8 (by kernel_rfl) (by kernel_rfl)) (by kernel_rfl) (by kernel_rfl)

theorem gf_tab : (Rows.laid_internal_strconv_uint64pow10 : DataW Unit) = Lib.tabData .u64 Lib.pow10Tab := by kernel_rfl
def twoNames : List (String × List UInt8 × Nat) :=
  [("strconv.ErrRange", [118, 97, 108, 117, 101, 32, 111, 117, 116, 32, 111, 102, 32, 114, 97, 110, 103, 101], 10), ("strconv.ErrSyntax", [105, 110, 118, 97, 108, 105, 100, 32, 115, 121, 110, 116, 97, 120], 9)]
theorem two_known : ∀ x ∈ twoNames, Tryz.prog.globalNamed x.1 = some x.2.2 ∧ (Tryz.prog.globals[x.2.2]?).map (·.type) = some 26 := by
  intro x hx
  have hall : (twoNames.all fun x => Tryz.prog.globalNamed x.1 == some x.2.2 && ((Tryz.prog.globals[x.2.2]?).map (·.type)) == some 26) = true := by kernel_rfl
  have := List.all_eq_true.1 hall x hx
  simpa using this
theorem gf_laid {W : World} (h : laidMetH Tryz.prog Rows.gridRefsRow.laid W) : ∃ a, Laid W a ∧ SqL W := by
  have h' : laidMet Tryz.prog (("math/bits.deBruijn32tab", Rows.laid_math_bits_deBruijn32tab) :: ("math/bits.deBruijn64tab", Rows.laid_math_bits_deBruijn64tab) :: ("internal/strconv.uint64pow10", Rows.laid_internal_strconv_uint64pow10) :: ((eightNames ++ twoNames).map fun x => (x.1, sentData x.2.1))) W ∧ handlesMet Tryz.prog [("errors.errorType", Rows.laid_errors_errorType)] W := h
  have h3 := h'.1.tail.tail
  rw [gf_tab] at h3
  obtain ⟨a, ha⟩ := laid_of2 twoNames two_known h3.tail (handle_of h'.2 (List.mem_singleton.2 rfl))
  exact ⟨a, ha, Lib.tabIs_of_head (g := 11) (by kernel_rfl) (by kernel_rfl) Tryz.underlying136 Tryz.underlying112 (by kernel_rfl) (by kernel_rfl) h3, ⟨_, ha.cell 3 (by decide)⟩, ⟨_, ha.cell 2 (by decide)⟩⟩
theorem cellsRef : Tryz.prog.cellsOf 23 = 4 := by kernel_rfl

set_option maxRecDepth 100000 in
theorem gf_lifted (os : Os) (started : os.Started) (H : Type) (enc : TypeId × Value → H) :
    ReturnsInHanded {} Tryz.checked os 3 .any (fun w args => (Rows.gridRefsSpec.pre enc Tryz.prog Tryz.f3 [] false w args ∧ laidMetH Tryz.prog Rows.gridRefsRow.laid w) ∧ sizedMet enc Tryz.prog Tryz.f3 (OpenSpec.ofChange Rows.gridRefsSpec) false w args)
      (Rows.gridRefsSpec.post enc Tryz.prog Tryz.f3 false true false false) := by
  refine returnsInHanded_of_change_and (C := Tryz.checked) (X := fun w _ => laidMetH Tryz.prog Rows.gridRefsRow.laid w) (fun _ _ _ hh h => h.of_heap hh) own started (by kernel_rfl) Tryz.func3
    (ChangeSpec.witness_shaped (enc := enc) (C := Tryz.checked) (os := os) (X := fun w _ => laidMetH Tryz.prog Rows.gridRefsRow.laid w) false (World.doorLaid Tryz.prog 221 os) #[.int .i64 0, .int .i64 0, .agg #[.int .i64 0, .bool false, .int .i64 0, .int .i64 0], .string ⟨#[]⟩, .int .i64 0] 8 rfl (World.shaped_of_RefB (by kernel_rfl) (by kernel_rfl)) (by kernel_rfl) (by kernel_rfl) (by kernel_rfl) (gf_met os _)) ?_
  intro W base args ds gs before hval0 hW _ _ hL _
  have hval : ∀ (j : Nat) t v, Tryz.f3.params[j]? = some t → args[j]? = some v → Value.okWide Tryz.prog W .any base t v := hval0
  have hW' := hW
  obtain ⟨p, q, hA0, hV, rfl, hfz, hnd⟩ := hW
  have hA : DataW.TrodAll enc Tryz.prog W 0 (fun _ => true) true Tryz.f3.params.toList args.toList ds p := hA0
  rw [Tryz.params3] at hA hval
  obtain ⟨v0, vs0, d0, ds0, p0, q0, hargs, rfl, rfl, h0, hr0⟩ := trodAll_cons hA
  obtain ⟨v1, vs1, d1, ds1, p1, q1, rfl, rfl, rfl, h1, hr1⟩ := trodAll_cons hr0
  obtain ⟨v2, vs2, d2, ds2, p2, q2, rfl, rfl, rfl, h2, hr2⟩ := trodAll_cons hr1
  obtain ⟨v3, vs3, d3, ds3, p3, q3, rfl, rfl, rfl, h3, hr3⟩ := trodAll_cons hr2
  obtain ⟨v4, vs4, d4, ds4, p4, q4, rfl, rfl, rfl, h4, hr4⟩ := trodAll_cons hr3
  obtain ⟨rfl, rfl, rfl⟩ := trodAll_nil hr4
  obtain rfl : args = #[v0, v1, v2, v3, v4] := by cases args; simp_all
  obtain ⟨rfl, rfl⟩ := trodVars_none hV
  obtain ⟨g, hl, hq⟩ := gf_laid hL
  obtain ⟨lon, rfl, rfl, rfl, wl⟩ := open_int Tryz.underlying3 (hval 0 3 v0 rfl rfl) h0
  obtain ⟨zone, rfl, rfl, rfl, wo⟩ := open_int Tryz.underlying3 (hval 1 3 v1 rfl rfl) h1
  obtain ⟨c0, c1, c2, c3, y0, y1, y2, y3, m, rfl, rfl, rfl, k0, k1, k2, k3⟩ := open_agg4 Tryz.underlying23 (by kernel_rfl) cellsRef (hval 2 23 v2 rfl rfl) h2
  obtain ⟨z, e0, rfl, wz⟩ := DataW.trod_int Tryz.underlying3 k0
  obtain ⟨b, e1, rfl⟩ := DataW.trod_bool Tryz.underlying4 k1
  obtain ⟨x, e2, rfl, wx⟩ := DataW.trod_int Tryz.underlying3 k2
  obtain ⟨y, e3, rfl, wy⟩ := DataW.trod_int Tryz.underlying3 k3
  obtain rfl := List.singleton_inj.1 e0
  obtain rfl := List.singleton_inj.1 e1
  obtain rfl := List.singleton_inj.1 e2
  obtain rfl := List.singleton_inj.1 e3
  obtain ⟨s, rfl, rfl, rfl, ws⟩ := open_string Tryz.underlying9 (hval 3 9 v3 rfl rfl) h3
  obtain ⟨many, rfl, rfl, rfl, wm⟩ := open_int Tryz.underlying3 (hval 4 3 v4 rfl rfl) h4
  clear hA0 hval0 hA hr0 hr1 hr2 hr3 hr4
  simp only [List.append_nil] at hW'
  refine (gridRefs_walk g lon zone z b x y s many W hl hq).mono fun e W' ⟨he, hb⟩ => ?_
  subst he
  refine ⟨_, rfl, _, _, _, [], [], [], hW', ?_, ?_, ?_, hb.out.frame _, fun h => by cases h⟩
  · exact trodAll_cons_mk (shut_bool Tryz.underlying4 _) trodAll_mk0
  · exact trodAll_cons_mk (shut_int Tryz.underlying3 wl) (trodAll_cons_mk (shut_int Tryz.underlying3 wo) (trodAll_cons_mk (shut_agg4 (y0 := (.lit (.int .i64 z), [])) (y1 := (.lit (.bool b), [])) (y2 := (.lit (.int .i64 x), [])) (y3 := (.lit (.int .i64 y), [])) Tryz.underlying23 (by kernel_rfl) cellsRef ⟨1, by simp [DataW.trod, Tryz.underlying3, wz]⟩ ⟨1, by simp [DataW.trod, Tryz.underlying4]⟩ ⟨1, by simp [DataW.trod, Tryz.underlying3, wx]⟩ ⟨1, by simp [DataW.trod, Tryz.underlying3, wy]⟩) (trodAll_cons_mk (shut_string Tryz.underlying9 ws) (trodAll_cons_mk (shut_int Tryz.underlying3 wm) trodAll_mk0))))
  · rfl

theorem gf_said : Rows.GridRefsSaid :=
  OpenClaim.holds_of_wide 3 Tryz.f3 rfl rfl rfl rfl rfl rfl rfl ⟨rfl, rfl, rfl, rfl, rfl⟩ rfl rfl rfl rfl rfl (by kernel_rfl) Tryz.func3 (by kernel_rfl)
    (of_decide_eq_true (by kernel_rfl)) (by unfold Func.isWrapper; first | (rw [if_pos (by decide +kernel)]; kernel_rfl) | (rw [if_neg (by decide +kernel)]; exact ⟨rfl, rfl⟩))
    (fun os started H enc _ => gf_lifted os started H enc)

theorem gf_plain (f : FuncId) (fn : Func) (hf : Tryz.pinned.checked.prog.funcNamed "mercator/mercatorlaw2.GridRefs" = some f) (hfn : Tryz.pinned.checked.prog.funcs[f]? = some fn) :
    true = Tryz.pinned.checked.prog.looks [] ∧ ∀ (j : Nat) t, fn.params[j]? = some t → Tryz.pinned.checked.prog.wantsStandIn t = false := by
  obtain rfl : f = 3 := Option.some.inj ((show Tryz.prog.funcNamed "mercator/mercatorlaw2.GridRefs" = some 3 by kernel_rfl).symm.trans hf) |>.symm
  obtain rfl : fn = Tryz.f3 := (Option.some.inj (Tryz.func3.symm.trans hfn)).symm
  refine ⟨by kernel_rfl, fun j t ht => ?_⟩
  rw [Tryz.params3] at ht
  have hm := List.mem_of_getElem? (by simpa using ht)
  have hall : (([3, 3, 23, 9, 3] : List Nat).all fun t => !(Tryz.prog.wantsStandIn t)) = true := by kernel_rfl
  have := List.all_eq_true.1 hall t hm
  have h2 : Tryz.prog.wantsStandIn t = false := by simpa using this
  exact h2

theorem gf_card : Rows.GridRefsCardSaid :=
  Claim7.holds_tied_plain_at .later [] _ _ _ _ gf_said (fun _ h => by cases h) (by kernel_rfl) (fun _ h => by cases h) gridRefs_row_tie rfl ⟨rfl, rfl⟩ (by kernel_rfl) rfl gf_plain (by kernel_rfl)
end Go.Proofs.YtfahmaapodoaaaaGreatDoor
