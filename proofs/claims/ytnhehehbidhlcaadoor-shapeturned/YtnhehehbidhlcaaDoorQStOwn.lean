/- For every ring, point, number and step ShapeTurned answers true and leaves what it was handed as it was. Conditions: the two errors that the row lists are laid as the program lays them. -/
import Derived.Test.YtnhehehbidhlcaaDoorQShO
import Derived.Test.YtnhehehbidhlcaaDoorQLaidAll
import Derived.Test.YtnhehehbidhlcaaDoorCards
import Derived.Test.YtnhehehbidhlcaaDoorTie
import Derived.OpenShut
import Derived.Stop.Joined
import Derived.SevenTiedAt
import Derived.Lib.SmallJoins
import Derived.Carry
namespace Go.Proofs.YtnhehehbidhlcaaDoor
open Go.ChangeShapes Go.WideShapes Go.ChangeAt Go.RowKit Go.Joins

theorem wf_i64 {n : Int} (h : (Lit.int .i64 n).wf = true) : -9223372036854775808 ≤ n ∧ n ≤ 9223372036854775807 := by
  have h' : decide (IntKind.i64.min ≤ n) = true ∧ decide (n ≤ IntKind.i64.max) = true := by simpa [Lit.wf, Bool.and_eq_true] using h
  have e1 : IntKind.i64.min = -9223372036854775808 := by decide +kernel
  have e2 : IntKind.i64.max = 9223372036854775807 := by decide +kernel
  rw [e1, e2] at h'
  exact ⟨of_decide_eq_true h'.1, of_decide_eq_true h'.2⟩
theorem cellsSpot : Tryd.prog.cellsOf 24 = 2 := by kernel_rfl
def twoNames : List (String × List UInt8 × Nat) :=
  [("mercator/api.ErrBound", [109, 101, 114, 99, 97, 116, 111, 114, 58, 32, 98, 111, 117, 110, 100], 1),
   ("mercator/api.ErrShape", [109, 101, 114, 99, 97, 116, 111, 114, 58, 32, 115, 104, 97, 112, 101], 0)]
theorem two_known : ∀ x ∈ twoNames, Tryd.prog.globalNamed x.1 = some x.2.2 ∧ (Tryd.prog.globals[x.2.2]?).map (·.type) = some 28 := by
  intro x hx
  have hall : (twoNames.all fun x => Tryd.prog.globalNamed x.1 == some x.2.2 && ((Tryd.prog.globals[x.2.2]?).map (·.type)) == some 28) = true := by kernel_rfl
  have := List.all_eq_true.1 hall x hx
  simpa using this
theorem lb_of {W : World} (h : laidMet Tryd.prog (twoNames.map fun x => (x.1, sentData x.2.1)) W) : ∃ a, Lb W a := by
  obtain ⟨ps, hv, hnd, hrows⟩ := h
  obtain ⟨f, hf, hft, hfo⟩ : ∃ f, Tryd.prog.underlying 119 = some (.struct #[f]) ∧ f.type = 9 ∧ f.offset = 0 := ⟨_, Tryd.underlying119, rfl, rfl⟩
  obtain ⟨bs, hlen, _, hat⟩ := sents (P := Tryd.prog) (W := W) Tryd.underlying28 Tryd.sentRow Tryd.underlying97 hf hft hfo Tryd.underlying9 (by kernel_rfl) (by kernel_rfl) twoNames ps two_known hv hrows
  have hlen3 : bs.length = 2 := hlen
  have hget : ∀ i, i < 2 → bs[i]? = some (bs[i]?.getD ⟨0, 0, none⟩) := by
    intro i hi
    rw [List.getElem?_eq_getElem (by omega)]; rfl
  have hx : ∀ i, i < 2 → ∃ x, twoNames[i]? = some x ∧ x.2.2 = gv (i + 1) := by
    intro i hi
    match i, hi with
    | 0, _ | 1, _ => exact ⟨_, rfl, rfl⟩
  refine ⟨fun i => bs[i - 1]?.getD ⟨0, 0, none⟩, ⟨fun i hi => ?_⟩⟩
  obtain ⟨x, h1, h2⟩ := hx (i - 1) (by omega)
  have := (hat (i - 1) x _ h1 (hget (i - 1) (by omega))).1
  rw [h2, show i - 1 + 1 = i by omega] at this
  exact this
/-- The door's own heap meets the condition. -/
theorem stu_met (os : Os) (args : Array Value) : laidMetH Tryd.prog Rows.shapeTurnedRow.laid ((World.doorLaid Tryd.prog 168 os).forCall (fun _ _ => 0) ⟨#[], args, []⟩).memory :=
  show laidMet Tryd.prog Rows.shapeTurnedRow.laid _ from laidMet_of_run' 8 (by kernel_rfl) (by kernel_rfl)

theorem stu_laid {W : World} (h : laidMetH Tryd.prog Rows.shapeTurnedRow.laid W) : ∃ a, Lb W a := by
  have h' : laidMet Tryd.prog (twoNames.map fun x => (x.1, sentData x.2.1)) W := h
  exact lb_of h'

set_option maxRecDepth 100000 in
theorem stu_lifted (os : Os) (started : os.Started) (H : Type) (enc : TypeId × Value → H) :
    ReturnsInHanded {} Tryd.checked os 4 .any (fun w args => (Rows.shapeTurnedSpec.pre enc Tryd.prog Tryd.f4 [] false w args ∧ laidMetH Tryd.prog Rows.shapeTurnedRow.laid w) ∧ sizedMet enc Tryd.prog Tryd.f4 (OpenSpec.ofChange Rows.shapeTurnedSpec) false w args)
      (Rows.shapeTurnedSpec.post enc Tryd.prog Tryd.f4 false true false false) := by
  refine returnsInHanded_of_change_and (C := Tryd.checked) (X := fun w _ => laidMetH Tryd.prog Rows.shapeTurnedRow.laid w) (fun _ _ _ hh h => h.of_heap hh) own started (by kernel_rfl) Tryd.func4
    (ChangeSpec.witness_shaped (enc := enc) (C := Tryd.checked) (os := os) (X := fun w _ => laidMetH Tryd.prog Rows.shapeTurnedRow.laid w) false (World.doorLaid Tryd.prog 168 os) #[.slice none 0 0, .agg #[.int .i64 0, .int .i64 0], .int .i64 0, .agg #[.int .i64 0, .int .i64 0]] 8 rfl (World.shaped_of_RefB (by kernel_rfl) (by kernel_rfl)) (by kernel_rfl) (by kernel_rfl) (by kernel_rfl) (stu_met os _)) ?_
  intro W base args ds gs before hval0 hW _ _ hL _
  have hval : ∀ (j : Nat) t v, Tryd.f4.params[j]? = some t → args[j]? = some v → Value.okWide Tryd.prog W .any base t v := hval0
  have hW' := hW
  obtain ⟨p, q, hA0, hV, rfl, hfz, hnd⟩ := hW
  have hA : DataW.TrodAll enc Tryd.prog W 0 (fun _ => true) true Tryd.f4.params.toList args.toList ds p := hA0
  rw [Tryd.params4] at hA hval
  obtain ⟨v0, vs0, d0, ds0, p0, q0, hargs, rfl, rfl, h0, hr0⟩ := trodAll_cons hA
  obtain ⟨v1, vs1, d1, ds1, p1, q1, rfl, rfl, rfl, h1, hr1⟩ := trodAll_cons hr0
  obtain ⟨v2, vs2, d2, ds2, p2, q2, rfl, rfl, rfl, h2, hr2⟩ := trodAll_cons hr1
  obtain ⟨v3, vs3, d3, ds3, p3, q3, rfl, rfl, rfl, h3, hr3⟩ := trodAll_cons hr2
  obtain ⟨rfl, rfl, rfl⟩ := trodAll_nil hr3
  obtain rfl : args = #[v0, v1, v2, v3] := by cases args; simp_all
  obtain ⟨rfl, rfl⟩ := trodVars_none hV
  obtain ⟨g, hl⟩ := stu_laid hL
  obtain ⟨ad0, len0, cap0, rfl⟩ := okWide_slice Tryd.underlying22 (hval 0 22 v0 rfl rfl)
  have h0k := h0
  obtain ⟨fuel0, hf0⟩ := h0
  have hi0 : SArg W ad0 len0 cap0 := open_spots hf0
  obtain ⟨c1a, c1b, y1a, y1b, m1, rfl, rfl, rfl, hy1a, hy1b⟩ := open_agg2 Tryd.underlying24 (by kernel_rfl) cellsSpot (hval 1 24 v1 rfl rfl) h1
  obtain ⟨n1x, e1x, rfl, wx1⟩ := DataW.trod_int Tryd.underlying3 hy1a
  obtain ⟨n1y, e1y, rfl, wy1⟩ := DataW.trod_int Tryd.underlying3 hy1b
  simp at e1x e1y
  subst e1x e1y
  obtain ⟨n2, rfl, rfl, rfl, wh2⟩ := open_int Tryd.underlying3 (hval 2 3 v2 rfl rfl) h2
  obtain ⟨c3a, c3b, y3a, y3b, m3, rfl, rfl, rfl, hy3a, hy3b⟩ := open_agg2 Tryd.underlying24 (by kernel_rfl) cellsSpot (hval 3 24 v3 rfl rfl) h3
  obtain ⟨n3x, e3x, rfl, wx3⟩ := DataW.trod_int Tryd.underlying3 hy3a
  obtain ⟨n3y, e3y, rfl, wy3⟩ := DataW.trod_int Tryd.underlying3 hy3b
  simp at e3x e3y
  subst e3x e3y
  simp only [List.append_nil] at hW'
  have hlt0 : ∀ x ∈ p0, x.block < W.heap.size := fun x hx => by have := hW'.lt x (by simp [hx]); simpa using this
  clear hA0 hval0
  have reads : ∀ (W' : World) (sp : Nat → Bool) (x y : Int), (Lit.int .i64 x).wf = true → (Lit.int .i64 y).wf = true → DataW.Trod enc Tryd.prog W' 0 sp true 24 (.agg #[.int .i64 x, .int .i64 y]) (.agg [.lit (.int .i64 x), .lit (.int .i64 y)]) [] := fun W' sp x y hx hy =>
    shut_agg2 (y0 := (.lit (.int .i64 x), [])) (y1 := (.lit (.int .i64 y), [])) Tryd.underlying24 (by kernel_rfl) cellsSpot ⟨1, by simp [DataW.trod, Tryd.underlying3, hx]⟩ ⟨1, by simp [DataW.trod, Tryd.underlying3, hy]⟩
  refine (shapeTurned_law g ad0 len0 cap0 n1x n1y n2 n3x n3y W hl hi0 (wf_i64 wx1) (wf_i64 wy1)).mono fun e W' ⟨he, hb⟩ => ?_
  subst he
  refine ⟨_, rfl, _, _, _, [], p0 ++ ([] ++ ([] ++ ([] ++ ([])))), [], hW', ?_, ?_, ?_, hb.frame _, fun h => by cases h⟩
  · exact trodAll_cons_mk (shut_bool Tryd.underlying4 _) trodAll_mk0
  · exact trodAll_cons_mk (Below.trod (show laidOutB Tryd.prog = true by kernel_rfl) (by kernel_rfl) (of_decide_eq_true (by kernel_rfl)) h0k hb.out hlt0) (trodAll_cons_mk (reads _ _ n1x n1y wx1 wy1) (trodAll_cons_mk (shut_int Tryd.underlying3 wh2) (trodAll_cons_mk (reads _ _ n3x n3y wx3 wy3) trodAll_mk0)))
  · rfl

theorem stu_said : Rows.ShapeTurnedSaid :=
  OpenClaim.holds_of_wide 4 Tryd.f4 rfl rfl rfl rfl rfl rfl rfl ⟨rfl, rfl, rfl, rfl, rfl⟩ rfl rfl rfl rfl rfl (by kernel_rfl) Tryd.func4 (by kernel_rfl)
    (of_decide_eq_true (by kernel_rfl)) (by unfold Func.isWrapper; first | (rw [if_pos (by decide +kernel)]; kernel_rfl) | (rw [if_neg (by decide +kernel)]; exact ⟨rfl, rfl⟩))
    (fun os started H enc _ => stu_lifted os started H enc)

theorem stu_plain (f : FuncId) (fn : Func) (hf : Tryd.pinned.checked.prog.funcNamed "mercator/mercatorlaw5.ShapeTurned" = some f) (hfn : Tryd.pinned.checked.prog.funcs[f]? = some fn) :
    true = Tryd.pinned.checked.prog.looks [] ∧ ∀ (j : Nat) t, fn.params[j]? = some t → Tryd.pinned.checked.prog.wantsStandIn t = false := by
  obtain rfl : f = 4 := Option.some.inj ((show Tryd.prog.funcNamed "mercator/mercatorlaw5.ShapeTurned" = some 4 by kernel_rfl).symm.trans hf) |>.symm
  obtain rfl : fn = Tryd.f4 := (Option.some.inj (Tryd.func4.symm.trans hfn)).symm
  refine ⟨by kernel_rfl, fun j t ht => ?_⟩
  rw [Tryd.params4] at ht
  have hm := List.mem_of_getElem? (by simpa using ht)
  have hall : (([22, 24, 3, 24] : List Nat).all fun t => !(Tryd.prog.wantsStandIn t)) = true := by kernel_rfl
  have := List.all_eq_true.1 hall t hm
  have h2 : Tryd.prog.wantsStandIn t = false := by simpa using this
  exact h2

theorem stu_card : Rows.ShapeTurnedCardSaid :=
  Claim7.holds_tied_plain_at .later [] _ _ _ _ stu_said (fun _ h => by cases h) (by kernel_rfl) (fun _ h => by cases h) shapeTurned_row_tie rfl ⟨rfl, rfl⟩ (by kernel_rfl) rfl stu_plain (by kernel_rfl)
end Go.Proofs.YtnhehehbidhlcaaDoor
