/- GlobeDatums is true: for every datum and every vector, called in any memory in which the program's own start-up text has laid its errors, it returns true and changes nothing that was there. -/
import Derived.Test.YtmiamfnnccjmeacDoorDaO
import Derived.Test.YtmiamfnnccjmeacDoorLaidAll
import Derived.Test.YtmiamfnnccjmeacDoorCards
import Derived.Test.YtmiamfnnccjmeacDoorTie
import Derived.OpenShut
import Derived.Stop.Joined
import Derived.SevenTiedAt
import Derived.Lib.SmallJoins
namespace Go.Proofs.YtmiamfnnccjmeacDoor
open Go.ChangeShapes Go.WideShapes Go.ChangeAt Go.RowKit Go.Joins Go.Deep FB

theorem datums_walk (g : Nat → Addr) (X Y Z A B C S x y z : Nat) (hX : X < 18446744073709551616) (hY : Y < 18446744073709551616) (hZ : Z < 18446744073709551616) (hA : A < 18446744073709551616) (hB : B < 18446744073709551616) (hC : C < 18446744073709551616) (hS : S < 18446744073709551616) (hx : x < 18446744073709551616) (hy : y < 18446744073709551616) (hz : z < 18446744073709551616) (w : World) (hl : Laid w g) : Calls Tryd.prog 3 #[dV X Y Z A B C S, vV x y z] w fun e w' => e = .returned (.bool true) ∧ Below w.heap.size w w' := by
  cases h : okD X Y Z A B C S with
  | false => exact datums_no g X Y Z A B C S x y z h w hl
  | true =>
    cases hv : okV x y z with
    | false => exact datums_far g X Y Z A B C S x y z h hv w hl
    | true =>
      have q := dq_of hX hY hZ hA hB hC hS hx hy hz h hv
      cases b1 : wiB 4726483295884279808 13949855332739055616 x with
      | false => exact datums_great1 g X Y Z A B C S x y z h hv q b1 w hl
      | true =>
        cases b2 : wiB 4726483295884279808 13949855332739055616 y with
        | false => exact datums_great2 g X Y Z A B C S x y z h hv q b1 b2 w hl
        | true =>
          cases b3 : wiB 4726483295884279808 13949855332739055616 z with
          | false => exact datums_great3 g X Y Z A B C S x y z h hv q b1 b2 b3 w hl
          | true => exact datums_back g X Y Z A B C S x y z h hv q (wi_Q hx b1) (wi_Q hy b2) (wi_Q hz b3) b1 b2 b3 w hl
theorem wf_lt {b : Nat} (h : (Lit.float .f64 b).wf = true) : b < 18446744073709551616 := by simpa [Lit.wf] using h
theorem trodF {H : Type} {enc : TypeId × Value → H} {P : Program} {w : World} {base : Nat} {spare : Nat → Bool} {held : Bool} {fuel : Nat} {t : TypeId} {cs : List Value} {x : DataW H × List MemPlace} {k : FloatKind} (ht : P.underlying t = some (.float k)) (h : DataW.trod enc P w base spare held fuel t cs = some x) : ∃ n, cs = [.float k n] ∧ x = (.lit (.float k n), []) ∧ (Lit.float k n).wf = true := by
  cases fuel with
  | zero => simp [DataW.trod] at h
  | succ n =>
    unfold DataW.trod at h
    rw [ht] at h
    split at h <;> simp_all
section
variable {H : Type} {enc : TypeId × Value → H} {P : Program} {w : World} {base : Nat} {spare : Nat → Bool} {held : Bool}
theorem array7 {cs : Array Value} (h : cs.size = 7) : ∃ c0 c1 c2 c3 c4 c5 c6, cs = #[c0, c1, c2, c3, c4, c5, c6] := by
  obtain ⟨l⟩ := cs
  match l, h with
  | [c0, c1, c2, c3, c4, c5, c6], _ => exact ⟨c0, c1, c2, c3, c4, c5, c6, rfl⟩
theorem open7 {r : Reach} {b0 : Nat} {t : TypeId} {f0 f1 f2 f3 f4 f5 f6 : Field} {v : Value} {d : DataW H} {p : List MemPlace} (hs : P.underlying t = some (.struct #[f0, f1, f2, f3, f4, f5, f6])) (hone : oneCellFields P #[f0, f1, f2, f3, f4, f5, f6] = true) (hC : P.cellsOf t = 7) (hv : Value.okWide P w r b0 t v) (h : DataW.Trod enc P w base spare held t v d p) :
    ∃ (c0 c1 c2 c3 c4 c5 c6 : Value) (y0 y1 y2 y3 y4 y5 y6 : DataW H × List MemPlace) (n : Nat), v = .agg #[c0, c1, c2, c3, c4, c5, c6] ∧ d = .agg [y0.1, y1.1, y2.1, y3.1, y4.1, y5.1, y6.1] ∧ p = y0.2 ++ (y1.2 ++ (y2.2 ++ (y3.2 ++ (y4.2 ++ (y5.2 ++ (y6.2)))))) ∧ DataW.trod enc P w base spare held n f0.type [c0] = some y0 ∧ DataW.trod enc P w base spare held n f1.type [c1] = some y1 ∧ DataW.trod enc P w base spare held n f2.type [c2] = some y2 ∧ DataW.trod enc P w base spare held n f3.type [c3] = some y3 ∧ DataW.trod enc P w base spare held n f4.type [c4] = some y4 ∧ DataW.trod enc P w base spare held n f5.type [c5] = some y5 ∧ DataW.trod enc P w base spare held n f6.type [c6] = some y6 := by
  obtain ⟨cs, rfl, hsz⟩ := okWide_struct hs hv
  obtain ⟨c0, c1, c2, c3, c4, c5, c6, rfl⟩ := array7 (hsz.trans hC)
  obtain ⟨fuel, hf⟩ := h
  obtain ⟨xs, n, _, hx, _, hlen, hg⟩ := DataW.trod_struct hs hf
  obtain ⟨o0, k0⟩ := hone_of hone 0 f0 rfl
  obtain ⟨o1, k1⟩ := hone_of hone 1 f1 rfl
  obtain ⟨o2, k2⟩ := hone_of hone 2 f2 rfl
  obtain ⟨o3, k3⟩ := hone_of hone 3 f3 rfl
  obtain ⟨o4, k4⟩ := hone_of hone 4 f4 rfl
  obtain ⟨o5, k5⟩ := hone_of hone 5 f5 rfl
  obtain ⟨o6, k6⟩ := hone_of hone 6 f6 rfl
  match xs, hlen with
  | [y0, y1, y2, y3, y4, y5, y6], _ =>
    simp only [Prod.mk.injEq] at hx
    exact ⟨c0, c1, c2, c3, c4, c5, c6, y0, y1, y2, y3, y4, y5, y6, n, rfl, by simpa using hx.1, by simpa using hx.2, by simpa [Value.cells, o0, k0] using hg 0 f0 rfl, by simpa [Value.cells, o1, k1] using hg 1 f1 rfl, by simpa [Value.cells, o2, k2] using hg 2 f2 rfl, by simpa [Value.cells, o3, k3] using hg 3 f3 rfl, by simpa [Value.cells, o4, k4] using hg 4 f4 rfl, by simpa [Value.cells, o5, k5] using hg 5 f5 rfl, by simpa [Value.cells, o6, k6] using hg 6 f6 rfl⟩
theorem shut7 {t : TypeId} {f0 f1 f2 f3 f4 f5 f6 : Field} {c0 c1 c2 c3 c4 c5 c6 : Value} {y0 y1 y2 y3 y4 y5 y6 : DataW H × List MemPlace} (hs : P.underlying t = some (.struct #[f0, f1, f2, f3, f4, f5, f6])) (hone : oneCellFields P #[f0, f1, f2, f3, f4, f5, f6] = true) (hC : P.cellsOf t = 7) (t0 : ∃ n, DataW.trod enc P w base spare held n f0.type [c0] = some y0) (t1 : ∃ n, DataW.trod enc P w base spare held n f1.type [c1] = some y1) (t2 : ∃ n, DataW.trod enc P w base spare held n f2.type [c2] = some y2) (t3 : ∃ n, DataW.trod enc P w base spare held n f3.type [c3] = some y3) (t4 : ∃ n, DataW.trod enc P w base spare held n f4.type [c4] = some y4) (t5 : ∃ n, DataW.trod enc P w base spare held n f5.type [c5] = some y5) (t6 : ∃ n, DataW.trod enc P w base spare held n f6.type [c6] = some y6) :
    DataW.Trod enc P w base spare held t (.agg #[c0, c1, c2, c3, c4, c5, c6]) (.agg [y0.1, y1.1, y2.1, y3.1, y4.1, y5.1, y6.1]) (y0.2 ++ (y1.2 ++ (y2.2 ++ (y3.2 ++ (y4.2 ++ (y5.2 ++ (y6.2))))))) := by
  obtain ⟨n0, t0⟩ := t0
  obtain ⟨n1, t1⟩ := t1
  obtain ⟨n2, t2⟩ := t2
  obtain ⟨n3, t3⟩ := t3
  obtain ⟨n4, t4⟩ := t4
  obtain ⟨n5, t5⟩ := t5
  obtain ⟨n6, t6⟩ := t6
  obtain ⟨o0, k0⟩ := hone_of hone 0 f0 rfl
  obtain ⟨o1, k1⟩ := hone_of hone 1 f1 rfl
  obtain ⟨o2, k2⟩ := hone_of hone 2 f2 rfl
  obtain ⟨o3, k3⟩ := hone_of hone 3 f3 rfl
  obtain ⟨o4, k4⟩ := hone_of hone 4 f4 rfl
  obtain ⟨o5, k5⟩ := hone_of hone 5 f5 rfl
  obtain ⟨o6, k6⟩ := hone_of hone 6 f6 rfl
  have u0 : DataW.trod enc P w base spare held (n0 + n1 + n2 + n3 + n4 + n5 + n6) f0.type (([c0, c1, c2, c3, c4, c5, c6].drop f0.offset).take (P.cellsOf f0.type)) = some y0 := by simpa [o0, k0] using DataW.trod_le (show n0 ≤ n0 + n1 + n2 + n3 + n4 + n5 + n6 by omega) t0
  have u1 : DataW.trod enc P w base spare held (n0 + n1 + n2 + n3 + n4 + n5 + n6) f1.type (([c0, c1, c2, c3, c4, c5, c6].drop f1.offset).take (P.cellsOf f1.type)) = some y1 := by simpa [o1, k1] using DataW.trod_le (show n1 ≤ n0 + n1 + n2 + n3 + n4 + n5 + n6 by omega) t1
  have u2 : DataW.trod enc P w base spare held (n0 + n1 + n2 + n3 + n4 + n5 + n6) f2.type (([c0, c1, c2, c3, c4, c5, c6].drop f2.offset).take (P.cellsOf f2.type)) = some y2 := by simpa [o2, k2] using DataW.trod_le (show n2 ≤ n0 + n1 + n2 + n3 + n4 + n5 + n6 by omega) t2
  have u3 : DataW.trod enc P w base spare held (n0 + n1 + n2 + n3 + n4 + n5 + n6) f3.type (([c0, c1, c2, c3, c4, c5, c6].drop f3.offset).take (P.cellsOf f3.type)) = some y3 := by simpa [o3, k3] using DataW.trod_le (show n3 ≤ n0 + n1 + n2 + n3 + n4 + n5 + n6 by omega) t3
  have u4 : DataW.trod enc P w base spare held (n0 + n1 + n2 + n3 + n4 + n5 + n6) f4.type (([c0, c1, c2, c3, c4, c5, c6].drop f4.offset).take (P.cellsOf f4.type)) = some y4 := by simpa [o4, k4] using DataW.trod_le (show n4 ≤ n0 + n1 + n2 + n3 + n4 + n5 + n6 by omega) t4
  have u5 : DataW.trod enc P w base spare held (n0 + n1 + n2 + n3 + n4 + n5 + n6) f5.type (([c0, c1, c2, c3, c4, c5, c6].drop f5.offset).take (P.cellsOf f5.type)) = some y5 := by simpa [o5, k5] using DataW.trod_le (show n5 ≤ n0 + n1 + n2 + n3 + n4 + n5 + n6 by omega) t5
  have u6 : DataW.trod enc P w base spare held (n0 + n1 + n2 + n3 + n4 + n5 + n6) f6.type (([c0, c1, c2, c3, c4, c5, c6].drop f6.offset).take (P.cellsOf f6.type)) = some y6 := by simpa [o6, k6] using DataW.trod_le (show n6 ≤ n0 + n1 + n2 + n3 + n4 + n5 + n6 by omega) t6
  have ts := trod_struct_mk (enc := enc) (w := w) (base := base) (spare := spare) (held := held) (n := n0 + n1 + n2 + n3 + n4 + n5 + n6) (cs := [c0, c1, c2, c3, c4, c5, c6]) (xs := [y0, y1, y2, y3, y4, y5, y6]) hs (by simp [hC]) (by simp [u0, u1, u2, u3, u4, u5, u6])
  exact ⟨_, by simpa [Value.cells] using ts⟩
end
theorem cellsDatum : Tryd.prog.cellsOf 24 = 7 := by kernel_rfl
theorem cellsVec : Tryd.prog.cellsOf 26 = 3 := by kernel_rfl
/-- The door's own heap meets the condition. -/
theorem gd_met (os : Os) (args : Array Value) : laidMetH Tryd.prog Rows.globeDatumsRow.laid ((World.doorLaid Tryd.prog 168 os).forCall (fun _ _ => 0) ⟨#[], args, []⟩).memory :=
  laidMetH_of_parts3 (fuel := 8) (laidMet_of_run' 8 (by kernel_rfl) (by kernel_rfl)) (by kernel_rfl) (by kernel_rfl)

theorem gd_laid {W : World} (h : laidMetH Tryd.prog Rows.globeDatumsRow.laid W) : ∃ a, Laid W a := by
  have h' : laidMet Tryd.prog (eightNames.map fun x => (x.1, sentData x.2.1)) W ∧ handlesMet Tryd.prog [("errors.errorType", Rows.laid_errors_errorType)] W := h
  exact laid_of h'.1 (handle_of h'.2 (List.mem_singleton.2 rfl))

set_option maxRecDepth 100000 in
theorem gd_lifted (os : Os) (started : os.Started) (H : Type) (enc : TypeId × Value → H) :
    ReturnsInHanded {} Tryd.checked os 3 .any (fun w args => (Rows.globeDatumsSpec.pre enc Tryd.prog Tryd.f3 [] false w args ∧ laidMetH Tryd.prog Rows.globeDatumsRow.laid w) ∧ sizedMet enc Tryd.prog Tryd.f3 (OpenSpec.ofChange Rows.globeDatumsSpec) false w args)
      (Rows.globeDatumsSpec.post enc Tryd.prog Tryd.f3 false true false false) := by
  refine returnsInHanded_of_change_and (C := Tryd.checked) (X := fun w _ => laidMetH Tryd.prog Rows.globeDatumsRow.laid w) (fun _ _ _ hh h => h.of_heap hh) own started (by kernel_rfl) Tryd.func3
    (ChangeSpec.witness_shaped (enc := enc) (C := Tryd.checked) (os := os) (X := fun w _ => laidMetH Tryd.prog Rows.globeDatumsRow.laid w) false (World.doorLaid Tryd.prog 168 os) #[.agg #[.float .f64 0, .float .f64 0, .float .f64 0, .float .f64 0, .float .f64 0, .float .f64 0, .float .f64 0], .agg #[.float .f64 0, .float .f64 0, .float .f64 0]] 8 rfl (World.shaped_of_RefB (by kernel_rfl) (by kernel_rfl)) (by kernel_rfl) (by kernel_rfl) (by kernel_rfl) (gd_met os _)) ?_
  intro W base args ds gs before hval0 hW _ _ hL _
  have hval : ∀ (j : Nat) t v, Tryd.f3.params[j]? = some t → args[j]? = some v → Value.okWide Tryd.prog W .any base t v := hval0
  have hW' := hW
  obtain ⟨p, q, hA0, hV, rfl, hfz, hnd⟩ := hW
  have hA : DataW.TrodAll enc Tryd.prog W 0 (fun _ => true) true Tryd.f3.params.toList args.toList ds p := hA0
  rw [Tryd.params3] at hA hval
  obtain ⟨v0, v1, d0, d1, p0, p1, hargs, rfl, rfl, h0, h1⟩ := trodAll_two hA
  obtain rfl : args = #[v0, v1] := by cases args; simp_all
  obtain ⟨rfl, rfl⟩ := trodVars_none hV
  obtain ⟨g, hl⟩ := gd_laid hL
  obtain ⟨c0, c1, c2, c3, c4, c5, c6, y0, y1, y2, y3, y4, y5, y6, m, rfl, rfl, rfl, hy0, hy1, hy2, hy3, hy4, hy5, hy6⟩ := open7 Tryd.underlying24 (by kernel_rfl) cellsDatum (hval 0 24 v0 rfl rfl) h0
  obtain ⟨X, e0, rfl, wX⟩ := trodF Tryd.underlying22 hy0
  obtain ⟨Y, e1, rfl, wY⟩ := trodF Tryd.underlying22 hy1
  obtain ⟨Z, e2, rfl, wZ⟩ := trodF Tryd.underlying22 hy2
  obtain ⟨A, e3, rfl, wA⟩ := trodF Tryd.underlying22 hy3
  obtain ⟨B, e4, rfl, wB⟩ := trodF Tryd.underlying22 hy4
  obtain ⟨C, e5, rfl, wC⟩ := trodF Tryd.underlying22 hy5
  obtain ⟨S, e6, rfl, wS⟩ := trodF Tryd.underlying22 hy6
  simp at e0 e1 e2 e3 e4 e5 e6
  subst e0 e1 e2 e3 e4 e5 e6
  obtain ⟨a4, a5, a6, z4, z5, z6, m2, rfl, rfl, rfl, hz4, hz5, hz6⟩ := open_agg3 Tryd.underlying26 (by kernel_rfl) cellsVec (hval 1 26 v1 rfl rfl) h1
  obtain ⟨x, e4, rfl, wx⟩ := trodF Tryd.underlying22 hz4
  obtain ⟨y, e5, rfl, wy⟩ := trodF Tryd.underlying22 hz5
  obtain ⟨z, e6, rfl, wz⟩ := trodF Tryd.underlying22 hz6
  simp at e4 e5 e6
  subst e4 e5 e6
  clear hA0 hval0
  simp only [List.append_nil] at hW'
  have readsD : ∀ (W' : World) (sp : Nat → Bool), DataW.Trod enc Tryd.prog W' 0 sp true 24 (.agg #[.float .f64 X, .float .f64 Y, .float .f64 Z, .float .f64 A, .float .f64 B, .float .f64 C, .float .f64 S]) (.agg [.lit (.float .f64 X), .lit (.float .f64 Y), .lit (.float .f64 Z), .lit (.float .f64 A), .lit (.float .f64 B), .lit (.float .f64 C), .lit (.float .f64 S)]) [] := fun W' sp =>
    shut7 (y0 := (.lit (.float .f64 X), [])) (y1 := (.lit (.float .f64 Y), [])) (y2 := (.lit (.float .f64 Z), [])) (y3 := (.lit (.float .f64 A), [])) (y4 := (.lit (.float .f64 B), [])) (y5 := (.lit (.float .f64 C), [])) (y6 := (.lit (.float .f64 S), [])) Tryd.underlying24 (by kernel_rfl) cellsDatum ⟨1, by simp [DataW.trod, Tryd.underlying22, wX]⟩ ⟨1, by simp [DataW.trod, Tryd.underlying22, wY]⟩ ⟨1, by simp [DataW.trod, Tryd.underlying22, wZ]⟩ ⟨1, by simp [DataW.trod, Tryd.underlying22, wA]⟩ ⟨1, by simp [DataW.trod, Tryd.underlying22, wB]⟩ ⟨1, by simp [DataW.trod, Tryd.underlying22, wC]⟩ ⟨1, by simp [DataW.trod, Tryd.underlying22, wS]⟩
  have readsV : ∀ (W' : World) (sp : Nat → Bool), DataW.Trod enc Tryd.prog W' 0 sp true 26 (.agg #[.float .f64 x, .float .f64 y, .float .f64 z]) (.agg [.lit (.float .f64 x), .lit (.float .f64 y), .lit (.float .f64 z)]) [] := fun W' sp =>
    shut_agg3 (y0 := (.lit (.float .f64 x), [])) (y1 := (.lit (.float .f64 y), [])) (y2 := (.lit (.float .f64 z), [])) Tryd.underlying26 (by kernel_rfl) cellsVec ⟨1, by simp [DataW.trod, Tryd.underlying22, wx]⟩ ⟨1, by simp [DataW.trod, Tryd.underlying22, wy]⟩ ⟨1, by simp [DataW.trod, Tryd.underlying22, wz]⟩
  refine (datums_walk g X Y Z A B C S x y z (wf_lt wX) (wf_lt wY) (wf_lt wZ) (wf_lt wA) (wf_lt wB) (wf_lt wC) (wf_lt wS) (wf_lt wx) (wf_lt wy) (wf_lt wz) W hl).mono fun e W' ⟨he, hb⟩ => ?_
  subst he
  refine ⟨_, rfl, _, _, _, [], [], [], hW', ?_, ?_, ?_, hb.frame _, fun h => by cases h⟩
  · exact trodAll_cons_mk (shut_bool Tryd.underlying4 _) trodAll_mk0
  · exact trodAll_cons_mk (readsD _ _) (trodAll_cons_mk (readsV _ _) trodAll_mk0)
  · rfl

theorem gd_said : Rows.GlobeDatumsSaid :=
  OpenClaim.holds_of_wide 3 Tryd.f3 rfl rfl rfl rfl rfl rfl rfl ⟨rfl, rfl, rfl, rfl, rfl⟩ rfl rfl rfl rfl rfl (by kernel_rfl) Tryd.func3 (by kernel_rfl)
    (of_decide_eq_true (by kernel_rfl)) (by unfold Func.isWrapper; first | (rw [if_pos (by decide +kernel)]; kernel_rfl) | (rw [if_neg (by decide +kernel)]; exact ⟨rfl, rfl⟩))
    (fun os started H enc _ => gd_lifted os started H enc)

theorem gd_plain (f : FuncId) (fn : Func) (hf : Tryd.pinned.checked.prog.funcNamed "mercator/mercatorlaw2.GlobeDatums" = some f) (hfn : Tryd.pinned.checked.prog.funcs[f]? = some fn) :
    true = Tryd.pinned.checked.prog.looks [] ∧ ∀ (j : Nat) t, fn.params[j]? = some t → Tryd.pinned.checked.prog.wantsStandIn t = false := by
  obtain rfl : f = 3 := Option.some.inj ((show Tryd.prog.funcNamed "mercator/mercatorlaw2.GlobeDatums" = some 3 by kernel_rfl).symm.trans hf) |>.symm
  obtain rfl : fn = Tryd.f3 := (Option.some.inj (Tryd.func3.symm.trans hfn)).symm
  refine ⟨by kernel_rfl, fun j t ht => ?_⟩
  rw [Tryd.params3] at ht
  have hm := List.mem_of_getElem? (by simpa using ht)
  have hall : (([24, 26] : List Nat).all fun t => !(Tryd.prog.wantsStandIn t)) = true := by kernel_rfl
  have := List.all_eq_true.1 hall t hm
  have h2 : Tryd.prog.wantsStandIn t = false := by simpa using this
  exact h2

theorem gd_card : Rows.GlobeDatumsCardSaid :=
  Claim7.holds_tied_plain_at .later [] _ _ _ _ gd_said (fun _ h => by cases h) (by kernel_rfl) (fun _ h => by cases h) globeDatums_row_tie rfl ⟨rfl, rfl⟩ (by kernel_rfl) rfl gd_plain (by kernel_rfl)
end Go.Proofs.YtmiamfnnccjmeacDoor
