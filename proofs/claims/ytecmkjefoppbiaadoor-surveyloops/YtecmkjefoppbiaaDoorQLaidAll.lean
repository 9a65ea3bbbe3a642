/-
  What the row's list gives the walks: the eight sentinels are different pointers, each variable's cell is known, and errors.errorType is the handle of error.
-/
import Derived.Test.YtecmkjefoppbiaaDoorRows
import Derived.Test.YtecmkjefoppbiaaDoorQJ8
import Derived.ProofKit
import Derived.LaidLaws
import Derived.LaidHandle
import Derived.LaidMore
import Derived.Stop.LaidErr
namespace Go.Proofs.YtecmkjefoppbiaaDoor
open Go.ChangeShapes Go.WideShapes Go.RowKit

theorem own : ownKnob Tryd.prog.godebug = none := by kernel_rfl
theorem Tryd.et : Tryd.prog.globalNamed "errors.errorType" = some 8 := by kernel_rfl
theorem Tryd.rt : (Tryd.prog.cutTypes.find? (·.1 == "internal/reflectlite.rtype")).map (·.2) = some 114 := by kernel_rfl
theorem Tryd.oneRow : ((List.range 170).filter fun t => Tryd.prog.rowNamed t [101, 114, 114, 111, 114]) = [30] := by kernel_rfl
theorem Tryd.size : Tryd.prog.types.size = 170 := by kernel_rfl

theorem handle_of {W : World} {hs : List (String × DataW Unit)} (h : handlesMet Tryd.prog hs W) (hm : ("errors.errorType", Rows.laid_errors_errorType) ∈ hs) :
    W.cell? ⟨8, 0, none⟩ = some (.iface 114 (.agg #[.pointer (some ⟨11, 30, none⟩)])) := by
  obtain ⟨name, u, ty, e1, e2, e3, e4, e5⟩ := h _ hm
  have en : name = [101, 114, 114, 111, 114] := (Option.some.inj e1).symm
  subst en
  obtain rfl := Option.some.inj (Tryd.rt.symm.trans e2)
  have hm : ty ∈ (List.range 170).filter fun t => Tryd.prog.rowNamed t [101, 114, 114, 111, 114] := List.mem_filter.2 ⟨List.mem_range.2 (by rw [← Tryd.size]; exact e3), e4⟩
  rw [Tryd.oneRow] at hm
  obtain rfl := List.mem_singleton.1 hm
  have hh : typeHandle Tryd.prog 30 = .pointer (some ⟨11, 30, none⟩) := by kernel_rfl
  rw [hh] at e5
  simpa using World.var?_cell Tryd.et e5 0

def sentData (text : List UInt8) : DataW Unit := .iface "*errors.errorString" (.ptr (.agg [.lit (.string text)]))

theorem sents {P : Program} {W : World} {ti tp te ts : TypeId} {ms : Array (String × TypeId)} {f : Field}
    (hi : P.underlying ti = some (.interface ms)) (hrow : ∀ u, P.typeName? 3 u = some "*errors.errorString" → u = tp)
    (hp : P.underlying tp = some (.pointer te)) (he : P.underlying te = some (.struct #[f])) (hft : f.type = ts) (hfo : f.offset = 0) (hs : P.underlying ts = some .string) (hc : P.cellsOf te = 1) (hcs : P.cellsOf ts = 1) :
    ∀ (l : List (String × List UInt8 × Nat)) (ps : List MemPlace), (∀ x ∈ l, P.globalNamed x.1 = some x.2.2 ∧ (P.globals[x.2.2]?).map (·.type) = some ti) →
      DataW.LaidVars P W (l.map fun x => (x.1, sentData x.2.1)) ps →
      (∀ b off, MemPlace.cell b off ∈ ps → (∃ c t, W.heap[b]? = some (.cells c t (0, 0))) ∧ ∀ u v, W.cell? ⟨b, off, none⟩ = some (.iface u v) → Value.okWide P W .any 0 u v) →
      ∃ bs : List Addr, bs.length = l.length ∧ List.Sublist (bs.map fun a : Addr => MemPlace.cell a.block a.off) ps ∧
        ∀ (i : Nat) (x : String × List UInt8 × Nat) (a : Addr), l[i]? = some x → bs[i]? = some a → W.cell? ⟨x.2.2, 0, none⟩ = some (.iface tp (.pointer (some a))) ∧ ∃ c t, W.heap[a.block]? = some (.cells c t (0, 0)) := by
  intro l
  induction l with
  | nil => intro ps _ _ _; exact ⟨[], rfl, List.nil_sublist _, fun i x a h => by simp at h⟩
  | cons x r ih =>
    intro ps hall hv hrows
    obtain ⟨g0, t0, cs0, f0, p0, q0, hg0, ht0, hv0, hd0, hr, e0⟩ := hv
    obtain ⟨hg, ht⟩ := hall x (List.mem_cons_self ..)
    obtain rfl := Option.some.inj (hg.symm.trans hg0)
    obtain rfl := Option.some.inj (ht.symm.trans ht0)
    subst e0
    obtain ⟨l0⟩ := cs0
    have ok0 : ∀ u v, l0 = [.iface u v] → Value.okWide P W .any 0 u v := fun u v e => by
      subst e
      exact (hrows x.2.2 0 (by simp [MemPlace.row])).2 u v (by simpa using World.var?_cell hg0 hv0 0)
    obtain ⟨a0, s0, rfl, hc0, hs0, hz0, rfl⟩ := errorString_of_trod hi hrow hp he hft hfo hs hc hcs hd0 ok0
    obtain ⟨bs, hlen, hsub, hat⟩ := ih q0 (fun y hy => hall y (List.mem_cons_of_mem _ hy)) hr (fun b off hm => hrows b off (List.mem_append_right _ hm))
    refine ⟨a0 :: bs, by simp [hlen], ?_, ?_⟩
    · simp only [List.map_cons]
      have h1 : [MemPlace.cell a0.block a0.off].Sublist (MemPlace.row ⟨x.2.2, 0, none⟩ 1 ++ MemPlace.row a0 1) := by
        refine List.Sublist.trans ?_ (List.sublist_append_right _ _)
        simp [MemPlace.row]
      exact List.Sublist.append h1 hsub
    · intro i y a h1 h2
      match i, h1, h2 with
      | 0, h1, h2 =>
        simp at h1 h2
        subst h1 h2
        exact ⟨by simpa using World.var?_cell hg0 hv0 0, (hrows a0.block a0.off (by simp [MemPlace.row])).1⟩
      | i + 1, h1, h2 => exact hat i y a (by simpa using h1) (by simpa using h2)

theorem starName : "*" ++ "errors.errorString" = "*errors.errorString" := by decide
theorem Tryd.sentRow (u : TypeId) (h : Tryd.prog.typeName? 3 u = some "*errors.errorString") : u = 136 :=
  typeName_ptr_named (nm := "errors.errorString") (by rw [starName]; kernel_rfl) (by kernel_rfl) (by decide) u (by rw [starName]; exact h)

def eightNames : List (String × List UInt8 × Nat) :=
  [("mercator/api.ErrText", [109, 101, 114, 99, 97, 116, 111, 114, 58, 32, 116, 101, 120, 116], 3), ("mercator/api.ErrBound", [109, 101, 114, 99, 97, 116, 111, 114, 58, 32, 98, 111, 117, 110, 100], 0),
   ("mercator/api.ErrShape", [109, 101, 114, 99, 97, 116, 111, 114, 58, 32, 115, 104, 97, 112, 101], 1), ("mercator/api.ErrRange", [109, 101, 114, 99, 97, 116, 111, 114, 58, 32, 114, 97, 110, 103, 101], 4),
   ("mercator/api.ErrName", [109, 101, 114, 99, 97, 116, 111, 114, 58, 32, 110, 97, 109, 101], 5), ("mercator/api.ErrNone", [109, 101, 114, 99, 97, 116, 111, 114, 58, 32, 110, 111, 110, 101], 2),
   ("mercator/api.ErrOrder", [109, 101, 114, 99, 97, 116, 111, 114, 58, 32, 111, 114, 100, 101, 114], 6), ("mercator/api.ErrFile", [109, 101, 114, 99, 97, 116, 111, 114, 58, 32, 102, 105, 108, 101], 7)]

theorem eight_known : ∀ x ∈ eightNames, Tryd.prog.globalNamed x.1 = some x.2.2 ∧ (Tryd.prog.globals[x.2.2]?).map (·.type) = some 30 := by
  intro x hx
  have hall : (eightNames.all fun x => Tryd.prog.globalNamed x.1 == some x.2.2 && ((Tryd.prog.globals[x.2.2]?).map (·.type)) == some 30) = true := by kernel_rfl
  have := List.all_eq_true.1 hall x hx
  simpa using this

/-- What the condition gives the walks. -/
theorem laid_of {W : World} (h : laidMet Tryd.prog (eightNames.map fun x => (x.1, sentData x.2.1)) W) (he : W.cell? ⟨8, 0, none⟩ = some (.iface 114 (.agg #[.pointer (some ⟨11, 30, none⟩)]))) :
    ∃ a, Laid W a := by
  obtain ⟨ps, hv, hnd, hrows⟩ := h
  obtain ⟨f, hf, hft, hfo⟩ : ∃ f, Tryd.prog.underlying 158 = some (.struct #[f]) ∧ f.type = 9 ∧ f.offset = 0 := ⟨_, Tryd.underlying158, rfl, rfl⟩
  obtain ⟨bs, hlen, hsub, hat⟩ := sents (P := Tryd.prog) (W := W) Tryd.underlying30 Tryd.sentRow Tryd.underlying136 hf hft hfo Tryd.underlying9 (by kernel_rfl) (by kernel_rfl) eightNames ps eight_known hv hrows
  have hnd2 : (bs.map fun a => MemPlace.cell a.block a.off).Nodup := hnd.sublist hsub
  have hlen8 : bs.length = 8 := hlen
  have hget : ∀ i, i < 8 → bs[i]? = some (bs[i]?.getD ⟨0, 0, none⟩) := by
    intro i hi
    rw [List.getElem?_eq_getElem (by omega)]; rfl
  have hx : ∀ i, i < 8 → ∃ x, eightNames[i]? = some x ∧ x.2.2 = gv i := by
    intro i hi
    match i, hi with
    | 0, _ | 1, _ | 2, _ | 3, _ | 4, _ | 5, _ | 6, _ | 7, _ => exact ⟨_, rfl, rfl⟩
  refine ⟨fun i => bs[i]?.getD ⟨0, 0, none⟩, ?_, he, ?_, ?_⟩
  · intro i hi
    obtain ⟨x, h1, h2⟩ := hx i hi
    have := (hat i x _ h1 (hget i hi)).1
    rw [h2] at this; exact this
  · intro i j hi hj hij heq
    apply hij
    have hmi : (bs.map fun a => MemPlace.cell a.block a.off)[i]? = (bs.map fun a => MemPlace.cell a.block a.off)[j]? := by
      rw [List.getElem?_map, List.getElem?_map, hget i hi, hget j hj]
      simp only [Option.map_some]
      rw [heq]
    exact (List.getElem?_inj (by simp; omega) hnd2).1 hmi
  · intro i hi
    obtain ⟨x, h1, h2⟩ := hx i hi
    exact (hat i x _ h1 (hget i hi)).2
end Go.Proofs.YtecmkjefoppbiaaDoor
