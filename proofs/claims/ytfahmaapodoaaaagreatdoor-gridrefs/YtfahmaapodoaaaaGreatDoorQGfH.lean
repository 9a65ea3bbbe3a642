/-
  The eight sentinels laid ahead of others.
-/
import Derived.Test.YtfahmaapodoaaaaGreatDoorQLaidAll
namespace Go.Proofs.YtfahmaapodoaaaaGreatDoor
open Go.ChangeShapes Go.WideShapes Go.RowKit

/-- What the condition gives the walks. -/
theorem laid_of2 {W : World} (ex : List (String × List UInt8 × Nat)) (hex : ∀ x ∈ ex, Tryz.prog.globalNamed x.1 = some x.2.2 ∧ (Tryz.prog.globals[x.2.2]?).map (·.type) = some 26) (h : laidMet Tryz.prog ((eightNames ++ ex).map fun x => (x.1, sentData x.2.1)) W) (he : W.cell? ⟨8, 0, none⟩ = some (.iface 95 (.agg #[.pointer (some ⟨15, 26, none⟩)]))) :
    ∃ a, Laid W a := by
  obtain ⟨ps, hv, hnd, hrows⟩ := h
  obtain ⟨f, hf, hft, hfo⟩ : ∃ f, Tryz.prog.underlying 143 = some (.struct #[f]) ∧ f.type = 9 ∧ f.offset = 0 := ⟨_, Tryz.underlying143, rfl, rfl⟩
  obtain ⟨bs, hlen, hsub, hat⟩ := sents (P := Tryz.prog) (W := W) Tryz.underlying26 Tryz.sentRow Tryz.underlying141 hf hft hfo Tryz.underlying9 (by kernel_rfl) (by kernel_rfl) (eightNames ++ ex) ps (fun x hx => (List.mem_append.1 hx).elim (eight_known x) (hex x)) hv hrows
  have hnd2 : (bs.map fun a => MemPlace.cell a.block a.off).Nodup := hnd.sublist hsub
  have hlen8 : 8 ≤ bs.length := by rw [hlen, List.length_append]; exact Nat.le_add_right 8 _
  have hget : ∀ i, i < 8 → bs[i]? = some (bs[i]?.getD ⟨0, 0, none⟩) := by
    intro i hi
    rw [List.getElem?_eq_getElem (by omega)]; rfl
  have hx : ∀ i, i < 8 → ∃ x, (eightNames ++ ex)[i]? = some x ∧ x.2.2 = gv i := by
    intro i hi
    rw [List.getElem?_append_left (show i < eightNames.length from hi)]
    match i, hi with
    | 0, _ | 1, _ | 2, _ | 3, _ | 4, _ | 5, _ | 6, _ | 7, _ => exact ⟨_, rfl, rfl⟩
  refine ⟨fun i => bs[i]?.getD ⟨0, 0, none⟩, ?_, he, ?_, ?_⟩
  · intro i hi
    obtain ⟨x, h1, h2⟩ := hx i hi
    have := (hat i x _ h1 (hget i hi)).1
    rw [h2] at this; exact this
  · intro i j hi hj hij heq
    apply hij
    have hmi : (bs.map fun a => MemPlace.cell a.block a.off)[i]? = (bs.map fun a => MemPlace.cell a.block a.off)[j]? := by
      rw [List.getElem?_map, List.getElem?_map, hget i hi, hget j hj]
      simp only [Option.map_some]
      rw [heq]
    exact (List.getElem?_inj (by simp; omega) hnd2).1 hmi
  · intro i hi
    obtain ⟨x, h1, h2⟩ := hx i hi
    exact (hat i x _ h1 (hget i hi)).2
end Go.Proofs.YtfahmaapodoaaaaGreatDoor
