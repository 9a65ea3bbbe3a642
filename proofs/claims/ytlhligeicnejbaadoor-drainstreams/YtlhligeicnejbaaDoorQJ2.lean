/-
  mercatorref3.RastersError.; field.alike.; field.oneOf and what it answers; field.blank; mercatorref3.OfTwo.
-/
import Derived.Test.YtlhligeicnejbaaDoorQJ1
namespace Go.Proofs.YtlhligeicnejbaaDoor
open Go.RowKit

theorem vcode_lt (W H : Int) (l : List Int) : vcode W H l < 5 := by unfold vcode; split <;> (try split) <;> (try split) <;> omega
end Go.Proofs.YtlhligeicnejbaaDoor
namespace Go.Proofs.YtlhligeicnejbaaDoor
open Go.RowKit

theorem errV_ne (g : Nat → Addr) (i : Nat) : ¬ errV g i = .nilIface := by intro h; cases h
theorem evc_ne (g : Nat → Addr) {c : Nat} (h : ¬ c = 0) : ∃ i, evc g c = errV g i := ⟨_, by unfold evc; rw [if_neg h]⟩
end Go.Proofs.YtlhligeicnejbaaDoor
namespace Go.Proofs.YtlhligeicnejbaaDoor
open Go.RowKit

theorem info_parts {e : TypeId} {z : Value} {s b : Nat} (h : (Tryd.prog.info? e).map (fun i => (i.zero, i.size, i.bytes)) = some (some z, s, b)) : ∃ i, Tryd.prog.info? e = some i ∧ i.zero = some z ∧ i.size = s ∧ i.bytes = b := by
  obtain ⟨i, h1, h2⟩ := Option.map_eq_some_iff.1 h
  simp only [Prod.mk.injEq] at h2
  exact ⟨i, h1, h2.1, h2.2.1, h2.2.2⟩
theorem infoJ : (Tryd.prog.info? 3).map (fun i => (i.zero, i.size, i.bytes)) = some (some (.int .i64 0), 1, 8) := by kernel_rfl
theorem undI : Tryd.prog.underlying 30 = some (.slice 3) := by kernel_rfl
abbrev ir (l : List Int) : List Value := l.map (Value.int .i64)
theorem ir_snoc (l : List Int) (d : Int) : ir l ++ [Value.int .i64 d] = ir (l ++ [d]) := by simp [ir]
/-- What makes one height of two. -/
def twoI (h : Int) (x y : Int) : Int := if h = 43 then x + y else if h = 45 then x - y else if h = 62 then max x y else min x y
def knI (h : Int) : Prop := h = 43 ∨ h = 45 ∨ h = 62 ∨ h = 60
instance (h : Int) : Decidable (knI h) := by unfold knI; exact inferInstance
theorem own_at {w : World} {base g n : Nat} {l : List Value} (h : w.ownsRow base 3 1 (.slice (some ⟨g, 0, none⟩) n n) n l) : At w g l := by
  obtain ⟨h1, h2⟩ := h
  rcases h2 with ⟨h2, _⟩ | ⟨g', cap, cur, hv, hb, hg, h3, h4, h5, h6⟩
  · cases h2
  · cases hv
    have e : cur.toList = l := by rw [← h6, List.take_of_length_le (by simp; omega)]
    have hlt : g < w.heap.size := by
      rcases Nat.lt_or_ge g w.heap.size with c | c
      · exact c
      · rw [Array.getElem?_eq_none c] at hg; cases hg
    refine ⟨fun i hi => ?_, hlt⟩
    subst e
    have hi' : i < cur.size := by simpa using hi
    constructor
    · simp [World.cell?, hg, hi']
    · simp [World.frozen?, hg]
theorem made_ir (n : Nat) : (madeCells #[Value.int .i64 0] n).toList = ir (List.replicate n 0) := by rw [toList_madeCells_one]; simp [ir]
end Go.Proofs.YtlhligeicnejbaaDoor
