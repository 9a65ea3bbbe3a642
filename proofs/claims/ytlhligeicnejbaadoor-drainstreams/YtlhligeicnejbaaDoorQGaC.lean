/-
  slices.Clone of whole numbers.
-/
import Derived.Test.YtlhligeicnejbaaDoorQGaA
namespace Go.Proofs.YtlhligeicnejbaaDoor
open Go.RowKit
attribute [local go_sem ↓] Go.wp_at_zero Go.wp_at_succ

theorem own_empty (w : World) (t : Nat) : (w.alloc (.cells #[] t)).ownsRow w.heap.size t 1 (.slice (some ⟨w.heap.size, 0, none⟩) 0 0) 0 [] := by
  refine ⟨rfl, .inr ⟨w.heap.size, 0, #[], rfl, Nat.le_refl _, by show (w.heap.push _)[w.heap.size]? = _; simp, Nat.le_refl _, Nat.zero_le _, rfl, rfl⟩⟩
theorem own_at2 {w : World} {base g n cp : Nat} {l : List Int} (h : w.ownsRow base 3 1 (.slice (some ⟨g, 0, none⟩) n cp) n (ir l)) : At w g (ir l) := by
  have hn : n = l.length := by have := h.1; simp [ir] at this; omega
  have hlt := (h.lt g rfl).2
  obtain ⟨h1, h2 | ⟨g', cap, cur, hv, hb, hg, hc, hm, hs, ht⟩⟩ := h
  · obtain ⟨hv, _⟩ := h2; cases hv
  · simp only [Value.slice.injEq, Option.some.injEq, Addr.mk.injEq, and_true] at hv
    obtain ⟨rfl, _, rfl⟩ := hv
    refine ⟨fun i hi => ?_, hlt⟩
    have e : cur.toList[i]? = some (ir l)[i] := by
      have : (cur.toList.take (n * 1))[i]? = (ir l)[i]? := by rw [ht]
      rw [List.getElem?_take, if_pos (by rw [Nat.mul_one, hn]; simpa [ir] using hi), List.getElem?_eq_getElem hi] at this
      exact this
    constructor
    · simp [World.cell?, hg]
      simpa using e
    · simp [World.frozen?, hg]
set_option maxRecDepth 4000 in
set_option maxHeartbeats 4000000 in
theorem clone_any {b o cap : Nat} {l : List Int} (w : World) (h : Rs w b o cap l) (h1 : 1 ≤ l.length) (ll : l.length ≤ 20000) : Calls Tryd.prog 40 #[.slice (some ⟨b, o, none⟩) l.length cap] w fun e w' => ∃ g cp, e = .returned (.slice (some ⟨g, 0, none⟩) l.length cp) ∧ At w' g (ir l) ∧ w.heap.size ≤ g ∧ Gr w w' := by
  have G0 := hidb ((Gr.refl w).alloc (.cells #[] 3))
  have HO := hidb (own_empty w 3)
  have HR := hidb (h.below G0.out.out)
  have HL := hidb (show 1 ≤ l.length ∧ l.length ≤ 20000 from ⟨h1, ll⟩)
  have hml : 30000 ≤ maxLen := by decide
  obtain ⟨i0, hi, hz0, hz1, hz2⟩ := info_parts infoJ
  obtain ⟨N, hN⟩ : ∃ N, N = l.length := ⟨_, rfl⟩
  have HN := hidb hN
  rw [← hN] at HL ⊢
  clear h h1 ll hN
  have hne : ∀ w, (binOp .eql 30 (.slice (some ⟨b, o, none⟩) N cap) (.slice none 0 0)).run Tryd.prog w = .ok (.bool false) w := fun w => by kernel_rfl
  go_enter Tryd.func40, Tryd.ntmps40
  go_wp2_with (at_builtin; refine wpList_append_own _ rfl _ _ _ rfl w.heap.size _ i0 (.int .i64 0) 1 8 undI hi hz0 hz1 hz2 rfl (by decide) (.slice (some ⟨w.heap.size, 0, none⟩) 0 0) 0 [] rfl HO.out ⟨b, o, none⟩ N cap (ir l) rfl (by rw [HN.out]; simp [ir]) ?_ (ones_ir l) (by have := HL.out; omega) (by have := HL.out; omega) (by simp) ?_)
  · intro j u hu
    have hj : j < l.length := by
      rcases Nat.lt_or_ge j l.length with c | c
      · exact c
      · rw [List.getElem?_eq_none (by simpa [ir] using c)] at hu; cases hu
    rw [add_none, HR.out.row j hj]
    rw [List.getElem?_eq_getElem (by simpa [ir] using hj)] at hu
    rw [← hu]
    simp [ir]
  · intro v' w' hown hgrow _
    have hown' := hown
    have hlt := hown.lt
    obtain ⟨_, ⟨_, h0⟩ | ⟨g, cp, cur, rfl, _⟩⟩ := hown'
    · have := HL.out; omega
    · have HZ := hidb (show At w' g (ir l) ∧ w.heap.size ≤ g ∧ Gr w w' from ⟨own_at2 hown, (hlt g rfl).1, Below.grown G0.out.out hgrow (by simp) (fun k e => by cases e; exact Nat.le_refl _)⟩)
      clear hown hgrow hlt
      go_wp2
      go_ret
      exact ⟨g, cp, rfl, HZ.out⟩
end Go.Proofs.YtlhligeicnejbaaDoor
