/-
  drain.Gather; what is refused, of Gather and Way.
-/
import Derived.Test.YtlhligeicnejbaaDoorQGaD
import Derived.Test.YtlhligeicnejbaaDoorQGaE
import Derived.BigQuiet
namespace Go.Proofs.YtlhligeicnejbaaDoor
open Go.RowKit
attribute [local go_sem ↓] Go.wp_at_zero Go.wp_at_succ

theorem gaF_gv {m n : Nat} {l r : List Int} (ok : Ok l m n) (hrl : r.length = l.length) (hr : ∀ i, i < l.length → rainI (gl r i)) : ∀ j, j ≤ l.length → ∀ c, c < l.length → gl (gaF m n l r (List.range j)) c = gvN m n l (gl r) j c
  | 0, _, c, _ => rfl
  | j + 1, hj, c, hc => by
    have hlen := ok.len_le
    have ih := gaF_gv ok hrl hr j (by omega)
    have hx := oc_lt m n l ok.m1 ok.len (k := l.length - 1 - j) (by omega)
    have ht := tw_lt m n l ok.m1 ok.len hx
    have hL : (gaF m n l r (List.range j)).length = l.length := (gaF_len m n l r _).trans hrl
    have bd : ∀ c, c < l.length → 0 ≤ gvN m n l (gl r) j c ∧ gvN m n l (gl r) j c ≤ 281474976710656 := fun c hc => by
      have h := gv_bd m n l ok.m1 ok.len (r := gl r) (B := 1048576) (by decide) hr (j := j) (by omega) hc
      have h2 : (l.length : Int) * (1048576 * l.length) ≤ 16384 * (1048576 * 16384) := Int.mul_le_mul (by omega) (by omega) (by omega) (by decide)
      omega
    rw [List.range_succ, gaF_snoc, gv_succ]
    unfold gst
    by_cases h : tw m n l (oc m n l (l.length - 1 - j)) = oc m n l (l.length - 1 - j)
    · rw [if_pos h, if_neg (fun x => x.1 h), ih c hc, Int.add_zero]
    · rw [if_neg h, gl_set (by rw [hL]; exact ht), ih _ ht, ih _ hx]
      by_cases e : c = tw m n l (oc m n l (l.length - 1 - j))
      · rw [if_pos e, if_pos ⟨h, e⟩, ← e]
        have b1 := bd c hc
        have b2 := bd _ hx
        exact wrap_in (by omega) (by omega)
      · rw [if_neg e, if_neg (fun x => e x.2), ih c hc, Int.add_zero]
theorem gaF_gaL {m n : Nat} {l r : List Int} (ok : Ok l m n) (hrl : r.length = l.length) (hr : ∀ i, i < l.length → rainI (gl r i)) : gaF m n l r (List.range l.length) = gaL m n l (gl r) :=
  list_gl ((gaF_len m n l r _).trans hrl) (fun c hc => (gaF_gv ok hrl hr l.length (Nat.le_refl _) c hc).trans (gv_all m n l ok.m1 ok.len _ hc))
theorem rains_gl {r : List Int} (h : rainsB r = true) (i : Nat) (hi : i < r.length) : rainI (gl r i) := by
  rw [← gl_get hi]
  exact of_decide_eq_true h _ (List.getElem_mem hi)
end Go.Proofs.YtlhligeicnejbaaDoor
