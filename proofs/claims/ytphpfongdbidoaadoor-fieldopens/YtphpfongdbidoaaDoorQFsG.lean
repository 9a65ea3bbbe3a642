/-
  A fine raster made coarse again is the raster itself.
-/
import Derived.Test.YtphpfongdbidoaaDoorQFsE
namespace Go.Proofs.YtphpfongdbidoaaDoor
open Go.RowKit

/-- The finer raster's cells. -/
def fiL (l : List Int) (m by' K : Nat) : List Int := (List.range K).map fun j => gl l (fiC m by' j)
theorem fiL_at {l : List Int} {m by' K j : Nat} (h : j < K) : gl (fiL l m by' K) j = gl l (fiC m by' j) := by
  have hj : j < (fiL l m by' K).length := by simp [fiL]; exact h
  rw [← gl_get hj]
  simp [fiL]
theorem fiL_ok {l : List Int} {m n by' : Nat} (ok : Ok l m n) (hb : 1 ≤ by') (hm : m * by' ≤ 128) (hn : n * by' ≤ 128) : Ok (fiL l m by' ((m * by') * (n * by'))) (m * by') (n * by') := by
  refine ⟨Nat.mul_le_mul ok.m1 hb, hm, Nat.mul_le_mul ok.n1 hb, hn, by simp [fiL], fun i => ?_⟩
  refine hi_gl (fun x hx => ?_) i
  obtain ⟨j, _, rfl⟩ := List.mem_map.1 hx
  exact ok.hi _
theorem fiC_at {m by' rc cc y x : Nat} (hc : cc < m) (hy1 : y < by') (hx1 : x < by') : fiC m by' ((rc * by' + y) * (m * by') + (cc * by' + x)) = rc * m + cc := by
  have h1 : cc * by' + x < m * by' := by
    have : (cc + 1) * by' ≤ m * by' := Nat.mul_le_mul_right _ hc
    rw [Nat.add_mul, Nat.one_mul] at this
    omega
  obtain ⟨e1, e2⟩ := mod_at (r := rc * by' + y) h1
  unfold fiC
  rw [e1, e2, (mod_at (r := rc) hy1).2, (mod_at (r := cc) hx1).2]
theorem fi_lt {m n by' rc cc y x : Nat} (hr : rc < n) (hc : cc < m) (hy1 : y < by') (hx1 : x < by') : (rc * by' + y) * (m * by') + (cc * by' + x) < (m * by') * (n * by') := by
  have h1 : (cc + 1) * by' ≤ m * by' := Nat.mul_le_mul_right _ hc
  have h2 : (rc + 1) * by' ≤ n * by' := Nat.mul_le_mul_right _ hr
  rw [Nat.add_mul, Nat.one_mul] at h1 h2
  have h3 : (rc * by' + y + 1) * (m * by') ≤ (n * by') * (m * by') := Nat.mul_le_mul_right _ (by omega)
  rw [Nat.mul_comm (m * by') (n * by')]
  rw [Nat.add_mul (rc * by' + y) 1, Nat.one_mul] at h3
  omega
theorem fi_rs {l : List Int} {m n by' rc cc y : Nat} (hr : rc < n) (hc : cc < m) (hy : y < by') : ∀ i, i ≤ by' → rs (fiL l m by' ((m * by') * (n * by'))) (m * by') (rc * by' + y) (cc * by' + i) = rs (fiL l m by' ((m * by') * (n * by'))) (m * by') (rc * by' + y) (cc * by') + (i : Int) * gl l (rc * m + cc)
  | 0, _ => by simp
  | i + 1, hi => by
    have h := fi_rs (l := l) hr hc hy i (by omega)
    rw [show cc * by' + (i + 1) = cc * by' + i + 1 from rfl]
    have hx : i < by' := by omega
    rw [rs, h, fiL_at (fi_lt hr hc hy hx), fiC_at hc hy hx, Int.natCast_add, Int.add_mul]
    omega
theorem fi_bs {l : List Int} {m n by' rc cc : Nat} (hr : rc < n) (hc : cc < m) : ∀ i, i ≤ by' → bs (fiL l m by' ((m * by') * (n * by'))) (m * by') (rc * by') (rc * by' + i) (cc * by') (cc * by' + by') = (i : Int) * ((by' : Int) * gl l (rc * m + cc))
  | 0, _ => by rw [Nat.add_zero, bs_none]; simp
  | i + 1, hi => by
    have h := fi_bs (l := l) (by' := by') hr hc i (by omega)
    have hx : i < by' := by omega
    rw [show rc * by' + (i + 1) = rc * by' + i + 1 from rfl, bs_row, h, fi_rs hr hc hx by' (Nat.le_refl _), Int.natCast_add, Int.add_mul]
    omega
theorem enN_at {k by' n : Nat} (h : k < n) : enN k by' (n * by') = k * by' + by' := by
  have h1 : (k + 1) * by' ≤ n * by' := Nat.mul_le_mul_right _ h
  rw [Nat.add_mul, Nat.one_mul] at h1
  unfold enN
  omega
theorem fi_cf {l : List Int} {m n by' rc cc : Nat} (hb : 1 ≤ by') (hr : rc < n) (hc : cc < m) : cfI (fiL l m by' ((m * by') * (n * by'))) (m * by') (n * by') by' rc cc = gl l (rc * m + cc) := by
  unfold cfI
  rw [enN_at hr, enN_at hc, fi_bs hr hc by' (Nat.le_refl _), show rc * by' + by' - rc * by' = by' by omega, show cc * by' + by' - cc * by' = by' by omega, Int.natCast_mul, ← Int.mul_assoc]
  have h0 : ((by' : Int) * (by' : Int)) ≠ 0 := by
    have : (0 : Int) < (by' : Int) * (by' : Int) := Int.mul_pos (by omega) (by omega)
    omega
  exact Int.mul_ediv_cancel_left _ h0
theorem many_mul {n by' : Nat} (hn : 1 ≤ n) (hb : 1 ≤ by') : many (n * by') by' = n := by
  have hp : 1 * 1 ≤ n * by' := Nat.mul_le_mul hn hb
  have h1 := many_lt (n := n * by') (by' := by') (k := n) hp hb
  have h2 := many_lt (n := n * by') (by' := by') (k := n - 1) hp hb
  have h3 : (n - 1) * by' < n * by' := Nat.mul_lt_mul_of_pos_right (by omega) hb
  have := h2.1 h3
  have h4 : ¬ n < many (n * by') by' := fun k => by have := h1.2 k; omega
  omega
theorem fi_co {l : List Int} {m n by' : Nat} (ok : Ok l m n) (hb : 1 ≤ by') : coL (fiL l m by' ((m * by') * (n * by'))) (m * by') (n * by') by' (n * m) = l := by
  have hm := ok.m1
  have hl := ok.len
  apply List.ext_getElem
  · rw [coL_len, hl, Nat.mul_comm]
  · intro j h1 h2
    have hj : j < n * m := by rw [Nat.mul_comm, ← hl]; exact h2
    have hr : j / m < n := Nat.div_lt_of_lt_mul (by rw [Nat.mul_comm]; exact hj)
    have hc : j % m < m := Nat.mod_lt _ (by omega)
    simp only [coL, List.getElem_map, List.getElem_range]
    rw [many_mul hm hb, fi_cf hb hr hc, gl_get h2]
    congr 1
    rw [Nat.mul_comm]
    exact Nat.div_add_mod j m
end Go.Proofs.YtphpfongdbidoaaDoor
