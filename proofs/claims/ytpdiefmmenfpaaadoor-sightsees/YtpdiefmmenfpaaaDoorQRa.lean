/-
  Rasters: cells, right ones, slices that lie in their blocks.
-/
import Derived.Test.YtpdiefmmenfpaaaDoorQJ1
import Derived.Test.YtpdiefmmenfpaaaDoorQJ2
import Derived.Deep.RegionHeldLaw
import Derived.Maps.AppendAt
namespace Go.Proofs.YtpdiefmmenfpaaaDoor
open Go.RowKit

/-- A cell's height; a raster that is right. -/
def gl (l : List Int) (i : Nat) : Int := l.getD i 0
theorem gl_get {l : List Int} {i : Nat} (h : i < l.length) : l[i] = gl l i := by unfold gl; simp [h]
structure Ok (l : List Int) (m n : Nat) : Prop where
  m1 : 1 ≤ m
  m2 : m ≤ 128
  n1 : 1 ≤ n
  n2 : n ≤ 128
  len : l.length = m * n
  hi : ∀ i, hiI (gl l i)
theorem hi_gl {l : List Int} (h : ∀ x ∈ l, hiI x) (i : Nat) : hiI (gl l i) := by
  by_cases c : i < l.length
  · rw [← gl_get c]; exact h _ (List.getElem_mem c)
  · unfold gl; rw [List.getD_eq_getElem?_getD, List.getElem?_eq_none (by omega)]; decide
theorem ok_of {W H : Int} {l : List Int} (h : vcode W H l = 0) : ∃ m n : Nat, W = m ∧ H = n ∧ Ok l m n := by
  unfold vcode at h
  split at h
  · cases h
  · rename_i h1
    split at h
    · cases h
    · rename_i h2
      split at h
      · rename_i h3
        have h4 : (l.length : Int) = W * H := Classical.not_not.1 (fun k => h2 (.inr k))
        refine ⟨W.toNat, H.toNat, by omega, by omega, by omega, by omega, by omega, by omega, ?_, hi_gl h3⟩
        have e1 : ((W.toNat : Nat) : Int) = W := by omega
        have e2 : ((H.toNat : Nat) : Int) = H := by omega
        have : (l.length : Int) = ((W.toNat * H.toNat : Nat) : Int) := by rw [Int.natCast_mul, e1, e2]; exact h4
        omega
      · cases h
theorem Ok.len_le {l : List Int} {m n : Nat} (h : Ok l m n) : l.length ≤ 16384 := by
  rw [h.len]; exact Nat.mul_le_mul h.m2 h.n2
theorem Ok.cell {l : List Int} {m n c r : Nat} (h : Ok l m n) (hc : c < m) (hr : r < n) : r * m + c < l.length := by
  rw [h.len]
  have : (r + 1) * m ≤ n * m := Nat.mul_le_mul_right m hr
  rw [Nat.add_mul, Nat.mul_comm n m] at this
  omega
/-- A slice of whole numbers that lies in its block, and may be cut. -/
structure Rs (w : World) (b o cap : Nat) (l : List Int) : Prop where
  row : ∀ i, (h : i < l.length) → w.cell? ⟨b, o + i, none⟩ = some (.int .i64 l[i])
  lt : b < w.heap.size
  cap : l.length ≤ cap
theorem Rs.below {W w' : World} {b o cap : Nat} {l : List Int} (h : Rs W b o cap l) (hB : Below W.heap.size W w') : Rs w' b o cap l :=
  ⟨fun i hi => (hB.cell (p := ⟨b, o + i, none⟩) h.lt).trans (h.row i hi), Nat.lt_of_lt_of_le h.lt hB.size, h.cap⟩
theorem Rs.isl {w : World} {b o cap : Nat} {l : List Int} (h : Rs w b o cap l) : ISl w (some ⟨b, o, none⟩) b o cap l := ISl.mk' h.row h.lt
theorem Rs.get {w : World} {b o cap : Nat} {l : List Int} (h : Rs w b o cap l) {i : Nat} (hi : i < l.length) : w.cell? ⟨b, o + i, none⟩ = some (.int .i64 (gl l i)) := by rw [← gl_get hi]; exact h.row i hi
theorem islice (b o n cap k : Nat) (h1 : k < n) (h2 : n ≤ cap) (w : World) : (Instr.slice 33 (.slice (some ⟨b, o, none⟩) n cap) (some (.int .i64 (k : Int))) none none).run Tryd.prog w = .ok (.slice (some ⟨b, o + k, none⟩) (n - k) (cap - k)) w := by
  have hu : Tryd.prog.underlying 33 = some (.slice (Tryd.prog.elem 33)) := by kernel_rfl
  have hs : (sizeOf (Tryd.prog.elem 33)).run Tryd.prog w = .ok 1 w := by kernel_rfl
  rw [run_slice_l w 33 _ _ _ hu .i64 _ (by omega) (by omega), hs]
  have hne : ¬ cap = k := by omega
  by_cases h0 : k = 0
  · subst h0
    simp [Result.andThen, sliced, Addr.add, hne]
  · simp [Result.andThen, sliced, Addr.add, hne, h0]
theorem nat_q {x d : Int} {X D : Nat} (hx : x = (X : Int)) (hd : d = (D : Int)) (h : X ≤ 1000000) : x.tdiv d = ((X / D : Nat) : Int) ∧ x.tmod d = ((X % D : Nat) : Int) ∧ IntKind.i64.wrap ((X / D : Nat) : Int) = ((X / D : Nat) : Int) ∧ IntKind.i64.wrap ((X % D : Nat) : Int) = ((X % D : Nat) : Int) := by
  have h1 : X / D ≤ X := Nat.div_le_self _ _
  have h2 : X % D ≤ X := Nat.mod_le _ _
  subst hx hd
  refine ⟨rfl, rfl, ?_, ?_⟩
  · generalize X / D = q at *
    exact wrap_in (by omega) (by omega)
  · generalize X % D = q at *
    exact wrap_in (by omega) (by omega)
theorem mod_at {m r c : Nat} (hc : c < m) : (r * m + c) % m = c ∧ (r * m + c) / m = r := by
  constructor
  · rw [Nat.add_comm, Nat.add_mul_mod_self_right, Nat.mod_eq_of_lt hc]
  · rw [Nat.add_comm, Nat.add_mul_div_right _ _ (by omega), Nat.div_eq_of_lt hc, Nat.zero_add]
theorem own_keep {w w' : World} {base e size n : Nat} {v : Value} {xs : List Value} (h : w.ownsRow base e size v n xs) (hB : Below w.heap.size w w') : w'.ownsRow base e size v n xs := by
  have hlt := h.lt
  obtain ⟨h1, h2⟩ := h
  refine ⟨h1, ?_⟩
  rcases h2 with h2 | ⟨g, cap, cur, rfl, h3, h4, h5⟩
  · exact .inl h2
  · exact .inr ⟨g, cap, cur, rfl, h3, (hB.block g (hlt g rfl).2).trans h4, h5⟩
theorem gr_app {w W w' : World} {base e n : Nat} {v : Value} {xs : List Value} {o : Obj} (h : Gr w W) (hO : W.ownsRow base e 1 v n xs) (hb : w.heap.size ≤ base) (hg : (W.alloc o).grownBy w' v.ownBlock) : Gr w w' :=
  Below.grown (h.alloc o).out hg (by have := h.out.size; simp; omega) (fun k hk => by have := (hO.lt k hk).1; omega)
theorem news1r {w : World} {ad : Addr} {x : Value} {j : Nat} {u : Value} (hj : ([x] : List Value)[j]? = some u) (h : w.cell? (ad.add 0) = some x) : w.cell? (ad.add j) = some u := by
  match j with
  | 0 => simp at hj; subst hj; exact h
  | j + 1 => simp at hj
theorem own_isl2 {w : World} {base : Nat} {v : Value} {n : Nat} {l : List Int} (h : w.ownsRow base 3 1 v n (ir l)) : ∃ ad b cap, v = .slice ad l.length cap ∧ ISl w ad b 0 cap l := by
  have hn : n = l.length := by have := h.1; simp [ir] at this; omega
  subst hn
  obtain ⟨h1, h | ⟨g, cap, cur, hv, hb, hg, hc, hm, hs, ht⟩⟩ := h
  · obtain ⟨rfl, h0⟩ := h
    have : l = [] := List.eq_nil_of_length_eq_zero h0
    subst this
    exact ⟨none, 0, 0, rfl, ISl.nil _ _ _ _ _⟩
  · refine ⟨_, g, cap, hv, ISl.mk' ?_ ?_⟩
    · intro i hi
      have e : cur.toList[i]? = some (.int .i64 l[i]) := by
        have : (cur.toList.take (l.length * 1))[i]? = (ir l)[i]? := by rw [ht]
        rw [List.getElem?_take] at this
        rw [if_pos (by omega)] at this
        rw [this]
        simp [ir, hi]
      simp [World.cell?, hg]
      simpa using e
    · rcases Nat.lt_or_ge g w.heap.size with c | c
      · exact c
      · rw [Array.getElem?_eq_none c] at hg; cases hg
end Go.Proofs.YtpdiefmmenfpaaaDoor
