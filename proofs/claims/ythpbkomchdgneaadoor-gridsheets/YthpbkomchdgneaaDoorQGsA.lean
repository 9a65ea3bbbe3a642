/-
  Rows of sheets in memory; grid.Sheets.
-/
import Derived.Test.YthpbkomchdgneaaDoorQGlE
namespace Go.Proofs.YthpbkomchdgneaaDoor
open Go.RowKit

/-- A sheet: its column and row, its box. -/
structure Sh where
  c : Int
  r : Int
  a : Int
  b : Int
  x : Int
  y : Int
abbrev Sh.cs (s : Sh) : List Value := [.int .i64 s.c, .int .i64 s.r, .int .i64 s.a, .int .i64 s.b, .int .i64 s.x, .int .i64 s.y]
def sc (l : List Sh) : List Value := l.flatMap Sh.cs
theorem sc_snoc (l : List Sh) (s : Sh) : sc l ++ s.cs = sc (l ++ [s]) := by simp [sc]
theorem sc_len (l : List Sh) : (sc l).length = l.length * 6 := by
  induction l with
  | nil => rfl
  | cons s l ih => simp [sc] at ih ⊢; omega
theorem sc_get : ∀ (l : List Sh) (k : Nat) (hk : k < l.length) (j : Nat), j < 6 → (sc l)[k * 6 + j]? = (l[k]).cs[j]?
  | s :: l, 0, _, j, hj => by
    match j, hj with
    | 0, _ => rfl
    | 1, _ => rfl
    | 2, _ => rfl
    | 3, _ => rfl
    | 4, _ => rfl
    | 5, _ => rfl
  | s :: l, k + 1, hk, j, hj => by
    have ih := sc_get l k (by simp at hk; omega) j hj
    rw [show (k + 1) * 6 + j = (k * 6 + j) + 6 by omega]
    exact ih
/-- A slice that holds them. -/
def RowS (w : World) (v : Value) (l : List Sh) : Prop := (v = .slice none 0 0 ∧ l = []) ∨ ∃ b cap, v = .slice (some ⟨b, 0, none⟩) l.length cap ∧ (∀ k, (h : k < l.length) → (w.cell? ⟨b, k * 6, none⟩ = some (.int .i64 l[k].c) ∧ w.cell? ⟨b, k * 6 + 1, none⟩ = some (.int .i64 l[k].r) ∧ w.cell? ⟨b, k * 6 + 2, none⟩ = some (.int .i64 l[k].a) ∧ w.cell? ⟨b, k * 6 + 3, none⟩ = some (.int .i64 l[k].b) ∧ w.cell? ⟨b, k * 6 + 4, none⟩ = some (.int .i64 l[k].x) ∧ w.cell? ⟨b, k * 6 + 5, none⟩ = some (.int .i64 l[k].y))) ∧ b < w.heap.size
theorem RowS.below {W w' : World} {v : Value} {l : List Sh} (hB : Below W.heap.size W w') (h : RowS W v l) : RowS w' v l := by
  rcases h with h | ⟨b, cap, h1, h4, h5⟩
  · exact .inl h
  · refine .inr ⟨b, cap, h1, fun k hk => ?_, Nat.lt_of_lt_of_le h5 hB.size⟩
    obtain ⟨k0, k1, k2, k3, k4, k5⟩ := h4 k hk
    have e := fun j => hB.cell (p := ⟨b, j, none⟩) h5
    exact ⟨(e _).trans k0, (e _).trans k1, (e _).trans k2, (e _).trans k3, (e _).trans k4, (e _).trans k5⟩
theorem own_rs {w : World} {base e : Nat} {v : Value} {n : Nat} {l : List Sh} (h : w.ownsRow base e 6 v n (sc l)) : RowS w v l ∧ n = l.length := by
  have hn : n = l.length := by have := h.1; rw [sc_len] at this; omega
  subst hn
  refine ⟨?_, rfl⟩
  obtain ⟨h1, h | ⟨g, cap, cur, hv, hb, hg, hc, hm, hs, ht⟩⟩ := h
  · obtain ⟨rfl, h0⟩ := h
    exact .inl ⟨rfl, List.eq_nil_of_length_eq_zero h0⟩
  · refine .inr ⟨g, cap, hv, ?_, ?_⟩
    · intro k hk
      have key : ∀ j, (hj : j < 6) → w.cell? ⟨g, k * 6 + j, none⟩ = (l[k]).cs[j]? := by
        intro j hj
        have e1 : (cur.toList.take (l.length * 6))[k * 6 + j]? = (sc l)[k * 6 + j]? := by rw [ht]
        rw [List.getElem?_take, if_pos (by omega), sc_get l k hk j hj] at e1
        simp [World.cell?, hg]
        simpa using e1
      exact ⟨key 0 (by decide), key 1 (by decide), key 2 (by decide), key 3 (by decide), key 4 (by decide), key 5 (by decide)⟩
    · rcases Nat.lt_or_ge g w.heap.size with c | c
      · exact c
      · rw [Array.getElem?_eq_none c] at hg; cases hg
theorem own_shape6 {w : World} {base : Nat} {v : Value} {n e : Nat} {xs : List Value} (h : w.ownsRow base e 6 v n xs) : ∃ ad cap, v = .slice ad n cap := by
  obtain ⟨_, ⟨rfl, rfl⟩ | ⟨g, cap, cur, hv, _⟩⟩ := h
  · exact ⟨none, 0, rfl⟩
  · exact ⟨_, _, hv⟩
/-- The sheets of a box, by their number. -/
def shOf (a b wide high lap : Int) (cols : Nat) (k : Nat) : Sh :=
  ⟨((k % cols : Nat) : Int), ((k / cols : Nat) : Int), a + ((k % cols : Nat) : Int) * wide - lap, b + ((k / cols : Nat) : Int) * high - lap, a + ((k % cols : Nat) : Int) * wide + wide + lap - 1, b + ((k / cols : Nat) : Int) * high + high + lap - 1⟩
def shL (a b wide high lap : Int) (cols n : Nat) : List Sh := (List.range n).map (shOf a b wide high lap cols)
theorem shL_snoc (a b wide high lap : Int) (cols n : Nat) : shL a b wide high lap cols n ++ [shOf a b wide high lap cols n] = shL a b wide high lap cols (n + 1) := by simp [shL, List.range_succ]
theorem shL_len (a b wide high lap : Int) (cols n : Nat) : (shL a b wide high lap cols n).length = n := by simp [shL]
theorem shOf_at (a b wide high lap : Int) {cols r c : Nat} (hc : c < cols) : shOf a b wide high lap cols (r * cols + c) = ⟨c, r, a + (c : Int) * wide - lap, b + (r : Int) * high - lap, a + (c : Int) * wide + wide + lap - 1, b + (r : Int) * high + high + lap - 1⟩ := by
  have h1 : (r * cols + c) % cols = c := by rw [Nat.mul_comm, Nat.mul_add_mod, Nat.mod_eq_of_lt hc]
  have h2 : (r * cols + c) / cols = r := by
    rw [Nat.mul_comm, Nat.mul_add_div (by omega), Nat.div_eq_of_lt hc]; omega
  unfold shOf
  rw [h1, h2]
/-- How many columns, rows. -/
def cnt (lo hi wide : Int) : Nat := ((hi - lo) / wide + 1).toNat
theorem cnt_eq {lo hi wide : Int} (h : lo ≤ hi) (hw : 1 ≤ wide) : (hi - lo).tdiv wide + 1 = (cnt lo hi wide : Int) := by
  have h1 : (0 : Int) ≤ (hi - lo) / wide := Int.ediv_nonneg (by omega) (by omega)
  unfold cnt
  rw [Int.tdiv_eq_ediv_of_nonneg (by omega)]
  omega
theorem cnt_bd {lo hi wide : Int} (h1 : -16777216 ≤ lo) (h2 : hi ≤ 16777216) (h : lo ≤ hi) (hw : 1 ≤ wide) : 1 ≤ cnt lo hi wide ∧ cnt lo hi wide ≤ 33554433 := by
  have h3 : (0 : Int) ≤ (hi - lo) / wide := Int.ediv_nonneg (by omega) (by omega)
  have h4 : (hi - lo) / wide ≤ 33554432 := by
    have h5 := (Int.le_ediv_iff_mul_le (c := wide) (a := (hi - lo) / wide) (b := hi - lo) (by omega)).1 (Int.le_refl _)
    have h6 : (hi - lo) / wide * 1 ≤ (hi - lo) / wide * wide := Int.mul_le_mul_of_nonneg_left hw h3
    omega
  unfold cnt
  omega
theorem cnt_iff {lo hi wide : Int} (h : lo ≤ hi) (hw : 1 ≤ wide) (k : Nat) : k < cnt lo hi wide ↔ lo + (k : Int) * wide ≤ hi := by
  have h3 : (0 : Int) ≤ (hi - lo) / wide := Int.ediv_nonneg (by omega) (by omega)
  have h4 := Int.le_ediv_iff_mul_le (c := wide) (a := (k : Int)) (b := hi - lo) (by omega)
  unfold cnt
  omega
theorem infoS : (Tryd.prog.info? 46).map (fun i => (i.zero, i.size, i.bytes)) = some (some (.agg #[.int .i64 0, .int .i64 0, .int .i64 0, .int .i64 0, .int .i64 0, .int .i64 0]), 6, 48) := by kernel_rfl
theorem undS : Tryd.prog.underlying 35 = some (.slice 46) := by kernel_rfl
theorem news6 {w : World} {ad : Addr} {s : Sh} {j : Nat} {u : Value} (hj : s.cs[j]? = some u) (h0 : w.cell? (ad.add 0) = some (.int .i64 s.c)) (h1 : w.cell? (ad.add 1) = some (.int .i64 s.r)) (h2 : w.cell? (ad.add 2) = some (.int .i64 s.a)) (h3 : w.cell? (ad.add 3) = some (.int .i64 s.b)) (h4 : w.cell? (ad.add 4) = some (.int .i64 s.x)) (h5 : w.cell? (ad.add 5) = some (.int .i64 s.y)) : w.cell? (ad.add j) = some u := by
  match j with
  | 0 => simp at hj; subst hj; exact h0
  | 1 => simp at hj; subst hj; exact h1
  | 2 => simp at hj; subst hj; exact h2
  | 3 => simp at hj; subst hj; exact h3
  | 4 => simp at hj; subst hj; exact h4
  | 5 => simp at hj; subst hj; exact h5
  | j + 6 => simp at hj
end Go.Proofs.YthpbkomchdgneaaDoor
