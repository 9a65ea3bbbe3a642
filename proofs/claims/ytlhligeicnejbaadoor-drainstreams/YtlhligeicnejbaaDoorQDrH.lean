/-
  A heap of what waits: it goes up, it goes down; the first is the least. No Go text.
-/
import Derived.Test.YtlhligeicnejbaaDoorQHd
namespace Go.Proofs.YtlhligeicnejbaaDoor
open Go.RowKit

/-- What waits: its height, its cell. -/
abbrev Wt := Int × Nat
def wlt (a b : Wt) : Prop := a.1 < b.1 ∨ (a.1 = b.1 ∧ a.2 < b.2)
instance (a b : Wt) : Decidable (wlt a b) := by unfold wlt; exact inferInstance
theorem wlt_irrefl (a : Wt) : ¬ wlt a a := by unfold wlt; omega
theorem wlt_trans {a b c : Wt} (h : wlt a b) (k : wlt b c) : wlt a c := by unfold wlt at *; omega
theorem wlt_asymm {a b : Wt} (h : wlt a b) : ¬ wlt b a := by unfold wlt at *; omega
theorem wle_trans {a b c : Wt} (h : ¬ wlt b a) (k : ¬ wlt c b) : ¬ wlt c a := by unfold wlt at *; omega
theorem wlt_of {a b : Wt} (h1 : ¬ wlt a b) (h2 : ¬ wlt b a) : a = b := by
  unfold wlt at *
  obtain ⟨a1, a2⟩ := a
  obtain ⟨b1, b2⟩ := b
  simp only at *
  have e1 : a1 = b1 := by omega
  have e2 : a2 = b2 := by omega
  rw [e1, e2]
def wx (q : List Wt) (i : Nat) : Wt := q.getD i (0, 0)
theorem wx_get {q : List Wt} {i : Nat} (h : i < q.length) : q[i] = wx q i := by unfold wx; simp [h]
/-- Two change their places. -/
def wsw (q : List Wt) (i j : Nat) : List Wt := (q.set i (wx q j)).set j (wx q i)
theorem wsw_len (q : List Wt) (i j : Nat) : (wsw q i j).length = q.length := by simp [wsw]
theorem wsw_wx {q : List Wt} {i j : Nat} (hi : i < q.length) (hj : j < q.length) (k : Nat) : wx (wsw q i j) k = if k = j then wx q i else if k = i then wx q j else wx q k := by
  unfold wsw
  rw [wx, List.getD_eq_getElem?_getD, List.getElem?_set]
  by_cases c : j = k
  · subst c; simp [hj]
  · rw [if_neg c, if_neg (fun e => c e.symm), List.getElem?_set]
    by_cases d : i = k
    · subst d; simp [hi]
    · rw [if_neg d, if_neg (fun e => d e.symm), wx, List.getD_eq_getElem?_getD]
theorem wsw_perm {q : List Wt} {i j : Nat} (hi : i < q.length) (hj : j < q.length) : (wsw q i j).Perm q := by
  have := List.set_set_perm (as := q) hi hj
  rw [wx_get hi, wx_get hj] at this
  exact this
/-- A heap, the first n. -/
def Hp (q : List Wt) (n : Nat) : Prop := ∀ i, 0 < i → i < n → ¬ wlt (wx q i) (wx q ((i - 1) / 2))
/-- A heap but for one that may be too small (it goes up). -/
structure HUp (q : List Wt) (j : Nat) : Prop where
  lt : j < q.length
  all : ∀ i, 0 < i → i < q.length → i ≠ j → ¬ wlt (wx q i) (wx q ((i - 1) / 2))
  gp : 0 < j → ∀ i, 0 < i → i < q.length → (i - 1) / 2 = j → ¬ wlt (wx q i) (wx q ((j - 1) / 2))
theorem HUp.done {q : List Wt} {j : Nat} (h : HUp q j) (hj : j = 0 ∨ ¬ wlt (wx q j) (wx q ((j - 1) / 2))) : Hp q q.length := by
  intro i h0 h1
  by_cases c : i = j
  · subst c
    rcases hj with hj | hj
    · omega
    · exact hj
  · exact h.all i h0 h1 c
theorem HUp.step {q : List Wt} {j : Nat} (h : HUp q j) (h0 : 0 < j) (hlt : wlt (wx q j) (wx q ((j - 1) / 2))) : HUp (wsw q ((j - 1) / 2) j) ((j - 1) / 2) := by
  have hj := h.lt
  obtain ⟨p, hp⟩ : ∃ p, p = (j - 1) / 2 := ⟨_, rfl⟩
  rw [← hp] at hlt ⊢
  have hpj : p < j := by omega
  have hpl : p < q.length := by omega
  refine ⟨by rw [wsw_len]; exact hpl, ?_, ?_⟩
  · intro i i0 i1 hne
    rw [wsw_len] at i1
    rw [wsw_wx hpl hj, wsw_wx hpl hj]
    by_cases c : i = j
    · subst c
      rw [if_pos rfl, ← hp, if_neg (by omega), if_pos rfl]
      exact wlt_asymm hlt
    · rw [if_neg c, if_neg hne]
      by_cases d : (i - 1) / 2 = j
      · rw [if_pos d]
        have := h.gp h0 i i0 i1 d
        rw [← hp] at this
        exact this
      · rw [if_neg d]
        have a := h.all i i0 i1 c
        by_cases e : (i - 1) / 2 = p
        · rw [if_pos e]
          rw [e] at a
          exact fun k => a (wlt_trans k hlt)
        · rw [if_neg e]
          exact a
  · intro p0 i i0 i1 hpar
    rw [wsw_len] at i1
    have hpp : (p - 1) / 2 < p := by omega
    rw [wsw_wx hpl hj, wsw_wx hpl hj, if_neg (show (p - 1) / 2 ≠ j by omega), if_neg (show (p - 1) / 2 ≠ p by omega)]
    have a := h.all p p0 hpl (by omega)
    by_cases c : i = j
    · rw [if_pos c]
      exact a
    · rw [if_neg c, if_neg (show i ≠ p by omega)]
      have b := h.all i i0 i1 c
      rw [hpar] at b
      exact wle_trans a b
/-- A heap but for one that may be too great (it goes down), the first n. -/
structure HDn (q : List Wt) (i n : Nat) : Prop where
  le : n ≤ q.length
  all : ∀ k, 0 < k → k < n → (k - 1) / 2 ≠ i → ¬ wlt (wx q k) (wx q ((k - 1) / 2))
  gp : 0 < i → ∀ k, 0 < k → k < n → (k - 1) / 2 = i → ¬ wlt (wx q k) (wx q ((i - 1) / 2))
theorem HDn.done {q : List Wt} {i n : Nat} (h : HDn q i n) (hk : ∀ k, 0 < k → k < n → (k - 1) / 2 = i → ¬ wlt (wx q k) (wx q i)) : Hp q n := by
  intro k h0 h1
  by_cases c : (k - 1) / 2 = i
  · rw [c]; exact hk k h0 h1 c
  · exact h.all k h0 h1 c
theorem HDn.leaf {q : List Wt} {i n : Nat} (h : HDn q i n) (hn : n ≤ 2 * i + 1) : Hp q n := h.done (fun k h0 h1 e => by omega)
/-- The lesser child. -/
def wch (q : List Wt) (i n : Nat) : Nat := if 2 * i + 2 < n ∧ wlt (wx q (2 * i + 2)) (wx q (2 * i + 1)) then 2 * i + 2 else 2 * i + 1
theorem wch_le {q : List Wt} {i n k : Nat} (h0 : 0 < k) (h1 : k < n) (e : (k - 1) / 2 = i) : ¬ wlt (wx q k) (wx q (wch q i n)) := by
  have hk : k = 2 * i + 1 ∨ k = 2 * i + 2 := by omega
  unfold wch
  split
  · rename_i c
    rcases hk with rfl | rfl
    · exact wlt_asymm c.2
    · exact wlt_irrefl _
  · rename_i c
    rcases hk with rfl | rfl
    · exact wlt_irrefl _
    · exact fun k => c ⟨h1, k⟩
theorem wch_at {q : List Wt} {i n : Nat} (hn : 2 * i + 1 < n) : (wch q i n - 1) / 2 = i ∧ i < wch q i n ∧ wch q i n < n := by
  unfold wch
  split <;> omega
theorem HDn.stop {q : List Wt} {i n : Nat} (h : HDn q i n) (hlt : ¬ wlt (wx q (wch q i n)) (wx q i)) : Hp q n :=
  h.done (fun _ h0 h1 e => wle_trans hlt (wch_le h0 h1 e))
theorem HDn.step {q : List Wt} {i n : Nat} (h : HDn q i n) (hn : 2 * i + 1 < n) (hlt : wlt (wx q (wch q i n)) (wx q i)) : HDn (wsw q i (wch q i n)) (wch q i n) n := by
  obtain ⟨c1, c2, c3⟩ := wch_at (q := q) hn
  have hle := fun k (h0 : 0 < k) (h1 : k < n) (e : (k - 1) / 2 = i) => wch_le (q := q) h0 h1 e
  have hl := h.le
  generalize wch q i n = j at *
  have hjl : j < q.length := by omega
  have hil : i < q.length := by omega
  refine ⟨by rw [wsw_len]; exact hl, ?_, ?_⟩
  · intro k k0 k1 hne
    rw [wsw_wx hil hjl, wsw_wx hil hjl]
    by_cases c : k = j
    · subst c
      rw [if_pos rfl, c1, if_neg (by omega), if_pos rfl]
      exact wlt_asymm hlt
    · rw [if_neg c, if_neg hne]
      by_cases d : k = i
      · subst d
        have hp : (k - 1) / 2 < k := by omega
        rw [if_pos rfl, if_neg (by omega)]
        exact h.gp k0 j (by omega) c3 c1
      · rw [if_neg d]
        by_cases e : (k - 1) / 2 = i
        · rw [if_pos e]
          exact hle k k0 k1 e
        · rw [if_neg e]
          exact h.all k k0 k1 e
  · intro j0 k k0 k1 hpar
    rw [wsw_wx hil hjl, wsw_wx hil hjl, c1, if_neg (show k ≠ j by omega), if_neg (show k ≠ i by omega), if_neg (show i ≠ j by omega), if_pos rfl]
    have := h.all k k0 k1 (by omega)
    rw [hpar] at this
    exact this
/-- The first of a heap is the least. -/
theorem Hp.root {q : List Wt} {n : Nat} (h : Hp q n) : ∀ k, k < n → ¬ wlt (wx q k) (wx q 0) := by
  intro k
  induction k using Nat.strongRecOn with
  | _ k ih =>
    intro hk
    by_cases c : k = 0
    · subst c; exact wlt_irrefl _
    · exact wle_trans (ih ((k - 1) / 2) (by omega) (by omega)) (h k (by omega) hk)
theorem Hp.push {q : List Wt} (h : Hp q q.length) (p : Wt) : HUp (q ++ [p]) q.length := by
  have hw : ∀ i, i < q.length → wx (q ++ [p]) i = wx q i := fun i hi => by unfold wx; simp [List.getElem?_append_left hi]
  refine ⟨by simp, ?_, ?_⟩
  · intro i i0 i1 hne
    have hi : i < q.length := by simp at i1; omega
    rw [hw i hi, hw _ (by omega)]
    exact h i i0 hi
  · intro _ i i0 i1 e
    simp at i1
    omega
theorem Hp.pop {q : List Wt} {n : Nat} (h : Hp q (n + 1)) (hn : q.length = n + 1) : HDn (wsw q 0 n) 0 n := by
  refine ⟨by rw [wsw_len]; omega, ?_, fun k => absurd k (by omega)⟩
  intro k k0 k1 hne
  rw [wsw_wx (by omega) (by omega), wsw_wx (by omega) (by omega), if_neg (by omega), if_neg (by omega), if_neg (by omega), if_neg hne]
  exact h k k0 (by omega)
/-- Two lists with the same members, no one twice, whose heaps are taken off. -/
theorem perm_drop {q q' : List Wt} {n : Nat} (hp : q'.Perm q) (hn : q.length = n + 1) (hd : q.Nodup) : (q'.take n).Nodup ∧ ∀ p, p ∈ q'.take n ↔ p ∈ q ∧ p ≠ wx q' n := by
  have hl : q'.length = n + 1 := by rw [hp.length_eq, hn]
  have hd' : q'.Nodup := hp.nodup_iff.2 hd
  have e : q' = q'.take n ++ [wx q' n] := by
    conv => lhs; rw [← List.take_append_drop n q']
    congr 1
    rw [List.drop_eq_getElem_cons (by omega), wx_get (by omega), List.drop_eq_nil_of_le (by omega)]
  rw [e] at hd'
  have k := List.nodup_append.1 hd'
  refine ⟨k.1, fun p => ?_⟩
  constructor
  · intro h
    exact ⟨hp.mem_iff.1 (List.mem_of_mem_take h), fun c => k.2.2 p h _ (by simp) c⟩
  · intro ⟨h, c⟩
    have := hp.mem_iff.2 h
    rw [e] at this
    rcases List.mem_append.1 this with m | m
    · exact m
    · exact absurd (List.mem_singleton.1 m) c
end Go.Proofs.YtlhligeicnejbaaDoor
