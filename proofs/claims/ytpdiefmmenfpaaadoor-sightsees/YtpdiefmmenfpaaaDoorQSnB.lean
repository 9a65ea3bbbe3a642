/-
  Rows of stops; mercatorref4.withStop.
-/
import Derived.Test.YtpdiefmmenfpaaaDoorQSnA
import Derived.Maps.AppendAt
namespace Go.Proofs.YtpdiefmmenfpaaaDoor
open Go.RowKit
attribute [local go_sem ↓] Go.wp_at_zero Go.wp_at_succ

/-- A stop's cells: how far, and the ground there. -/
abbrev Tcs (G : Nat × Nat → Int) (p : Nat × Nat) : List Value := [.int .i64 (p.1 : Int), .int .i64 (p.2 : Int), .int .i64 (G p)]
def tr (G : Nat × Nat → Int) (L : List (Nat × Nat)) : List Value := L.flatMap (Tcs G)
def tx (L : List (Nat × Nat)) (j : Nat) : Nat × Nat := L.getD j (0, 0)
theorem tx_get {L : List (Nat × Nat)} {j : Nat} (h : j < L.length) : L[j] = tx L j := by unfold tx; simp [h]
theorem tr_snoc (G : Nat × Nat → Int) (L : List (Nat × Nat)) (p : Nat × Nat) : tr G L ++ Tcs G p = tr G (L ++ [p]) := by simp [tr]
theorem tr_app (G : Nat × Nat → Int) (L M : List (Nat × Nat)) : tr G L ++ tr G M = tr G (L ++ M) := by simp [tr]
theorem tr_len (G : Nat × Nat → Int) : ∀ L : List (Nat × Nat), (tr G L).length = L.length * 3
  | [] => rfl
  | p :: L => by
    have := tr_len G L
    simp [tr] at this ⊢
    omega
theorem tr_get (G : Nat × Nat → Int) : ∀ (q : List (Nat × Nat)) (k : Nat) (_hk : k < q.length) (j : Nat), j < 3 → (tr G q)[k * 3 + j]? = (Tcs G (tx q k))[j]?
  | s :: q, 0, _, j, hj => by
    match j, hj with
    | 0, _ => rfl
    | 1, _ => rfl
    | 2, _ => rfl
  | s :: q, k + 1, hk, j, hj => by
    have ih := tr_get G q k (by simp at hk; omega) j hj
    rw [show (k + 1) * 3 + j = (k * 3 + j) + 3 by omega]
    exact ih
theorem infoT : (Tryd.prog.info? 64).map (fun i => (i.zero, i.size, i.bytes)) = some (some (.agg #[.int .i64 0, .int .i64 0, .int .i64 0]), 3, 24) := by kernel_rfl
theorem undT : Tryd.prog.underlying 54 = some (.slice 64) := by kernel_rfl
theorem tindex (g o n cap k : Nat) (hk : k < n) (w : World) : (Instr.indexAt 54 (.slice (some ⟨g, o, none⟩) n cap) (.int .i64 k)).run Tryd.prog w = .ok (.pointer (some ⟨g, o + k * 3, none⟩)) w := by
  have hu : Tryd.prog.underlying 54 = some (.slice (Tryd.prog.elem 54)) := by kernel_rfl
  refine (run_indexAt_slice (P := Tryd.prog) (w := w) 54 ⟨g, o, none⟩ n cap .i64 (k : Int) hu).trans ?_
  rw [if_pos ⟨by omega, by omega⟩]
  have hs : (sizeOf (Tryd.prog.elem 54)).run Tryd.prog w = .ok 3 w := by kernel_rfl
  rw [hs]
  simp [Addr.add]
/-- A slice of stops that is read. -/
structure TSl (w : World) (G : Nat × Nat → Int) (ad : Option Addr) (b cap : Nat) (L : List (Nat × Nat)) : Prop where
  row : ∀ j, j < L.length → (w.cell? ⟨b, j * 3, none⟩ = some (.int .i64 ((tx L j).1 : Int)) ∧ w.cell? ⟨b, j * 3 + 1, none⟩ = some (.int .i64 ((tx L j).2 : Int)) ∧ w.cell? ⟨b, j * 3 + 2, none⟩ = some (.int .i64 (G (tx L j)))) ∧ b < w.heap.size
  ix : ∀ j : Nat, j < L.length → ∀ w, (Instr.indexAt 54 (.slice ad L.length cap) (.int .i64 j)).run Tryd.prog w = .ok (.pointer (some ⟨b, j * 3, none⟩)) w
  ad : ∀ j, j < L.length → ad = some ⟨b, 0, none⟩ ∧ L.length ≤ cap
theorem TSl.below {W w' : World} {G : Nat × Nat → Int} {ad : Option Addr} {b cap : Nat} {L : List (Nat × Nat)} (h : TSl W G ad b cap L) (hB : Below W.heap.size W w') : TSl w' G ad b cap L :=
  ⟨fun j hj => by
    obtain ⟨⟨h1, h2, h3⟩, h4⟩ := h.row j hj
    exact ⟨⟨(hB.cell (p := ⟨b, j * 3, none⟩) h4).trans h1, (hB.cell (p := ⟨b, j * 3 + 1, none⟩) h4).trans h2, (hB.cell (p := ⟨b, j * 3 + 2, none⟩) h4).trans h3⟩, Nat.lt_of_lt_of_le h4 hB.size⟩, h.ix, h.ad⟩
theorem TSl.nil (w : World) (G : Nat × Nat → Int) (ad : Option Addr) (b cap : Nat) : TSl w G ad b cap [] := ⟨fun j hj => by simp at hj, fun j hj => by simp at hj, fun j hj => by simp at hj⟩
theorem own_tsl {w : World} {G : Nat × Nat → Int} {base : Nat} {v : Value} {n : Nat} {L : List (Nat × Nat)} (h : w.ownsRow base 64 3 v n (tr G L)) (hn : L.length = n) : ∃ ad b cap, v = .slice ad L.length cap ∧ TSl w G ad b cap L := by
  have hlt := h.lt
  subst hn
  obtain ⟨h1, h | ⟨g, cap, cur, hv, hb, hg, hc, hm, hs, ht⟩⟩ := h
  · obtain ⟨rfl, h0⟩ := h
    exact ⟨none, 0, 0, by rw [h0], fun j hj => by omega, fun j hj => by omega, fun j hj => by omega⟩
  · subst hv
    refine ⟨_, g, cap, rfl, fun j hj => ?_, fun j hj w => by have := tindex g 0 _ cap j hj w; rwa [Nat.zero_add] at this, fun j hj => ⟨rfl, by omega⟩⟩
    have key : ∀ i, (hi : i < 3) → w.cell? ⟨g, j * 3 + i, none⟩ = (Tcs G (tx L j))[i]? := by
      intro i hi
      have e1 : (cur.toList.take (L.length * 3))[j * 3 + i]? = (tr G L)[j * 3 + i]? := by rw [ht]
      rw [List.getElem?_take, if_pos (by omega), tr_get G L j hj i hi] at e1
      simp [World.cell?, hg]
      simpa using e1
    exact ⟨⟨key 0 (by decide), key 1 (by decide), key 2 (by decide)⟩, (hlt g rfl).2⟩
theorem news_AtT {W : World} {B : Nat} {G : Nat × Nat → Int} {p : Nat × Nat} (h : At W B (Tcs G p)) : ∀ j u, (Tcs G p)[j]? = some u → W.cell? ((⟨B, 0, none⟩ : Addr).add j) = some u := by
  intro j u hu
  have ea : (⟨B, 0, none⟩ : Addr).add j = ⟨B, j, none⟩ := by
    unfold Addr.add
    split
    · rename_i h0; subst h0; rfl
    · simp
  rw [ea]
  match j with
  | 0 => simp at hu; subst hu; exact h.c3.1
  | 1 => simp at hu; subst hu; exact h.c3.2.1
  | 2 => simp at hu; subst hu; exact h.c3.2.2
  | j + 3 => simp at hu
theorem wpList_t3 {ops : Array Oper} {rest : List Oper} {o : Oper} {a : Act} {Q : Exit → Act → World → Prop} (G : Nat × Nat → Int) (W : World) (b0 : Nat) (v : Value) (l : List (Nat × Nat)) (r : Nat × Nat) (n B : Nat) (s x : Operand) (hgd : o.guard = none)
    (ho : o.op = .call { callee := .builtin .append, args := #[s, x], argTypes := #[54, 54] }) (hs : a.eval s = v) (hx : a.eval x = .slice (some ⟨B, 0, none⟩) 1 1) (hn : l.length = n) (hl : n ≤ 140000)
    (hO : W.ownsRow b0 64 3 v n (tr G l)) (hN : At W B (Tcs G r)) (hb : b0 ≤ W.heap.size)
    (h : ∀ g cap w', Hid (w'.ownsRow b0 64 3 (.slice (some ⟨g, 0, none⟩) (n + 1) cap) (n + 1) (tr G (l ++ [r]))) → Hid (W.grownBy w' v.ownBlock) → wpList Tryd.prog ops Q rest (a.put o.dst (.slice (some ⟨g, 0, none⟩) (n + 1) cap)) w') : wpList Tryd.prog ops Q (o :: rest) a W := by
  have hml : 1000000 ≤ maxLen := by decide
  have ones : ∀ u ∈ Tcs G r, u.oneCell' = true := by
    intro u hu
    simp only [List.mem_cons, List.not_mem_nil, or_false] at hu
    rcases hu with rfl | rfl | rfl <;> rfl
  obtain ⟨i0, hi, hz0, hz1, hz2⟩ := info_parts infoT
  refine wpList_append_own _ hgd s x _ ho b0 _ i0 (.agg #[.int .i64 0, .int .i64 0, .int .i64 0]) 3 24 undT hi hz0 hz1 hz2 rfl (by decide) v n (tr G l) hs hO ⟨B, 0, none⟩ 1 1 (Tcs G r) hx rfl (news_AtT hN) ones (by omega) (by omega) hb ?_
  intro v' w' hown hgrow _
  rw [tr_snoc] at hown
  obtain ⟨g, cap, rfl⟩ : ∃ g cap, v' = .slice (some ⟨g, 0, none⟩) (n + 1) cap := by
    obtain ⟨_, ⟨_, h0⟩ | ⟨g, cap, cur, hv, _⟩⟩ := hown
    · omega
    · exact ⟨g, cap, hv⟩
  exact h g cap w' hown hgrow
/-- Is one less far; as far. -/
def ltS (p q : Nat × Nat) : Prop := p.1 * q.2 < q.1 * p.2
def eqS (p q : Nat × Nat) : Prop := p.1 * q.2 = q.1 * p.2
instance (p q : Nat × Nat) : Decidable (ltS p q) := by unfold ltS; infer_instance
instance (p q : Nat × Nat) : Decidable (eqS p q) := by unfold eqS; infer_instance
/-- A stop that is put among others. -/
def wsP : List (Nat × Nat) → Nat × Nat → List (Nat × Nat)
  | [], s => [s]
  | q :: L, s => if ltS q s then q :: wsP L s else if eqS q s then q :: L else s :: q :: L
theorem wsP_at : ∀ (L : List (Nat × Nat)) (s : Nat × Nat) (i : Nat), i ≤ L.length → (∀ j, j < i → ltS (tx L j) s) → (i < L.length → ¬ ltS (tx L i) s) → wsP L s = if i < L.length ∧ eqS (tx L i) s then L else L.take i ++ s :: L.drop i
  | [], s, i, hi, _, _ => by
    obtain rfl : i = 0 := by simp at hi; exact hi
    simp [wsP]
  | q :: L, s, 0, _, _, h2 => by
    have h3 := h2 (by simp)
    have e : tx (q :: L) 0 = q := rfl
    rw [e] at h3 ⊢
    unfold wsP
    rw [if_neg h3]
    simp
  | q :: L, s, i + 1, hi, h1, h2 => by
    have h3 : ltS q s := h1 0 (by omega)
    have ih := wsP_at L s i (by simp at hi; omega) (fun j hj => h1 (j + 1) (by omega)) (fun k => h2 (by simp; omega))
    have e : tx (q :: L) (i + 1) = tx L i := rfl
    unfold wsP
    rw [if_pos h3, ih, e]
    by_cases c : i < L.length ∧ eqS (tx L i) s
    · rw [if_pos c, if_pos ⟨by simp; omega, c.2⟩]
    · rw [if_neg c, if_neg (fun k => c ⟨by have := k.1; simp at this; omega, k.2⟩)]
      rfl
theorem wsP_len (L : List (Nat × Nat)) (s : Nat × Nat) : (wsP L s).length ≤ L.length + 1 := by
  induction L with
  | nil => simp [wsP]
  | cons q L ih =>
    unfold wsP
    split
    · simp; exact ih
    · split <;> simp
theorem wsP_mem {L : List (Nat × Nat)} {s x : Nat × Nat} (h : x ∈ wsP L s) : x ∈ L ∨ x = s := by
  induction L with
  | nil => simp [wsP] at h; exact .inr h
  | cons q L ih =>
    unfold wsP at h
    split at h
    · rcases List.mem_cons.1 h with e | e
      · exact .inl (by simp [e])
      · rcases ih e with k | k
        · exact .inl (by simp [k])
        · exact .inr k
    · split at h
      · exact .inl h
      · rcases List.mem_cons.1 h with e | e
        · exact .inr e
        · exact .inl e
theorem wsP_old {L : List (Nat × Nat)} {s x : Nat × Nat} (h : x ∈ L) : x ∈ wsP L s := by
  induction L with
  | nil => cases h
  | cons q L ih =>
    unfold wsP
    split
    · rcases List.mem_cons.1 h with e | e
      · simp [e]
      · simp [ih e]
    · split
      · exact h
      · simp [List.mem_cons.1 h]
theorem wsP_new (L : List (Nat × Nat)) (s : Nat × Nat) : ∃ q ∈ wsP L s, eqS q s := by
  induction L with
  | nil => exact ⟨s, by simp [wsP], rfl⟩
  | cons q L ih =>
    unfold wsP
    split
    · obtain ⟨x, hx, e⟩ := ih
      exact ⟨x, by simp [hx], e⟩
    · split
      · rename_i k; exact ⟨q, by simp, k⟩
      · exact ⟨s, by simp, rfl⟩
/-- All stops of a line, each once. -/
def stL (ps : List (Nat × Nat)) : List (Nat × Nat) := ps.foldl wsP []
theorem stL_snoc (ps : List (Nat × Nat)) (p : Nat × Nat) : stL (ps ++ [p]) = wsP (stL ps) p := by simp [stL]
theorem stL_in : ∀ (k : Nat) (ps : List (Nat × Nat)), ps.length = k → (∀ q ∈ stL ps, q ∈ ps) ∧ (∀ p ∈ ps, ∃ q ∈ stL ps, eqS q p) ∧ (stL ps).length ≤ k := by
  intro k
  induction k with
  | zero =>
    intro ps h
    obtain rfl := List.length_eq_zero_iff.1 h
    exact ⟨fun q hq => by simp [stL] at hq, fun p hp => by simp at hp, by simp [stL]⟩
  | succ k ih =>
    intro ps h
    obtain ⟨qs, p, rfl⟩ : ∃ qs p, ps = qs ++ [p] := by
      have hne : ps ≠ [] := by intro e; rw [e] at h; simp at h
      exact ⟨ps.dropLast, ps.getLast hne, (List.dropLast_concat_getLast hne).symm⟩
    obtain ⟨h1, h2, h3⟩ := ih qs (by simp at h; exact h)
    rw [stL_snoc]
    refine ⟨fun q hq => ?_, fun x hx => ?_, ?_⟩
    · rcases wsP_mem hq with e | e
      · simp [h1 q e]
      · simp [e]
    · rcases List.mem_append.1 hx with e | e
      · obtain ⟨q, hq, e2⟩ := h2 x e
        exact ⟨q, wsP_old hq, e2⟩
      · rw [List.mem_singleton] at e
        subst e
        exact wsP_new _ _
    · have := wsP_len (stL qs) p
      omega
end Go.Proofs.YtpdiefmmenfpaaaDoor
