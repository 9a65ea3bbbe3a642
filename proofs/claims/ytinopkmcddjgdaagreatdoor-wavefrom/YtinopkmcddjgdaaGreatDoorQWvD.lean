/-
  Rows that a call owns: what is appended to them, and what that leaves as it was.
-/
import Derived.Test.YtinopkmcddjgdaaGreatDoorQWvC
import Derived.Deep.AppendLies
import Derived.Deep.RegionLaw
namespace Go.Proofs.YtinopkmcddjgdaaGreatDoor
open Go.RowKit FB
attribute [local go_sem] run_store_float

theorem undF : Tryz.prog.underlying 86 = some (.slice 22) := by kernel_rfl
theorem infoF : (Tryz.prog.info? 22).map (fun i => (i.zero, i.size, i.bytes)) = some (some (.float .f64 0), 1, 8) := by kernel_rfl
theorem info_parts {e : TypeId} {z : Value} {s b : Nat} (h : (Tryz.prog.info? e).map (fun i => (i.zero, i.size, i.bytes)) = some (some z, s, b)) : ∃ i, Tryz.prog.info? e = some i ∧ i.zero = some z ∧ i.size = s ∧ i.bytes = b := by
  obtain ⟨i, h1, h2⟩ := Option.map_eq_some_iff.1 h
  simp only [Prod.mk.injEq] at h2
  exact ⟨i, h1, h2.1, h2.2.1, h2.2.2⟩
/-- A row of numbers with a point that the call owns, not in the block R. -/
structure Own (W : World) (b0 R : Nat) (v : Value) (xs : List Nat) : Prop where
  row : W.ownsRow b0 22 1 v xs.length (fRow xs)
  far : ∀ k, v.ownBlock = some k → b0 ≤ k ∧ k ≠ R ∧ k < W.heap.size
theorem Own.nil (W : World) (b0 R : Nat) : Own W b0 R (.slice none 0 0) [] := ⟨World.ownsRow_nil _ _ _ _, fun k h => by cases h⟩
theorem Own.keep {W w' : World} {b0 R : Nat} {v : Value} {xs : List Nat} (h : Own W b0 R v xs) (hb : ∀ k, v.ownBlock = some k → w'.heap[k]? = W.heap[k]?) (hs : W.heap.size ≤ w'.heap.size) : Own w' b0 R v xs := by
  refine ⟨?_, fun k hk => ⟨(h.far k hk).1, (h.far k hk).2.1, Nat.lt_of_lt_of_le (h.far k hk).2.2 hs⟩⟩
  obtain ⟨h1, h2⟩ := h.row
  refine ⟨h1, ?_⟩
  rcases h2 with h2 | ⟨g, cap, cur, rfl, h3, h4, h5⟩
  · exact .inl h2
  · exact .inr ⟨g, cap, cur, rfl, h3, (hb g rfl).trans h4, h5⟩
theorem Own.below {W w' : World} {b0 R : Nat} {v : Value} {xs : List Nat} (hB : Below W.heap.size W w') (h : Own W b0 R v xs) : Own w' b0 R v xs := h.keep (fun k hk => hB.block k (h.far k hk).2.2) hB.size
theorem Own.alloc {W : World} {b0 R : Nat} {v : Value} {xs : List Nat} (h : Own W b0 R v xs) (o : Obj) : Own (W.alloc o) b0 R v xs := Own.below ((Below.refl _ _).alloc (Nat.le_refl _) o) h
theorem Own.drewN {W : World} {b0 R : Nat} {v : Value} {xs : List Nat} (h : Own W b0 R v xs) (n : Nat) : Own (W.drewN n) b0 R v xs := ⟨h.row, h.far⟩
theorem Own.drew {W : World} {b0 R : Nat} {v : Value} {xs : List Nat} (h : Own W b0 R v xs) : Own W.drew b0 R v xs := ⟨h.row, h.far⟩
theorem Own.set {W : World} {b0 R : Nat} {v : Value} {xs : List Nat} (h : Own W b0 R v xs) (o : Nat) (u : Value) : Own (W.setCell ⟨R, o, none⟩ u) b0 R v xs :=
  h.keep (fun k hk => Below.heap_setCell W ⟨R, o, none⟩ u k (h.far k hk).2.1) (by simp)
theorem Own.other {W w' : World} {b0 R : Nat} {v : Value} {xs : List Nat} {row : Option Nat} (h : Own W b0 R v xs) (hg : W.grownBy w' row) (hne : ∀ k, v.ownBlock = some k → some k ≠ row) : Own w' b0 R v xs :=
  h.keep (fun k hk => hg.block k (h.far k hk).2.2 (hne k hk)) hg.size
theorem At.grown {W w' : World} {B : Nat} {l : List Value} {row : Option Nat} (h : At W B l) (hg : W.grownBy w' row) (hne : some B ≠ row) : At w' B l := by
  have hb := hg.block B h.2 hne
  exact ⟨fun i hi => ⟨(World.cell?_of_block (w := W) (a := ⟨B, i, none⟩) hb).trans (h.1 i hi).1, (World.frozen?_of_block (w := W) (a := ⟨B, i, none⟩) hb).trans (h.1 i hi).2⟩, Nat.lt_of_lt_of_le h.2 hg.size⟩
theorem Gr.grown {w W w' : World} {row : Option Nat} (h : Gr w W) (hg : W.grownBy w' row) (hr : ∀ k, row = some k → w.heap.size ≤ k) : Gr w w' := Below.grown h.out hg h.out.size hr
theorem news_At {W : World} {B : Nat} {l : List Value} (h : At W B l) : ∀ j u, l[j]? = some u → W.cell? ((⟨B, 0, none⟩ : Addr).add j) = some u := by
  intro j u hu
  have hadd : (⟨B, 0, none⟩ : Addr).add j = ⟨B, j, none⟩ := by unfold Addr.add; split <;> simp_all
  obtain ⟨hj, rfl⟩ := List.getElem?_eq_some_iff.1 hu
  rw [hadd]
  exact (h.1 j hj).1
theorem ones (l : List Nat) : ∀ u ∈ fRow l, u.oneCell' = true := by
  intro u hu
  obtain ⟨x, _, rfl⟩ := List.mem_map.1 hu
  rfl
/-- Behind an append. -/
theorem Own.after {W w' : World} {b0 R : Nat} {v : Value} {xs ys : List Nat} {g cap n : Nat} (h : Own W b0 R v xs) (hR : R < W.heap.size) (hn : xs.length + ys.length = n)
    (hown : w'.ownsRow b0 22 1 (.slice (some ⟨g, 0, none⟩) n cap) n (fRow xs ++ fRow ys)) (hat : v.ownBlock = some g ∨ g = W.heap.size) (hlt : g < w'.heap.size) (hb : b0 ≤ W.heap.size) : Own w' b0 R (.slice (some ⟨g, 0, none⟩) n cap) (xs ++ ys) := by
  refine ⟨by rw [List.length_append, hn, fRow, List.map_append]; exact hown, fun k hk => ?_⟩
  have hk' : g = k := by simpa [Value.ownBlock] using hk
  subst hk'
  rcases hat with h1 | h1
  · exact ⟨(h.far g h1).1, (h.far g h1).2.1, hlt⟩
  · exact ⟨by omega, by omega, hlt⟩
/-- An append to such a row, at a step of a region that draws its order. -/
theorem step_own {ops : Array Oper} {o : Oper} {a : Act} {K : Act → World → Prop} {Q : Exit → Act → World → Prop} {E : Prop} (W : World) (b0 R : Nat) (v : Value) (xs ys : List Nat) (n m B : Nat) (s x : Operand) (hgd : o.guard = none)
    (ho : o.op = .call { callee := .builtin .append, args := #[s, x], argTypes := #[86, 86] }) (hs : a.eval s = v) (hx : a.eval x = .slice (some ⟨B, 0, none⟩) m m) (hm : ys.length = m) (hn : xs.length + ys.length = n) (h0 : 0 < m) (hl : n ≤ 100)
    (hO : Own W b0 R v xs) (hN : At W B (fRow ys)) (hR : R < W.heap.size) (hb : b0 ≤ W.heap.size)
    (h : ∀ g cap w', Own w' b0 R (.slice (some ⟨g, 0, none⟩) n cap) (xs ++ ys) → W.grownBy w' v.ownBlock → (v.ownBlock = some g ∨ g = W.heap.size) → K (a.put o.dst (.slice (some ⟨g, 0, none⟩) n cap)) w') :
    if Region.wanted o (yielded ops a.tmps) = true then Oper.wp Tryz.prog o a W K Q else E := by
  obtain ⟨i0, hi, hz0, hz1, hz2⟩ := info_parts infoF
  have hml : maxLen = 9223372036854775807 ∨ 1000 ≤ maxLen := by right; decide
  refine step_append_lies W hgd s x 86 ho b0 22 i0 (.float .f64 0) 1 8 undF hi hz0 hz1 hz2 rfl (by decide) v xs.length (fRow xs) hs hO.row ⟨B, 0, none⟩ m m (fRow ys) hx (by simp [hm]) (news_At hN) (ones ys) h0 (by omega) (by omega) hb _ rfl ?_
  intro g cap w' hown hgrow hat hlt
  have e : xs.length + m = n := by omega
  rw [e] at hown ⊢
  exact h g cap w' (hO.after hR hn hown hat hlt hb) hgrow hat
theorem Own.at {W : World} {b0 R : Nat} {v : Value} {xs : List Nat} (h : Own W b0 R v xs) (h0 : xs ≠ []) : ∃ g cap, v = .slice (some ⟨g, 0, none⟩) xs.length cap ∧ xs.length ≤ cap ∧ At W g (fRow xs) ∧ b0 ≤ g := by
  obtain ⟨h1, h2⟩ := h.row
  rcases h2 with ⟨_, h2⟩ | ⟨g, cap, cur, rfl, h3, h4, h5, h6, h7, h8⟩
  · exact absurd (List.eq_nil_of_length_eq_zero h2) h0
  · refine ⟨g, cap, rfl, h5, ⟨fun i hi => ?_, ?_⟩, h3⟩
    · have hi' : i < xs.length := by simpa using hi
      constructor
      · rw [cell_of_row W g i cur 22 (0, 0) h4]
        have hc : i < cur.size := by omega
        have e : cur.toList[i]? = (fRow xs)[i]? := by rw [← h8, List.getElem?_take_of_lt (by omega)]
        rw [List.getElem?_eq_getElem hi] at e
        simpa using e
      · simp [World.frozen?, h4]
    · rcases Nat.lt_or_ge g W.heap.size with hlt | hge
      · exact hlt
      · rw [Array.getElem?_eq_none hge] at h4; cases h4
end Go.Proofs.YtinopkmcddjgdaaGreatDoor
