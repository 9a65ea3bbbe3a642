/-
  mercatorlaw5.drawn.
-/
import Derived.Test.YtnadgoomkaldkaaDoorQSfG
import Derived.Test.YtnadgoomkaldkaaDoorQJ3
import Derived.Deep.AppendLies
import Derived.Deep.Upon
namespace Go.Proofs.YtnadgoomkaldkaaDoor
open Go.RowKit
attribute [local go_sem ↓] Go.wp_at_zero Go.wp_at_succ

theorem SSl.lt {W : World} {ad : Option Addr} {b o cap : Nat} {l : List Sp} (h : SSl W ad b o cap l) (h0 : 1 ≤ l.length) : b < W.heap.size := (h.row 0 (by omega)).2
theorem own_st {w : World} {base e size n : Nat} {v : Value} {xs : List Value} (h : w.ownsRow base e size v n xs) {c : Nat} (hc : c < base) (o : Nat) (u : Value) : (w.setCell ⟨c, o, none⟩ u).ownsRow base e size v n xs := by
  have k := Below.setCell (Below.refl 0 w) (p := ⟨c, o, none⟩) (Nat.zero_le _) u
  refine h.kept (row := some c) ⟨k.os, k.tape, k.output, by simp, fun i hi hn => ?_⟩ (.inr ?_)
  · exact Below.heap_setCell w ⟨c, o, none⟩ u i (fun e => hn (by rw [e]))
  · intro e
    have := (h.lt c e).1
    omega
theorem infoSS : (Tryd.prog.info? 43).map (fun i => (i.zero, i.size, i.bytes)) = some (some (.slice none 0 0), 1, 24) := by kernel_rfl
theorem undSS : Tryd.prog.underlying 30 = some (.slice 43) := by kernel_rfl
theorem app_nn (ad : Option Addr) (cx : Nat) (ty : Nat) (w : World) : (Builtin.append_ #[43, 43] ty #[.slice none 0 0, .slice ad 0 cx]).run Tryd.prog w = .ok (.slice none 0 0) w := by
  obtain ⟨i0, hi, hz0, hz1, hz2⟩ := info_pt infoS2
  cases ad with
  | none => exact run_append_nothing w _ _ ty _ i0 undS2 hi none 0 0 (Nat.le_refl _) _ (Src.ofNil w undS2 cx)
  | some a => exact run_append_nothing w _ _ ty _ i0 undS2 hi none 0 0 (Nat.le_refl _) _ (Src.ofSlice w undS2 a 0 cx [] (by simp) (fun j u h => by simp at h) (fun u h => by simp at h))
theorem wpList_a0 {ops : Array Oper} {rest : List Oper} {o : Oper} {a : Act} {Q : Exit → Act → World → Prop} (W : World) (cx : Nat) (ad : Option Addr) (s x : Operand) (hgd : o.guard = none)
    (ho : o.op = .call { callee := .builtin .append, args := #[s, x], argTypes := #[43, 43] }) (hs : a.eval s = .slice none 0 0) (hx : a.eval x = .slice ad 0 cx)
    (h : wpList Tryd.prog ops Q rest (a.put o.dst (.slice none 0 0)) W) : wpList Tryd.prog ops Q (o :: rest) a W := by
  refine wpList_plain hgd fun _ hK => ?_
  have hr := app_nn ad cx o.type W
  unfold Oper.wp execOp
  simp only [ho, resolve, invoke, builtin, Sem.run_bind, Sem.run_pure, Result.andThen_ok, List.map_toArray, List.map_cons, List.map_nil, hs, hx, hr]
  exact hK _ _ h
theorem own_pts {W : World} {base n g cp : Nat} {l : List Sp} (h : W.ownsRow base 52 2 (.slice (some ⟨g, 0, none⟩) n cp) n (sr l)) (hn : l.length = n) : SSl W (some ⟨g, 0, none⟩) g 0 cp l ∧ n ≤ cp := by
  have hlt := h.lt
  subst hn
  obtain ⟨h1, h | ⟨g', cap', cur, hv, hb, hg, hc, hm, hs, ht⟩⟩ := h
  · cases h.1
  · simp only [Value.slice.injEq, Option.some.injEq, Addr.mk.injEq, and_true] at hv
    obtain ⟨rfl, _, rfl⟩ := hv
    refine ⟨⟨fun j hj => ?_, fun j hj w => sindex g 0 _ cp j hj w⟩, by omega⟩
    have key : ∀ i, (hi : i < 2) → W.cell? ⟨g, 0 + j * 2 + i, none⟩ = (sc (sx l j))[i]? := by
      intro i hi
      have e1 : (cur.toList.take (l.length * 2))[j * 2 + i]? = (sr l)[j * 2 + i]? := by rw [ht]
      rw [List.getElem?_take, if_pos (by omega), sr_at l j hj i hi] at e1
      simp [World.cell?, hg]
      simpa using e1
    exact ⟨⟨key 0 (by decide), key 1 (by decide)⟩, (hlt g rfl).2⟩
/-- All of an arc's cells, one behind the other. -/
theorem SSl.all {W : World} {ad : Option Addr} {b o cap : Nat} {l : List Sp} (h : SSl W ad b o cap l) : ∀ j u, (sr l)[j]? = some u → W.cell? ((⟨b, o, none⟩ : Addr).add j) = some u := by
  intro j u hu
  have hj : j < l.length * 2 := by
    rcases Nat.lt_or_ge j (l.length * 2) with c | c
    · exact c
    · rw [List.getElem?_eq_none (by rw [sr_len]; exact c)] at hu; cases hu
  have ea : (⟨b, o, none⟩ : Addr).add j = ⟨b, o + j, none⟩ := by
    unfold Addr.add
    split
    · rename_i h0; subst h0; rfl
    · rfl
  rw [ea]
  have h2 : j % 2 < 2 := Nat.mod_lt _ (by decide)
  have e := Nat.div_add_mod j 2
  have hq : j / 2 < l.length := by omega
  have hg := sr_at l (j / 2) hq (j % 2) h2
  rw [show j / 2 * 2 + j % 2 = j by omega, hu] at hg
  have hr := (h.row (j / 2) hq).1
  rcases (show j % 2 = 0 ∨ j % 2 = 1 by omega) with c | c
  · rw [c] at hg
    rw [show o + j = o + j / 2 * 2 by omega, hr.1]
    exact hg.symm
  · rw [c] at hg
    rw [show o + j = o + j / 2 * 2 + 1 by omega, hr.2]
    exact hg.symm
theorem wpList_an {ops : Array Oper} {rest : List Oper} {o : Oper} {a : Act} {Q : Exit → Act → World → Prop} (W : World) (l : List Sp) (n B of c : Nat) (s x : Operand) (hgd : o.guard = none)
    (ho : o.op = .call { callee := .builtin .append, args := #[s, x], argTypes := #[43, 43] }) (hs : a.eval s = .slice none 0 0) (hx : a.eval x = .slice (some ⟨B, of, none⟩) n c) (hn : l.length = n) (h0 : 1 ≤ n) (hl : n ≤ 20000)
    (hS : SSl W (some ⟨B, of, none⟩) B of c l)
    (h : ∀ cp w', Hid (SSl w' (some ⟨W.heap.size, 0, none⟩) W.heap.size 0 cp l ∧ n ≤ cp) → Hid (Below W.heap.size W w') → wpList Tryd.prog ops Q rest (a.put o.dst (.slice (some ⟨W.heap.size, 0, none⟩) n cp)) w') : wpList Tryd.prog ops Q (o :: rest) a W := by
  have hml : 100000 ≤ maxLen := by decide
  obtain ⟨i0, hi, hz0, hz1, hz2⟩ := info_pt infoS2
  refine wpList_plain hgd fun _ hK => wp_append_lies W s x _ ho W.heap.size _ i0 (.agg #[.int .i64 0, .int .i64 0]) 2 16 undS2 hi hz0 hz1 hz2 rfl (by decide) (.slice none 0 0) 0 [] hs (World.ownsRow_nil _ _ _ _) ⟨B, of, none⟩ n c (sr l) hx (by rw [sr_len, hn]) hS.all ?_ h0 (by omega) (by omega) (Nat.le_refl _) _ rfl ?_
  · intro u hu
    obtain ⟨p, _, hp⟩ := List.mem_flatMap.1 hu
    simp only [List.mem_cons, List.not_mem_nil, or_false] at hp
    rcases hp with rfl | rfl <;> rfl
  · intro g cp w' hown hgrow hat _
    have hg : g = W.heap.size := by
      rcases hat with e | e
      · cases e
      · exact e
    subst hg
    rw [List.nil_append, Nat.zero_add] at hown
    have hB : Below W.heap.size W w' := (Below.refl _ W).grown hgrow (Nat.le_refl _) (fun k e => by cases e)
    have hh := h cp w' (hidb (own_pts hown hn)) hB
    rw [Nat.zero_add]
    exact hK _ _ hh
theorem wpList_as {ops : Array Oper} {rest : List Oper} {o : Oper} {a : Act} {Q : Exit → Act → World → Prop} (W : World) (b0 : Nat) (v : Value) (vs : List Value) (y : Value) (n B : Nat) (s x : Operand) (hgd : o.guard = none)
    (ho : o.op = .call { callee := .builtin .append, args := #[s, x], argTypes := #[30, 30] }) (hs : a.eval s = v) (hx : a.eval x = .slice (some ⟨B, 0, none⟩) 1 1) (hn : vs.length = n) (hl : n ≤ 3000000) (hy : y.oneCell' = true)
    (hO : W.ownsRow b0 43 1 v n vs) (hN : At W B [y]) (hb : b0 ≤ W.heap.size) (H : Nat) (hH : W.heap.size = H)
    (h : ∀ g cap w', Hid (w'.ownsRow b0 43 1 (.slice (some ⟨g, 0, none⟩) (n + 1) cap) (n + 1) (vs ++ [y])) → Hid (W.grownBy w' v.ownBlock) → Hid (v.ownBlock = some g ∨ g = H) → wpList Tryd.prog ops Q rest (a.put o.dst (.slice (some ⟨g, 0, none⟩) (n + 1) cap)) w') : wpList Tryd.prog ops Q (o :: rest) a W := by
  have hml : 4000000 ≤ maxLen := by decide
  obtain ⟨i0, hi, hz0, hz1, hz2⟩ := info_pt infoSS
  refine wpList_plain hgd fun _ hK => wp_append_lies W s x _ ho b0 _ i0 (.slice none 0 0) 1 24 undSS hi hz0 hz1 hz2 rfl (by decide) v n vs hs hO ⟨B, 0, none⟩ 1 1 [y] hx rfl ?_ ?_ (by decide) (by omega) (by omega) hb H hH ?_
  · intro j u hu
    match j with
    | 0 => simp at hu; subst hu; exact (hN.1 0 (by simp)).1
    | j + 1 => simp at hu
  · intro u hu; simp at hu; subst hu; exact hy
  · intro g cap w' h1 h2 h3 _
    exact hK _ _ (h g cap w' h1 h2 h3)
/-- An arc as it was copied. -/
def Rw (W : World) (B : Nat) (y : Value) (l : List Sp) : Prop := ∃ ad' b' cap', y = .slice ad' l.length cap' ∧ (1 ≤ l.length → ad' = some ⟨b', 0, none⟩ ∧ l.length ≤ cap') ∧ SSl W ad' b' 0 cap' l ∧ (l.length = 0 ∨ B ≤ b') ∧ b' < W.heap.size ∧ (l.length = 0 → b' = 0)
theorem Rw.below {W w' : World} {B : Nat} {y : Value} {l : List Sp} (h : Rw W B y l) (hB : Below W.heap.size W w') : Rw w' B y l := by
  obtain ⟨ad', b', cap', h1, h2, h3, h4, h5, h6⟩ := h
  exact ⟨ad', b', cap', h1, h2, h3.below hB, h4, Nat.lt_of_lt_of_le h5 hB.size, h6⟩
/-- What lies in memory while a map is copied. -/
structure DR (w W : World) (v : Value) (vs : List Value) (i : Nat) (Ls : List (List Sp)) : Prop where
  o : W.ownsRow (w.heap.size + 2) 43 1 v i vs
  n : vs.length = i
  r : ∀ j, j < i → ∃ y, vs[j]? = some y ∧ Rw W (w.heap.size + 2) y (lx Ls j) ∧ ∀ g, v.ownBlock = some g → ∀ ad b cap, y = .slice ad (lx Ls j).length cap → 1 ≤ (lx Ls j).length → ad = some ⟨b, 0, none⟩ → b ≠ g
  q : At W w.heap.size [.slice none 0 0]
  t : At W (w.heap.size + 1) [v]
  gr : Gr w W
  sz : w.heap.size + 2 ≤ W.heap.size
theorem DR.below {w W w' : World} {v : Value} {vs : List Value} {i : Nat} {Ls : List (List Sp)} (h : DR w W v vs i Ls) (hB : Below W.heap.size W w') : DR w w' v vs i Ls :=
  ⟨own_kp h.o hB, h.n, fun j hj => by
    obtain ⟨y, h1, h2, h3⟩ := h.r j hj
    exact ⟨y, h1, h2.below hB, h3⟩, At.below hB h.q, At.below hB h.t, Gr.step h.gr hB, Nat.le_trans h.sz hB.size⟩
theorem DR.alloc {w W : World} {v : Value} {vs : List Value} {i : Nat} {Ls : List (List Sp)} (h : DR w W v vs i Ls) (ob : Obj) : DR w (W.alloc ob) v vs i Ls := h.below ((Below.refl _ _).alloc (Nat.le_refl _) ob)
theorem SSl.setN {W : World} {ad : Option Addr} {b o cap : Nat} {l : List Sp} (h : SSl W ad b o cap l) {c : Nat} (hc : b ≠ c ∨ l.length = 0) (oo : Nat) (x : Value) : SSl (W.setCell ⟨c, oo, none⟩ x) ad b o cap l := by
  refine ⟨fun i hi => ?_, h.ix⟩
  obtain ⟨⟨h1, h2⟩, h3⟩ := h.row i hi
  have hne : b ≠ c := hc.resolve_right (by omega)
  have hb := Below.heap_setCell W ⟨c, oo, none⟩ x b hne
  exact ⟨⟨(World.cell?_of_block (w := W) (a := ⟨b, o + i * 2, none⟩) hb).trans h1, (World.cell?_of_block (w := W) (a := ⟨b, o + i * 2 + 1, none⟩) hb).trans h2⟩, by simpa using h3⟩
theorem Rw.setN {W : World} {B : Nat} {y : Value} {l : List Sp} (h : Rw W B y l) {c : Nat} (hc : c < B) (oo : Nat) (x : Value) : Rw (W.setCell ⟨c, oo, none⟩ x) B y l := by
  obtain ⟨ad', b', cap', h1, h2, h3, h4, h5, h6⟩ := h
  exact ⟨ad', b', cap', h1, h2, h3.setN (by rcases h4 with e | e; exact .inr e; exact .inl (by omega)) oo x, h4, by simpa using h5, h6⟩
theorem Rw.grw {W w2 : World} {B : Nat} {y : Value} {l : List Sp} {row : Option Nat} (h : Rw W B y l) (hg : W.grownBy w2 row) (hne : ∀ g, row = some g → ∀ ad b cap, y = .slice ad l.length cap → 1 ≤ l.length → ad = some ⟨b, 0, none⟩ → b ≠ g) (h0 : row ≠ some 0) : Rw w2 B y l := by
  obtain ⟨ad', b', cap', h1, h2, h3, h4, h5, h6⟩ := h
  refine ⟨ad', b', cap', h1, h2, h3.grw hg (fun e => ?_), h4, Nat.lt_of_lt_of_le h5 hg.size, h6⟩
  by_cases c : 1 ≤ l.length
  · exact hne b' e ad' b' cap' h1 c (h2 c).1 rfl
  · exact h0 (by rw [e, h6 (by omega)])
theorem DR.next {w W w' : World} {ob : Obj} {v y : Value} {vs : List Value} {i g cap : Nat} {Ls : List (List Sp)} (h : DR w W v vs i Ls) (hy : Rw W (w.heap.size + 2) y (lx Ls i)) (hf : ∀ k, v.ownBlock = some k → ∀ ad b cap, y = .slice ad (lx Ls i).length cap → 1 ≤ (lx Ls i).length → ad = some ⟨b, 0, none⟩ → b ≠ k)
    (hown : w'.ownsRow (w.heap.size + 2) 43 1 (.slice (some ⟨g, 0, none⟩) (i + 1) cap) (i + 1) (vs ++ [y])) (hg : (W.alloc ob).grownBy w' v.ownBlock) (hat : v.ownBlock = some g ∨ g = (W.alloc ob).heap.size) :
    DR w (w'.setCell ⟨w.heap.size + 1, 0, none⟩ (.slice (some ⟨g, 0, none⟩) (i + 1) cap)) (.slice (some ⟨g, 0, none⟩) (i + 1) cap) (vs ++ [y]) (i + 1) Ls := by
  have hA := h.alloc ob
  have hyA : Rw (W.alloc ob) (w.heap.size + 2) y (lx Ls i) := hy.below ((Below.refl _ _).alloc (Nat.le_refl _) ob)
  have hs := hA.sz
  have hlt := hA.o.lt
  have hv : ∀ k, k < w.heap.size + 2 → v.ownBlock ≠ some k := fun k hk e => by have := (hlt k e).1; omega
  have hgl : w.heap.size + 2 ≤ g := by
    rcases hat with e | e
    · exact (hlt g e).1
    · omega
  have hrow : ∀ j y', (Rw (W.alloc ob) (w.heap.size + 2) y' (lx Ls j)) → (∀ k, v.ownBlock = some k → ∀ ad b cap, y' = .slice ad (lx Ls j).length cap → 1 ≤ (lx Ls j).length → ad = some ⟨b, 0, none⟩ → b ≠ k) →
      Rw (w'.setCell ⟨w.heap.size + 1, 0, none⟩ (.slice (some ⟨g, 0, none⟩) (i + 1) cap)) (w.heap.size + 2) y' (lx Ls j) ∧ ∀ k, (Value.slice (some ⟨g, 0, none⟩) (i + 1) cap).ownBlock = some k → ∀ ad b cap, y' = .slice ad (lx Ls j).length cap → 1 ≤ (lx Ls j).length → ad = some ⟨b, 0, none⟩ → b ≠ k := by
    intro j y' h1 h2
    refine ⟨(h1.grw hg h2 (hv 0 (by omega))).setN (by omega) _ _, fun k hk ad b cp e1 e2 e3 => ?_⟩
    have hk' : g = k := Option.some.inj hk
    subst hk'
    rcases hat with e | e
    · exact h2 g e ad b cp e1 e2 e3
    · obtain ⟨ad', b', cap', f1, f2, f3, f4, f5, f6⟩ := h1
      have ee := (f2 e2).1
      rw [f1] at e1
      simp only [Value.slice.injEq] at e1
      rw [e1.1, e3] at ee
      simp only [Option.some.injEq, Addr.mk.injEq, and_true] at ee
      omega
  have hBk : Below (w.heap.size + 2) (W.alloc ob) w' := (Below.refl _ _).grown hg hs (fun k hk => (hlt k hk).1)
  refine ⟨?_, by rw [List.length_append, h.n]; rfl, fun j hj => ?_, ?_, ?_, ?_, ?_⟩
  · exact own_st hown (by omega) _ _
  · by_cases e : j < i
    · obtain ⟨y', h1, h2, h3⟩ := hA.r j e
      exact ⟨y', by rw [List.getElem?_append_left (by rw [h.n]; exact e)]; exact h1, hrow j y' h2 h3⟩
    · obtain rfl : j = i := by omega
      exact ⟨y, by rw [List.getElem?_append_right (by rw [h.n]; exact Nat.le_refl _), h.n]; simp, hrow j y hyA hf⟩
  · exact At.skip (At.grw hA.q hg (hv _ (by omega))) (by omega) _ _
  · exact At.fill1 (At.has (At.grw hA.t hg (hv _ (by omega))) rfl) _
  · exact Gr.set (Below.grown hA.gr.out hg hA.gr.out.size (fun k hk => by have := (hlt k hk).1; omega)) (by omega) _ _
  · have := hg.size; simp; omega

theorem DR.nf {w W w' : World} {v : Value} {vs : List Value} {i : Nat} {Ls : List (List Sp)} {ob : Obj} (h : DR w W v vs i Ls) (hg : (W.alloc ob).grownBy w' v.ownBlock) : At w' (w.heap.size + 1) [v] :=
  At.grw (h.alloc ob).t hg (fun e => by have := (h.o.lt _ e).1; omega)
theorem own_form {W : World} {base e n : Nat} {v : Value} {xs : List Value} (h : W.ownsRow base e 1 v n xs) : ∃ ad cap, v = .slice ad n cap := by
  obtain ⟨_, ⟨h1, h0⟩ | ⟨g, cap, cur, hv, _⟩⟩ := h
  · exact ⟨none, 0, by rw [h1, h0]⟩
  · exact ⟨_, cap, hv⟩
theorem DR.fin {w W : World} {adv : Option Addr} {N cv : Nat} {vs : List Value} {Ls : List (List Sp)} (h : DR w W (.slice adv N cv) vs N Ls) (hN : N = Ls.length) (x : Value) : (∃ b', LLd (W.setCell ⟨w.heap.size, 0, none⟩ x) adv b' 0 cv Ls) ∧ Gr w (W.setCell ⟨w.heap.size, 0, none⟩ x) := by
  subst hN
  refine ⟨?_, Gr.set h.gr (Nat.le_refl _) _ _⟩
  by_cases h0 : Ls.length = 0
  · exact ⟨0, fun i hi => by omega, fun k hk => by omega⟩
  · obtain ⟨g, cap, hv, hc, hb, hg⟩ := own_cells (own_st h.o (c := w.heap.size) (by omega) 0 x) (by omega)
    simp only [Value.slice.injEq] at hv
    obtain ⟨rfl, -, rfl⟩ := hv
    refine ⟨g, fun i hi => ?_, fun k hk w => lindex g 0 _ _ k hk w⟩
    obtain ⟨y, h1, h2, -⟩ := h.r i hi
    obtain ⟨ad', b', cap', rfl, f2, f3, f4, f5, f6⟩ := h2.setN (c := w.heap.size) (by omega) 0 x
    refine ⟨⟨ad', b', 0, cap', ?_, f2, f3⟩, hg⟩
    have := hc i _ h1
    have ea : (⟨g, 0, none⟩ : Addr).add i = ⟨g, 0 + i, none⟩ := by
      unfold Addr.add
      by_cases c : i = 0
      · subst c; rfl
      · simp [c]
    rw [← ea]
    exact this
theorem DR.rw0 {w W : World} {v : Value} {vs : List Value} {i : Nat} {Ls : List (List Sp)} (h : DR w W v vs i Ls) (h0 : (lx Ls i).length = 0) : Rw W (w.heap.size + 2) (.slice none 0 0) (lx Ls i) :=
  ⟨none, 0, 0, by rw [h0], fun c => by omega, by rw [List.eq_nil_of_length_eq_zero h0]; exact SSl.nil _ _ _ _ _, .inl h0, by have := h.sz; omega, fun _ => rfl⟩
set_option maxRecDepth 4000 in
set_option maxHeartbeats 16000000 in
theorem drawn_any {pb po : Nat} {ad : Option Addr} {b o cap : Nat} {Ls : List (List Sp)} (hN : Ls.length ≤ 3000000) (hl : ∀ i, i < Ls.length → (lx Ls i).length ≤ 20000) (w : World) (hp : w.cell? ⟨pb, po, none⟩ = some (.slice ad Ls.length cap) ∧ pb < w.heap.size) (h : LLd w ad b o cap Ls) : Calls Tryd.prog 11 #[.pointer (some ⟨pb, po, none⟩)] w fun e w' => ∃ ad' b' cap', e = .returned (.agg #[.slice ad' Ls.length cap']) ∧ LLd w' ad' b' 0 cap' Ls ∧ Gr w w' := by
  have HP : Hid (∀ W, Gr w W → W.cell? ⟨pb, po, none⟩ = some (.slice ad Ls.length cap)) := fun W hG => (hG.out.cell (p := ⟨pb, po, none⟩) hp.2).trans hp.1
  have E0 : Hid (DR w ((w.alloc (.cells #[.slice none 0 0] 32)).alloc (.cells #[.slice none 0 0] 32)) (.slice none 0 0) [] 0 Ls) :=
    ⟨World.ownsRow_nil _ _ _ _, rfl, fun j hj => by omega, (At.new1 _ _ _).alloc _, At.nx1 _ _ _, ((Gr.refl w).alloc _).alloc _, by simp⟩
  have HR := hidb h
  have HX := hidb h.ix
  have HL := hidb hl
  obtain ⟨N, hNn⟩ : ∃ N, N = Ls.length := ⟨_, rfl⟩
  have HN := hidb hNn
  rw [← hNn] at HX HP hN ⊢
  have HNb := hidb hN
  clear h hl hN hNn hp
  go_enter Tryd.func11, Tryd.ntmps11
  go_wp2
  go_loopw [4] (fun t wr => ∃ i : Nat, i ≤ N ∧ t = .int .i64 (i : Int) ∧ Hid (∃ v vs, DR w wr v vs i Ls)) (fun t _ => N - (intOf t).toNat)
  case atStart => exact ⟨0, Nat.zero_le _, rfl, hidb ⟨_, _, E0.out⟩⟩
  case round =>
    clear E0
    obtain ⟨i, hi, rfl, E⟩ := hrel
    obtain ⟨v, vs, E⟩ := E.out
    have E := hidb E
    obtain ⟨adv, cv, rfl⟩ := own_form E.out.o
    have cP := HP.out _ E.out.gr
    by_cases h1 : ¬ i < N
    · have h1' : ¬ (i : Int) < (N : Int) := by omega
      obtain rfl : i = N := by omega
      have HZ := hidb (E.out.fin HN.out)
      have z0 := E.out.t.c1
      have z1 := E.out.q.c1
      have z2 := E.out.q.f1
      clear h1 E
      go_wp2
      refine bodyPost_ret (v := .agg #[.slice adv i cv]) (by simp [results, Tryd.results11, go_sem, z1]) rfl ?_
      obtain ⟨⟨b', h2⟩, h3⟩ := HZ.out (.slice adv i cv)
      exact ⟨adv, b', cv, rfl, h2, h3⟩
    · have h1' : (i : Int) < (N : Int) := by omega
      have hiN : i < N := by omega
      have hiL : i < Ls.length := by rw [← HN.out]; exact hiN
      have H1 := hidb hiN
      have e1 : IntKind.i64.wrap ((i : Int) + 1) = ((i + 1 : Nat) : Int) := by rw [show (i : Int) + 1 = ((i + 1 : Nat) : Int) by omega]; exact wr_in (by omega) (by have := HNb.out; omega)
      obtain ⟨⟨ad', b1, o1, cap', c0w, hA, hS⟩, cb⟩ := HR.out.row i hiL
      have c0 := (E.out.gr.out.cell (p := ⟨b, o + i, none⟩) cb).trans c0w
      have ix := HX.out i hiN
      have HLi := hidb (HL.out i hiL)
      have HS := hidb (hS.below E.out.gr.out)
      have HA := hidb hA
      have z0 := E.out.t.c1
      obtain ⟨li, hli⟩ : ∃ z, z = (lx Ls i).length := ⟨_, rfl⟩
      have Hli := hidb hli
      rw [← hli] at c0
      clear h1 hiN hiL c0w cb hS hA hli
      by_cases hz : li = 0
      · subst hz
        have HY := hidb (E.out.rw0 Hli.out.symm)
        have HE := hidb E.out
        have HF : Hid (∀ k, (Value.slice adv i cv).ownBlock = some k → ∀ ad b cap, (Value.slice none 0 0) = .slice ad (lx Ls i).length cap → 1 ≤ (lx Ls i).length → ad = some ⟨b, 0, none⟩ → b ≠ k) := fun k hk ad b cap e1 e2 e3 => by have := Hli.out; omega
        clear E
        go_wp2_with (at_builtin; first | refine wpList_a0 _ cap' ad' _ _ rfl rfl rfl rfl ?_ | (refine wpList_as _ (w.heap.size + 2) _ vs _ i wr.heap.size _ _ rfl rfl rfl rfl HE.out.n (Nat.le_of_lt (Nat.lt_of_lt_of_le H1.out HNb.out)) rfl (HE.out.o.alloc _) (At.new1 _ _ _) (by have := HE.out.sz; simp; omega) _ rfl ?_; intro g cp2 w6 hO hG hL; have HN6 := hidb (HE.out.nf hG.out); have HZ := hidb (HE.out.next HY.out HF.out hO.out hG.out hL.out); have y0 := HN6.out.c1; have y1 := HN6.out.f1; clear hO hG hL HE HF HY HN6 z0 cP c0 ix))
        go_roundw
        case rel => exact ⟨i + 1, H1.out, by go_num, hidb ⟨_, _, HZ.out⟩⟩
        case measure => have := H1.out; simp [intOf]; omega
      · have hz1 : 1 ≤ li := by omega
        obtain ⟨had, hcp⟩ := HA.out (by rw [← Hli.out]; exact hz1)
        subst had
        clear z0
        go_wp2_with (at_builtin; first
          | (refine wpList_an _ (lx Ls i) li b1 o1 cap' _ _ rfl rfl rfl rfl Hli.out.symm hz1 (by have := HLi.out; have := Hli.out; omega) HS.out ?_; intro cp w4 hY0 hB4
             have HE := hidb (E.out.below hB4.out)
             have z0 := HE.out.t.c1
             have HY : Hid (Rw w4 (w.heap.size + 2) (.slice (some ⟨wr.heap.size, 0, none⟩) li cp) (lx Ls i)) := ⟨_, wr.heap.size, cp, by rw [Hli.out], fun _ => ⟨rfl, by rw [← Hli.out]; exact hY0.out.2⟩, hY0.out.1, .inr E.out.sz, hY0.out.1.lt (by rw [← Hli.out]; exact hz1), fun c => by have := Hli.out; omega⟩
             have HF : Hid (∀ k, (Value.slice adv i cv).ownBlock = some k → ∀ ad b cap, (Value.slice (some ⟨wr.heap.size, 0, none⟩) li cp) = .slice ad (lx Ls i).length cap → 1 ≤ (lx Ls i).length → ad = some ⟨b, 0, none⟩ → b ≠ k) := fun k hk ad b cap e1 e2 e3 => by
               have h1 := (E.out.o.lt k hk).2
               simp only [Value.slice.injEq] at e1
               rw [e3] at e1
               have := e1.1
               simp only [Option.some.injEq, Addr.mk.injEq, and_true] at this
               omega
             clear E hY0 hB4 hz1 hcp)
          | (refine wpList_as _ (w.heap.size + 2) _ vs _ i w4.heap.size _ _ rfl rfl rfl rfl HE.out.n (Nat.le_of_lt (Nat.lt_of_lt_of_le H1.out HNb.out)) rfl (HE.out.o.alloc _) (At.new1 _ _ _) (by have := HE.out.sz; simp; omega) _ rfl ?_; intro g cp2 w6 hO hG hL; have HN6 := hidb (HE.out.nf hG.out); have HZ := hidb (HE.out.next HY.out HF.out hO.out hG.out hL.out); have y0 := HN6.out.c1; have y1 := HN6.out.f1; clear hO hG hL HE HF HY HN6 z0 cP c0 ix))
        go_roundw
        case rel => exact ⟨i + 1, H1.out, by go_num, hidb ⟨_, _, HZ.out⟩⟩
        case measure => have := H1.out; simp [intOf]; omega
end Go.Proofs.YtnadgoomkaldkaaDoor
