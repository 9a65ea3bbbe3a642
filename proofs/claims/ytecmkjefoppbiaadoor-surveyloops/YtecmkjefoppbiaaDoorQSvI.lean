/-
  Surveys: the search in memory (by what each mark is reached; the marks in order), and one edge of it.
-/
import Derived.Test.YtecmkjefoppbiaaDoorQJ17
import Derived.Test.YtecmkjefoppbiaaDoorQJ14
import Derived.Test.YtecmkjefoppbiaaDoorQJ15
import Derived.Deep.AppendLies
namespace Go.Proofs.YtecmkjefoppbiaaDoor
open Go.RowKit

abbrev on (l : List Nat) : List Int := l.map Int.ofNat
theorem infoN : (Tryd.prog.info? 3).map (fun i => (i.zero, i.size, i.bytes)) = some (some (.int .i64 0), 1, 8) := by kernel_rfl
theorem wpList_in {ops : Array Oper} {rest : List Oper} {o : Oper} {a : Act} {Q : Exit → Act → World → Prop} (W : World) (b0 : Nat) (v : Value) (l : List Int) (r : Int) (n B : Nat) (s x : Operand) (hgd : o.guard = none)
    (ho : o.op = .call { callee := .builtin .append, args := #[s, x], argTypes := #[28, 28] }) (hs : a.eval s = v) (hx : a.eval x = .slice (some ⟨B, 0, none⟩) 1 1) (hl : n ≤ 20000)
    (hO : W.ownsRow b0 3 1 v n (ir l)) (hN : At W B [.int .i64 r]) (hb : b0 ≤ W.heap.size) (H : Nat) (hH : W.heap.size = H)
    (h : ∀ g cap w', Hid (w'.ownsRow b0 3 1 (.slice (some ⟨g, 0, none⟩) (n + 1) cap) (n + 1) (ir (l ++ [r]))) → Hid (W.grownBy w' v.ownBlock) → wpList Tryd.prog ops Q rest (a.put o.dst (.slice (some ⟨g, 0, none⟩) (n + 1) cap)) w') : wpList Tryd.prog ops Q (o :: rest) a W := by
  have hml : 30000 ≤ maxLen := by decide
  obtain ⟨i0, hi, hz0, hz1, hz2⟩ := info_parts infoN
  refine wpList_plain hgd fun _ hK => wp_append_lies W s x _ ho b0 _ i0 (.int .i64 0) 1 8 undI hi hz0 hz1 hz2 rfl (by decide) v n (ir l) hs hO ⟨B, 0, none⟩ 1 1 [.int .i64 r] hx rfl ?_ ?_ (by decide) (by omega) (by omega) hb H hH ?_
  · intro j u hu
    match j with
    | 0 => simp at hu; subst hu; exact (hN.1 0 (by simp)).1
    | j + 1 => simp at hu
  · intro u hu; simp at hu; subst hu; rfl
  · intro g cap w' h1 h2 h3 _
    rw [ir_snoc] at h1
    exact hK _ _ (h g cap w' h1 h2)
theorem own_kept {w w' : World} {base e size n : Nat} {v : Value} {xs : List Value} (h : w.ownsRow base e size v n xs) (hB : Below w.heap.size w w') : w'.ownsRow base e size v n xs := by
  have hlt := h.lt
  obtain ⟨h1, h2⟩ := h
  refine ⟨h1, ?_⟩
  rcases h2 with h2 | ⟨g, cap, cur, rfl, h3, h4, h5⟩
  · exact .inl h2
  · exact .inr ⟨g, cap, cur, rfl, h3, (hB.block g (hlt g rfl).2).trans h4, h5⟩
theorem own_over {w : World} {base e size n : Nat} {v : Value} {xs : List Value} (h : w.ownsRow base e size v n xs) {c : Nat} (hc : c < base) (o : Nat) (u : Value) : (w.setCell ⟨c, o, none⟩ u).ownsRow base e size v n xs := by
  have k := Below.setCell (Below.refl 0 w) (p := ⟨c, o, none⟩) (Nat.zero_le _) u
  refine h.kept (row := some c) ⟨k.os, k.tape, k.output, by simp, fun i hi hn => ?_⟩ (.inr ?_)
  · exact Below.heap_setCell w ⟨c, o, none⟩ u i (fun e => hn (by rw [e]))
  · intro e
    have := (h.lt c e).1
    omega
theorem own_lone {w : World} {B : Nat} (hB : B = w.heap.size) (t : Nat) (x : Value) : (w.alloc (.cells #[x] t)).ownsRow B t 1 (.slice (some ⟨B, 0, none⟩) 1 1) 1 [x] := by
  subst hB
  exact ⟨rfl, .inr ⟨w.heap.size, 1, #[x], rfl, Nat.le_refl _, by show (w.heap.push _)[w.heap.size]? = _; simp, Nat.le_refl _, by decide, rfl, rfl⟩⟩
theorem At.belN {n : Nat} {W w' : World} {B : Nat} {l : List Value} (hB : Below n W w') (hn : B < n) (hs : W.heap.size ≤ w'.heap.size) (h : At W B l) : At w' B l :=
  ⟨fun i hi => ⟨(hB.cell (p := ⟨B, i, none⟩) hn).trans (h.1 i hi).1, (hB.frozen (p := ⟨B, i, none⟩) hn).trans (h.1 i hi).2⟩, Nat.lt_of_lt_of_le h.2 hs⟩
theorem ir_put (L : List Int) (i : Nat) (x : Int) : (ir L).set i (.int .i64 x) = ir (L.set i x) := by simp [ir]
/-- A row that a call owns, an int a cell. -/
theorem own_get {W : World} {base g cap n : Nat} {L : List Int} (h : W.ownsRow base 3 1 (.slice (some ⟨g, 0, none⟩) n cap) n (ir L)) {j : Nat} (hj : j < n) : W.cell? ⟨g, j, none⟩ = some (.int .i64 (L.getD j 0)) := by
  obtain ⟨h1, h2⟩ := h
  have hn : L.length = n := by simpa [ir] using h1
  rcases h2 with ⟨h0, -⟩ | ⟨g', cap', cur, hv, hb, hg, hc, hm, hs, ht⟩
  · cases h0
  · simp only [Value.slice.injEq, Option.some.injEq, Addr.mk.injEq] at hv
    obtain ⟨⟨rfl, -⟩, -, rfl⟩ := hv
    have e : cur.toList[j]? = some (.int .i64 (L.getD j 0)) := by
      have : (cur.toList.take (n * 1))[j]? = (ir L)[j]? := by rw [ht]
      rw [List.getElem?_take, if_pos (by omega)] at this
      rw [this]
      simp [ir, hn, hj]
    simp [World.cell?, hg]
    simpa using e
/-- The search in memory: block WB, and a row of marks. -/
structure TM (w W : World) (WB base g cap : Nat) (s : BS) : Prop where
  y : At W WB (ir s.wy)
  r : W.ownsRow base 3 1 (.slice (some ⟨g, 0, none⟩) s.ord.length cap) s.ord.length (ir (on s.ord))
  gr : Gr w W
  b : w.heap.size ≤ WB ∧ WB < base ∧ base ≤ W.heap.size
section
variable {w W w' : World} {WB base g cap : Nat} {s : BS}
theorem TM.below (h : TM w W WB base g cap s) (hB : Below W.heap.size W w') : TM w w' WB base g cap s :=
  ⟨At.below hB h.y, own_kept h.r hB, Gr.step h.gr hB, h.b.1, h.b.2.1, Nat.le_trans h.b.2.2 hB.size⟩
theorem TM.drew (h : TM w W WB base g cap s) : TM w W.drew WB base g cap s := ⟨h.y, h.r, h.gr.drew, h.b⟩
theorem TM.put (h : TM w W WB base g cap s) (x : Nat) (n : Int) : TM w (W.setCell ⟨WB, x, none⟩ (.int .i64 n)) WB base g cap ⟨s.wy.set x n, s.ord⟩ :=
  ⟨by have := h.y.put x (.int .i64 n); rwa [ir_put] at this, own_over h.r h.b.2.1 _ _, h.gr.set h.b.1 _ _, by simpa using h.b⟩
theorem TM.app {ob : Obj} {g2 cap2 x : Nat} (h : TM w W WB base g cap s) (hO : w'.ownsRow base 3 1 (.slice (some ⟨g2, 0, none⟩) (s.ord.length + 1) cap2) (s.ord.length + 1) (ir (on s.ord ++ [(x : Int)]))) (hg : (W.alloc ob).grownBy w' (Value.ownBlock (.slice (some ⟨g, 0, none⟩) s.ord.length cap))) : TM w w' WB base g2 cap2 ⟨s.wy, s.ord ++ [x]⟩ := by
  have hgb : base ≤ g := (h.r.lt g rfl).1
  have hs := hg.size
  have hB : Below base (W.alloc ob) w' := (Below.refl base _).grown hg (by have := h.b.2.2; simp; omega) (fun k e => by cases e; exact hgb)
  have hs1 : W.heap.size ≤ (W.alloc ob).heap.size := by simp
  refine ⟨At.belN hB h.b.2.1 hs (h.y.alloc ob), ?_, ?_, h.b.1, h.b.2.1, by have := h.b.2.2; omega⟩
  · have e : on (s.ord ++ [x]) = on s.ord ++ [(x : Int)] := by simp [on]
    rw [e, List.length_append]
    exact hO
  · exact Below.grown (h.gr.alloc ob).out hg (by have := h.gr.out.size; omega) (fun k e => by cases e; show w.heap.size ≤ g; have := h.b; omega)
theorem TM.o (h : TM w W WB base g cap s) {j : Nat} (hj : j < s.ord.length) : W.cell? ⟨g, j, none⟩ = some (.int .i64 (oX s j : Int)) := by
  rw [own_get h.r hj]
  simp [oX, on, hj]
theorem TM.a (h : TM w W WB base g cap s) {x : Nat} (hx : x < s.wy.length) : W.cell? ⟨WB, x, none⟩ = some (.int .i64 (wX s x)) ∧ W.frozen? ⟨WB, x, none⟩ = false := by
  have := h.y.1 x (by simpa [ir] using hx)
  simpa [ir, wX, hx] using this
end
/-- The edges of what was seen; all of it is right. -/
def edL (l : List Sn) : List Ed := l.map fun x => (x.f.toNat, x.t.toNat)
def FT (M : Nat) (l : List Sn) : Prop := ∀ k, k < l.length → fitP M (snX l k)
theorem ed_len (l : List Sn) : (edL l).length = l.length := by simp [edL]
theorem eX_ed {l : List Sn} {k : Nat} (hk : k < l.length) : eX (edL l) k = ((snX l k).f.toNat, (snX l k).t.toNat) := by
  simp [eX, edL, snX, hk]
theorem FT.ok {M : Nat} {l : List Sn} (h : FT M l) : okE (edL l) M := fun k hk => by
  rw [ed_len] at hk
  obtain ⟨⟨a1, a2⟩, ⟨b1, b2⟩, c, -⟩ := h k hk
  rw [eX_ed hk]
  dsimp only
  omega
/-- One edge, as the program looks at it. -/
theorem st_out {M : Nat} {l : List Sn} (h : FT M l) {k : Nat} (hk : k < l.length) (m : Nat) (s : BS) :
    ((0 ≤ (outE (snX l k) m ((k : Int) + 1)).1 ∧ (outE (snX l k) m ((k : Int) + 1)).1 < M) ∨ (outE (snX l k) m ((k : Int) + 1)).1 = 0) ∧
    (¬ (outE (snX l k) m ((k : Int) + 1)).1 = 0 → wX s (outE (snX l k) m ((k : Int) + 1)).1.toNat = 0 → stE (edL l) m s k = adE s (outE (snX l k) m ((k : Int) + 1)).1.toNat (outE (snX l k) m ((k : Int) + 1)).2) ∧
    ((outE (snX l k) m ((k : Int) + 1)).1 = 0 ∨ ¬ wX s (outE (snX l k) m ((k : Int) + 1)).1.toNat = 0 → stE (edL l) m s k = s) := by
  obtain ⟨⟨a1, a2⟩, ⟨b1, b2⟩, c, -⟩ := h k hk
  unfold stE outE
  rw [eX_ed hk]
  dsimp only
  generalize (snX l k).f = f at *
  generalize (snX l k).t = t at *
  by_cases e : (m : Int) = f
  · rw [if_pos e]
    dsimp only
    refine ⟨.inl ⟨b1, b2⟩, fun h1 h2 => ?_, fun h1 => ?_⟩
    · rw [if_pos ⟨by omega, by omega, h2⟩]
    · rw [if_neg (fun q => by rcases h1 with h1 | h1; · omega
                              · exact h1 q.2.2), if_neg (fun q => by omega)]
  · rw [if_neg e]
    by_cases e2 : (m : Int) = t
    · rw [if_pos e2]
      dsimp only
      refine ⟨.inl ⟨a1, a2⟩, fun h1 h2 => ?_, fun h1 => ?_⟩
      · rw [if_neg (fun q => by omega), if_pos ⟨by omega, by omega, h2⟩]
      · rw [if_neg (fun q => by omega), if_neg (fun q => by rcases h1 with h1 | h1; · omega
                                                            · exact h1 q.2.2)]
    · rw [if_neg e2]
      exact ⟨.inr rfl, fun h1 => absurd rfl h1, fun _ => by rw [if_neg (fun q => by omega), if_neg (fun q => by omega)]⟩
end Go.Proofs.YtecmkjefoppbiaaDoor
