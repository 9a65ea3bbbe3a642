/-
  Rows of numbers, and rows of these, in memory.; What lies in memory while the equations' rows are told.
-/
import Derived.Test.YtecmkjefoppbiaaDoorQSwB
namespace Go.Proofs.YtecmkjefoppbiaaDoor
open Go.RowKit

theorem infoNu : (Tryd.prog.info? 65).map (fun i => (i.zero, i.size, i.bytes)) = some (some (.agg #[.bool false, .slice none 0 0]), 2, 32) := by kernel_rfl
theorem undNu : Tryd.prog.underlying 61 = some (.slice 65) := by kernel_rfl
theorem infoNs : (Tryd.prog.info? 61).map (fun i => (i.zero, i.size, i.bytes)) = some (some (.slice none 0 0), 1, 24) := by kernel_rfl
theorem undNs : Tryd.prog.underlying 82 = some (.slice 61) := by kernel_rfl
theorem nuindex (b o n cap k : Nat) (hk : k < n) (w : World) : (Instr.indexAt 61 (.slice (some ⟨b, o, none⟩) n cap) (.int .i64 k)).run Tryd.prog w = .ok (.pointer (some ⟨b, o + k * 2, none⟩)) w := by
  have hu : Tryd.prog.underlying 61 = some (.slice (Tryd.prog.elem 61)) := by kernel_rfl
  refine (run_indexAt_slice (P := Tryd.prog) (w := w) 61 ⟨b, o, none⟩ n cap .i64 (k : Int) hu).trans ?_
  rw [if_pos ⟨by omega, by omega⟩]
  have hs : (sizeOf (Tryd.prog.elem 61)).run Tryd.prog w = .ok 2 w := by kernel_rfl
  rw [hs]
  simp [Addr.add]
  try (intro h; omega)
theorem nsindex (b o n cap k : Nat) (hk : k < n) (w : World) : (Instr.indexAt 82 (.slice (some ⟨b, o, none⟩) n cap) (.int .i64 k)).run Tryd.prog w = .ok (.pointer (some ⟨b, o + k, none⟩)) w := by
  have hu : Tryd.prog.underlying 82 = some (.slice (Tryd.prog.elem 82)) := by kernel_rfl
  refine (run_indexAt_slice (P := Tryd.prog) (w := w) 82 ⟨b, o, none⟩ n cap .i64 (k : Int) hu).trans ?_
  rw [if_pos ⟨by omega, by omega⟩]
  have hs : (sizeOf (Tryd.prog.elem 82)).run Tryd.prog w = .ok 1 w := by kernel_rfl
  rw [hs]
  simp [Addr.add]
  try (intro h; omega)
/-- Cells that hold no word. -/
def NoW (W : World) (row : Option Nat) : Prop := ∀ g, row = some g → ∃ x, W.cell? ⟨g, 0, none⟩ = some x ∧ ∀ z : Int, ¬ x = .int .u64 z
theorem Pt.grn {W w' : World} {v : Value} {l : List Nat} {row : Option Nat} (h : Pt W v l) (hg : W.grownBy w' row) (hn : NoW W row) : Pt w' v l := by
  rcases h with h | ⟨b, cap, h1, h2, h3, h4, h5⟩
  · exact .inl h
  · refine .inr ⟨b, cap, h1, h2, h3, fun i hi => ?_, Nat.lt_of_lt_of_le h5 hg.size⟩
    have hne : some b ≠ row := fun e => by
      obtain ⟨x, hx, hz⟩ := hn b e.symm
      have := h4 0 (by omega)
      rw [hx] at this
      exact hz _ (Option.some.inj this)
    exact (World.cell?_of_block (w := W) (a := ⟨b, i, none⟩) (hg.block b h5 hne)).trans (h4 i hi)
theorem Nm.grn {W w' : World} {m : Bool} {v : Value} {z : Int} {row : Option Nat} (h : Nm W m v z) (hg : W.grownBy w' row) (hn : NoW W row) : Nm w' m v z := ⟨h.1.grn hg hn, h.2⟩
abbrev Nu := Bool × Value
def nuL (P : List Nu) : List Value := P.flatMap fun p => [.bool p.1, p.2]
def nuX (P : List Nu) (j : Nat) : Nu := P.getD j (false, .slice none 0 0)
theorem nuL_snoc (P : List Nu) (m : Bool) (v : Value) : nuL P ++ [.bool m, v] = nuL (P ++ [(m, v)]) := by simp [nuL]
theorem nuL_len (P : List Nu) : (nuL P).length = P.length * 2 := by
  induction P with
  | nil => rfl
  | cons s l ih => simp [nuL] at ih ⊢; omega
theorem nuL_get : ∀ (P : List Nu) (k : Nat) (_ : k < P.length) (j : Nat), j < 2 → (nuL P)[k * 2 + j]? = ([.bool (nuX P k).1, (nuX P k).2] : List Value)[j]?
  | s :: l, 0, _, j, hj => by
    match j, hj with
    | 0, _ => rfl
    | 1, _ => rfl
  | s :: l, k + 1, hk, j, hj => by
    have ih := nuL_get l k (by simp at hk; omega) j hj
    rw [show (k + 1) * 2 + j = (k * 2 + j) + 2 by omega]
    exact ih
theorem nuX_app {P : List Nu} {p : Nu} {j : Nat} (hj : j < P.length) : nuX (P ++ [p]) j = nuX P j := by unfold nuX; simp [List.getElem?_append_left hj]
theorem nuX_new {P : List Nu} {p : Nu} : nuX (P ++ [p]) P.length = p := by unfold nuX; simp
/-- A row of numbers that a call owns. -/
structure NR (W : World) (base : Nat) (v : Value) (P : List Nu) (F : Nat → Int) : Prop where
  r : W.ownsRow base 65 2 v P.length (nuL P)
  z : ∀ j, j < P.length → Nm W (nuX P j).1 (nuX P j).2 (F j)
section
variable {W w' : World} {base : Nat} {v : Value} {P : List Nu} {F : Nat → Int}
theorem NR.below (h : NR W base v P F) (hB : Below W.heap.size W w') : NR w' base v P F := ⟨own_kept h.r hB, fun j hj => (h.z j hj).below hB⟩
theorem NR.cell {g cap n : Nat} (h : NR W base (.slice (some ⟨g, 0, none⟩) n cap) P F) {j : Nat} (hj : j < P.length) : W.cell? ⟨g, j * 2, none⟩ = some (.bool (nuX P j).1) ∧ W.cell? ⟨g, j * 2 + 1, none⟩ = some (nuX P j).2 := by
  have hlt := h.r.lt
  obtain ⟨h1, h2 | ⟨g', cap', cur, hv, hb, hg, hc, hm, hs, ht⟩⟩ := h.r
  · cases h2.1
  · simp only [Value.slice.injEq, Option.some.injEq, Addr.mk.injEq, and_true] at hv
    obtain ⟨rfl, -, rfl⟩ := hv
    have key : ∀ i, i < 2 → W.cell? ⟨g, j * 2 + i, none⟩ = ([.bool (nuX P j).1, (nuX P j).2] : List Value)[i]? := fun i hi => by
      have e1 : (cur.toList.take (P.length * 2))[j * 2 + i]? = (nuL P)[j * 2 + i]? := by rw [ht]
      rw [List.getElem?_take, if_pos (by omega), nuL_get P j hj i hi] at e1
      simp [World.cell?, hg]
      simpa using e1
    exact ⟨key 0 (by decide), key 1 (by decide)⟩
/-- Its own block holds no word. -/
theorem NR.now (h : NR W base v P F) (hn : 0 < P.length ∨ v = .slice none 0 0) : NoW W v.ownBlock := fun g e => by
  rcases hn with hn | rfl
  · obtain ⟨_, ⟨rfl, h0⟩ | ⟨g', cap, cur, hv, _⟩⟩ := h.r
    · cases e
    · rw [hv] at e
      have e' : g' = g := Option.some.inj e
      subst e'
      rw [hv] at h
      have := (h.cell hn).1
      rw [Nat.zero_mul] at this
      exact ⟨_, this, fun z ez => by cases ez⟩
  · cases e
theorem NoW.alloc {row : Option Nat} (h : NoW W row) (hlt : ∀ g, row = some g → g < W.heap.size) (ob : Obj) : NoW (W.alloc ob) row := fun g e => by
  obtain ⟨x, hx, hz⟩ := h g e
  exact ⟨x, by rw [((Below.refl W.heap.size W).alloc (Nat.le_refl _) ob).cell (p := ⟨g, 0, none⟩) (hlt g e)]; exact hx, hz⟩
theorem NR.app {ob : Obj} {g cap n : Nat} {m : Bool} {u : Value} (h : NR W base v P F) (hn : 0 < P.length ∨ v = .slice none 0 0) (hP : n = P.length) (hz : Nm W m u (F P.length)) (hO : w'.ownsRow base 65 2 (.slice (some ⟨g, 0, none⟩) (n + 1) cap) (n + 1) (nuL (P ++ [(m, u)]))) (hg : (W.alloc ob).grownBy w' v.ownBlock) : NR w' base (.slice (some ⟨g, 0, none⟩) (n + 1) cap) (P ++ [(m, u)]) F := by
  have hA : Below W.heap.size W (W.alloc ob) := (Below.refl _ _).alloc (Nat.le_refl _) ob
  have hw := (h.now hn).alloc (fun g e => (h.r.lt g e).2) ob
  subst hP
  refine ⟨by rw [List.length_append]; exact hO, fun j hj => ?_⟩
  rw [List.length_append] at hj
  have hj' : j < P.length + 1 := hj
  by_cases e : j = P.length
  · rw [e, nuX_new]
    exact (hz.below hA).grn hg hw
  · rw [nuX_app (by omega)]
    exact ((h.z j (by omega)).below hA).grn hg hw
/-- What stays where another row grows. -/
theorem NR.aside {row : Option Nat} (h : NR W base v P F) (hg : W.grownBy w' row) (hd : ∀ g, v.ownBlock = some g → row ≠ some g) (hw : NoW W row) : NR w' base v P F := ⟨own_keptG h.r hg hd, fun j hj => (h.z j hj).grn hg hw⟩
end
theorem wpList_nu {ops : Array Oper} {rest : List Oper} {o : Oper} {a : Act} {Q : Exit → Act → World → Prop} (W : World) (b0 : Nat) (v : Value) (P : List Nu) (m : Bool) (u : Value) (n B : Nat) (s x : Operand) (hgd : o.guard = none)
    (ho : o.op = .call { callee := .builtin .append, args := #[s, x], argTypes := #[61, 61] }) (hs : a.eval s = v) (hx : a.eval x = .slice (some ⟨B, 0, none⟩) 1 1) (hl : n ≤ 200) (hu : u.oneCell' = true)
    (hO : W.ownsRow b0 65 2 v n (nuL P)) (hN : At W B [.bool m, u]) (hb : b0 ≤ W.heap.size) (H : Nat) (hH : W.heap.size = H)
    (h : ∀ g cap w', Hid (w'.ownsRow b0 65 2 (.slice (some ⟨g, 0, none⟩) (n + 1) cap) (n + 1) (nuL (P ++ [(m, u)]))) → Hid (W.grownBy w' v.ownBlock) → Hid (v.ownBlock = some g ∨ g = H) → wpList Tryd.prog ops Q rest (a.put o.dst (.slice (some ⟨g, 0, none⟩) (n + 1) cap)) w') : wpList Tryd.prog ops Q (o :: rest) a W := by
  have hml : 1000 ≤ maxLen := by decide
  obtain ⟨i0, hi, hz0, hz1, hz2⟩ := info_parts infoNu
  refine wpList_plain hgd fun _ hK => wp_append_lies W s x _ ho b0 _ i0 (.agg #[.bool false, .slice none 0 0]) 2 32 undNu hi hz0 hz1 hz2 rfl (by decide) v n (nuL P) hs hO ⟨B, 0, none⟩ 1 1 [.bool m, u] hx rfl (news_se hN) ?_ (by decide) (by omega) (by omega) hb H hH ?_
  · intro z hz
    simp only [List.mem_cons, List.not_mem_nil, or_false] at hz
    rcases hz with rfl | rfl
    · rfl
    · exact hu
  · intro g cap w' h1 h2 h3 _
    rw [nuL_snoc] at h1
    exact hK _ _ (h g cap w' h1 h2 h3)
theorem wpList_ns {ops : Array Oper} {rest : List Oper} {o : Oper} {a : Act} {Q : Exit → Act → World → Prop} (W : World) (b0 : Nat) (v : Value) (vs : List Value) (y : Value) (n B : Nat) (s x : Operand) (hgd : o.guard = none)
    (ho : o.op = .call { callee := .builtin .append, args := #[s, x], argTypes := #[82, 82] }) (hs : a.eval s = v) (hx : a.eval x = .slice (some ⟨B, 0, none⟩) 1 1) (hl : n ≤ 200) (hy : y.oneCell' = true)
    (hO : W.ownsRow b0 61 1 v n vs) (hN : At W B [y]) (hb : b0 ≤ W.heap.size) (H : Nat) (hH : W.heap.size = H)
    (h : ∀ g cap w', Hid (w'.ownsRow b0 61 1 (.slice (some ⟨g, 0, none⟩) (n + 1) cap) (n + 1) (vs ++ [y])) → Hid (W.grownBy w' v.ownBlock) → Hid (v.ownBlock = some g ∨ g = H) → wpList Tryd.prog ops Q rest (a.put o.dst (.slice (some ⟨g, 0, none⟩) (n + 1) cap)) w') : wpList Tryd.prog ops Q (o :: rest) a W := by
  have hml : 1000 ≤ maxLen := by decide
  obtain ⟨i0, hi, hz0, hz1, hz2⟩ := info_parts infoNs
  refine wpList_plain hgd fun _ hK => wp_append_lies W s x _ ho b0 _ i0 (.slice none 0 0) 1 24 undNs hi hz0 hz1 hz2 rfl (by decide) v n vs hs hO ⟨B, 0, none⟩ 1 1 [y] hx rfl (news_se hN) ?_ (by decide) (by omega) (by omega) hb H hH ?_
  · intro u hu; simp at hu; subst hu; exact hy
  · intro g cap w' h1 h2 h3 _
    exact hK _ _ (h g cap w' h1 h2 h3)
def nP (Ps : List (List Nu)) (i : Nat) : List Nu := Ps.getD i []
/-- Rows of numbers: n in each. -/
structure RN (W : World) (base : Nat) (v : Value) (vs : List Value) (Ps : List (List Nu)) (n : Nat) (F : Nat → Nat → Int) : Prop where
  o : W.ownsRow base 61 1 v vs.length vs
  l : vs.length = Ps.length
  i : ∀ i, i < vs.length → (nP Ps i).length = n ∧ NR W base (vX vs i) (nP Ps i) (F i)
  d : ∀ i g, i < vs.length → (vX vs i).ownBlock = some g → v.ownBlock ≠ some g
section
variable {W w' : World} {base : Nat} {v : Value} {vs : List Value} {Ps : List (List Nu)} {n : Nat} {F : Nat → Nat → Int}
theorem RN.below (h : RN W base v vs Ps n F) (hB : Below W.heap.size W w') : RN w' base v vs Ps n F := ⟨own_kept h.o hB, h.l, fun i hi => ⟨(h.i i hi).1, (h.i i hi).2.below hB⟩, h.d⟩
theorem RN.nil (W : World) (base n : Nat) (F : Nat → Nat → Int) : RN W base (.slice none 0 0) [] [] n F := ⟨World.ownsRow_nil _ _ _ _, rfl, fun i hi => by simp at hi, fun i _ hi => by simp at hi⟩
theorem RN.aside {row : Option Nat} (h : RN W base v vs Ps n F) (hg : W.grownBy w' row) (hd : ∀ g, v.ownBlock = some g → row ≠ some g) (hi : ∀ i g, i < vs.length → (vX vs i).ownBlock = some g → row ≠ some g) (hw : NoW W row) : RN w' base v vs Ps n F :=
  ⟨own_keptG h.o hg hd, h.l, fun i hj => ⟨(h.i i hj).1, (h.i i hj).2.aside hg (hi i · hj) hw⟩, h.d⟩
/-- The block of rows holds no word. -/
theorem RN.now (h : RN W base v vs Ps n F) (hn : 0 < vs.length ∨ v = .slice none 0 0) (hv : ∀ x ∈ vs, ∃ ad l c, x = .slice ad l c) : NoW W v.ownBlock := fun g e => by
  rcases hn with hn | rfl
  · obtain ⟨_, ⟨rfl, h0⟩ | ⟨g', cap, cur, hv', hb, hg, hc, hm, hs, ht⟩⟩ := h.o
    · cases e
    · rw [hv'] at e
      have e' : g' = g := Option.some.inj e
      subst e'
      have e1 : (cur.toList.take (vs.length * 1))[0]? = vs[0]? := by rw [ht]
      rw [List.getElem?_take, if_pos (by omega), List.getElem?_eq_getElem hn] at e1
      obtain ⟨ad, l, c, hx⟩ := hv vs[0] (List.getElem_mem hn)
      refine ⟨vs[0], ?_, fun z ez => by rw [hx] at ez; cases ez⟩
      simp [World.cell?, hg]
      simpa using e1
  · cases e
theorem RN.more {g cap H : Nat} {x : Value} {P : List Nu} (h : RN W base v vs Ps n F) (hx : NR W base x P (F vs.length)) (hP : P.length = n) (hxd : ∀ z, x.ownBlock = some z → v.ownBlock ≠ some z) (hO : w'.ownsRow base 61 1 (.slice (some ⟨g, 0, none⟩) (vs.length + 1) cap) (vs.length + 1) (vs ++ [x])) (hg : W.grownBy w' v.ownBlock) (ha : v.ownBlock = some g ∨ g = H) (hH : W.heap.size ≤ H) (hw : NoW W v.ownBlock) : RN w' base (.slice (some ⟨g, 0, none⟩) (vs.length + 1) cap) (vs ++ [x]) (Ps ++ [P]) n F := by
  have hl : (vs ++ [x]).length = vs.length + 1 := by simp
  have hy : ∀ i, i < vs.length → nP (Ps ++ [P]) i = nP Ps i := fun i hi => by unfold nP; rw [h.l] at hi; simp [List.getElem?_append_left hi]
  have hy2 : nP (Ps ++ [P]) vs.length = P := by unfold nP; rw [h.l]; simp
  refine ⟨by rw [hl]; exact hO, by simp [h.l], fun i hi => ?_, fun i z hi hb => ?_⟩
  · rw [hl] at hi
    by_cases e : i = vs.length
    · rw [e, vX_new, hy2]; exact ⟨hP, hx.aside hg hxd hw⟩
    · rw [vX_app (by omega), hy i (by omega)]; exact ⟨(h.i i (by omega)).1, (h.i i (by omega)).2.aside hg (fun z e2 => h.d i z (by omega) e2) hw⟩
  · rw [hl] at hi
    have key : ∀ {u : Value} {p : List Nu} {f : Nat → Int}, NR W base u p f → (∀ z, u.ownBlock = some z → v.ownBlock ≠ some z) → u.ownBlock = some z → ¬ g = z := fun {u p f} hr hd hu e => by
      rcases ha with ha | ha
      · exact hd z hu (by rw [ha, e])
      · have := (hr.r.lt z hu).2; omega
    by_cases e : i = vs.length
    · rw [e, vX_new] at hb; exact fun e2 => key hx hxd hb (Option.some.inj e2)
    · rw [vX_app (by omega)] at hb; exact fun e2 => key (h.i i (by omega)).2 (fun z e3 => h.d i z (by omega) e3) hb (Option.some.inj e2)
end
end Go.Proofs.YtecmkjefoppbiaaDoor
namespace Go.Proofs.YtecmkjefoppbiaaDoor
open Go.RowKit

theorem EQ.grn {w W w' : World} {XB SB M k base : Nat} {bx : List Value} {f : Nat → Nat → Int} {row : Option Nat} (h : EQ w W XB SB M k bx f) (hg : W.grownBy w' row) (hr : ∀ g, row = some g → base ≤ g) (hk : k ≤ M) (hb : SB + 1 + M ≤ base) : EQ w w' XB SB M k bx f := by
  obtain ⟨b1, b2⟩ := h.b
  have hs := h.gr.out.size
  refine ⟨h.x.grw1 hg (fun e => by have := hr _ e; omega), h.a.grw1 hg (fun e => by have := hr _ e; omega), fun i hi => (h.r i hi).grw1 hg (fun e => by have := hr _ e; omega), Below.grown h.gr.out hg hs (fun g e => by have := hr g e; omega), h.b⟩
structure RW (w W : World) (XB SB M : Nat) (bx : List Value) (f : Nat → Nat → Int) (base : Nat) (v : Value) (vs : List Value) (Ps : List (List Nu)) (F : Nat → Nat → Int) (u : Value) (P : List Nu) (G : Nat → Int) : Prop where
  e : EQ w W XB SB M M bx f
  n : RN W base v vs Ps M F
  r : NR W base u P G
  d : ∀ g, u.ownBlock = some g → v.ownBlock ≠ some g ∧ ∀ i, i < vs.length → (vX vs i).ownBlock ≠ some g
  s : (0 < P.length ∨ u = .slice none 0 0) ∧ (0 < vs.length ∨ v = .slice none 0 0)
  t : ∀ x ∈ vs, ∃ ad l c, x = .slice ad l c
  b : SB + 1 + M ≤ base ∧ base ≤ W.heap.size
section
variable {w W w' : World} {XB SB M base : Nat} {bx : List Value} {f F : Nat → Nat → Int} {v u : Value} {vs : List Value} {Ps : List (List Nu)} {P : List Nu} {G : Nat → Int}
theorem RW.below (h : RW w W XB SB M bx f base v vs Ps F u P G) (hB : Below W.heap.size W w') : RW w w' XB SB M bx f base v vs Ps F u P G :=
  ⟨h.e.below hB, h.n.below hB, h.r.below hB, h.d, h.s, h.t, h.b.1, Nat.le_trans h.b.2 hB.size⟩
theorem RW.num {ob : Obj} {g cap n : Nat} {m : Bool} {x : Value} (h : RW w W XB SB M bx f base v vs Ps F u P G) (hP : n = P.length) (hz : Nm W m x (G n)) (hO : w'.ownsRow base 65 2 (.slice (some ⟨g, 0, none⟩) (n + 1) cap) (n + 1) (nuL (P ++ [(m, x)]))) (hg : (W.alloc ob).grownBy w' u.ownBlock) (ha : u.ownBlock = some g ∨ g = W.heap.size + 1) : RW w w' XB SB M bx f base v vs Ps F (.slice (some ⟨g, 0, none⟩) (n + 1) cap) (P ++ [(m, x)]) G := by
  have hA : Below W.heap.size W (W.alloc ob) := (Below.refl _ _).alloc (Nat.le_refl _) ob
  have hw := (h.r.now h.s.1).alloc (fun g e => (h.r.r.lt g e).2) ob
  have hub : ∀ k, u.ownBlock = some k → base ≤ k := fun k e => (h.r.r.lt k e).1
  have key : ∀ {z e size nn : Nat} {y : Value} {xs : List Value}, W.ownsRow base e size y nn xs → (∀ k, u.ownBlock = some k → y.ownBlock ≠ some k) → g = z → y.ownBlock ≠ some z := fun {z e size nn y xs} hr hd eg e2 => by
    rcases ha with ha | ha
    · exact hd g ha (by rw [eg]; exact e2)
    · have := (hr.lt z e2).2; omega
  refine ⟨(h.e.below hA).grn hg hub (Nat.le_refl _) h.b.1, (h.n.below hA).aside hg (fun k e e2 => (h.d k e2).1 e) (fun i k hi e e2 => (h.d k e2).2 i hi e) hw, h.r.app h.s.1 hP (by rw [← hP]; exact hz) hO hg, fun z e => ?_, ⟨.inl (by simp), h.s.2⟩, h.t, h.b.1, by have h1 := hg.size; have h2 := h.b.2; simp at h1; omega⟩
  have e' : g = z := Option.some.inj e
  exact ⟨key h.n.o (fun k e => (h.d k e).1) e', fun i hi => key (h.n.i i hi).2.r (fun k e => (h.d k e).2 i hi) e'⟩
theorem RW.row {ob : Obj} {g cap q : Nat} {G' : Nat → Int} (h : RW w W XB SB M bx f base v vs Ps F u P G) (hP : P.length = M) (_hM : 0 < M) (hq : q = vs.length) (hF : F vs.length = G) (hO : w'.ownsRow base 61 1 (.slice (some ⟨g, 0, none⟩) (q + 1) cap) (q + 1) (vs ++ [u])) (hg : (W.alloc ob).grownBy w' v.ownBlock) (ha : v.ownBlock = some g ∨ g = W.heap.size + 1) : RW w w' XB SB M bx f base (.slice (some ⟨g, 0, none⟩) (q + 1) cap) (vs ++ [u]) (Ps ++ [P]) F (.slice none 0 0) [] G' := by
  subst hq
  have hA : Below W.heap.size W (W.alloc ob) := (Below.refl _ _).alloc (Nat.le_refl _) ob
  have hw := (h.n.now h.s.2 h.t).alloc (fun g e => (h.n.o.lt g e).2) ob
  have hvb : ∀ k, v.ownBlock = some k → base ≤ k := fun k e => (h.n.o.lt k e).1
  obtain ⟨adu, capu, hu⟩ : ∃ ad c, u = .slice ad P.length c := by
    obtain ⟨_, ⟨rfl, h0⟩ | ⟨g, cap, cur, hv, _⟩⟩ := h.r.r
    · exact ⟨none, 0, by rw [h0]⟩
    · exact ⟨_, _, hv⟩
  refine ⟨(h.e.below hA).grn hg hvb (Nat.le_refl _) h.b.1, (h.n.below hA).more (by rw [hF]; exact h.r.below hA) hP (fun z e => (h.d z e).1) hO hg ha (by simp) hw, ⟨World.ownsRow_nil _ _ _ _, (fun j hj => by simp at hj)⟩, (fun g e => by cases e), ⟨.inr rfl, .inl (by simp)⟩, fun x hx => ?_, h.b.1, by have h1 := hg.size; have h2 := h.b.2; simp at h1; omega⟩
  rcases List.mem_append.1 hx with q | q
  · exact h.t x q
  · obtain rfl : x = u := by simpa using q
    exact ⟨_, _, _, hu⟩
end
/-- Of a slice of rows, but for its first. -/
theorem rrslice (b n cap : Nat) (h1 : 1 ≤ n) (h2 : n ≤ cap) : ∃ c, (∀ w, (Instr.slice 27 (.slice (some ⟨b, 0, none⟩) n cap) (some (.int .i64 1)) none none).run Tryd.prog w = .ok (.slice (some ⟨b, c, none⟩) (n - 1) (cap - 1)) w) ∧ (2 ≤ n → c = 1) ∧ c ≤ 1 := by
  have hu : Tryd.prog.underlying 27 = some (.slice (Tryd.prog.elem 27)) := by kernel_rfl
  have hs : ∀ w, (sizeOf (Tryd.prog.elem 27)).run Tryd.prog w = .ok 1 w := fun w => by kernel_rfl
  by_cases c : cap = 1
  · refine ⟨0, fun w => ?_, by omega, by omega⟩
    rw [run_slice_l w 27 _ _ _ hu .i64 _ (by omega) (by omega), hs]
    simp [Result.andThen, sliced, c]
  · refine ⟨1, fun w => ?_, by omega, by omega⟩
    rw [run_slice_l w 27 _ _ _ hu .i64 _ (by omega) (by omega), hs]
    have hne : ¬ cap - 1 = 0 := by omega
    simp [Result.andThen, sliced, Addr.add, c]
theorem own_sh2n {w : World} {base : Nat} {v : Value} {n e : Nat} {xs : List Value} (h : w.ownsRow base e 2 v n xs) : ∃ ad cap, v = .slice ad n cap := by
  obtain ⟨_, ⟨rfl, rfl⟩ | ⟨g, cap, cur, hv, _⟩⟩ := h
  · exact ⟨none, 0, rfl⟩
  · exact ⟨_, _, hv⟩
theorem islice1 (b n cap : Nat) (h1 : 2 ≤ n) (h2 : n ≤ cap) (w : World) : (Instr.slice 28 (.slice (some ⟨b, 0, none⟩) n cap) (some (.int .i64 1)) none none).run Tryd.prog w = .ok (.slice (some ⟨b, 1, none⟩) (n - 1) (cap - 1)) w := by
  have hu : Tryd.prog.underlying 28 = some (.slice (Tryd.prog.elem 28)) := by kernel_rfl
  have hs : (sizeOf (Tryd.prog.elem 28)).run Tryd.prog w = .ok 1 w := by kernel_rfl
  rw [run_slice_l w 28 _ _ _ hu .i64 _ (by omega) (by omega), hs]
  have hne : ¬ cap - 1 = 0 := by omega
  have c : ¬ cap = 1 := by omega
  simp [Result.andThen, sliced, Addr.add, c]
theorem rrindexo (b o n cap k : Nat) (hk : k < n) (w : World) : (Instr.indexAt 27 (.slice (some ⟨b, o, none⟩) n cap) (.int .i64 k)).run Tryd.prog w = .ok (.pointer (some ⟨b, o + k, none⟩)) w := by
  have hu : Tryd.prog.underlying 27 = some (.slice (Tryd.prog.elem 27)) := by kernel_rfl
  refine (run_indexAt_slice (P := Tryd.prog) (w := w) 27 ⟨b, o, none⟩ n cap .i64 (k : Int) hu).trans ?_
  rw [if_pos ⟨by omega, by omega⟩]
  have hs : (sizeOf (Tryd.prog.elem 27)).run Tryd.prog w = .ok 1 w := by kernel_rfl
  rw [hs]
  simp [Addr.add]
  try (intro h; omega)
end Go.Proofs.YtecmkjefoppbiaaDoor
