/-
  Rows of rows of points that a call makes.; What a thinner is in memory.; mercatorref5.Without.
-/
import Derived.Test.YtnadgoomkaldkaaDoorQJ10
import Derived.Test.YtnadgoomkaldkaaDoorQJ7
import Derived.Deep.MidRow
import Derived.Laws.IdiomCopy
namespace Go.Proofs.YtnadgoomkaldkaaDoor
open Go.RowKit
attribute [local go_sem ↓] Go.wp_at_zero Go.wp_at_succ

/-- A row of rows of points. -/
structure RP (W : World) (base : Nat) (v : Value) (vs : List Value) (Ls : List (List Sp)) : Prop where
  o : W.ownsRow base 43 1 v vs.length vs
  n : vs.length = Ls.length
  i : ∀ j, j < vs.length → W.ownsRow base 52 2 (vxx vs j) (lx Ls j).length (sr (lx Ls j))
  d : ∀ j g, j < vs.length → (vxx vs j).ownBlock = some g → v.ownBlock ≠ some g
theorem RP.nil (W : World) (base : Nat) : RP W base (.slice none 0 0) [] [] := ⟨World.ownsRow_nil _ _ _ _, rfl, fun j hj => by simp at hj, fun j _ hj => by simp at hj⟩
theorem own_form1 {W : World} {base e n : Nat} {u : Value} {l : List Sp} (h : W.ownsRow base e 2 u n (sr l)) (_hn : l.length = n) : (u = .slice none 0 0 ∧ n = 0) ∨ ∃ g cap, u = .slice (some ⟨g, 0, none⟩) n cap := by
  obtain ⟨h1, ⟨h2, h3⟩ | ⟨g, cap, cur, hv, _⟩⟩ := h
  · exact .inl ⟨h2, h3⟩
  · exact .inr ⟨g, cap, hv⟩
section
variable {W w' : World} {base : Nat} {v : Value} {vs : List Value} {Ls : List (List Sp)}
theorem RP.below (h : RP W base v vs Ls) (hB : Below W.heap.size W w') : RP w' base v vs Ls := ⟨own_kp h.o hB, h.n, fun j hj => own_kp (h.i j hj) hB, h.d⟩
theorem RP.set (h : RP W base v vs Ls) {c : Nat} (hc : c < base) (o : Nat) (u : Value) : RP (W.setCell ⟨c, o, none⟩ u) base v vs Ls := ⟨own_st h.o hc o u, h.n, fun j hj => own_st (h.i j hj) hc o u, h.d⟩
theorem RP.grw {row : Option Nat} (h : RP W base v vs Ls) (hg : W.grownBy w' row) (h1 : ∀ g, v.ownBlock = some g → row ≠ some g) (h2 : ∀ j g, j < vs.length → (vxx vs j).ownBlock = some g → row ≠ some g) : RP w' base v vs Ls :=
  ⟨own_kg h.o hg h1, h.n, fun j hj => own_kg (h.i j hj) hg (h2 j · hj), h.d⟩
theorem RP.more {v' x : Value} {L : List Sp} {g : Nat} (h : RP W base v vs Ls) (hx0 : W.ownsRow base 52 2 x L.length (sr L)) (hxd : ∀ g, x.ownBlock = some g → v.ownBlock ≠ some g) (hown : w'.ownsRow base 43 1 v' (vs.length + 1) (vs ++ [x])) (hg : W.grownBy w' v.ownBlock) (hv : v'.ownBlock = some g) (hat : v.ownBlock = some g ∨ W.heap.size ≤ g) : RP w' base v' (vs ++ [x]) (Ls ++ [L]) := by
  have hl : (vs ++ [x]).length = vs.length + 1 := by simp
  have hy : ∀ j, j < vs.length → lx (Ls ++ [L]) j = lx Ls j := fun j hj => by unfold lx; rw [h.n] at hj; simp [List.getElem?_append_left hj]
  have hy2 : lx (Ls ++ [L]) vs.length = L := by unfold lx; rw [h.n]; simp
  have ne : ∀ {u : Value} {M : List Sp} {z : Nat}, W.ownsRow base 52 2 u M.length (sr M) → (∀ g, u.ownBlock = some g → v.ownBlock ≠ some g) → u.ownBlock = some z → v'.ownBlock ≠ some z := fun {u M z} ho hd hb e => by
    rw [hv] at e
    obtain rfl := Option.some.inj e
    rcases hat with c | c
    · exact hd g hb c
    · have := (ho.lt g hb).2; omega
  refine ⟨by rw [hl]; exact hown, by simp [h.n], fun j hj => ?_, fun j z hj hb => ?_⟩
  · rw [hl] at hj
    by_cases e : j = vs.length
    · rw [e, vxx_new, hy2]; exact own_kg hx0 hg hxd
    · rw [vxx_app (by omega), hy j (by omega)]; exact own_kg (h.i j (by omega)) hg (h.d j · (by omega))
  · rw [hl] at hj
    by_cases e : j = vs.length
    · rw [e, vxx_new] at hb; exact ne hx0 hxd hb
    · rw [vxx_app (by omega)] at hb; exact ne (h.i j (by omega)) (h.d j · (by omega)) hb
theorem RP.cell {gO cap j : Nat} (h : RP W base v vs Ls) (hv : v = .slice (some ⟨gO, 0, none⟩) vs.length cap) (hj : j < vs.length) : W.cell? ⟨gO, j, none⟩ = some (vxx vs j) := by
  have ho := h.o
  rw [hv] at ho
  obtain ⟨h1, h2 | ⟨g', cap', cur, hv', hb, hg, hc, hm, hs, ht⟩⟩ := ho
  · obtain ⟨hv', _⟩ := h2; cases hv'
  · simp only [Value.slice.injEq, Option.some.injEq, Addr.mk.injEq, and_true] at hv'
    obtain ⟨rfl, _, rfl⟩ := hv'
    have e : cur.toList[j]? = some vs[j] := by
      have : (cur.toList.take (vs.length * 1))[j]? = vs[j]? := by rw [ht]
      rw [List.getElem?_take, if_pos (by omega), List.getElem?_eq_getElem hj] at this
      exact this
    rw [← vxx_get hj]
    simp [World.cell?, hg]; simpa using e
/-- What a call owns can be read. -/
theorem RP.lld (h : RP W base v vs Ls) {n : Nat} (hn : Ls.length = n) : ∃ ad b cap, v = .slice ad n cap ∧ LLd W ad b 0 cap Ls := by
  have hlt := h.o.lt
  have hnn := h.n
  obtain ⟨h1, ⟨hv, h0⟩ | ⟨g, cap, cur, hv, hb, hg, hc, hm, hs, ht⟩⟩ := h.o
  · refine ⟨none, 0, 0, by rw [hv, ← hn, ← hnn, h0], ⟨fun i hi => by omega, fun k hk => by omega⟩⟩
  · refine ⟨some ⟨g, 0, none⟩, g, cap, by rw [hv, ← hn, hnn], ⟨fun i hi => ?_, fun k hk w => lindex g 0 _ cap k hk w⟩⟩
    have hi2 : i < vs.length := by omega
    refine ⟨?_, (hlt g (by rw [hv]; rfl)).2⟩
    have hr := h.i i hi2
    have hcell := h.cell hv hi2
    rcases own_form1 hr rfl with ⟨e1, e2⟩ | ⟨g1, cp, e1⟩
    · refine ⟨none, 0, 0, 0, by rw [Nat.zero_add, hcell, e1, e2], fun c => by omega, ?_⟩
      rw [List.eq_nil_of_length_eq_zero e2]
      exact SSl.nil _ _ _ _ _
    · rw [e1] at hr
      obtain ⟨hs1, hs2⟩ := own_pts hr rfl
      exact ⟨some ⟨g1, 0, none⟩, g1, 0, cp, by rw [Nat.zero_add, hcell, e1], fun _ => ⟨rfl, hs2⟩, hs1⟩
end
/-- What lies in memory while a map is made: its rows so far, and the one that is under way. -/
structure RM (w W : World) (base : Nat) (vO : Value) (vs : List Value) (Lo : List (List Sp)) (vR : Value) (R : List Sp) : Prop where
  q : RP W base vO vs Lo
  r : W.ownsRow base 52 2 vR R.length (sr R)
  d1 : ∀ g, vO.ownBlock = some g → vR.ownBlock ≠ some g
  d2 : ∀ j g, j < vs.length → (vxx vs j).ownBlock = some g → vR.ownBlock ≠ some g
  g : Gr w W
  b : w.heap.size ≤ base ∧ base ≤ W.heap.size
theorem RM.start (w W : World) (base : Nat) (hG : Gr w W) (hb : w.heap.size ≤ base ∧ base ≤ W.heap.size) : RM w W base (.slice none 0 0) [] [] (.slice none 0 0) [] :=
  ⟨RP.nil _ _, World.ownsRow_nil _ _ _ _, fun g e => by simp [Value.ownBlock] at e, fun j g hj => by simp at hj, hG, hb⟩
section
variable {w W w' : World} {base : Nat} {vO : Value} {vs : List Value} {Lo : List (List Sp)} {vR : Value} {R : List Sp}
theorem RM.below (h : RM w W base vO vs Lo vR R) (hB : Below W.heap.size W w') : RM w w' base vO vs Lo vR R :=
  ⟨h.q.below hB, own_kp h.r hB, h.d1, h.d2, Gr.step h.g hB, h.b.1, Nat.le_trans h.b.2 hB.size⟩
theorem RM.set (h : RM w W base vO vs Lo vR R) {c : Nat} (hc : c < base) (hw : w.heap.size ≤ c) (o : Nat) (u : Value) : RM w (W.setCell ⟨c, o, none⟩ u) base vO vs Lo vR R :=
  ⟨h.q.set hc o u, own_st h.r hc o u, h.d1, h.d2, h.g.set hw o u, h.b.1, by simpa using h.b.2⟩
theorem RM.fresh (h : RM w W base vO vs Lo vR R) : RM w W base vO vs Lo (.slice none 0 0) [] :=
  ⟨h.q, World.ownsRow_nil _ _ _ _, fun g _ e => by simp [Value.ownBlock] at e, fun j g _ _ e => by simp [Value.ownBlock] at e, h.g, h.b⟩
theorem RM.app {g cap n : Nat} {x : Sp} (h : RM w W base vO vs Lo vR R) (hn : R.length = n) (hr : w'.ownsRow base 52 2 (.slice (some ⟨g, 0, none⟩) (n + 1) cap) (n + 1) (sr (R ++ [x]))) (hg : W.grownBy w' vR.ownBlock) (hat : vR.ownBlock = some g ∨ g = W.heap.size) : RM w w' base vO vs Lo (.slice (some ⟨g, 0, none⟩) (n + 1) cap) (R ++ [x]) := by
  have hlt := h.r.lt
  have hs := hg.size
  have ne : ∀ {u : Value} {e sz n : Nat} {xs : List Value} {z : Nat}, W.ownsRow base e sz u n xs → (∀ g, u.ownBlock = some g → vR.ownBlock ≠ some g) → u.ownBlock = some z → (Value.slice (some ⟨g, 0, none⟩) (R.length + 1) cap).ownBlock ≠ some z := fun {u e sz n xs z} ho hd hb k => by
    obtain rfl := Option.some.inj (show some g = some z from k)
    rcases hat with c | c
    · exact hd g hb c
    · have := (ho.lt g hb).2; omega
  subst hn
  refine ⟨h.q.grw hg h.d1 h.d2, by simpa using hr, fun z hz => ne h.q.o h.d1 hz, fun j z hj hz => ne (h.q.i j hj) (h.d2 j · hj) hz, Below.grown h.g.out hg h.g.out.size (fun k hk => by have := (hlt k hk).1; have := h.b.1; omega), h.b.1, by have := h.b.2; omega⟩
theorem RM.push {g cap n : Nat} (h : RM w W base vO vs Lo vR R) (hn : vs.length = n) (hr : w'.ownsRow base 43 1 (.slice (some ⟨g, 0, none⟩) (n + 1) cap) (n + 1) (vs ++ [vR])) (hg : W.grownBy w' vO.ownBlock) (hat : vO.ownBlock = some g ∨ g = W.heap.size) : RM w w' base (.slice (some ⟨g, 0, none⟩) (n + 1) cap) (vs ++ [vR]) (Lo ++ [R]) (.slice none 0 0) [] := by
  have hlt := h.q.o.lt
  have hs := hg.size
  subst hn
  refine ⟨h.q.more (g := g) h.r (fun z hz e => h.d1 z e hz) hr hg rfl (hat.imp id (fun e => by omega)), World.ownsRow_nil _ _ _ _, fun g _ e => by simp [Value.ownBlock] at e, fun j g _ _ e => by simp [Value.ownBlock] at e, Below.grown h.g.out hg h.g.out.size (fun k hk => by have := (hlt k hk).1; have := h.b.1; omega), h.b.1, by have := h.b.2; omega⟩
/-- What lies below the row is kept. -/
theorem RM.keep {row : Option Nat} {B : Nat} {l : List Value} (h : RM w W base vO vs Lo vR R) (hB : B < base) (ha : At W B l) (hg : W.grownBy w' row) (hr : row = vO.ownBlock ∨ row = vR.ownBlock) : At w' B l :=
  At.grw ha hg (fun e => by
    rcases hr with rfl | rfl
    · have := (h.q.o.lt B e).1; omega
    · have := (h.r.lt B e).1; omega)
end
end Go.Proofs.YtnadgoomkaldkaaDoor
namespace Go.Proofs.YtnadgoomkaldkaaDoor
open Go.RowKit

/-- Only one block is other than it was. -/
abbrev Ow (A : Nat) (w w' : World) : Prop := w.grownBy w' (some A)
theorem Ow.refl (A : Nat) (w : World) : Ow A w w := ⟨rfl, rfl, rfl, Nat.le_refl _, fun _ _ _ => rfl⟩
theorem Ow.trans {A : Nat} {a b c : World} (h : Ow A a b) (k : Ow A b c) : Ow A a c :=
  ⟨k.os.trans h.os, k.tape.trans h.tape, k.output.trans h.output, Nat.le_trans h.size k.size, fun i hi hn => (k.block i (Nat.lt_of_lt_of_le hi h.size) hn).trans (h.block i hi hn)⟩
theorem Ow.set {A : Nat} {a b : World} (h : Ow A a b) (o : Nat) (v : Value) : Ow A a (b.setCell ⟨A, o, none⟩ v) := by
  have k := Below.setCell (Below.refl 0 b) (p := ⟨A, o, none⟩) (Nat.zero_le _) v
  refine ⟨k.os.trans h.os, k.tape.trans h.tape, k.output.trans h.output, by simpa using h.size, fun i hi hn => ?_⟩
  rw [Below.heap_setCell b ⟨A, o, none⟩ v i (fun e => hn (by rw [e]))]; exact h.block i hi hn
theorem Ow.drew {A : Nat} {a b : World} (h : Ow A a b) : Ow A a b.drew := ⟨h.os, h.tape, h.output, h.size, h.block⟩
theorem Ow.gr {A : Nat} {w a b : World} (h : Gr w a) (k : Ow A a b) (hA : w.heap.size ≤ A) : Gr w b := Below.grown h.out k h.out.size (fun _ e => by cases e; exact hA)
theorem Ow.below {A : Nat} {a b c : World} (h : Ow A a b) (k : Below b.heap.size b c) : Ow A a c := h.trans ⟨k.os, k.tape, k.output, k.size, fun i hi _ => k.block i hi⟩
theorem Ow.of {A : Nat} {a b : World} (k : Below a.heap.size a b) : Ow A a b := (Ow.refl A a).below k
theorem At.ow {A B : Nat} {w w' : World} {l : List Value} (h : At w B l) (k : Ow A w w') (hn : ¬ B = A) : At w' B l := by
  have hb := k.block B h.2 (fun e => hn (Option.some.inj e))
  exact ⟨fun i hi => ⟨(World.cell?_of_block (w := w) (a := ⟨B, i, none⟩) hb).trans (h.1 i hi).1, (World.frozen?_of_block (w := w) (a := ⟨B, i, none⟩) hb).trans (h.1 i hi).2⟩, Nat.lt_of_lt_of_le h.2 k.size⟩
theorem SSl.ow {A : Nat} {w w' : World} {ad : Option Addr} {b o cap : Nat} {l : List Sp} (h : SSl w ad b o cap l) (k : Ow A w w') (hn : ¬ b = A) : SSl w' ad b o cap l := by
  refine ⟨fun i hi => ?_, h.ix⟩
  obtain ⟨⟨h1, h2⟩, h3⟩ := h.row i hi
  have hb := k.block b h3 (fun e => hn (Option.some.inj e))
  exact ⟨⟨(World.cell?_of_block (w := w) (a := ⟨b, o + i * 2, none⟩) hb).trans h1, (World.cell?_of_block (w := w) (a := ⟨b, o + i * 2 + 1, none⟩) hb).trans h2⟩, Nat.lt_of_lt_of_le h3 k.size⟩
abbrev irn (C : List Nat) : List Value := C.map fun (x : Nat) => Value.int .i64 (x : Int)
/-- The slices of the numbers. -/
def arv (B cp : Nat → Nat) (A : List (List Nat)) : List Value := (List.range A.length).map fun j => .slice (some ⟨B j, 0, none⟩) (ax A j).length (cp j)
theorem arv_len (B cp : Nat → Nat) (A : List (List Nat)) : (arv B cp A).length = A.length := by simp [arv]
theorem arv_get {B cp : Nat → Nat} {A : List (List Nat)} {j : Nat} (h : j < (arv B cp A).length) : (arv B cp A)[j] = .slice (some ⟨B j, 0, none⟩) (ax A j).length (cp j) := by simp [arv]
structure TH (w W : World) (T SP cS GO CL AR cA : Nat) (B cp : Nat → Nat) (most : Int) (S : List Sp) (A : List (List Nat)) (G : List Bool) (C : List Nat) : Prop where
  t : At W T [.int .i64 most, .slice (some ⟨SP, 0, none⟩) S.length cS, .slice (some ⟨GO, 0, none⟩) S.length S.length, .slice (some ⟨CL, 0, none⟩) S.length S.length, .slice (some ⟨AR, 0, none⟩) A.length cA]
  s : SSl W (some ⟨SP, 0, none⟩) SP 0 cS S
  g : At W GO (br G)
  c : At W CL (irn C)
  a : At W AR (arv B cp A)
  b : ∀ j, j < A.length → At W (B j) (irn (ax A j)) ∧ (ax A j).length ≤ cp j ∧ cp j ≤ 9223372036854775807
  gr : Gr w W
  lo : (w.heap.size ≤ GO ∧ w.heap.size ≤ CL ∧ w.heap.size ≤ AR) ∧ ∀ j, j < A.length → w.heap.size ≤ B j
  ne : (¬ T = GO ∧ ¬ T = CL ∧ ¬ T = AR) ∧ (¬ SP = GO ∧ ¬ SP = CL ∧ ¬ SP = AR) ∧ ¬ GO = CL ∧ ¬ GO = AR ∧ ¬ CL = AR
  nb : ∀ j, j < A.length → ¬ B j = T ∧ ¬ B j = SP ∧ ¬ B j = GO ∧ ¬ B j = CL ∧ ¬ B j = AR
  nbb : ∀ j j', j < A.length → j' < A.length → ¬ j = j' → ¬ B j = B j'
section
variable {w W W' : World} {T SP cS GO CL AR cA : Nat} {B cp : Nat → Nat} {most : Int} {S : List Sp} {A : List (List Nat)} {G : List Bool} {C : List Nat} (h : TH w W T SP cS GO CL AR cA B cp most S A G C)
include h
theorem TH.below (hB : Below W.heap.size W W') : TH w W' T SP cS GO CL AR cA B cp most S A G C :=
  ⟨At.below hB h.t, h.s.below hB, At.below hB h.g, At.below hB h.c, At.below hB h.a, fun j hj => ⟨At.below hB (h.b j hj).1, (h.b j hj).2⟩, Gr.step h.gr hB, h.lo, h.ne, h.nb, h.nbb⟩
theorem TH.drew : TH w W.drew T SP cS GO CL AR cA B cp most S A G C := h.below (Gr.refl W).drew.out
theorem TH.newC {C' : List Nat} (k : Ow CL W W') (hc : At W' CL (irn C')) : TH w W' T SP cS GO CL AR cA B cp most S A G C' :=
  ⟨h.t.ow k h.ne.1.2.1, h.s.ow k h.ne.2.1.2.1, h.g.ow k h.ne.2.2.1, hc, h.a.ow k (fun e => h.ne.2.2.2.2 e.symm), fun j hj => ⟨(h.b j hj).1.ow k (h.nb j hj).2.2.2.1, (h.b j hj).2⟩, Ow.gr h.gr k h.lo.1.2.1, h.lo, h.ne, h.nb, h.nbb⟩
theorem TH.newG {G' : List Bool} (k : Ow GO W W') (hg : At W' GO (br G')) : TH w W' T SP cS GO CL AR cA B cp most S A G' C :=
  ⟨h.t.ow k h.ne.1.1, h.s.ow k h.ne.2.1.1, hg, h.c.ow k (fun e => h.ne.2.2.1 e.symm), h.a.ow k (fun e => h.ne.2.2.2.1 e.symm), fun j hj => ⟨(h.b j hj).1.ow k (h.nb j hj).2.2.1, (h.b j hj).2⟩, Ow.gr h.gr k h.lo.1.1, h.lo, h.ne, h.nb, h.nbb⟩
theorem TH.setC (x v : Nat) : TH w (W.setCell ⟨CL, x, none⟩ (.int .i64 (v : Int))) T SP cS GO CL AR cA B cp most S A G (C.set x v) :=
  h.newC (Ow.set (Ow.refl _ _) _ _) (by have := h.c.put x (.int .i64 (v : Int)); rw [show (irn C).set x (.int .i64 (v : Int)) = irn (C.set x v) by simp [irn]] at this; exact this)
theorem TH.setG (x : Nat) : TH w (W.setCell ⟨GO, x, none⟩ (.bool true)) T SP cS GO CL AR cA B cp most S A (G.set x true) C :=
  h.newG (Ow.set (Ow.refl _ _) _ _) (by rw [← br_set]; exact h.g.put x _)
/-- An arc's numbers shift, and its slice shrinks. -/
theorem TH.cut {i k : Nat} (hi : i < A.length) (hk : k < (ax A i).length) (hl : At W' (B i) (irn ((ax A i).eraseIdx k))) (hO : Ow (B i) W W') : TH w (W'.setCell ⟨AR, i, none⟩ (.slice (some ⟨B i, 0, none⟩) ((ax A i).length - 1) (cp i))) T SP cS GO CL AR cA B cp most S (woA A i k) G C := by
  have hnb := h.nb i hi
  have hA2 : At W' AR (arv B cp A) := h.a.ow hO (fun e => hnb.2.2.2.2 e.symm)
  have hO2 : Ow AR W' (W'.setCell ⟨AR, i, none⟩ (.slice (some ⟨B i, 0, none⟩) ((ax A i).length - 1) (cp i))) := Ow.set (Ow.refl _ _) _ _
  have hal := woA_len A i k
  refine ⟨?_, ?_, ?_, ?_, ?_, ?_, ?_, ?_, h.ne, ?_, ?_⟩
  · rw [hal]
    exact (h.t.ow hO (fun e => hnb.1 e.symm)).ow hO2 h.ne.1.2.2
  · exact (h.s.ow hO (fun e => hnb.2.1 e.symm)).ow hO2 h.ne.2.1.2.2
  · exact (h.g.ow hO (fun e => hnb.2.2.1 e.symm)).ow hO2 h.ne.2.2.2.1
  · exact (h.c.ow hO (fun e => hnb.2.2.2.1 e.symm)).ow hO2 h.ne.2.2.2.2
  · have := hA2.put i (.slice (some ⟨B i, 0, none⟩) ((ax A i).length - 1) (cp i))
    have e : (arv B cp A).set i (.slice (some ⟨B i, 0, none⟩) ((ax A i).length - 1) (cp i)) = arv B cp (woA A i k) := by
      apply List.ext_getElem
      · simp [arv, hal]
      · intro m h1 h2
        have hm : m < A.length := by simpa [arv] using h1
        rw [List.getElem_set, arv_get (A := A), arv_get (A := woA A i k), axl_wo hi hk]
        by_cases c : i = m
        · subst c; rw [if_pos rfl, if_pos rfl]
        · rw [if_neg c, if_neg (Ne.symm c)]
    rw [e] at this
    exact this
  · intro j hj
    rw [hal] at hj
    obtain ⟨b1, b2, b3⟩ := h.b j hj
    rw [ax_wo hi]
    by_cases c : j = i
    · subst c
      rw [if_pos rfl]
      refine ⟨hl.ow hO2 hnb.2.2.2.2, ?_, b3⟩
      rw [List.length_eraseIdx, if_pos hk]; omega
    · rw [if_neg c]
      exact ⟨(b1.ow hO (h.nbb j i hj hi c)).ow hO2 (h.nb j hj).2.2.2.2, b2, b3⟩
  · exact Ow.gr (Ow.gr h.gr hO (h.lo.2 i hi)) hO2 h.lo.1.2.2
  · rw [hal]; exact h.lo
  · rw [hal]; exact h.nb
  · rw [hal]; exact h.nbb
end
theorem irn_at {W : World} {Bk : Nat} {l : List Nat} (h : At W Bk (irn l)) {m : Nat} (hm : m < l.length) : W.cell? ⟨Bk, m, none⟩ = some (.int .i64 ((l.getD m 0 : Nat) : Int)) ∧ W.frozen? ⟨Bk, m, none⟩ = false := by
  have := h.1 m (by simpa [irn] using hm)
  simpa [irn, hm] using this
theorem TH.num {w W : World} {T SP cS GO CL AR cA : Nat} {B cp : Nat → Nat} {most : Int} {S : List Sp} {A : List (List Nat)} {G : List Bool} {C : List Nat} (h : TH w W T SP cS GO CL AR cA B cp most S A G C) {j m : Nat} (hj : j < A.length) (hm : m < (ax A j).length) : W.cell? ⟨B j, m, none⟩ = some (.int .i64 ((nn A j m : Nat) : Int)) ∧ W.frozen? ⟨B j, m, none⟩ = false := irn_at (h.b j hj).1 hm
theorem TH.arc {w W : World} {T SP cS GO CL AR cA : Nat} {B cp : Nat → Nat} {most : Int} {S : List Sp} {A : List (List Nat)} {G : List Bool} {C : List Nat} (h : TH w W T SP cS GO CL AR cA B cp most S A G C) {j : Nat} (hj : j < A.length) : W.cell? ⟨AR, j, none⟩ = some (.slice (some ⟨B j, 0, none⟩) (ax A j).length (cp j)) ∧ W.frozen? ⟨AR, j, none⟩ = false := by
  have := h.a.1 j (by rw [arv_len]; exact hj)
  rw [arv_get] at this
  exact this
theorem TH.pt {w W : World} {T SP cS GO CL AR cA : Nat} {B cp : Nat → Nat} {most : Int} {S : List Sp} {A : List (List Nat)} {G : List Bool} {C : List Nat} (h : TH w W T SP cS GO CL AR cA B cp most S A G C) {y : Nat} (hy : y < S.length) : W.cell? ⟨SP, y * 2, none⟩ = some (.int .i64 (sx S y).1) ∧ W.cell? ⟨SP, y * 2 + 1, none⟩ = some (.int .i64 (sx S y).2) := by
  have := (h.s.row y hy).1
  rw [Nat.zero_add] at this
  exact this
theorem TH.gon {w W : World} {T SP cS GO CL AR cA : Nat} {B cp : Nat → Nat} {most : Int} {S : List Sp} {A : List (List Nat)} {G : List Bool} {C : List Nat} (h : TH w W T SP cS GO CL AR cA B cp most S A G C) {y : Nat} (hy : y < G.length) : W.cell? ⟨GO, y, none⟩ = some (.bool (gn G y)) ∧ W.frozen? ⟨GO, y, none⟩ = false := h.g.getb hy
theorem TH.clr {w W : World} {T SP cS GO CL AR cA : Nat} {B cp : Nat → Nat} {most : Int} {S : List Sp} {A : List (List Nat)} {G : List Bool} {C : List Nat} (h : TH w W T SP cS GO CL AR cA B cp most S A G C) {x : Nat} (hx : x < C.length) : W.cell? ⟨CL, x, none⟩ = some (.int .i64 ((cl C x : Nat) : Int)) ∧ W.frozen? ⟨CL, x, none⟩ = false := irn_at h.c hx
theorem at5 {W : World} {T : Nat} {a b c d e : Value} (h : At W T [a, b, c, d, e]) : W.cell? ⟨T, 0, none⟩ = some a ∧ W.cell? ⟨T, 1, none⟩ = some b ∧ W.cell? ⟨T, 2, none⟩ = some c ∧ W.cell? ⟨T, 3, none⟩ = some d ∧ W.cell? ⟨T, 4, none⟩ = some e :=
  ⟨(h.1 0 (by simp)).1, (h.1 1 (by simp)).1, (h.1 2 (by simp)).1, (h.1 3 (by simp)).1, (h.1 4 (by simp)).1⟩
end Go.Proofs.YtnadgoomkaldkaaDoor
namespace Go.Proofs.YtnadgoomkaldkaaDoor
open Go.RowKit
attribute [local go_sem ↓] Go.wp_at_zero Go.wp_at_succ

/-- The first j points but the k-th. -/
def wtk (a : List Sp) (k j : Nat) : List Sp := (a.take j).eraseIdx k
/-- Which point is left out of an arc. -/
def kkW (Ls : List (List Sp)) (i k x : Nat) : Nat := if x = i then k else (lx Ls x).length
end Go.Proofs.YtnadgoomkaldkaaDoor
